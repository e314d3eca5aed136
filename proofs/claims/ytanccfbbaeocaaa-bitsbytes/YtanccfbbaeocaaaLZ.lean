/- A reader's Num and Fixed, all other blocks as they were; the walks of read and Get over a set's own bytes. Conditions: those that each row names. -/
import Derived.Test.YtanccfbbaeocaaaLY
namespace Go.Proofs.Ytanccfbbaeocaaa.N
open Go.ChangeShapes Go.WideShapes Go.ChangeAt Go.RowKit

/-- All blocks that were there but one are as they were. -/
structure Ob (b : Nat) (w w' : World) : Prop where
  low : Below 0 w w'
  rest : ∀ i, i < w.heap.size → i ≠ b → w'.heap[i]? = w.heap[i]?
theorem Ob.refl (b : Nat) (w : World) : Ob b w w := ⟨Below.refl _ _, fun _ _ _ => rfl⟩
theorem Ob.size {b : Nat} {w w' : World} (h : Ob b w w') : w.heap.size ≤ w'.heap.size := h.low.size
theorem Ob.trans {B : Nat} {a b c : World} (h : Ob B a b) (k : Ob B b c) : Ob B a c := ⟨h.low.trans k.low, fun i h1 h2 => (k.rest i (Nat.lt_of_lt_of_le h1 h.size) h2).trans (h.rest i h1 h2)⟩
theorem Ob.ofKept {w w' : World} (h : Kept w w') (b : Nat) : Ob b w w' := ⟨h.out.mono (Nat.zero_le _), fun i hi _ => h.out.block i hi⟩
theorem Ob.set {b : Nat} {w w' : World} (h : Ob b w w') (i : Nat) (v : Value) : Ob b w (w'.setCell ⟨b, i, none⟩ v) :=
  ⟨h.low.setCell (p := ⟨b, i, none⟩) (Nat.zero_le _) v, fun k h1 h2 => (heap_setCell_other _ ⟨b, i, none⟩ k _ h2).trans (h.rest k h1 h2)⟩
theorem Ob.new {b : Nat} {w w' : World} (h : Ob b w w') {p : Addr} (hp : w.heap.size ≤ p.block) (v : Value) : Ob b w (w'.setCell p v) :=
  ⟨h.low.setCell (p := p) (Nat.zero_le _) v, fun k h1 h2 => (heap_setCell_other _ p k _ (by omega)).trans (h.rest k h1 h2)⟩
set_option maxRecDepth 100000 in
theorem rnum2 (n : Nat) (hn : n < 18446744073709551616) (t : List Nat) (ht : t.length ≤ 100000) (most : Nat) (hm : n ≤ most) {b : Nat} {w : World} (k : Rd w b (bs (numL n ++ t)) 0) :
    Calls Try.prog 15 #[.pointer (some ⟨b, 0, none⟩), .int .u64 (most : Nat)] w fun e w' => e = .returned (.int .u64 (n : Nat)) ∧ Rd w' b (bs t) 0 ∧ Ob b w w' := by
  have h10 := numL_ten n hn
  have c0 := k.c0
  have f0 := k.f0 0
  have e13 := err_walk k
  have e33 := first_walk n hn t ht w
  have hx := bs_rest (numL n) t
  have hsz : (bs (numL n ++ t)).size = (numL n).length + t.length := by rw [bs_size]; simp
  have k2 := k.set0 (bs t)
  have o2 : Ob b w (w.setCell ⟨b, 0, none⟩ (.string (bs t))) := (Ob.refl b w).set 0 _
  have K2 : Hid (Rd (w.setCell ⟨b, 0, none⟩ (.string (bs t))) b (bs t) 0) := k2
  generalize bs (numL n ++ t) = s at *
  generalize (numL n).length = L at *
  have hls : L ≤ s.size := by omega
  clear k2 hsz k
  go_enter Try.func15, Try.ntmps15
  go_wp2_with (first
    | (go_at_call 17; refine e13.mono ?_; rintro e w' ⟨rfl, rfl⟩)
    | (go_at_call 28; refine e33.mono ?_; rintro e w' ⟨rfl, rfl⟩))
  go_ret
  exact ⟨rfl, K2.out, o2⟩


set_option maxRecDepth 100000 in
theorem take2 (l t : List Nat) (x : Int) {b : Nat} {w : World} (k : Rd w b (bs (l ++ t)) x) :
    Calls Try.prog 42 #[.pointer (some ⟨b, 0, none⟩), .int .i64 (l.length : Nat)] w fun e w' => e = .returned (.string (bs l)) ∧ Rd w' b (bs t) x ∧ Ob b w w' := by
  have c0 := k.c0
  have f0 := k.f0 0
  have h1 := bs_front l t
  have hx := bs_rest l t
  have hsz : (bs (l ++ t)).size = l.length + t.length := by rw [bs_size]; simp
  have k2 := k.set0 (bs t)
  have o2 : Ob b w (w.setCell ⟨b, 0, none⟩ (.string (bs t))) := (Ob.refl b w).set 0 _
  have K2 : Hid (Rd (w.setCell ⟨b, 0, none⟩ (.string (bs t))) b (bs t) x) := k2
  generalize bs (l ++ t) = s at *
  have hls : l.length ≤ s.size := by omega
  clear k2 k hsz
  generalize l.length = L at *
  go_enter Try.func42, Try.ntmps42
  go_wp2
  go_ret
  exact ⟨rfl, K2.out, o2⟩
theorem rtake_in2 (n k : Nat) (t : List Nat) {b : Nat} {w : World} (r : Rd w b (bs (fixL n k ++ t)) 0) :
    Calls Try.prog 42 #[.pointer (some ⟨b, 0, none⟩), .int .i64 (k : Nat)] w fun e w' => e = .returned (.string (bs (fixL n k))) ∧ Rd w' b (bs t) 0 ∧ Ob b w w' := by
  have := take2 (fixL n k) t 0 (b := b) (w := w) r
  rw [fixL_length] at this
  exact this

set_option maxRecDepth 100000 in
set_option maxHeartbeats 1000000 in
theorem rfixed2 (n : Nat) (hn : n < 18446744073709551616) (q : Int) (t : List Nat) {b : Nat} {w : World} (r : Rd w b (bs (fixL n (kOf q) ++ t)) 0) :
    Calls Try.prog 30 #[.pointer (some ⟨b, 0, none⟩), .int .i64 q] w fun e w' => e = .returned (.int .u64 ((n % 256 ^ kOf q : Nat) : Int)) ∧ Rd w' b (bs t) 0 ∧ Ob b w w' := by
  have h36 := within_walk q
  have hk8 := kOf_le q
  have h21 := rtake_in2 n (kOf q) t r
  have hsm := fixL_small n (kOf q)
  have hfl := fixL_length (kOf q) n
  have hfa := fixL_at (kOf q) n
  generalize kOf q = k at *
  have HC : Hid (∀ w, ∃ cap w', (convert 9 38 (.string (bs (fixL n k)))).run Try.prog w = .ok (.slice (some ⟨w.heap.size, 0, none⟩) k cap) w' ∧ Kept w w' ∧ Hid (∀ i, i < k → w'.cell? ⟨w.heap.size, i, none⟩ = some (.int .u8 ((n / 256 ^ i % 256 : Nat) : Int)))) := by
    intro w
    obtain ⟨cap, w', h1, h2, h3⟩ := bytes_of w (fixL n k) hsm
    rw [hfl] at h1
    exact ⟨cap, w', h1, h2, fun i hi => by have := h3 i (by omega); rwa [hfa i hi] at this⟩
  clear hsm hfl hfa
  have hb := r.lt
  clear r
  generalize bs (fixL n k) = s at *
  generalize bs t = s' at *
  go_enter Try.func30, Try.ntmps30
  go_wp2_with (first
    | (go_at_call 27; refine (h36 _).mono ?_; rintro e w' ⟨rfl, hw⟩; rw [hw]; clear hw)
    | (go_at_call 42; refine h21.mono ?_; rintro e w3 ⟨rfl, r3, o3⟩; obtain ⟨cap, w4, hcv, hk4, hcell⟩ := HC.out w3))
  go_loopg [5, 14] k (fun g nv iv wx => ∃ i A : Nat, i + g = k ∧ A = n % 256 ^ i ∧ nv = .int .u64 (A : Nat) ∧ iv = .int .i64 (i : Nat) ∧ wx = w4)
  case atStart => exact ⟨0, 0, by omega, by rw [Nat.pow_zero, Nat.mod_one], rfl, rfl, rfl⟩
  case round =>
    obtain ⟨i, A, hg, hA, rfl, rfl, rfl⟩ := hrel
    have HG : Hid (i + gk = k) := hg
    have HA : Hid (A = n % 256 ^ i) := hA
    clear hA
    cases gk with
    | zero =>
      obtain rfl : i = k := by omega
      clear hg
      go_wp2
      go_ret
      refine ⟨by rw [← HA.out]; rfl, hk4.rd r3, o3.trans (Ob.ofKept hk4 b)⟩
    | succ g =>
      have hik : i < k := by omega
      have hc := hcell.out i hik
      have p1 := mod_step n (256 ^ i) 256
      rw [← Nat.pow_succ] at p1
      have p3 := part_or8 n i hn (n / 256 ^ i % 256) p1
      rw [← HA.out] at p3
      obtain ⟨x, hx⟩ : ∃ x, x = n / 256 ^ i % 256 := ⟨_, rfl⟩
      rw [← hx] at hc p3
      have hx2 : x < 256 := by omega
      obtain ⟨B, hB⟩ : ∃ B, B = n % 256 ^ (i + 1) := ⟨_, rfl⟩
      rw [← hB] at p3
      have HB : Hid (B = n % 256 ^ (i + 1)) := hB
      clear hg p1 hx hB
      go_wp2
      go_roundg g
      case measure => omega
      case rel => exact ⟨i + 1, B, by have := HG.out; omega, HB.out, rfl, by go_num, rfl⟩
end Go.Proofs.Ytanccfbbaeocaaa.N
namespace Go.Proofs.Ytanccfbbaeocaaa.Bt
open Go.RowKit Go.Shelf
open N (bs bs_size Small numL fixL cellsOf numL_ten fixL_length Rd Ob)

theorem size42 : (Try.prog.info? 42).map (·.size) = some 2 := by kernel_rfl
theorem pow8 (x : Nat) (h : x < 18446744073709551616) : x % 256 ^ 8 = x := Nat.mod_eq_of_lt (by simpa using h)
set_option maxRecDepth 100000 in
set_option maxHeartbeats 2000000 in
theorem read_walk (d x nx : Nat) (t : List Nat) (ht : t.length ≤ 50000) (hx0 : 0 < x) (hx : x < 18446744073709551616) (hd : nx + d < 16384) {b : Nat} {w : World} (k : Rd w b (bs (numL d ++ (fixL x 8 ++ t))) 0) :
    Calls Try.prog 16 #[.pointer (some ⟨b, 0, none⟩), .int .i64 (nx : Nat)] w fun e w' => e = .returned (.agg #[.int .i64 ((nx + d : Nat) : Int), .int .u64 (x : Nat)]) ∧ Rd w' b (bs t) 0 ∧ Ob b w w' := by
  have hb := k.lt
  have ka : N.Kept w (w.alloc (.cells #[.int .i64 0, .int .u64 0] 42)) := (N.Kept.refl w).alloc _
  have f1 := N.rnum2 d (by omega) (fixL x 8 ++ t) (by rw [List.length_append, fixL_length]; omega) 18446744073709551615 (by omega) (ka.rd k)
  have HF : Hid (∀ W, Rd W b (bs (fixL x 8 ++ t)) 0 → Calls Try.prog 30 #[.pointer (some ⟨b, 0, none⟩), .int .i64 8] W fun e w' => e = .returned (.int .u64 (x : Nat)) ∧ Rd w' b (bs t) 0 ∧ Ob b W w') := fun W r => by
    have := N.rfixed2 x hx 8 t (b := b) (w := W) (by rw [kOf8]; exact r)
    rwa [kOf8, pow8 x hx] at this
  have f1 : Calls Try.prog 15 #[.pointer (some ⟨b, 0, none⟩), .int .u64 18446744073709551615] (w.alloc (.cells #[.int .i64 0, .int .u64 0] 42)) fun e w' => e = .returned (.int .u64 (d : Nat)) ∧ Rd w' b (bs (fixL x 8 ++ t)) 0 ∧ Ob b (w.alloc (.cells #[.int .i64 0, .int .u64 0] 42)) w' := f1
  have HA : Hid (Ob b w (w.alloc (.cells #[.int .i64 0, .int .u64 0] 42)) ∧ (w.alloc (.cells #[.int .i64 0, .int .u64 0] 42)).heap[w.heap.size]? = some (.cells #[.int .i64 0, .int .u64 0] 42)) := ⟨Ob.ofKept ka b, alloc_at w _⟩
  have hsz : (w.alloc (.cells #[.int .i64 0, .int .u64 0] 42)).heap.size = w.heap.size + 1 := size_alloc _ _
  have e1 : (nx : Int) + (d : Int) = ((nx + d : Nat) : Int) := by omega
  have e2 : (16384 : Int) - (nx : Int) = ((16384 - nx : Nat) : Int) := by omega
  have hge : ¬ (((16384 - nx : Nat) : Int) ≤ (d : Int)) := by omega
  have hs16 : 16384 - nx ≤ 16384 := by omega
  generalize 16384 - nx = r16 at *
  generalize nx + d = at' at *
  have hx0' : ((x : Int) == 0) = false := by simp; omega
  clear k ka
  go_enter Try.func16, Try.ntmps16
  go_wp2_with (first
    | (go_at_call 15; (with_reducible refine f1.mono ?_); clear f1; rintro e w1 ⟨rfl, r1, o1⟩; have f2 := HF.out w1 r1)
    | (go_at_call 30; (with_reducible refine f2.mono ?_); clear f2; rintro e w2 ⟨rfl, r2, o2⟩; have o12 := o1.trans o2; have b2 : w2.heap[w.heap.size]? = some (.cells #[.int .i64 0, .int .u64 0] 42) := (o12.rest _ (by omega) (by omega)).trans HA.out.2; obtain ⟨c20, c21⟩ := cells2 b2; have z20 := frozen_of_row _ _ 0 _ _ b2; have z21 := frozen_of_row _ _ 1 _ _ b2; have HZ : Hid (Rd w2 b (bs t) 0 ∧ Ob b w w2 ∧ w2.heap[w.heap.size]? = some (.cells #[.int .i64 0, .int .u64 0] 42)) := ⟨r2, HA.out.1.trans o12, b2⟩; clear r1 o1 r2 o2 o12 b2))
  have b3 : ((w2.setCell ⟨w.heap.size, 0, none⟩ (.int .i64 (at' : Nat))).setCell ⟨w.heap.size, 1, none⟩ (.int .u64 (x : Nat))).heap[w.heap.size]? = some (.cells #[.int .i64 (at' : Nat), .int .u64 (x : Nat)] 42) := by
    have e1 : (w2.setCell ⟨w.heap.size, 0, none⟩ (.int .i64 (at' : Nat))).heap[w.heap.size]? = some (.cells #[.int .i64 (at' : Nat), .int .u64 0] 42) := by rw [heap_setCell_same _ _ 0 _ _ _ HZ.out.2.2]; rfl
    rw [heap_setCell_same _ _ 1 _ _ _ e1]; rfl
  refine bodyPost_ret (v := .agg #[.int .i64 (at' : Nat), .int .u64 (x : Nat)]) ?_ rfl ⟨rfl, ⟨?_⟩, (HZ.out.2.1.new (p := ⟨w.heap.size, 0, none⟩) (Nat.le_refl _) _).new (p := ⟨w.heap.size, 1, none⟩) (Nat.le_refl _) _⟩
  · exact results_one (p := 4) (ty := 42) rfl _ _ w.heap.size 42 _ (0, 0) _ rfl b3 Try.underlying42 rfl size42
  · exact (heap_setCell_other _ ⟨w.heap.size, 1, none⟩ b _ (by show b ≠ w.heap.size; omega)).trans ((heap_setCell_other _ ⟨w.heap.size, 0, none⟩ b _ (by show b ≠ w.heap.size; omega)).trans HZ.out.1.out)
/-- What Get has in memory. -/
structure Gt (w W : World) (br b5 : Nat) (q : Option Addr) (i cc : Nat) (G : List Pt) (s : ByteArray) : Prop where
  b2 : W.heap[w.heap.size]? = some (.cells #[.slice none 0 0] 25)
  c5 : W.heap[b5]? = some (.cells #[.slice q i cc] 25)
  own : Own W (b5 + 1) 42 2 q i cc (pc G)
  rd : Rd W br s 0
  low : Below w.heap.size w W
  big : b5 + 1 ≤ W.heap.size
  ord : w.heap.size < br ∧ br < b5
theorem Gt.kept {w W W' : World} {br b5 : Nat} {q : Option Addr} {i cc : Nat} {G : List Pt} {s : ByteArray} (h : Gt w W br b5 q i cc G s) (k : Kept W W') : Gt w W' br b5 q i cc G s :=
  ⟨k.block h.b2, k.block h.c5, h.own.kept k, ⟨k.block h.rd.out⟩, h.low.trans (k.out.mono h.low.size), Nat.le_trans h.big k.size, h.ord⟩
theorem Gt.ob {w W W' : World} {br b5 : Nat} {q : Option Addr} {i cc : Nat} {G : List Pt} {s s' : ByteArray} (h : Gt w W br b5 q i cc G s) (o : Ob br W W') (r : Rd W' br s' 0) : Gt w W' br b5 q i cc G s' := by
  have ho := h.ord
  have hb := h.big
  refine ⟨(o.rest _ (by omega) (by omega)).trans h.b2, (o.rest _ (by omega) (by omega)).trans h.c5, ⟨h.own.out.1, h.own.out.2.imp id ?_⟩, r, h.low.trans ⟨o.low.os, o.low.tape, o.low.output, o.size, fun k hk => o.rest k (by omega) (by omega)⟩, Nat.le_trans hb o.size, ho⟩
  rintro ⟨g, cap, cur, a, b, hg, rr⟩
  exact ⟨g, cap, cur, a, b, (o.rest g (Array.getElem?_eq_some_iff.1 hg).1 (by omega)).trans hg, rr⟩
theorem Gt.more {w W w1 : World} {br b5 : Nat} {q q1 : Option Addr} {i cc c1 : Nat} {G : List Pt} {s : ByteArray} {x : Pt} {tmp : Obj} (h : Gt w W br b5 q i cc G s)
    (o1 : w1.ownsRow (b5 + 1) 42 2 (.slice q1 (i + 1) c1) (i + 1) (pc G ++ pc1 x)) (g1 : (W.alloc tmp).grownBy w1 (Value.slice q i cc).ownBlock) :
    w1.heap[b5]? = some (.cells #[.slice q i cc] 25) ∧ (∀ b, b < W.heap.size → (∀ k, (Value.slice q i cc).ownBlock = some k → b ≠ k) → w1.heap[b]? = W.heap[b]?) ∧ Gt w (w1.setCell ⟨b5, 0, none⟩ (.slice q1 (i + 1) c1)) br b5 q1 (i + 1) c1 (G ++ [x]) s := by
  have k0 : Kept W (W.alloc tmp) := (Kept.refl W).alloc tmp
  have ob := own_blk (h.own.kept k0)
  have hbig := h.big
  have hord := h.ord
  have st : ∀ b, b < b5 + 1 → w1.heap[b]? = W.heap[b]? := fun b hb => (g1.block b (by have := k0.size; omega) (fun e => by have := (ob b e.symm).1; omega)).trans (k0.out.block b (by omega))
  have p1 := (st b5 (by omega)).trans h.c5
  have oth : ∀ k, k ≠ b5 → (w1.setCell ⟨b5, 0, none⟩ (.slice q1 (i + 1) c1)).heap[k]? = w1.heap[k]? := fun k hk => heap_setCell_other _ ⟨b5, 0, none⟩ k _ hk
  have low1 : Below w.heap.size W w1 := (k0.out.mono h.low.size).trans ⟨g1.os, g1.tape, g1.output, g1.size, fun i hi => g1.block i (by have := k0.size; omega) (fun e => by have := (ob i e.symm).1; omega)⟩
  have low2 : Below w.heap.size W (w1.setCell ⟨b5, 0, none⟩ (.slice q1 (i + 1) c1)) := low1.setCell (p := ⟨b5, 0, none⟩) (by show w.heap.size ≤ b5; omega) _
  refine ⟨p1, fun b h1 h2 => (g1.block b (by have := k0.size; omega) (fun e => h2 b e.symm rfl)).trans (k0.out.block b h1), ⟨(oth _ (by omega)).trans ((st _ (by omega)).trans h.b2), by rw [heap_setCell_same _ _ 0 _ _ _ p1]; rfl, ?_, ⟨(oth _ (by omega)).trans ((st _ (by omega)).trans h.rd.out)⟩, h.low.trans low2, Nat.le_trans hbig low2.size, hord⟩⟩
  rw [pc_append]
  refine ⟨o1.1, o1.2.imp id ?_⟩
  rintro ⟨g, cap, cur, a, b, hg', r⟩
  exact ⟨g, cap, cur, a, b, (oth g (by omega)).trans hg', r⟩
theorem Gt.fin {w W : World} {br b5 : Nat} {q : Option Addr} {i cc : Nat} {G : List Pt} {s : ByteArray} (h : Gt w W br b5 q i cc G s) (ok : Okp G) : W.cell? ⟨w.heap.size, 0, none⟩ = some (.slice none 0 0) ∧ W.frozen? ⟨w.heap.size, 0, none⟩ = false ∧ St (W.setCell ⟨w.heap.size, 0, none⟩ (.slice q i cc)) q i cc G ∧ Kept w (W.setCell ⟨w.heap.size, 0, none⟩ (.slice q i cc)) ∧ (W.setCell ⟨w.heap.size, 0, none⟩ (.slice q i cc)).heap[w.heap.size]? = some (.cells #[.slice q i cc] 25) :=
  ⟨by rw [cell_of_row _ _ 0 _ _ _ h.b2]; rfl, frozen_of_row _ _ 0 _ _ h.b2, ⟨(own_set h.own (by have := h.ord; omega) 0 _).rw, ok⟩, ⟨h.low.setCell (p := ⟨w.heap.size, 0, none⟩) (Nat.le_refl _) _⟩, by rw [heap_setCell_same _ _ 0 _ _ _ h.b2]; rfl⟩
end Go.Proofs.Ytanccfbbaeocaaa.Bt
