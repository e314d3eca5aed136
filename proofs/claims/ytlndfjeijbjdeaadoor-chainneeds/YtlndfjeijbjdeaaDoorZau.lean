/- Joined: HA HB. What is proved of the functions beneath ChainNeeds. Conditions: those that each row names. -/
import Derived.Test.YtlndfjeijbjdeaaDoorZar
import Derived.Test.YtlndfjeijbjdeaaDoorZat
namespace Go.Proofs.YtlndfjeijbjdeaaDoor.Ch
open Go.ChangeShapes Go.WideShapes Go.ChangeAt Go.RowKit
open Go.Proofs.YtlndfjeijbjdeaaDoor.D (Dk DiskAt CutsAt Ok)
open G (fmt_new Liv fmtd_ok format_walk open_flu sd_zeros sd_state sup11 opened begin_flu)
open N (Kept)

theorem ahead_at (k : Nat) : G.ahead k = decide (k < 2) := by
  unfold G.ahead S.useAt
  by_cases h0 : k = 0
  · subst h0; rfl
  · by_cases h1 : k = 1
    · subst h1; rfl
    · rw [if_neg h1, if_neg h0]; simp; omega

set_option maxRecDepth 100000 in
set_option maxHeartbeats 1000000 in
theorem begun_walk {w : World} (n : Nat) (h2 : 2 ≤ n) (h3 : n ≤ 1024) :
    Calls Tryd.prog 6 #[.int .i64 (n : Nat)] w fun e w' => ∃ p b g d, e = .returned (.tuple #[.pointer (some ⟨p, 0, none⟩), .bool true]) ∧ G.GAt w.heap.size w' p b g (opened d (1, -1)) ∧ d.secs.length = n ∧ d.cuts = [] ∧ Kept w w' := by
  have h : CutsAt 0 w (.slice none 0 0) [] := ⟨none, 0, rfl, Nat.le_refl _, Nat.zero_le _, fun j hj => by cases hj⟩
  have hv : Liv (Dk.new n []) 7 := ⟨rfl, by intro _ _ h; cases h⟩
  have f1 := D.new_walk n (by omega) h (Nat.zero_le _) (Nat.zero_le _) (by intro _ h; cases h)
  obtain ⟨d1, ef, fl, ln, s0, s1, cu, fa, si⟩ := fmt_new n h2 [] (hv.mono (by omega))
  have ok1 : Ok 5 d1 := by have := fmtd_ok (D.new_ok n []); rw [ef] at this; exact this
  have lv1 : Liv d1 2 := ⟨fl.up, fun c r hc => by rw [cu] at hc; cases hc⟩
  have f2 : ∀ W b g, DiskAt w.heap.size W b g (Dk.new n []) → w.heap.size ≤ W.heap.size → Calls Tryd.prog 10 #[.pointer (some ⟨b, 0, none⟩)] W fun e w' => e = .returned (.int .i64 0) ∧ DiskAt w.heap.size w' b g d1 ∧ D.On w.heap.size W w' := fun W b g k kB => by
    have := format_walk k kB (D.new_ok n []) (by omega)
    rw [ef] at this
    exact this
  have f3 : ∀ W b g, DiskAt w.heap.size W b g d1 → w.heap.size ≤ W.heap.size → Calls Tryd.prog 11 #[.pointer (some ⟨b, 0, none⟩)] W fun e w' => ∃ p b g d, e = .returned (.tuple #[.pointer (some ⟨p, 0, none⟩), .int .i64 0]) ∧ (G.GAt w.heap.size w' p b g (opened d (1, -1)) ∧ d.secs.length = n ∧ d.cuts = []) ∧ G.On w.heap.size W w' := fun W b g k kB => by
    refine (open_flu k kB ok1 (by omega) fl lv1 (by omega) (by omega) s0 s1 (o0 := none) (o1 := some (1, -1)) (sd_zeros 0) (sd_state sup11 rfl) (1, -1) rfl).mono ?_
    rintro e w' ⟨p, rfl, a, o⟩
    exact ⟨p, b, g, _, rfl, ⟨a, ln, cu⟩, o⟩
  clear ef fl ln s0 s1 cu fa si ok1 lv1 hv h h2 h3
  generalize Dk.new n [] = dn at f1 f2
  go_enter Tryd.func6, Tryd.ntmps6
  go_wp2_with (first
    | (go_at_call 9; (with_reducible refine f1.mono ?_); rintro e w1 ⟨b, g, rfl, k1, K1⟩; have g2 := f2 w1 b g k1 K1.size)
    | (go_at_call 10; (with_reducible refine g2.mono ?_); rintro e w2 ⟨rfl, k2, o2⟩; have B2 := Nat.le_trans K1.size o2.size; have g3 := f3 w2 b g k2 B2)
    | (go_at_call 11; (with_reducible refine g3.mono ?_); rintro e w3 ⟨p, b', g', d, rfl, V3, o3⟩))
  go_ret2
  exact ⟨p, b', g', d, rfl, V3.1, V3.2.1, V3.2.2, ⟨(K1.out.trans o2.below).trans o3.below⟩⟩

theorem low16 (a : Int) : ∃ x : Nat, x < 65536 ∧ bits .and .i64 a 65535 = (x : Int) := by
  have key : (BitVec.ofInt 64 a &&& BitVec.ofInt 64 65535).toNat = (a % ((2 ^ 64 : Nat) : Int)).toNat % 2 ^ 16 := by
    rw [BitVec.toNat_and, BitVec.toNat_ofInt, show (BitVec.ofInt 64 65535).toNat = 2 ^ 16 - 1 by decide, Nat.and_two_pow_sub_one_eq_mod]
  have hl := Nat.mod_lt (a % ((2 ^ 64 : Nat) : Int)).toNat (Nat.two_pow_pos 16)
  refine ⟨(a % ((2 ^ 64 : Nat) : Int)).toNat % 2 ^ 16, hl, ?_⟩
  show IntKind.i64.wrap ((BitVec.ofInt 64 a &&& BitVec.ofInt 64 65535).toNat : Nat) = _
  rw [key, IntKind.wrap_i64]
  omega

/-- How many pages so many bytes take. -/
def need (n : Nat) : Nat := (n + 233) / 234

theorem need_none (n : Int) (h : n ≤ 0) (w : World) : Calls Tryd.prog 5 #[.int .i64 n] w fun e w' => e = .returned (.int .i64 0) ∧ w' = w := by
  go_enter Tryd.func5, Tryd.ntmps5
  go_wp2
  go_ret
  exact ⟨rfl, rfl⟩
theorem need_some (n : Nat) (h : 0 < n) (hn : n < 1099511627776) (w : World) : Calls Tryd.prog 5 #[.int .i64 (n : Nat)] w fun e w' => e = .returned (.int .i64 (need n : Nat)) ∧ w' = w := by
  have e1 : ((n : Int) - 1).tdiv 234 = ((need n : Nat) : Int) - 1 := by rw [Int.tdiv_eq_ediv_of_nonneg (by omega)]; unfold need; omega
  have e2 : need n < 1099511627776 := by unfold need; omega
  have e3 : 0 < need n := by unfold need; omega
  generalize need n = k at *
  go_enter Tryd.func5, Tryd.ntmps5
  go_wp2
  go_ret
  exact ⟨by go_num, rfl⟩
theorem need_walk (n : Nat) (hn : n < 1099511627776) (w : World) : Calls Tryd.prog 5 #[.int .i64 (n : Nat)] w fun e w' => e = .returned (.int .i64 (need n : Nat)) ∧ w' = w := by
  by_cases h : n = 0
  · subst h; exact need_none 0 (by omega) w
  · exact need_some n (by omega) hn w

theorem mayLen_yes (n : Nat) (h : 0 < n) (h2 : n ≤ 65536) (w : World) : Calls Tryd.prog 12 #[.int .i64 (n : Nat)] w fun e w' => e = .returned (.bool true) ∧ w' = w := by
  have h' : 0 < (n : Int) := by omega
  have h2' : (n : Int) ≤ 65536 := by omega
  go_enter Tryd.func12, Tryd.ntmps12
  go_wp2
  go_ret
  exact ⟨rfl, rfl⟩
theorem mayPage_yes (n : Nat) (h : 2 ≤ n) (h2 : n < 16384) (w : World) : Calls Tryd.prog 48 #[.int .i64 (n : Nat)] w fun e w' => e = .returned (.bool true) ∧ w' = w := by
  have h' : 2 ≤ (n : Int) := by omega
  have h2' : (n : Int) < 16384 := by omega
  go_enter Tryd.func48, Tryd.ntmps48
  go_wp2
  go_ret
  exact ⟨rfl, rfl⟩

theorem index_first {w : World} {b : Nat} {k : Int} (hc : w.cell? ⟨b, 0, none⟩ = some (.int .i64 k)) : Calls Tryd.prog 78 #[.slice (some ⟨b, 0, none⟩) 1 1, .int .i64 k] w fun e w' => e = .returned (.int .i64 0) ∧ w' = w := by
  go_enter Tryd.func78, Tryd.ntmps78
  go_wp2
  refine wp_loop_rounds 1 ?_
  rw [rounds_succ]
  go_wp2
  go_ret
  exact ⟨rfl, rfl⟩
theorem contains_first {w : World} {b : Nat} {k : Int} (hc : w.cell? ⟨b, 0, none⟩ = some (.int .i64 k)) : Calls Tryd.prog 68 #[.slice (some ⟨b, 0, none⟩) 1 1, .int .i64 k] w fun e w' => e = .returned (.bool true) ∧ w' = w := by
  have f := index_first hc
  go_enter Tryd.func68, Tryd.ntmps68
  go_wp2_with (go_at_call 78; (with_reducible refine f.mono ?_); rintro e w1 ⟨rfl, hw1⟩; rw [hw1]; clear hw1)
  go_ret
  exact ⟨rfl, rfl⟩

theorem look_new {B : Nat} {w : World} {p : Nat} {a : G.Ad} {q : G.Pq} (h : G.GA B w p a q) (n : Nat) (hn : n < 1024) (x : G.Pag) (hx : q.fresh n = some x) :
    Calls Tryd.prog 67 #[.pointer (some ⟨p, 0, none⟩), .int .i64 (n : Nat)] w fun e w' => e = .returned (.tuple #[x.val, .int .i64 0]) ∧ N.Kept w w' := by
  have K1 : D.Kept w (w.alloc (.cells #[.int .i64 0, .int .i64 0, .int .u64 0, .string ⟨#[]⟩] 70)) := (D.Kept.refl w).alloc _
  have k1 := h.kept K1
  obtain ⟨c0, c1, c2, c3, c4, c5, c6, c7, c8, c9⟩ := k1.cs
  have lk := k1.fm.look n (by omega)
  rw [show G.atK q.fresh n = x by simp [G.atK, hx], hx] at lk
  obtain ⟨xk, xn, xg, xs⟩ := x
  dsimp only [G.Pag.val, Option.isSome_some] at lk
  have Z0 := P.Pg.alloc w 0 0 0 ⟨#[]⟩ 70
  have K2 : P.Kept (w.alloc (.cells #[.int .i64 0, .int .i64 0, .int .u64 0, .string ⟨#[]⟩] 70)) ((w.alloc (.cells #[.int .i64 0, .int .i64 0, .int .u64 0, .string ⟨#[]⟩] 70)).alloc (.cells #[.int .i64 xk, .int .i64 xn, .int .u64 (xg : Nat), .string xs] 70)) := (P.Kept.refl _).alloc _
  have Z1 := K2.pg Z0
  obtain ⟨⟨z0, h0⟩, ⟨z1, h1⟩, ⟨z2, h2⟩, z3, h3⟩ := Z1.ready xk xn xg
  clear hx
  go_enter Tryd.func67, Tryd.ntmps67
  go_wp2
  have K : N.Kept w ((w.alloc (.cells #[.int .i64 xk, .int .i64 xn, .int .u64 (xg : Nat), .string xs] 70)).alloc (.cells #[.int .i64 xk, .int .i64 xn, .int .u64 (xg : Nat), .string xs] 70)) := ((N.Kept.refl w).alloc _).alloc _
  refine bodyPost_ret (v := .tuple #[.agg #[.int .i64 xk, .int .i64 xn, .int .u64 (xg : Nat), .string xs], .int .i64 0]) ?_ rfl ⟨rfl, K⟩
  exact P.results_two (p := 4) (u := 5) (ty := 70) rfl _ _ w.heap.size 70 _ (0, 0) _ rfl (((P.Kept.refl _).alloc _).pg (P.Pg.alloc w xk xn xg xs 70)).out Tryd.underlying70 rfl P.size70

theorem st4 {w w' : World} (h : Kept w w') {b : Nat} (hb : w.heap.size ≤ b) (v0 v1 v2 v3 : Value) : Kept w ((((w'.setCell ⟨b, 0, none⟩ v0).setCell ⟨b, 1, none⟩ v1).setCell ⟨b, 2, none⟩ v2).setCell ⟨b, 3, none⟩ v3) :=
  ⟨(((h.out.setCell hb _).setCell hb _).setCell hb _).setCell hb _⟩

set_option maxRecDepth 100000 in
set_option maxHeartbeats 1000000 in
theorem read_new {B : Nat} {w : World} {p kb n : Nat} {a : G.Ad} {q : G.Pq} {fr : Nat × Nat} (h : G.GA B w p a q) (hn : n < 1024) (xk : Int) (hk : w.heap[kb]? = some (.cells #[.int .i64 xk] 3 fr)) (xn : Int) (xg : Nat) (xs : ByteArray) (hx : q.fresh n = some ⟨xk, xn, xg, xs⟩) :
    Calls Tryd.prog 49 #[.pointer (some ⟨p, 0, none⟩), .int .i64 (n : Nat), .slice (some ⟨kb, 0, none⟩) 1 1] w fun e w' => e = .returned (.tuple #[.agg #[.int .i64 xk, .int .i64 xn, .int .u64 (xg : Nat), .string xs], .int .i64 0]) ∧ N.Kept w w' := by
  have f : ∀ W, D.Kept w W → Calls Tryd.prog 67 #[.pointer (some ⟨p, 0, none⟩), .int .i64 (n : Nat)] W fun e w' => e = .returned (.tuple #[.agg #[.int .i64 xk, .int .i64 xn, .int .u64 (xg : Nat), .string xs], .int .i64 0]) ∧ N.Kept W w' := fun W hW => look_new (h.kept hW) n hn _ hx
  have Z0 := P.Pg.alloc w 0 0 0 ⟨#[]⟩ 70
  have K1 : D.Kept w (w.alloc (.cells #[.int .i64 0, .int .i64 0, .int .u64 0, .string ⟨#[]⟩] 70)) := (D.Kept.refl w).alloc _
  have f1 := f _ K1
  have f2 : ∀ W : World, W.heap[kb]? = some (.cells #[.int .i64 xk] 3 fr) → Calls Tryd.prog 68 #[.slice (some ⟨kb, 0, none⟩) 1 1, .int .i64 xk] W fun e w' => e = .returned (.bool true) ∧ w' = W := fun W hc => contains_first (by rw [cell_of_row _ kb _ _ _ _ hc]; rfl)
  clear h hx f
  go_enter Tryd.func49, Tryd.ntmps49
  go_wp2_with (first
    | (go_at_call 67; (with_reducible refine f1.mono ?_); rintro e w1 ⟨rfl, k1⟩; have Z1 : P.Pg w1 w.heap.size 0 0 0 ⟨#[]⟩ 70 := P.Kept.pg ⟨k1.out⟩ Z0; have K2 : P.Kept w1 (w1.alloc (.cells #[.int .i64 xk, .int .i64 xn, .int .u64 (xg : Nat), .string xs] 70)) := (P.Kept.refl w1).alloc _; have Z2 := K2.pg Z1; have Y2 := P.Pg.alloc w1 xk xn xg xs 70; have kk : N.Kept w w1 := N.Kept.trans ⟨K1.out⟩ k1; have f3 := f2 (w1.alloc (.cells #[.int .i64 xk, .int .i64 xn, .int .u64 (xg : Nat), .string xs] 70)) (((kk.alloc _).out.block kb (Array.getElem?_eq_some_iff.1 hk).1).trans hk); obtain ⟨y0, y1, y2, y3⟩ := Y2.cs; obtain ⟨⟨z0, h0⟩, ⟨z1, h1⟩, ⟨z2, h2⟩, z3, h3⟩ := Z2.ready xk xn xg; have rA := (Z2.fill xk xn (xg : Nat) xs).out)
    | (go_at_call 68; (with_reducible refine f3.mono ?_); rintro e w2 ⟨rfl, hw2⟩; rw [hw2]; clear hw2))
  refine bodyPost_ret (v := .tuple #[.agg #[.int .i64 xk, .int .i64 xn, .int .u64 (xg : Nat), .string xs], .int .i64 0]) ?_ rfl ⟨rfl, st4 (kk.alloc _) (Nat.le_refl _) _ _ _ _⟩
  exact P.results_two (p := 6) (u := 7) (ty := 70) rfl _ _ w.heap.size 70 _ (0, 0) _ rfl rA Tryd.underlying70 rfl P.size70
open N (Rd On bs numL)

theorem ready2 {W : World} {b : Nat} {c0 c1 : Value} {t : TypeId} (h0 : W.heap[b]? = some (.cells #[c0, c1] t)) (v0 v1 : Value) :
    (W.cell? ⟨b, 0, none⟩ = some c0 ∧ W.frozen? ⟨b, 0, none⟩ = false) ∧
    ((W.setCell ⟨b, 0, none⟩ v0).cell? ⟨b, 1, none⟩ = some c1 ∧ (W.setCell ⟨b, 0, none⟩ v0).frozen? ⟨b, 1, none⟩ = false) ∧
    ((W.setCell ⟨b, 0, none⟩ v0).setCell ⟨b, 1, none⟩ v1).heap[b]? = some (.cells #[v0, v1] t) := by
  have h1 : (W.setCell ⟨b, 0, none⟩ v0).heap[b]? = some (.cells #[v0, c1] t) := by rw [heap_setCell_same _ b 0 _ _ _ h0]; rfl
  have h2 : ((W.setCell ⟨b, 0, none⟩ v0).setCell ⟨b, 1, none⟩ v1).heap[b]? = some (.cells #[v0, v1] t) := by rw [heap_setCell_same _ b 1 _ _ _ h1]; rfl
  exact ⟨⟨by rw [cell_of_row _ b 0 _ _ _ h0]; rfl, frozen_of_row _ b 0 _ _ h0⟩, ⟨by rw [cell_of_row _ b 1 _ _ _ h1]; rfl, frozen_of_row _ b 1 _ _ h1⟩, h2⟩

theorem cells2 {W : World} {b : Nat} {c0 c1 : Value} {t : TypeId} (h : W.heap[b]? = some (.cells #[c0, c1] t)) :
    W.cell? ⟨b, 0, none⟩ = some c0 ∧ W.cell? ⟨b, 1, none⟩ = some c1 :=
  ⟨by rw [cell_of_row _ b 0 _ _ _ h]; rfl, by rw [cell_of_row _ b 1 _ _ _ h]; rfl⟩

/-- A block of two cells. -/
structure C2 (w : World) (b : Nat) (t : TypeId) (a0 a1 : Value) : Prop where
  out : w.heap[b]? = some (.cells #[a0, a1] t)
theorem C2.kept {w w' : World} {b : Nat} {t : TypeId} {a0 a1 : Value} (k : C2 w b t a0 a1) (h : Kept w w') : C2 w' b t a0 a1 := ⟨h.block k.out⟩
theorem C2.alloc (w : World) (t : TypeId) (a0 a1 : Value) : C2 (w.alloc (.cells #[a0, a1] t)) w.heap.size t a0 a1 := ⟨heap_alloc_new w _⟩
theorem C2.cs {w : World} {b : Nat} {t : TypeId} {a0 a1 : Value} (k : C2 w b t a0 a1) : w.cell? ⟨b, 0, none⟩ = some a0 ∧ w.cell? ⟨b, 1, none⟩ = some a1 := cells2 k.out
theorem C2.lt {w : World} {b : Nat} {t : TypeId} {a0 a1 : Value} (k : C2 w b t a0 a1) : b < w.heap.size := (Array.getElem?_eq_some_iff.1 k.out).1
theorem C2.on {w w' : World} {B b : Nat} {t : TypeId} {a0 a1 : Value} (k : C2 w b t a0 a1) (h : On B w w') (hb : b < B) : C2 w' b t a0 a1 := ⟨(h.out.block b hb).trans k.out⟩
theorem kept_on {w w1 w2 : World} {B : Nat} (k : Kept w w1) (h : On B w1 w2) (hb : w.heap.size ≤ B) : Kept w w2 := ⟨k.out.trans (h.out.mono hb)⟩
theorem sizeLink : (Tryd.prog.info? 78).map (·.size) = some 2 := by kernel_rfl
theorem size_alloc (w : World) (o : Obj) : (w.alloc o).heap.size = w.heap.size + 1 := Array.size_push ..

set_option maxRecDepth 100000 in
set_option maxHeartbeats 1000000 in
theorem cread_walk {w : World} {p n : Nat} (h2 : 2 ≤ n) (hn : n < 16384) (x : Nat) (hx : x ≤ 16384) (t : List Nat) (ht : t.length ≤ 1000) (xn : Int) (xg : Nat)
    (HR : Hid (∀ W kb fr, Kept w W → W.heap[kb]? = some (.cells #[.int .i64 4] 3 fr) → Calls Tryd.prog 49 #[.pointer (some ⟨p, 0, none⟩), .int .i64 (n : Nat), .slice (some ⟨kb, 0, none⟩) 1 1] W fun e w' => e = .returned (.tuple #[.agg #[.int .i64 4, .int .i64 xn, .int .u64 (xg : Nat), .string (bs (numL x ++ t))], .int .i64 0]) ∧ Kept W w')) :
    Calls Tryd.prog 29 #[.pointer (some ⟨p, 0, none⟩), .int .i64 (n : Nat)] w fun e w' => e = .returned (.tuple #[.agg #[.int .i64 ((x : Int) - 1), .string (bs t)], .int .i64 0]) ∧ Kept w w' := by
  have fm := mayPage_yes n h2 hn
  have K0 : Kept w (w.alloc (.cells #[.int .i64 0, .string ⟨#[]⟩] 78)) := (Kept.refl w).alloc _
  have R0 := C2.alloc w 78 (.int .i64 0) (.string ⟨#[]⟩)
  have S0 := size_alloc w (.cells #[.int .i64 0, .string ⟨#[]⟩] 78)
  have KB : Kept w ((w.alloc (.cells #[.int .i64 0, .string ⟨#[]⟩] 78)).alloc (.cells #[.int .i64 4] 3)) := K0.alloc _
  have hb : ((w.alloc (.cells #[.int .i64 0, .string ⟨#[]⟩] 78)).alloc (.cells #[.int .i64 4] 3)).heap[(w.alloc (.cells #[.int .i64 0, .string ⟨#[]⟩] 78)).heap.size]? = some (.cells #[.int .i64 4] 3 (0, 0)) := heap_alloc_new _ _
  rw [S0] at hb
  have RB : C2 ((w.alloc (.cells #[.int .i64 0, .string ⟨#[]⟩] 78)).alloc (.cells #[.int .i64 4] 3)) w.heap.size 78 (.int .i64 0) (.string ⟨#[]⟩) := R0.kept ((Kept.refl _).alloc _)
  have fR := HR.out _ _ _ KB hb
  have hrn : Hid (∀ W b, Rd W b (bs (numL x ++ t)) 0 → Calls Tryd.prog 51 #[.pointer (some ⟨b, 0, none⟩), .int .u64 16384] W fun e w' => e = .returned (.int .u64 (x : Nat)) ∧ Rd w' b (bs t) 0 ∧ On b W w') := fun W b k => N.rnum_walk x (by omega) t (by omega) 16384 hx k
  have hrt : Hid (∀ W b, Rd W b (bs t) 0 → Calls Tryd.prog 52 #[.pointer (some ⟨b, 0, none⟩), .int .i64 ((bs t).size : Nat)] W fun e w' => e = .returned (.string (bs t)) ∧ (∃ s, Rd w' b s 0) ∧ On b W w') := fun W b k => by
    have := N.take_walk t [] 0 (b := b) (w := W) (by rw [List.append_nil]; exact k)
    rw [N.bs_size]
    refine this.mono ?_
    rintro e w' ⟨rfl, k2, o⟩
    exact ⟨rfl, ⟨_, k2⟩, o⟩
  generalize bs (numL x ++ t) = sx at *
  generalize bs t = st at *
  clear K0 HR h2 hn ht S0 R0 hb
  go_enter Tryd.func29, Tryd.ntmps29
  go_wp2_with (first
    | (go_at_call 48; (with_reducible refine (fm _).mono ?_); rintro e w1 ⟨rfl, hw1⟩; rw [hw1]; clear hw1)
    | (go_at_call 49; (with_reducible refine fR.mono ?_); rintro e w2 ⟨rfl, k2⟩; have K2 := KB.trans k2; have R2 := RB.kept k2; have P2 := P.Pg.alloc w2 4 xn xg sx 70; have K3 : Kept w2 (w2.alloc (.cells #[.int .i64 4, .int .i64 xn, .int .u64 (xg : Nat), .string sx] 70)) := (Kept.refl _).alloc _; have R3 := R2.kept K3; obtain ⟨y0, y1, y2, y3⟩ := P2.cs; have K30 := K2.trans K3; clear fR)
    | (go_at_call 50; (with_reducible refine (N.new_walk _ _).mono ?_); rintro e w4 ⟨rfl, r4, k4⟩; have K4 := K30.trans k4; have R4 := R3.kept k4; have hrb := R3.lt; have K30s := K30.size; generalize (w2.alloc (.cells #[.int .i64 4, .int .i64 xn, .int .u64 (xg : Nat), .string sx] 70)).heap.size = rb at *; have g5 := hrn.out _ _ r4)
    | (go_at_call 51; (with_reducible refine g5.mono ?_); rintro e w5 ⟨rfl, r5, o5⟩; have K5 := kept_on K4 o5 K30s; have R5 := R4.on o5 hrb; have g6 := N.left_walk r5; have g7 := hrt.out _ _ r5; clear g5)
    | (go_at_call 53; (with_reducible refine g6.mono ?_); rintro e w6 ⟨rfl, hw6⟩; rw [hw6]; clear hw6)
    | (go_at_call 52; (with_reducible refine g7.mono ?_); rintro e w7 ⟨rfl, ⟨s7, r7⟩, o7⟩; have K7 := kept_on K5 o7 K30s; have R7 := R5.on o7 hrb; have g8 := N.err_walk r7; obtain ⟨⟨z0, e0⟩, ⟨z1, e1⟩, hfin⟩ := ready2 R7.out (.int .i64 ((x : Int) - 1)) (.string st); clear g7)
    | (go_at_call 54; (with_reducible refine g8.mono ?_); rintro e w8 ⟨rfl, hw8⟩; rw [hw8]; clear hw8))
  have q2 : Kept w ((w7.setCell ⟨w.heap.size, 0, none⟩ (.int .i64 ((x : Int) - 1))).setCell ⟨w.heap.size, 1, none⟩ (.string st)) := ⟨(K7.out.setCell (Nat.le_refl _) _).setCell (Nat.le_refl _) _⟩
  generalize ((World.setCell _ ⟨w.heap.size, 0, none⟩ (.int .i64 ((x : Int) - 1))).setCell ⟨w.heap.size, 1, none⟩ (.string st)) = WF at hfin q2 ⊢
  refine bodyPost_ret (v := .tuple #[.agg #[.int .i64 ((x : Int) - 1), .string st], .int .i64 0]) ?_ rfl ⟨rfl, q2⟩
  exact P.results_two (p := 4) (u := 5) (ty := 78) rfl _ _ w.heap.size 78 #[.int .i64 ((x : Int) - 1), .string st] (0, 0) _ rfl hfin Tryd.underlying78 rfl sizeLink

/-- A last page fits. -/
theorem fits_last {w : World} (s : ByteArray) (n : Nat) (hs : s.size = n) (hn : n ≤ 234) :
    Calls Tryd.prog 30 #[.agg #[.int .i64 (-1), .string s], .int .i64 (n : Nat)] w fun e w' => e = .returned (.bool true) ∧ Kept w w' := by
  obtain ⟨c0, c1⟩ := (C2.alloc w 78 (.int .i64 (-1)) (.string s)).cs
  have K0 : Kept w (w.alloc (.cells #[.int .i64 (-1), .string s] 78)) := (Kept.refl w).alloc _
  have e1 : min (n : Int) 234 = (n : Int) := by omega
  have hs' : (s.size : Int) = (n : Int) := by omega
  subst hs
  have e3 : Hid ((s.size : Int) ≤ 234) := by show (s.size : Int) ≤ 234; omega
  go_enter Tryd.func30, Tryd.ntmps30
  go_wp2
  go_ret
  exact ⟨by rw [show (decide ((s.size : Int) ≤ 234)) = true from decide_eq_true e3.out]; rfl, K0⟩
end Go.Proofs.YtlndfjeijbjdeaaDoor.Ch