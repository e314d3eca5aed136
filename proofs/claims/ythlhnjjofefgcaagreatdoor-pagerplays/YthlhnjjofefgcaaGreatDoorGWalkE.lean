/- The walks of look and Read: a page that is new, that is held, or that stands on the disk. Conditions: places below 64; what the disk says is told. -/
import Derived.Test.YthlhnjjofefgcaaGreatDoorGWalkD
import Derived.Test.YthlhnjjofefgcaaGreatDoorGWalkA
namespace Go.Proofs.YthlhnjjofefgcaaGreatDoor.G
open Go.ChangeShapes Go.WideShapes Go.ChangeAt Go.RowKit
open D (Dk Ok DiskAt)
open P (bs supL Sup supP Small)

/-- A new page. -/
theorem look_fresh {B : Nat} {w : World} {p : Nat} {a : Ad} {q : Pq} (h : GA B w p a q) (hB : B ≤ w.heap.size) (n : Nat) (hn : n < 64) (x : Pag) (hx : q.fresh n = some x) :
    Calls Tryz.prog 36 #[.pointer (some ⟨p, 0, none⟩), .int .i64 (n : Nat)] w fun e w' => e = .returned (.tuple #[x.val, .int .i64 0]) ∧ GA B w' p a q ∧ On B w w' := by
  have K1 : D.Kept w (w.alloc (.cells #[.int .i64 0, .int .i64 0, .int .u64 0, .string ⟨#[]⟩] 55)) := (D.Kept.refl w).alloc _
  have k1 := h.kept K1
  obtain ⟨c0, c1, c2, c3, c4, c5, c6, c7, c8, c9⟩ := k1.cs
  have lk := k1.fm.look n (by omega)
  rw [show atK q.fresh n = x by simp [atK, hx], hx] at lk
  obtain ⟨xk, xn, xg, xs⟩ := x
  dsimp only [Pag.val, Option.isSome_some] at lk
  have Z0 := P.Pg.alloc w 0 0 0 ⟨#[]⟩ 55
  have K2 : P.Kept (w.alloc (.cells #[.int .i64 0, .int .i64 0, .int .u64 0, .string ⟨#[]⟩] 55)) ((w.alloc (.cells #[.int .i64 0, .int .i64 0, .int .u64 0, .string ⟨#[]⟩] 55)).alloc (.cells #[.int .i64 xk, .int .i64 xn, .int .u64 (xg : Nat), .string xs] 55)) := (P.Kept.refl _).alloc _
  have Z1 := K2.pg Z0
  obtain ⟨⟨z0, h0⟩, ⟨z1, h1⟩, ⟨z2, h2⟩, z3, h3⟩ := Z1.ready xk xn xg
  clear hx
  go_enter Tryz.func36, Tryz.ntmps36
  go_wp2
  have K : D.Kept w ((w.alloc (.cells #[.int .i64 xk, .int .i64 xn, .int .u64 (xg : Nat), .string xs] 55)).alloc (.cells #[.int .i64 xk, .int .i64 xn, .int .u64 (xg : Nat), .string xs] 55)) := ((D.Kept.refl w).alloc _).alloc _
  refine bodyPost_ret (v := .tuple #[.agg #[.int .i64 xk, .int .i64 xn, .int .u64 (xg : Nat), .string xs], .int .i64 0]) ?_ rfl ⟨rfl, h.kept K, On.ofKept K hB⟩
  exact P.results_two (p := 4) (u := 5) (ty := 55) rfl _ _ w.heap.size 55 _ (0, 0) _ rfl (((P.Kept.refl _).alloc _).pg (P.Pg.alloc w xk xn xg xs 55)).out Tryz.underlying55 rfl P.size55

theorem On.new {B : Nat} {a b : World} (h : On B a b) (hB : B ≤ a.heap.size) {x : Nat} (hx : a.heap.size ≤ x) (i : Nat) (v : Value) : On B a (b.setCell ⟨x, i, none⟩ v) := by
  have e : ∀ k, k < a.heap.size → (b.setCell ⟨x, i, none⟩ v).heap[k]? = b.heap[k]? := fun k hk => Below.heap_setCell b ⟨x, i, none⟩ v k (by show k ≠ x; omega)
  refine ⟨h.below.setCell (by show B ≤ x; omega) v, fun k cs t fr hk hc => ?_⟩
  rw [e k (Array.getElem?_eq_some_iff.1 hk).1]; exact h.rows k cs t fr hk hc

/-- A page stored in a block of one's own. -/
theorem fill_far {B : Nat} {w0 w : World} {p r : Nat} {a : Ad} {q : Pq} (h : GA B w p a q) {k n : Int} {g : Int} {s : ByteArray} (Z : P.Pg w r k n g s 55) (o : On B w0 w) (hB : B ≤ w0.heap.size) (hr : w0.heap.size ≤ r) (x y z : Int) (d : ByteArray) :
    GA B ((((w.setCell ⟨r, 0, none⟩ (.int .i64 x)).setCell ⟨r, 1, none⟩ (.int .i64 y)).setCell ⟨r, 2, none⟩ (.int .u64 z)).setCell ⟨r, 3, none⟩ (.string d)) p a q ∧
    On B w0 ((((w.setCell ⟨r, 0, none⟩ (.int .i64 x)).setCell ⟨r, 1, none⟩ (.int .i64 y)).setCell ⟨r, 2, none⟩ (.int .u64 z)).setCell ⟨r, 3, none⟩ (.string d)) := by
  have e : ∀ (W : World) (i : Nat) (v : Value) k, k ≠ r → (W.setCell ⟨r, i, none⟩ v).heap[k]? = W.heap[k]? := fun W i v k hk => Below.heap_setCell W ⟨r, i, none⟩ v k hk
  refine ⟨?_, (((o.new hB hr 0 _).new hB hr 1 _).new hB hr 2 _).new hB hr 3 _⟩
  exact (((h.far Z.out far55 (e _ 0 _)).far (Z.set0 x).out far55 (e _ 1 _)).far ((Z.set0 x).set1 y).out far55 (e _ 2 _)).far (((Z.set0 x).set1 y).set2 z).out far55 (e _ 3 _)

/-- A page that is held. -/
theorem look_held {B : Nat} {w : World} {p : Nat} {a : Ad} {q : Pq} (h : GA B w p a q) (hB : B ≤ w.heap.size) (hf : q.fails = q.disk.fails) (n : Nat) (hn : n < 64) (hx0 : q.fresh n = none) (x : Pag) (hx : q.held n = some x) :
    Calls Tryz.prog 36 #[.pointer (some ⟨p, 0, none⟩), .int .i64 (n : Nat)] w fun e w' => e = .returned (.tuple #[x.val, .int .i64 0]) ∧ GA B w' p a q ∧ On B w w' := by
  have Z0 := P.Pg.alloc w 0 0 0 ⟨#[]⟩ 55
  have K1 : D.Kept w (w.alloc (.cells #[.int .i64 0, .int .i64 0, .int .u64 0, .string ⟨#[]⟩] 55)) := (D.Kept.refl w).alloc _
  have k1 := h.kept K1
  obtain ⟨c0, c1, c2, c3, c4, c5, c6, c7, c8, c9⟩ := k1.cs
  have lk := k1.fm.look n (by omega)
  rw [show atK q.fresh n = Pag.zero by simp [atK, hx0], hx0] at lk
  have lk1 : (Instr.lookup 66 (.map (some a.mf)) (.int .i64 (n : Nat)) true).run Tryz.prog (w.alloc (.cells #[.int .i64 0, .int .i64 0, .int .u64 0, .string ⟨#[]⟩] 55)) = .ok (.tuple #[.agg #[.int .i64 0, .int .i64 0, .int .u64 0, .string ⟨#[]⟩], .bool false]) (w.alloc (.cells #[.int .i64 0, .int .i64 0, .int .u64 0, .string ⟨#[]⟩] 55)) := lk
  have K2 : D.Kept w ((w.alloc (.cells #[.int .i64 0, .int .i64 0, .int .u64 0, .string ⟨#[]⟩] 55)).alloc (.cells #[.int .i64 0, .int .i64 0, .int .u64 0, .string ⟨#[]⟩] 55)) := K1.alloc _
  have k2 := h.kept K2
  have f1 := D.fails_walk k2.disk
  rw [← hf] at f1
  obtain ⟨d0, d1, d2, d3, d4, d5, d6, d7, d8, d9⟩ := k2.cs
  have lh := k2.hm.look n (by omega)
  rw [show atK q.held n = x by simp [atK, hx], hx] at lh
  obtain ⟨xk, xn, xg, xs⟩ := x
  dsimp only [Pag.val, Option.isSome_some] at lh
  clear hx hx0 lk hf
  generalize q.fails = qf at *
  go_enter Tryz.func36, Tryz.ntmps36
  go_wp2_with (go_at_call 22; (with_reducible refine f1.mono ?_); rintro e w1 ⟨rfl, hw1⟩; rw [hw1]; clear hw1)
  refine bodyPost_ret (v := .tuple #[.agg #[.int .i64 xk, .int .i64 xn, .int .u64 (xg : Nat), .string xs], .int .i64 0]) ?_ rfl ⟨rfl, h.kept (((D.Kept.refl w).alloc _).alloc _ |>.alloc _), On.ofKept (((D.Kept.refl w).alloc _).alloc _ |>.alloc _) hB⟩
  exact P.results_two (p := 4) (u := 5) (ty := 55) rfl _ _ w.heap.size 55 _ (0, 0) _ rfl ((((P.Kept.refl _).alloc _).alloc _).pg (P.Pg.alloc w xk xn xg xs 55)).out Tryz.underlying55 rfl P.size55

theorem Pg.onD {B : Nat} {w w' : World} {b : Nat} {k n : Int} {g : Int} {s : ByteArray} (h : P.Pg w b k n g s 55) (o : D.On B w w') : P.Pg w' b k n g s 55 := ⟨o.rows _ _ _ _ h.out calm55.1⟩
theorem Pg.one {w w' : World} {b c : Nat} {k n : Int} {g : Int} {s : ByteArray} {M : Nat → Option Pag} (h : P.Pg w b k n g s 55) (m : MAt w c M) (o : One c w w') : P.Pg w' b k n g s 55 := by
  obtain ⟨_, _, hb⟩ := m.block
  exact ⟨(o.block _ (map_ne h.out hb)).trans h.out⟩
theorem Pg.setp {B : Nat} {w : World} {b p : Nat} {a : Ad} {q : Pq} {k n : Int} {g : Int} {s : ByteArray} (h : P.Pg w b k n g s 55) (m : GA B w p a q) (i : Nat) (v : Value) : P.Pg (w.setCell ⟨p, i, none⟩ v) b k n g s 55 :=
  ⟨(Below.heap_setCell w ⟨p, i, none⟩ v b (cells_ne h.out m.blk (by decide))).trans h.out⟩

end Go.Proofs.YthlhnjjofefgcaaGreatDoor.G
