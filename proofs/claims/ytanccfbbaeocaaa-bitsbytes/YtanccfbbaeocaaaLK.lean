/- The walks of List and Within. Conditions: the library's table is laid (List); those that each row names. -/
import Derived.Test.YtanccfbbaeocaaaLFb
import Derived.Test.YtanccfbbaeocaaaLJ
namespace Go.Proofs.Ytanccfbbaeocaaa.Bt
open Go.RowKit Go.Shelf
attribute [local go_sem] Oper.semAt_some

/-- What List has in memory. -/
structure Lg (w W : World) (q : Option Addr) (c : Nat) (G : List Int) : Prop where
  bl : W.heap[w.heap.size + 1]? = some (.cells #[.slice q G.length c] 22)
  own : Own W (w.heap.size + 3) 3 1 q G.length c (ic G)
  low : Below w.heap.size w W
  big : w.heap.size + 3 ≤ W.heap.size
theorem Lg.stay {w W W' : World} {q : Option Addr} {c : Nat} {G : List Int} {B : Nat} {row : Option Nat} (h : Lg w W q c G) (hg : W.grownBy W' row) (hr : ∀ r, row = some r → B ≤ r ∧ ∃ o : Obj, W.heap[r]? = some o ∧ o.isCells = false) (hB : w.heap.size ≤ B) : Lg w W' q c G :=
  have hr2 : ∀ r, row = some r → ∃ o : Obj, W.heap[r]? = some o ∧ o.isCells = false := fun r e => (hr r e).2
  ⟨cells_stay hg hr2 h.bl, own_stay hg hr2 h.own, below_stay h.low (Nat.le_refl _) hg (fun r e => (hr r e).1) hB, Nat.le_trans h.big hg.size⟩
theorem Lg.kept {w W W' : World} {q : Option Addr} {c : Nat} {G : List Int} (h : Lg w W q c G) (k : Kept W W') : Lg w W' q c G := h.stay (B := w.heap.size) (k.grown none) (fun r e => by cases e) (Nat.le_refl _)
theorem Lg.more {w W w1 : World} {q q1 : Option Addr} {c c1 : Nat} {G : List Int} {z : Int} {tmp : Obj} (h : Lg w W q c G)
    (o1 : w1.ownsRow (w.heap.size + 3) 3 1 (.slice q1 (G.length + 1) c1) (G.length + 1) (ic G ++ [.int .i64 z])) (g1 : (W.alloc tmp).grownBy w1 (Value.slice q G.length c).ownBlock) :
    w1.heap[w.heap.size + 1]? = some (.cells #[.slice q G.length c] 22) ∧
    Lg w (w1.setCell ⟨w.heap.size + 1, 0, none⟩ (.slice q1 (G.length + 1) c1)) q1 c1 (G ++ [z]) ∧ KeepsOthers W (w1.setCell ⟨w.heap.size + 1, 0, none⟩ (.slice q1 (G.length + 1) c1)) ∧ Kt w.heap.size W (w1.setCell ⟨w.heap.size + 1, 0, none⟩ (.slice q1 (G.length + 1) c1)) := by
  have k0 : Kept W (W.alloc tmp) := (Kept.refl W).alloc tmp
  have ob := own_blk (h.kept k0).own
  have hbig := h.big
  have st : ∀ b, b < w.heap.size + 3 → w1.heap[b]? = W.heap[b]? := fun b hb => (g1.block b (by have := k0.size; omega) (fun e => by have := (ob b e.symm).1; omega)).trans (k0.out.block b (by omega))
  have p1 := (st (w.heap.size + 1) (by omega)).trans h.bl
  have s1 : (w1.setCell ⟨w.heap.size + 1, 0, none⟩ (.slice q1 (G.length + 1) c1)).heap[w.heap.size + 1]? = some (.cells #[.slice q1 (G.length + 1) c1] 22) := by rw [heap_setCell_same _ _ 0 _ _ _ p1]; rfl
  have oth : ∀ k, k ≠ w.heap.size + 1 → (w1.setCell ⟨w.heap.size + 1, 0, none⟩ (.slice q1 (G.length + 1) c1)).heap[k]? = w1.heap[k]? := fun k hk => heap_setCell_other _ ⟨w.heap.size + 1, 0, none⟩ k _ hk
  have low1 : Below w.heap.size W w1 := (k0.out.mono h.low.size).trans ⟨g1.os, g1.tape, g1.output, g1.size, fun i hi => g1.block i (by have := k0.size; omega) (fun e => by have := (ob i e.symm).1; omega)⟩
  have low2 : Below w.heap.size W (w1.setCell ⟨w.heap.size + 1, 0, none⟩ (.slice q1 (G.length + 1) c1)) := low1.setCell (by show w.heap.size ≤ w.heap.size + 1; omega) _
  refine ⟨p1, ⟨?_, ?_, h.low.trans low2, Nat.le_trans hbig low2.size⟩, ?_, low2, ?_⟩
  · rw [s1, List.length_append]; rfl
  · rw [ic_snoc, List.length_append]
    refine ⟨o1.1, o1.2.imp id ?_⟩
    rintro ⟨g, cap, cur, a, b, hg', r⟩
    exact ⟨g, cap, cur, a, b, (oth g (by omega)).trans hg', r⟩
  · refine ((KeepsOthers.alloc W tmp).trans (KeepsOthers.of_grownBy g1 fun j o ej hj => ?_)).trans (KeepsOthers.setCell _ _ _)
    obtain ⟨_, cs', fr', h2⟩ := ob j ej
    rw [h2] at hj; cases hj; rfl
  · intro b cs ty fr hb ht
    have hne : b ≠ w.heap.size + 1 := by
      rintro rfl
      rw [h.bl] at hb
      injection hb with hb
      injection hb with _ hb
      rcases ht with rfl | rfl <;> exact absurd hb (by decide)
    have hb1 := k0.block hb
    refine (oth b hne).trans ((g1.block b (Array.getElem?_eq_some_iff.1 hb1).1 (fun e => ?_)).trans hb1)
    obtain ⟨_, cs', fr', h2⟩ := ob b e.symm
    rw [hb1] at h2
    injection h2 with h2
    injection h2 with _ h2
    rcases ht with rfl | rfl <;> exact absurd h2 (by decide)
theorem int_cells (w : World) (z : Int) (t : TypeId) : ∀ j u, [Value.int .i64 z][j]? = some u → (w.alloc (.cells #[.int .i64 z] t)).cell? ((⟨w.heap.size, 0, none⟩ : Addr).add j) = some u := by
  intro j u hj
  rw [Addr.add_lit, Nat.zero_add, cell_of_row _ _ _ _ _ _ (heap_alloc_new w (.cells #[.int .i64 z] t))]
  simpa using hj
theorem int_one (z : Int) : ∀ u ∈ [Value.int .i64 z], u.oneCell' = true := by
  intro u hu; simp at hu; subst hu; rfl
def nis (pre : List Nat) : List Int := pre.map fun y => ((y % 1048576 : Nat) : Int)
theorem nis_snoc (pre : List Nat) (y : Nat) : nis (pre ++ [y]) = nis pre ++ [((y % 1048576 : Nat) : Int)] := by simp [nis]
theorem nis_nm {P : List Pt} (h : Okp P) : nis (nm P) = ni P := List.map_congr_left fun y hy => by rw [Nat.mod_eq_of_lt (nm_lt h hy)]
theorem nis_len (pre : List Nat) : (nis pre).length = pre.length := by simp [nis]
theorem three_new (w : World) (a b c : Obj) {W0 : World} (h : ((w.alloc a).alloc b).alloc c = W0) :
    Kept w W0 ∧ W0.heap.size = w.heap.size + 3 ∧ W0.heap[w.heap.size + 1]? = some b ∧ W0.heap[w.heap.size + 1 + 1]? = some c := by
  subst h
  refine ⟨(((Kept.refl w).alloc _).alloc _).alloc _, by simp only [size_alloc], ?_, ?_⟩
  · exact ((Kept.refl _).alloc _).block (by have := alloc_at (w.alloc a) b; rwa [size_alloc] at this)
  · have := alloc_at ((w.alloc a).alloc b) c; rwa [size_alloc, size_alloc] at this

end Go.Proofs.Ytanccfbbaeocaaa.Bt
