/- The walk of the reference's settle of a write that is lost, and what is said of memory between the two halves of the other one. Conditions: none. -/
import Derived.Test.YtfnfdngenohhhaaWalkP
import Derived.Deep.CutRange
namespace Go.Proofs.Ytfnfdngenohhhaa
open Go.ChangeShapes Go.WideShapes Go.ChangeAt Go.RowKit

theorem three_new (w : World) (o p r : Obj) : (((w.alloc o).alloc p).alloc r).heap[w.heap.size + 2]? = some r := by
  have := heap_alloc_new ((w.alloc o).alloc p) r
  rwa [show ((w.alloc o).alloc p).heap.size = w.heap.size + 2 by simp] at this

theorem info9z : (Try.prog.info? 9).map (fun i => (i.zero, i.size, i.bytes)) = some (some (.string ⟨#[]⟩), 1, 16) := by kernel_rfl
theorem info4z : (Try.prog.info? 4).map (fun i => (i.zero, i.size, i.bytes)) = some (some (.bool false), 1, 1) := by kernel_rfl
theorem calm9 : Calm 9 ∧ (9 : TypeId) ≠ 33 := by unfold Calm; decide
theorem calm4 : Calm 4 ∧ (4 : TypeId) ≠ 33 := by unfold Calm; decide
theorem calm72 : Calm 72 ∧ (72 : TypeId) ≠ 33 := by unfold Calm; decide

set_option maxHeartbeats 4000000 in
set_option maxRecDepth 100000 in
theorem rsettle0 {B : Nat} {w : World} {v : Value} {q : R} (h : RVal B w v q) (hB : B ≤ w.heap.size) (x : Wr) :
    Calls Try.prog 31 #[v, x.val, .int .i64 0] w fun e w' => ∃ v', e = .returned v' ∧ RVal B w' v' q ∧ Kept w w' := by
  obtain ⟨vS, vT, vW, vC, rfl, hr⟩ := h.out
  obtain ⟨pS, cS, pT, cT, pW, cW, pC, cC, rfl, rfl, rfl, rfl⟩ := hr.slices
  unfold R.cells Wr.val
  go_enter Try.func31, Try.ntmps31
  go_wp2
  refine bodyPost_ret (results_cell_row (p := 6) (ty := 33) rfl _ _ (w.heap.size + 2) 33 _ (0, 0) _ rfl (three_new _ _ _ _) Try.underlying33 rfl size33) rfl ?_
  exact ⟨_, rfl, ⟨_, _, _, _, rfl, hr.on (((((Kept.refl w).alloc _).alloc _).alloc _).on hB)⟩, (((Kept.refl w).alloc _).alloc _).alloc _⟩

theorem own_empty {w : World} {g e size base : Nat} (hg : w.heap[g]? = some (.cells #[] e)) (hb : base ≤ g) : w.ownsRow base e size (.slice (some ⟨g, 0, none⟩) 0 0) 0 [] :=
  ⟨by simp, .inr ⟨g, 0, #[], rfl, hb, hg, Nat.le_refl _, Nat.zero_le _, by simp, by simp⟩⟩

theorem grow_kept {W X Y : World} {A : Nat} (h : Kept W X) (hg : X.grownBy Y (Value.slice (some ⟨A, 0, none⟩) 0 0).ownBlock) (hA : W.heap.size ≤ A) : Kept W Y :=
  ⟨h.out.grown hg h.size (fun k e => by simp [Value.ownBlock] at e; omega)⟩

theorem own_grown {X Y : World} {base e size : Nat} {v : Value} {n : Nat} {xs : List Value} {A : Nat} (ho : X.ownsRow base e size v n xs) (hg : X.grownBy Y (Value.slice (some ⟨A, 0, none⟩) 0 0).ownBlock) {t : TypeId} (hA : X.heap[A]? = some (.cells #[] t)) (ht : t ≠ e) : Y.ownsRow base e size v n xs := by
  refine ⟨ho.1, ?_⟩
  rcases ho.2 with k | ⟨b, cap, cur, h1, h2, h3, h4⟩
  · exact .inl k
  · refine .inr ⟨b, cap, cur, h1, h2, ?_, h4⟩
    rw [hg.block b (Array.getElem?_eq_some_iff.1 h3).1 (fun e' => ?_)]
    · exact h3
    · simp [Value.ownBlock] at e'
      subst e'
      rw [hA] at h3
      injection h3 with h3
      injection h3 with _ e2 _
      exact ht e2

theorem keep_block {X Y : World} {A k : Nat} {o : Obj} (hg : X.grownBy Y (Value.slice (some ⟨A, 0, none⟩) 0 0).ownBlock) (hk : X.heap[k]? = some o) (hne : k ≠ A) : Y.heap[k]? = some o :=
  (hg.block k (Array.getElem?_eq_some_iff.1 hk).1 (fun e => by simp [Value.ownBlock] at e; omega)).trans hk

theorem one_old (w : World) (o p : Obj) : ((w.alloc o).alloc p).heap[w.heap.size]? = some o := ((Kept.refl _).alloc p).block (heap_alloc_new w o)

/-- Between the two halves of settle: both rows are copied. -/
structure Mid (w : World) (q : R) (x : Wr) (n : Nat) (vW vC : Value) (wx : World) : Prop where
  out : ∃ gs caps gt capt, wx.heap[w.heap.size]? = some (.cells #[.slice (some ⟨gs, 0, none⟩) n caps, .slice (some ⟨gt, 0, none⟩) n capt, vW, vC, .int .i64 (q.acts : Nat), .int .i64 (q.all : Nat), .int .i64 (q.fails : Nat), .bool q.dead] 33) ∧
    wx.ownsRow w.heap.size 9 1 (.slice (some ⟨gs, 0, none⟩) n caps) n (q.S.map Value.string) ∧ wx.ownsRow w.heap.size 4 1 (.slice (some ⟨gt, 0, none⟩) n capt) n (q.torn.map Value.bool)
  b1 : wx.heap[w.heap.size + 1]? = some (Obj.cells #[.int .i64 (x.sec : Nat), .string x.bytes] 72)
  b2 : wx.heap[w.heap.size + 2]? = some (Obj.cells #[.slice none 0 0, .slice none 0 0, .slice none 0 0, .slice none 0 0, .int .i64 0, .int .i64 0, .int .i64 0, .bool false] 33)
  kept : Kept w wx

theorem mid_of {w W0 wt : World} {q : R} {x : Wr} {n : Nat} {vS vT vW vC : Value} {gs caps gt capt : Nat} (K0 : Kept w W0) (Kt : Kept W0 wt)
    (z0 : wt.heap[w.heap.size]? = some (.cells #[vS, vT, vW, vC, .int .i64 (q.acts : Nat), .int .i64 (q.all : Nat), .int .i64 (q.fails : Nat), .bool q.dead] 33))
    (z1 : wt.heap[w.heap.size + 1]? = some (Obj.cells #[.int .i64 (x.sec : Nat), .string x.bytes] 72))
    (z2 : wt.heap[w.heap.size + 2]? = some (Obj.cells #[.slice none 0 0, .slice none 0 0, .slice none 0 0, .slice none 0 0, .int .i64 0, .int .i64 0, .int .i64 0, .bool false] 33))
    (hs : wt.ownsRow w.heap.size 9 1 (.slice (some ⟨gs, 0, none⟩) (0 + n) caps) (0 + n) ([] ++ q.S.map Value.string)) (ht : wt.ownsRow w.heap.size 4 1 (.slice (some ⟨gt, 0, none⟩) (0 + n) capt) (0 + n) ([] ++ q.torn.map Value.bool)) :
    Mid w q x n vW vC ((wt.setCell ⟨w.heap.size, 0, none⟩ (.slice (some ⟨gs, 0, none⟩) n caps)).setCell ⟨w.heap.size, 1, none⟩ (.slice (some ⟨gt, 0, none⟩) n capt)) := by
  have a0 : (wt.setCell ⟨w.heap.size, 0, none⟩ (.slice (some ⟨gs, 0, none⟩) n caps)).heap[w.heap.size]? = some (.cells #[.slice (some ⟨gs, 0, none⟩) n caps, vT, vW, vC, .int .i64 (q.acts : Nat), .int .i64 (q.all : Nat), .int .i64 (q.fails : Nat), .bool q.dead] 33) := by
    rw [heap_setCell_same wt w.heap.size 0 _ _ _ z0]; rfl
  rw [Nat.zero_add, List.nil_append] at hs ht
  refine ⟨⟨gs, caps, gt, capt, by rw [heap_setCell_same _ w.heap.size 1 _ _ _ a0]; rfl, own_set (own_set hs z0 (by decide) _) a0 (by decide) _, own_set (own_set ht z0 (by decide) _) a0 (by decide) _⟩, ?_, ?_, ?_⟩
  · rw [Below.heap_setCell _ _ _ _ (by show w.heap.size + 1 ≠ w.heap.size; omega), Below.heap_setCell _ _ _ _ (by show w.heap.size + 1 ≠ w.heap.size; omega)]; exact z1
  · rw [Below.heap_setCell _ _ _ _ (by show w.heap.size + 2 ≠ w.heap.size; omega), Below.heap_setCell _ _ _ _ (by show w.heap.size + 2 ≠ w.heap.size; omega)]; exact z2
  · exact ((K0.trans Kt).setCell (Nat.le_refl _) _).setCell (Nat.le_refl _) _

end Go.Proofs.Ytfnfdngenohhhaa
