/- The walk of the reference's Flush. Conditions: Rok (sectors that there are, numbers below 100000). -/
import Derived.Test.YtfnfdngenohhhaaWalkV
namespace Go.Proofs.Ytfnfdngenohhhaa
open Go.ChangeShapes Go.WideShapes Go.ChangeAt Go.RowKit

/-- The disk's block is copied into the result's. -/
theorem copied_to {B : Nat} {w V : World} (z : V.heap[w.heap.size + 1]? = some (.cells Z8 33)) (hB : B ≤ w.heap.size) (k : Kept w V) (v0 v1 v2 v3 v4 v5 v6 v7 : Value) :
    ((((((((V.setCell ⟨w.heap.size + 1, 0, none⟩ v0).setCell ⟨w.heap.size + 1, 1, none⟩ v1).setCell ⟨w.heap.size + 1, 2, none⟩ v2).setCell ⟨w.heap.size + 1, 3, none⟩ v3).setCell ⟨w.heap.size + 1, 4, none⟩ v4).setCell ⟨w.heap.size + 1, 5, none⟩ v5).setCell ⟨w.heap.size + 1, 6, none⟩ v6).setCell ⟨w.heap.size + 1, 7, none⟩ v7).heap[w.heap.size + 1]? = some (.cells #[v0, v1, v2, v3, v4, v5, v6, v7] 33) ∧ Og B V ((((((((V.setCell ⟨w.heap.size + 1, 0, none⟩ v0).setCell ⟨w.heap.size + 1, 1, none⟩ v1).setCell ⟨w.heap.size + 1, 2, none⟩ v2).setCell ⟨w.heap.size + 1, 3, none⟩ v3).setCell ⟨w.heap.size + 1, 4, none⟩ v4).setCell ⟨w.heap.size + 1, 5, none⟩ v5).setCell ⟨w.heap.size + 1, 6, none⟩ v6).setCell ⟨w.heap.size + 1, 7, none⟩ v7) ∧ Kept w ((((((((V.setCell ⟨w.heap.size + 1, 0, none⟩ v0).setCell ⟨w.heap.size + 1, 1, none⟩ v1).setCell ⟨w.heap.size + 1, 2, none⟩ v2).setCell ⟨w.heap.size + 1, 3, none⟩ v3).setCell ⟨w.heap.size + 1, 4, none⟩ v4).setCell ⟨w.heap.size + 1, 5, none⟩ v5).setCell ⟨w.heap.size + 1, 6, none⟩ v6).setCell ⟨w.heap.size + 1, 7, none⟩ v7) :=
  ⟨(ready8 z v0 v1 v2 v3 v4 v5 v6 v7).2.2.2.2.2.2.2.2, eight_og z (by omega) v0 v1 v2 v3 v4 v5 v6 v7, eight_kept k (by omega) v0 v1 v2 v3 v4 v5 v6 v7⟩

/-- Stored in the disk's block, then copied into the result's. -/
theorem both {B : Nat} {w V : World} {c0 c1 c2 c3 c4 c5 c6 c7 : Value} (m0 : V.heap[w.heap.size]? = some (.cells #[c0, c1, c2, c3, c4, c5, c6, c7] 33)) (z : V.heap[w.heap.size + 1]? = some (.cells Z8 33)) (hB : B ≤ w.heap.size) (k : Kept w V) (v0 v1 v2 v3 v4 v5 v6 v7 : Value) :
    ((((((((((((((((V.setCell ⟨w.heap.size, 0, none⟩ v0).setCell ⟨w.heap.size, 1, none⟩ v1).setCell ⟨w.heap.size, 2, none⟩ v2).setCell ⟨w.heap.size, 3, none⟩ v3).setCell ⟨w.heap.size, 4, none⟩ v4).setCell ⟨w.heap.size, 5, none⟩ v5).setCell ⟨w.heap.size, 6, none⟩ v6).setCell ⟨w.heap.size, 7, none⟩ v7).setCell ⟨w.heap.size + 1, 0, none⟩ v0).setCell ⟨w.heap.size + 1, 1, none⟩ v1).setCell ⟨w.heap.size + 1, 2, none⟩ v2).setCell ⟨w.heap.size + 1, 3, none⟩ v3).setCell ⟨w.heap.size + 1, 4, none⟩ v4).setCell ⟨w.heap.size + 1, 5, none⟩ v5).setCell ⟨w.heap.size + 1, 6, none⟩ v6).setCell ⟨w.heap.size + 1, 7, none⟩ v7).heap[w.heap.size + 1]? = some (.cells #[v0, v1, v2, v3, v4, v5, v6, v7] 33) ∧ Og B V ((((((((((((((((V.setCell ⟨w.heap.size, 0, none⟩ v0).setCell ⟨w.heap.size, 1, none⟩ v1).setCell ⟨w.heap.size, 2, none⟩ v2).setCell ⟨w.heap.size, 3, none⟩ v3).setCell ⟨w.heap.size, 4, none⟩ v4).setCell ⟨w.heap.size, 5, none⟩ v5).setCell ⟨w.heap.size, 6, none⟩ v6).setCell ⟨w.heap.size, 7, none⟩ v7).setCell ⟨w.heap.size + 1, 0, none⟩ v0).setCell ⟨w.heap.size + 1, 1, none⟩ v1).setCell ⟨w.heap.size + 1, 2, none⟩ v2).setCell ⟨w.heap.size + 1, 3, none⟩ v3).setCell ⟨w.heap.size + 1, 4, none⟩ v4).setCell ⟨w.heap.size + 1, 5, none⟩ v5).setCell ⟨w.heap.size + 1, 6, none⟩ v6).setCell ⟨w.heap.size + 1, 7, none⟩ v7) ∧ Kept w ((((((((((((((((V.setCell ⟨w.heap.size, 0, none⟩ v0).setCell ⟨w.heap.size, 1, none⟩ v1).setCell ⟨w.heap.size, 2, none⟩ v2).setCell ⟨w.heap.size, 3, none⟩ v3).setCell ⟨w.heap.size, 4, none⟩ v4).setCell ⟨w.heap.size, 5, none⟩ v5).setCell ⟨w.heap.size, 6, none⟩ v6).setCell ⟨w.heap.size, 7, none⟩ v7).setCell ⟨w.heap.size + 1, 0, none⟩ v0).setCell ⟨w.heap.size + 1, 1, none⟩ v1).setCell ⟨w.heap.size + 1, 2, none⟩ v2).setCell ⟨w.heap.size + 1, 3, none⟩ v3).setCell ⟨w.heap.size + 1, 4, none⟩ v4).setCell ⟨w.heap.size + 1, 5, none⟩ v5).setCell ⟨w.heap.size + 1, 6, none⟩ v6).setCell ⟨w.heap.size + 1, 7, none⟩ v7) := by
  have z1 := (eight_other V (b := w.heap.size) (k := w.heap.size + 1) (by omega) v0 v1 v2 v3 v4 v5 v6 v7).trans z
  obtain ⟨a, b, c⟩ := copied_to z1 hB (eight_kept k (Nat.le_refl _) v0 v1 v2 v3 v4 v5 v6 v7) v0 v1 v2 v3 v4 v5 v6 v7
  exact ⟨a, (eight_og m0 hB v0 v1 v2 v3 v4 v5 v6 v7).trans b, c⟩

/-- A disk in its block, the result's block still empty. -/
structure FM (B : Nat) (w : World) (q1 : R) (wx : World) : Prop where
  qb : QB B wx w.heap.size q1
  z : wx.heap[w.heap.size + 1]? = some (.cells Z8 33)
  k : Kept w wx

theorem FM.start {B : Nat} {w : World} {q : R} {vS vT vW vC : Value} (hr : RAt B w vS vT vW vC q) (hB : B ≤ w.heap.size) : FM B w q ((w.alloc (.cells (q.cells vS vT vW vC) 33)).alloc (.cells Z8 33)) := by
  have k : Kept w ((w.alloc (.cells (q.cells vS vT vW vC) 33)).alloc (.cells Z8 33)) := ((Kept.refl w).alloc _).alloc _
  exact ⟨⟨vS, vT, vW, vC, ((Kept.refl _).alloc _).block (heap_alloc_new w _), hr.og (k.og hB)⟩, two_new w _ _, k⟩

theorem FM.kept {B : Nat} {w wx wy : World} {q1 : R} (h : FM B w q1 wx) (k : Kept wx wy) (hB : B ≤ w.heap.size) : FM B w q1 wy :=
  ⟨h.qb.kept k (Nat.le_trans hB h.k.size), k.block h.z, h.k.trans k⟩

theorem FM.store {B : Nat} {w V : World} {q1 q2 : R} (h : FM B w q1 V) (hB : B ≤ w.heap.size) {vS vT vW vC : Value} (hr : RAt B V vS vT vW vC q2) :
    FM B w q2 ((((((((V.setCell ⟨w.heap.size, 0, none⟩ vS).setCell ⟨w.heap.size, 1, none⟩ vT).setCell ⟨w.heap.size, 2, none⟩ vW).setCell ⟨w.heap.size, 3, none⟩ vC).setCell ⟨w.heap.size, 4, none⟩ (.int .i64 (q2.acts : Nat))).setCell ⟨w.heap.size, 5, none⟩ (.int .i64 (q2.all : Nat))).setCell ⟨w.heap.size, 6, none⟩ (.int .i64 (q2.fails : Nat))).setCell ⟨w.heap.size, 7, none⟩ (.bool q2.dead)) := by
  obtain ⟨a, b, c', d, h1, _⟩ := h.qb.out
  obtain ⟨_, _, _, _, _, _, _, _, hfin⟩ := ready8 h1 vS vT vW vC (.int .i64 (q2.acts : Nat)) (.int .i64 (q2.all : Nat)) (.int .i64 (q2.fails : Nat)) (.bool q2.dead)
  have og := eight_og h1 hB vS vT vW vC (.int .i64 (q2.acts : Nat)) (.int .i64 (q2.all : Nat)) (.int .i64 (q2.fails : Nat)) (.bool q2.dead)
  refine ⟨⟨vS, vT, vW, vC, hfin, hr.og og⟩, ?_, eight_kept h.k (Nat.le_refl _) _ _ _ _ _ _ _ _⟩
  exact (eight_other V (by omega) _ _ _ _ _ _ _ _).trans h.z

/-- What the walk needs of the disk's block, and of the result's. -/
theorem FM.facts {B : Nat} {w V : World} {q1 : R} (h : FM B w q1 V) : ∃ pS cS pT cT pW cW pC cC,
    V.heap[w.heap.size]? = some (.cells #[.slice pS q1.S.length cS, .slice pT q1.torn.length cT, .slice pW q1.wait.length cW, .slice pC q1.cuts.length cC, .int .i64 (q1.acts : Nat), .int .i64 (q1.all : Nat), .int .i64 (q1.fails : Nat), .bool q1.dead] 33) ∧
    RAt B V (.slice pS q1.S.length cS) (.slice pT q1.torn.length cT) (.slice pW q1.wait.length cW) (.slice pC q1.cuts.length cC) q1 := by
  obtain ⟨a, b, c', d, h1, hr⟩ := h.qb.out
  obtain ⟨pS, cS, pT, cT, pW, cW, pC, cC, rfl, rfl, rfl, rfl⟩ := hr.slices
  exact ⟨pS, cS, pT, cT, pW, cW, pC, cC, h1, hr⟩

theorem frozen8 {W : World} {b : Nat} {cs : Array Value} {t : TypeId} (h : W.heap[b]? = some (.cells cs t)) : W.frozen? ⟨b, 0, none⟩ = false ∧ W.frozen? ⟨b, 1, none⟩ = false ∧ W.frozen? ⟨b, 2, none⟩ = false ∧ W.frozen? ⟨b, 3, none⟩ = false ∧ W.frozen? ⟨b, 4, none⟩ = false ∧ W.frozen? ⟨b, 5, none⟩ = false ∧ W.frozen? ⟨b, 6, none⟩ = false ∧ W.frozen? ⟨b, 7, none⟩ = false :=
  ⟨frozen_of_row W b 0 _ _ h, frozen_of_row W b 1 _ _ h, frozen_of_row W b 2 _ _ h, frozen_of_row W b 3 _ _ h, frozen_of_row W b 4 _ _ h, frozen_of_row W b 5 _ _ h, frozen_of_row W b 6 _ _ h, frozen_of_row W b 7 _ _ h⟩

set_option maxHeartbeats 1000000 in
set_option maxRecDepth 100000 in
theorem rflush_dead {B : Nat} {w : World} {v : Value} {q : R} (h : RVal B w v q) (hB : B ≤ w.heap.size) (hd : q.dead = true) :
    Calls Try.prog 16 #[v] w fun e w' => ∃ v', e = .returned (.tuple #[v', .int .i64 40]) ∧ RVal B w' v' q ∧ Kept w w' := by
  obtain ⟨vS, vT, vW, vC, rfl, hr⟩ := h.out
  obtain ⟨pS, cS, pT, cT, pW, cW, pC, cC, rfl, rfl, rfl, rfl⟩ := hr.slices
  unfold R.cells
  rw [hd]
  go_enter Try.func16, Try.ntmps16
  go_wp2
  refine bodyPost_ret (v := .tuple #[.agg (R.cells q (.slice pS q.S.length cS) (.slice pT q.torn.length cT) (.slice pW q.wait.length cW) (.slice pC q.cuts.length cC)), .int .i64 40]) ?_ rfl ?_
  · unfold R.cells
    rw [hd]
    exact results_two (p := 2) (u := 3) (ty := 33) rfl _ _ (w.heap.size + 1) 33 _ (0, 0) _ rfl (two_new _ _ _) Try.underlying33 rfl size33
  · exact ⟨_, rfl, ⟨_, _, _, _, rfl, hr.on (((Kept.refl w).alloc _).alloc _ |>.on hB)⟩, ((Kept.refl w).alloc _).alloc _⟩
end Go.Proofs.Ytfnfdngenohhhaa
