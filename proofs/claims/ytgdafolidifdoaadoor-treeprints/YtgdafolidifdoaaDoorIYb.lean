/- The walk of stmts. Conditions: what came in has numbers of 64 bits; at most two blocks within one another. -/
import Derived.Test.YtgdafolidifdoaaDoorILitb
import Derived.Test.YtgdafolidifdoaaDoorIYa
import Derived.Deep.CutRange
namespace Go.Proofs.YtgdafolidifdoaaDoor.Tp
open Go.ChangeShapes Go.WideShapes Go.ChangeAt Go.RowKit

theorem put13 {W : World} {b : Nat} {t : TypeId} {o0 o1 o2 o3 o4 o5 o6 o7 o8 o9 o10 o11 o12 : Value} (h0 : W.heap[b]? = some (.cells #[o0, o1, o2, o3, o4, o5, o6, o7, o8, o9, o10, o11, o12] t)) (v0 v1 v2 v3 v4 v5 v6 v7 v8 v9 v10 v11 v12 : Value) :
    (W.cell? ⟨b, 0, none⟩ = some o0 ∧ W.frozen? ⟨b, 0, none⟩ = false) ∧ ((W.setCell ⟨b, 0, none⟩ v0).cell? ⟨b, 1, none⟩ = some o1 ∧ (W.setCell ⟨b, 0, none⟩ v0).frozen? ⟨b, 1, none⟩ = false) ∧ (((W.setCell ⟨b, 0, none⟩ v0).setCell ⟨b, 1, none⟩ v1).cell? ⟨b, 2, none⟩ = some o2 ∧ ((W.setCell ⟨b, 0, none⟩ v0).setCell ⟨b, 1, none⟩ v1).frozen? ⟨b, 2, none⟩ = false) ∧ ((((W.setCell ⟨b, 0, none⟩ v0).setCell ⟨b, 1, none⟩ v1).setCell ⟨b, 2, none⟩ v2).cell? ⟨b, 3, none⟩ = some o3 ∧ (((W.setCell ⟨b, 0, none⟩ v0).setCell ⟨b, 1, none⟩ v1).setCell ⟨b, 2, none⟩ v2).frozen? ⟨b, 3, none⟩ = false) ∧ (((((W.setCell ⟨b, 0, none⟩ v0).setCell ⟨b, 1, none⟩ v1).setCell ⟨b, 2, none⟩ v2).setCell ⟨b, 3, none⟩ v3).cell? ⟨b, 4, none⟩ = some o4 ∧ ((((W.setCell ⟨b, 0, none⟩ v0).setCell ⟨b, 1, none⟩ v1).setCell ⟨b, 2, none⟩ v2).setCell ⟨b, 3, none⟩ v3).frozen? ⟨b, 4, none⟩ = false) ∧ ((((((W.setCell ⟨b, 0, none⟩ v0).setCell ⟨b, 1, none⟩ v1).setCell ⟨b, 2, none⟩ v2).setCell ⟨b, 3, none⟩ v3).setCell ⟨b, 4, none⟩ v4).cell? ⟨b, 5, none⟩ = some o5 ∧ (((((W.setCell ⟨b, 0, none⟩ v0).setCell ⟨b, 1, none⟩ v1).setCell ⟨b, 2, none⟩ v2).setCell ⟨b, 3, none⟩ v3).setCell ⟨b, 4, none⟩ v4).frozen? ⟨b, 5, none⟩ = false) ∧ (((((((W.setCell ⟨b, 0, none⟩ v0).setCell ⟨b, 1, none⟩ v1).setCell ⟨b, 2, none⟩ v2).setCell ⟨b, 3, none⟩ v3).setCell ⟨b, 4, none⟩ v4).setCell ⟨b, 5, none⟩ v5).cell? ⟨b, 6, none⟩ = some o6 ∧ ((((((W.setCell ⟨b, 0, none⟩ v0).setCell ⟨b, 1, none⟩ v1).setCell ⟨b, 2, none⟩ v2).setCell ⟨b, 3, none⟩ v3).setCell ⟨b, 4, none⟩ v4).setCell ⟨b, 5, none⟩ v5).frozen? ⟨b, 6, none⟩ = false) ∧ ((((((((W.setCell ⟨b, 0, none⟩ v0).setCell ⟨b, 1, none⟩ v1).setCell ⟨b, 2, none⟩ v2).setCell ⟨b, 3, none⟩ v3).setCell ⟨b, 4, none⟩ v4).setCell ⟨b, 5, none⟩ v5).setCell ⟨b, 6, none⟩ v6).cell? ⟨b, 7, none⟩ = some o7 ∧ (((((((W.setCell ⟨b, 0, none⟩ v0).setCell ⟨b, 1, none⟩ v1).setCell ⟨b, 2, none⟩ v2).setCell ⟨b, 3, none⟩ v3).setCell ⟨b, 4, none⟩ v4).setCell ⟨b, 5, none⟩ v5).setCell ⟨b, 6, none⟩ v6).frozen? ⟨b, 7, none⟩ = false) ∧ (((((((((W.setCell ⟨b, 0, none⟩ v0).setCell ⟨b, 1, none⟩ v1).setCell ⟨b, 2, none⟩ v2).setCell ⟨b, 3, none⟩ v3).setCell ⟨b, 4, none⟩ v4).setCell ⟨b, 5, none⟩ v5).setCell ⟨b, 6, none⟩ v6).setCell ⟨b, 7, none⟩ v7).cell? ⟨b, 8, none⟩ = some o8 ∧ ((((((((W.setCell ⟨b, 0, none⟩ v0).setCell ⟨b, 1, none⟩ v1).setCell ⟨b, 2, none⟩ v2).setCell ⟨b, 3, none⟩ v3).setCell ⟨b, 4, none⟩ v4).setCell ⟨b, 5, none⟩ v5).setCell ⟨b, 6, none⟩ v6).setCell ⟨b, 7, none⟩ v7).frozen? ⟨b, 8, none⟩ = false) ∧ ((((((((((W.setCell ⟨b, 0, none⟩ v0).setCell ⟨b, 1, none⟩ v1).setCell ⟨b, 2, none⟩ v2).setCell ⟨b, 3, none⟩ v3).setCell ⟨b, 4, none⟩ v4).setCell ⟨b, 5, none⟩ v5).setCell ⟨b, 6, none⟩ v6).setCell ⟨b, 7, none⟩ v7).setCell ⟨b, 8, none⟩ v8).cell? ⟨b, 9, none⟩ = some o9 ∧ (((((((((W.setCell ⟨b, 0, none⟩ v0).setCell ⟨b, 1, none⟩ v1).setCell ⟨b, 2, none⟩ v2).setCell ⟨b, 3, none⟩ v3).setCell ⟨b, 4, none⟩ v4).setCell ⟨b, 5, none⟩ v5).setCell ⟨b, 6, none⟩ v6).setCell ⟨b, 7, none⟩ v7).setCell ⟨b, 8, none⟩ v8).frozen? ⟨b, 9, none⟩ = false) ∧ (((((((((((W.setCell ⟨b, 0, none⟩ v0).setCell ⟨b, 1, none⟩ v1).setCell ⟨b, 2, none⟩ v2).setCell ⟨b, 3, none⟩ v3).setCell ⟨b, 4, none⟩ v4).setCell ⟨b, 5, none⟩ v5).setCell ⟨b, 6, none⟩ v6).setCell ⟨b, 7, none⟩ v7).setCell ⟨b, 8, none⟩ v8).setCell ⟨b, 9, none⟩ v9).cell? ⟨b, 10, none⟩ = some o10 ∧ ((((((((((W.setCell ⟨b, 0, none⟩ v0).setCell ⟨b, 1, none⟩ v1).setCell ⟨b, 2, none⟩ v2).setCell ⟨b, 3, none⟩ v3).setCell ⟨b, 4, none⟩ v4).setCell ⟨b, 5, none⟩ v5).setCell ⟨b, 6, none⟩ v6).setCell ⟨b, 7, none⟩ v7).setCell ⟨b, 8, none⟩ v8).setCell ⟨b, 9, none⟩ v9).frozen? ⟨b, 10, none⟩ = false) ∧ ((((((((((((W.setCell ⟨b, 0, none⟩ v0).setCell ⟨b, 1, none⟩ v1).setCell ⟨b, 2, none⟩ v2).setCell ⟨b, 3, none⟩ v3).setCell ⟨b, 4, none⟩ v4).setCell ⟨b, 5, none⟩ v5).setCell ⟨b, 6, none⟩ v6).setCell ⟨b, 7, none⟩ v7).setCell ⟨b, 8, none⟩ v8).setCell ⟨b, 9, none⟩ v9).setCell ⟨b, 10, none⟩ v10).cell? ⟨b, 11, none⟩ = some o11 ∧ (((((((((((W.setCell ⟨b, 0, none⟩ v0).setCell ⟨b, 1, none⟩ v1).setCell ⟨b, 2, none⟩ v2).setCell ⟨b, 3, none⟩ v3).setCell ⟨b, 4, none⟩ v4).setCell ⟨b, 5, none⟩ v5).setCell ⟨b, 6, none⟩ v6).setCell ⟨b, 7, none⟩ v7).setCell ⟨b, 8, none⟩ v8).setCell ⟨b, 9, none⟩ v9).setCell ⟨b, 10, none⟩ v10).frozen? ⟨b, 11, none⟩ = false) ∧ (((((((((((((W.setCell ⟨b, 0, none⟩ v0).setCell ⟨b, 1, none⟩ v1).setCell ⟨b, 2, none⟩ v2).setCell ⟨b, 3, none⟩ v3).setCell ⟨b, 4, none⟩ v4).setCell ⟨b, 5, none⟩ v5).setCell ⟨b, 6, none⟩ v6).setCell ⟨b, 7, none⟩ v7).setCell ⟨b, 8, none⟩ v8).setCell ⟨b, 9, none⟩ v9).setCell ⟨b, 10, none⟩ v10).setCell ⟨b, 11, none⟩ v11).cell? ⟨b, 12, none⟩ = some o12 ∧ ((((((((((((W.setCell ⟨b, 0, none⟩ v0).setCell ⟨b, 1, none⟩ v1).setCell ⟨b, 2, none⟩ v2).setCell ⟨b, 3, none⟩ v3).setCell ⟨b, 4, none⟩ v4).setCell ⟨b, 5, none⟩ v5).setCell ⟨b, 6, none⟩ v6).setCell ⟨b, 7, none⟩ v7).setCell ⟨b, 8, none⟩ v8).setCell ⟨b, 9, none⟩ v9).setCell ⟨b, 10, none⟩ v10).setCell ⟨b, 11, none⟩ v11).frozen? ⟨b, 12, none⟩ = false) ∧ (((((((((((((W.setCell ⟨b, 0, none⟩ v0).setCell ⟨b, 1, none⟩ v1).setCell ⟨b, 2, none⟩ v2).setCell ⟨b, 3, none⟩ v3).setCell ⟨b, 4, none⟩ v4).setCell ⟨b, 5, none⟩ v5).setCell ⟨b, 6, none⟩ v6).setCell ⟨b, 7, none⟩ v7).setCell ⟨b, 8, none⟩ v8).setCell ⟨b, 9, none⟩ v9).setCell ⟨b, 10, none⟩ v10).setCell ⟨b, 11, none⟩ v11).setCell ⟨b, 12, none⟩ v12).heap[b]? = some (.cells #[v0, v1, v2, v3, v4, v5, v6, v7, v8, v9, v10, v11, v12] t) := by
  have h1 : (W.setCell ⟨b, 0, none⟩ v0).heap[b]? = some (.cells #[v0, o1, o2, o3, o4, o5, o6, o7, o8, o9, o10, o11, o12] t) := by rw [heap_setCell_same _ b 0 _ _ _ h0]; rfl
  have h2 : ((W.setCell ⟨b, 0, none⟩ v0).setCell ⟨b, 1, none⟩ v1).heap[b]? = some (.cells #[v0, v1, o2, o3, o4, o5, o6, o7, o8, o9, o10, o11, o12] t) := by rw [heap_setCell_same _ b 1 _ _ _ h1]; rfl
  have h3 : (((W.setCell ⟨b, 0, none⟩ v0).setCell ⟨b, 1, none⟩ v1).setCell ⟨b, 2, none⟩ v2).heap[b]? = some (.cells #[v0, v1, v2, o3, o4, o5, o6, o7, o8, o9, o10, o11, o12] t) := by rw [heap_setCell_same _ b 2 _ _ _ h2]; rfl
  have h4 : ((((W.setCell ⟨b, 0, none⟩ v0).setCell ⟨b, 1, none⟩ v1).setCell ⟨b, 2, none⟩ v2).setCell ⟨b, 3, none⟩ v3).heap[b]? = some (.cells #[v0, v1, v2, v3, o4, o5, o6, o7, o8, o9, o10, o11, o12] t) := by rw [heap_setCell_same _ b 3 _ _ _ h3]; rfl
  have h5 : (((((W.setCell ⟨b, 0, none⟩ v0).setCell ⟨b, 1, none⟩ v1).setCell ⟨b, 2, none⟩ v2).setCell ⟨b, 3, none⟩ v3).setCell ⟨b, 4, none⟩ v4).heap[b]? = some (.cells #[v0, v1, v2, v3, v4, o5, o6, o7, o8, o9, o10, o11, o12] t) := by rw [heap_setCell_same _ b 4 _ _ _ h4]; rfl
  have h6 : ((((((W.setCell ⟨b, 0, none⟩ v0).setCell ⟨b, 1, none⟩ v1).setCell ⟨b, 2, none⟩ v2).setCell ⟨b, 3, none⟩ v3).setCell ⟨b, 4, none⟩ v4).setCell ⟨b, 5, none⟩ v5).heap[b]? = some (.cells #[v0, v1, v2, v3, v4, v5, o6, o7, o8, o9, o10, o11, o12] t) := by rw [heap_setCell_same _ b 5 _ _ _ h5]; rfl
  have h7 : (((((((W.setCell ⟨b, 0, none⟩ v0).setCell ⟨b, 1, none⟩ v1).setCell ⟨b, 2, none⟩ v2).setCell ⟨b, 3, none⟩ v3).setCell ⟨b, 4, none⟩ v4).setCell ⟨b, 5, none⟩ v5).setCell ⟨b, 6, none⟩ v6).heap[b]? = some (.cells #[v0, v1, v2, v3, v4, v5, v6, o7, o8, o9, o10, o11, o12] t) := by rw [heap_setCell_same _ b 6 _ _ _ h6]; rfl
  have h8 : ((((((((W.setCell ⟨b, 0, none⟩ v0).setCell ⟨b, 1, none⟩ v1).setCell ⟨b, 2, none⟩ v2).setCell ⟨b, 3, none⟩ v3).setCell ⟨b, 4, none⟩ v4).setCell ⟨b, 5, none⟩ v5).setCell ⟨b, 6, none⟩ v6).setCell ⟨b, 7, none⟩ v7).heap[b]? = some (.cells #[v0, v1, v2, v3, v4, v5, v6, v7, o8, o9, o10, o11, o12] t) := by rw [heap_setCell_same _ b 7 _ _ _ h7]; rfl
  have h9 : (((((((((W.setCell ⟨b, 0, none⟩ v0).setCell ⟨b, 1, none⟩ v1).setCell ⟨b, 2, none⟩ v2).setCell ⟨b, 3, none⟩ v3).setCell ⟨b, 4, none⟩ v4).setCell ⟨b, 5, none⟩ v5).setCell ⟨b, 6, none⟩ v6).setCell ⟨b, 7, none⟩ v7).setCell ⟨b, 8, none⟩ v8).heap[b]? = some (.cells #[v0, v1, v2, v3, v4, v5, v6, v7, v8, o9, o10, o11, o12] t) := by rw [heap_setCell_same _ b 8 _ _ _ h8]; rfl
  have h10 : ((((((((((W.setCell ⟨b, 0, none⟩ v0).setCell ⟨b, 1, none⟩ v1).setCell ⟨b, 2, none⟩ v2).setCell ⟨b, 3, none⟩ v3).setCell ⟨b, 4, none⟩ v4).setCell ⟨b, 5, none⟩ v5).setCell ⟨b, 6, none⟩ v6).setCell ⟨b, 7, none⟩ v7).setCell ⟨b, 8, none⟩ v8).setCell ⟨b, 9, none⟩ v9).heap[b]? = some (.cells #[v0, v1, v2, v3, v4, v5, v6, v7, v8, v9, o10, o11, o12] t) := by rw [heap_setCell_same _ b 9 _ _ _ h9]; rfl
  have h11 : (((((((((((W.setCell ⟨b, 0, none⟩ v0).setCell ⟨b, 1, none⟩ v1).setCell ⟨b, 2, none⟩ v2).setCell ⟨b, 3, none⟩ v3).setCell ⟨b, 4, none⟩ v4).setCell ⟨b, 5, none⟩ v5).setCell ⟨b, 6, none⟩ v6).setCell ⟨b, 7, none⟩ v7).setCell ⟨b, 8, none⟩ v8).setCell ⟨b, 9, none⟩ v9).setCell ⟨b, 10, none⟩ v10).heap[b]? = some (.cells #[v0, v1, v2, v3, v4, v5, v6, v7, v8, v9, v10, o11, o12] t) := by rw [heap_setCell_same _ b 10 _ _ _ h10]; rfl
  have h12 : ((((((((((((W.setCell ⟨b, 0, none⟩ v0).setCell ⟨b, 1, none⟩ v1).setCell ⟨b, 2, none⟩ v2).setCell ⟨b, 3, none⟩ v3).setCell ⟨b, 4, none⟩ v4).setCell ⟨b, 5, none⟩ v5).setCell ⟨b, 6, none⟩ v6).setCell ⟨b, 7, none⟩ v7).setCell ⟨b, 8, none⟩ v8).setCell ⟨b, 9, none⟩ v9).setCell ⟨b, 10, none⟩ v10).setCell ⟨b, 11, none⟩ v11).heap[b]? = some (.cells #[v0, v1, v2, v3, v4, v5, v6, v7, v8, v9, v10, v11, o12] t) := by rw [heap_setCell_same _ b 11 _ _ _ h11]; rfl
  have h13 : (((((((((((((W.setCell ⟨b, 0, none⟩ v0).setCell ⟨b, 1, none⟩ v1).setCell ⟨b, 2, none⟩ v2).setCell ⟨b, 3, none⟩ v3).setCell ⟨b, 4, none⟩ v4).setCell ⟨b, 5, none⟩ v5).setCell ⟨b, 6, none⟩ v6).setCell ⟨b, 7, none⟩ v7).setCell ⟨b, 8, none⟩ v8).setCell ⟨b, 9, none⟩ v9).setCell ⟨b, 10, none⟩ v10).setCell ⟨b, 11, none⟩ v11).setCell ⟨b, 12, none⟩ v12).heap[b]? = some (.cells #[v0, v1, v2, v3, v4, v5, v6, v7, v8, v9, v10, v11, v12] t) := by rw [heap_setCell_same _ b 12 _ _ _ h12]; rfl
  exact ⟨⟨by rw [cell_of_row _ b 0 _ _ _ h0]; rfl, frozen_of_row _ b 0 _ _ h0⟩, ⟨by rw [cell_of_row _ b 1 _ _ _ h1]; rfl, frozen_of_row _ b 1 _ _ h1⟩, ⟨by rw [cell_of_row _ b 2 _ _ _ h2]; rfl, frozen_of_row _ b 2 _ _ h2⟩, ⟨by rw [cell_of_row _ b 3 _ _ _ h3]; rfl, frozen_of_row _ b 3 _ _ h3⟩, ⟨by rw [cell_of_row _ b 4 _ _ _ h4]; rfl, frozen_of_row _ b 4 _ _ h4⟩, ⟨by rw [cell_of_row _ b 5 _ _ _ h5]; rfl, frozen_of_row _ b 5 _ _ h5⟩, ⟨by rw [cell_of_row _ b 6 _ _ _ h6]; rfl, frozen_of_row _ b 6 _ _ h6⟩, ⟨by rw [cell_of_row _ b 7 _ _ _ h7]; rfl, frozen_of_row _ b 7 _ _ h7⟩, ⟨by rw [cell_of_row _ b 8 _ _ _ h8]; rfl, frozen_of_row _ b 8 _ _ h8⟩, ⟨by rw [cell_of_row _ b 9 _ _ _ h9]; rfl, frozen_of_row _ b 9 _ _ h9⟩, ⟨by rw [cell_of_row _ b 10 _ _ _ h10]; rfl, frozen_of_row _ b 10 _ _ h10⟩, ⟨by rw [cell_of_row _ b 11 _ _ _ h11]; rfl, frozen_of_row _ b 11 _ _ h11⟩, ⟨by rw [cell_of_row _ b 12 _ _ _ h12]; rfl, frozen_of_row _ b 12 _ _ h12⟩, h13⟩
theorem set_other13 {W : World} {b g : Nat} (hne : g ≠ b) (v0 v1 v2 v3 v4 v5 v6 v7 v8 v9 v10 v11 v12 : Value) : (((((((((((((W.setCell ⟨b, 0, none⟩ v0).setCell ⟨b, 1, none⟩ v1).setCell ⟨b, 2, none⟩ v2).setCell ⟨b, 3, none⟩ v3).setCell ⟨b, 4, none⟩ v4).setCell ⟨b, 5, none⟩ v5).setCell ⟨b, 6, none⟩ v6).setCell ⟨b, 7, none⟩ v7).setCell ⟨b, 8, none⟩ v8).setCell ⟨b, 9, none⟩ v9).setCell ⟨b, 10, none⟩ v10).setCell ⟨b, 11, none⟩ v11).setCell ⟨b, 12, none⟩ v12).heap[g]? = W.heap[g]? := by
  repeat rw [heap_setCell_other _ _ _ _ hne]
theorem kept_set13 {V W : World} {b : Nat} (h : Kept V W) (hb : V.heap.size ≤ b) (v0 v1 v2 v3 v4 v5 v6 v7 v8 v9 v10 v11 v12 : Value) : Kept V (((((((((((((W.setCell ⟨b, 0, none⟩ v0).setCell ⟨b, 1, none⟩ v1).setCell ⟨b, 2, none⟩ v2).setCell ⟨b, 3, none⟩ v3).setCell ⟨b, 4, none⟩ v4).setCell ⟨b, 5, none⟩ v5).setCell ⟨b, 6, none⟩ v6).setCell ⟨b, 7, none⟩ v7).setCell ⟨b, 8, none⟩ v8).setCell ⟨b, 9, none⟩ v9).setCell ⟨b, 10, none⟩ v10).setCell ⟨b, 11, none⟩ v11).setCell ⟨b, 12, none⟩ v12) := (kept_set (kept_set (kept_set (kept_set (kept_set (kept_set (kept_set (kept_set (kept_set (kept_set (kept_set (kept_set (kept_set h hb v0) hb v1) hb v2) hb v3) hb v4) hb v5) hb v6) hb v7) hb v8) hb v9) hb v10) hb v11) hb v12)
theorem grown_set13 (W : World) (b : Nat) (v0 v1 v2 v3 v4 v5 v6 v7 v8 v9 v10 v11 v12 : Value) : W.grownBy (((((((((((((W.setCell ⟨b, 0, none⟩ v0).setCell ⟨b, 1, none⟩ v1).setCell ⟨b, 2, none⟩ v2).setCell ⟨b, 3, none⟩ v3).setCell ⟨b, 4, none⟩ v4).setCell ⟨b, 5, none⟩ v5).setCell ⟨b, 6, none⟩ v6).setCell ⟨b, 7, none⟩ v7).setCell ⟨b, 8, none⟩ v8).setCell ⟨b, 9, none⟩ v9).setCell ⟨b, 10, none⟩ v10).setCell ⟨b, 11, none⟩ v11).setCell ⟨b, 12, none⟩ v12) (some b) := (grown_set (grown_set (grown_set (grown_set (grown_set (grown_set (grown_set (grown_set (grown_set (grown_set (grown_set (grown_set (grown_set (grown_refl W b) 0 v0) 1 v1) 2 v2) 3 v3) 4 v4) 5 v5) 6 v6) 7 v7) 8 v8) 9 v9) 10 v10) 11 v11) 12 v12)
theorem own_set13 {W : World} {B b : Nat} {p : Option Addr} {n c : Nat} {xs : List Value} (h : W.ownsRow B 9 1 (.slice p n c) n xs) (hb : b < B) (v0 v1 v2 v3 v4 v5 v6 v7 v8 v9 v10 v11 v12 : Value) : (((((((((((((W.setCell ⟨b, 0, none⟩ v0).setCell ⟨b, 1, none⟩ v1).setCell ⟨b, 2, none⟩ v2).setCell ⟨b, 3, none⟩ v3).setCell ⟨b, 4, none⟩ v4).setCell ⟨b, 5, none⟩ v5).setCell ⟨b, 6, none⟩ v6).setCell ⟨b, 7, none⟩ v7).setCell ⟨b, 8, none⟩ v8).setCell ⟨b, 9, none⟩ v9).setCell ⟨b, 10, none⟩ v10).setCell ⟨b, 11, none⟩ v11).setCell ⟨b, 12, none⟩ v12).ownsRow B 9 1 (.slice p n c) n xs :=
  h.kept (grown_set13 W b v0 v1 v2 v3 v4 v5 v6 v7 v8 v9 v10 v11 v12) (by
    cases hp : (Value.slice p n c).ownBlock with
    | none => exact .inl rfl
    | some j => exact .inr (fun e => by injection e with e; have := (h.lt j hp).1; omega))
set_option maxRecDepth 100000 in
set_option maxHeartbeats 16000000 in
theorem stmts_step (deep : Nat) (hdeep : deep ≤ 2) (IH0 : ∀ d', d' + 1 = deep → Mk d') : Mk deep := by
    intro w p n c l hEs
    obtain ⟨i0, hi0, hz0, hz1, hz2⟩ := info_parts infoS
    have IH : Hid (∀ d', d' + 1 = deep → Mk d') := IH0
    clear IH0
    have HE : Hid (Es w p n c l) := hEs
    have hle := hEs.le
    have hcap := hEs.cap
    have hc9 : c ≤ 9223372036854775807 := by unfold maxLen at hcap; omega
    have HS0 : Hid (Sofar w deep 0 (some ⟨w.heap.size, 0, none⟩) 0 .nil [] (w.alloc (.cells #[] 67))) := Sofar.start w deep
    clear hEs hcap
    go_enter Tryd.func19, Tryd.ntmps19
    go_wp2
    refine wp_loop_ghost_k (fun g' a wx => ∃ tm : Array Value, a = ⟨tm, []⟩ ∧ tm.size = 77 ∧ ∃ (i : Nat) (q : Option Addr) (cc : Nat) (acc : Sts) (cs : List Value), tm.getD 0 undef = .slice p n c ∧ tm.getD 1 undef = .int .i64 (deep : Nat) ∧ tm.getD 5 undef = .slice q i cc ∧ tm.getD 6 undef = .int .i64 (i : Nat) ∧ i + g' = 10 ∧ i ≤ n ∧ Sofar w deep i q cc acc cs wx) 10 ?_ ?_
    · exact ⟨_, rfl, rfl, 0, some ⟨w.heap.size, 0, none⟩, 0, .nil, [], rfl, rfl, rfl, rfl, rfl, Nat.zero_le _, HS0.out⟩
    · intro gk ac wr hI
      obtain ⟨tm, rfl, hsz, i, q, cc, acc, cs, h0, h1, h5, h6, hg, hin, hS⟩ := hI
      intro J K hJ hK
      revert tm
      refine lit77 ?_
      intro u0 u1 u2 u3 u4 u5 u6 u7 u8 u9 u10 u11 u12 u13 u14 u15 u16 u17 u18 u19 u20 u21 u22 u23 u24 u25 u26 u27 u28 u29 u30 u31 u32 u33 u34 u35 u36 u37 u38 u39 u40 u41 u42 u43 u44 u45 u46 u47 u48 u49 u50 u51 u52 u53 u54 u55 u56 u57 u58 u59 u60 u61 u62 u63 u64 u65 u66 u67 u68 u69 u70 u71 u72 u73 u74 u75 u76 h0 h1 h5 h6
      have e0 : u0 = .slice p n c := h0
      have e1 : u1 = .int .i64 (deep : Nat) := h1
      have e5 : u5 = .slice q i cc := h5
      have e6 : u6 = .int .i64 (i : Nat) := h6
      clear h0 h1 h5 h6
      subst e0 e1 e5 e6
      obtain ⟨hic, hccm⟩ := hS.cap
      have hcc9 : cc ≤ 9223372036854775807 := by unfold maxLen at hccm; omega
      have HSo : Hid (Sofar w deep i q cc acc cs wr) := hS
      by_cases hb : i < n ∧ i < 10
      · obtain ⟨hb1, hb2⟩ := hb
        have hlt1 : (i : Int) < (n : Nat) := by omega
        have hlt2 : (i : Int) < 10 := by omega
        obtain ⟨g', rfl⟩ : ∃ g', gk = g' + 1 := ⟨gk - 1, by omega⟩
        obtain ⟨e, he⟩ : ∃ e, l[i]? = some e := ⟨_, List.getElem?_eq_getElem (by rw [HE.out.len]; exact hb1)⟩
        have hok := HE.out.ok i e he
        obtain ⟨b, o, rfl, hcell⟩ := (HE.out.kept hS.low).out.resolve_left (by omega)
        have c0 := hcell i e he 0 _ rfl
        have c1 := hcell i e he 1 _ rfl
        have c2 := hcell i e he 2 _ rfl
        have c3 := hcell i e he 3 _ rfl
        have c4 := hcell i e he 4 _ rfl
        have c5 := hcell i e he 5 _ rfl
        rw [Nat.add_zero] at c0
        have HOK : Hid (Okv e) := hok
        have hA : Hid (∀ W, Calls Tryd.prog 18 #[.string e.a] W fun x w' => x = .returned (.string (sho e.a)) ∧ w' = W) := fun W => short_walk e.a hok.a W
        have hB : Hid (∀ W, Calls Tryd.prog 18 #[.string e.b] W fun x w' => x = .returned (.string (sho e.b)) ∧ w' = W) := fun W => short_walk e.b hok.b W
        have hX : Hid (∀ W, Calls Tryd.prog 9 #[.agg (ev e)] W fun x w' => ∃ p c, x = .returned (.agg #[.int .i64 e.k, .string (sho e.a), .string (sho e.b), .int .i64 e.op, .int .i64 e.n, .slice p (lw 2 e.m) c]) ∧ w'.ownsRow (W.heap.size + 3) 9 1 (.slice p (lw 2 e.m) c) (lw 2 e.m) (sc (List.replicate (lw 2 e.m) (sho e.b))) ∧ Kept W w') := fun W => made_walk e hok W
        have hbm : bits .and .i64 e.m 15 = ((lw 4 e.m : Nat) : Int) := lw_bits 4 15 (by decide) (by decide) e.m
        have hl4 := lw_lt 4 e.m
        obtain ⟨k, op, nn, a, bb, m⟩ := e
        unfold ev at hX c0 c1 c2 c3 c4 c5
        dsimp only at *
        have HSA : Hid (∀ W, Kept (wr.alloc (.cells #[.int .i64 k, .int .i64 op, .int .i64 nn, .string a, .string bb, .int .i64 m] 32)) W → W.cell? ⟨wr.heap.size, 0, none⟩ = some (.int .i64 k) ∧ W.cell? ⟨wr.heap.size, 1, none⟩ = some (.int .i64 op) ∧ W.cell? ⟨wr.heap.size, 2, none⟩ = some (.int .i64 nn) ∧ W.cell? ⟨wr.heap.size, 3, none⟩ = some (.string a) ∧ W.cell? ⟨wr.heap.size, 4, none⟩ = some (.string bb) ∧ W.cell? ⟨wr.heap.size, 5, none⟩ = some (.int .i64 m)) := fun W hW => by
          have hb := hW.block (alloc_at wr _)
          exact ⟨by rw [cell_of_row _ wr.heap.size 0 _ _ _ hb]; rfl, by rw [cell_of_row _ wr.heap.size 1 _ _ _ hb]; rfl, by rw [cell_of_row _ wr.heap.size 2 _ _ _ hb]; rfl, by rw [cell_of_row _ wr.heap.size 3 _ _ _ hb]; rfl, by rw [cell_of_row _ wr.heap.size 4 _ _ _ hb]; rfl, by rw [cell_of_row _ wr.heap.size 5 _ _ _ hb]; rfl⟩
        have HZ : Hid (((wr.alloc (.cells #[.int .i64 k, .int .i64 op, .int .i64 nn, .string a, .string bb, .int .i64 m] 32)).alloc (.cells #[.int .i64 0, .int .i64 0, .string ⟨#[]⟩, .string ⟨#[]⟩, .string ⟨#[]⟩, .int .i64 0, .string ⟨#[]⟩, .string ⟨#[]⟩, .int .i64 0, .int .i64 0, .slice none 0 0, .slice none 0 0, .slice none 0 0] 67)).drew.heap[wr.heap.size + 1]? = some (.cells #[.int .i64 0, .int .i64 0, .string ⟨#[]⟩, .string ⟨#[]⟩, .string ⟨#[]⟩, .int .i64 0, .string ⟨#[]⟩, .string ⟨#[]⟩, .int .i64 0, .int .i64 0, .slice none 0 0, .slice none 0 0, .slice none 0 0] 67)) := by
          have h := alloc_at (wr.alloc (.cells #[.int .i64 k, .int .i64 op, .int .i64 nn, .string a, .string bb, .int .i64 m] 32)) (.cells #[.int .i64 0, .int .i64 0, .string ⟨#[]⟩, .string ⟨#[]⟩, .string ⟨#[]⟩, .int .i64 0, .string ⟨#[]⟩, .string ⟨#[]⟩, .int .i64 0, .int .i64 0, .slice none 0 0, .slice none 0 0, .slice none 0 0] 67)
          rw [size_alloc] at h
          exact h
        have HPUT : Hid (∀ (W : World) (pa : Option Addr) (ca : Nat), W.heap[wr.heap.size + 1]? = some (.cells #[.int .i64 0, .int .i64 0, .string ⟨#[]⟩, .string ⟨#[]⟩, .string ⟨#[]⟩, .int .i64 0, .string ⟨#[]⟩, .string ⟨#[]⟩, .int .i64 0, .int .i64 0, .slice none 0 0, .slice none 0 0, .slice none 0 0] 67) → (W.cell? ⟨wr.heap.size + 1, 0, none⟩ = some (.int .i64 0) ∧ W.frozen? ⟨wr.heap.size + 1, 0, none⟩ = false) ∧ ((W.setCell ⟨wr.heap.size + 1, 0, none⟩ (.int .i64 (lw 4 m : Nat))).cell? ⟨wr.heap.size + 1, 1, none⟩ = some (.int .i64 0) ∧ (W.setCell ⟨wr.heap.size + 1, 0, none⟩ (.int .i64 (lw 4 m : Nat))).frozen? ⟨wr.heap.size + 1, 1, none⟩ = false) ∧ (((W.setCell ⟨wr.heap.size + 1, 0, none⟩ (.int .i64 (lw 4 m : Nat))).setCell ⟨wr.heap.size + 1, 1, none⟩ (.int .i64 (i : Nat))).cell? ⟨wr.heap.size + 1, 2, none⟩ = some (.string ⟨#[]⟩) ∧ ((W.setCell ⟨wr.heap.size + 1, 0, none⟩ (.int .i64 (lw 4 m : Nat))).setCell ⟨wr.heap.size + 1, 1, none⟩ (.int .i64 (i : Nat))).frozen? ⟨wr.heap.size + 1, 2, none⟩ = false) ∧ ((((W.setCell ⟨wr.heap.size + 1, 0, none⟩ (.int .i64 (lw 4 m : Nat))).setCell ⟨wr.heap.size + 1, 1, none⟩ (.int .i64 (i : Nat))).setCell ⟨wr.heap.size + 1, 2, none⟩ (.string (sho a))).cell? ⟨wr.heap.size + 1, 3, none⟩ = some (.string ⟨#[]⟩) ∧ (((W.setCell ⟨wr.heap.size + 1, 0, none⟩ (.int .i64 (lw 4 m : Nat))).setCell ⟨wr.heap.size + 1, 1, none⟩ (.int .i64 (i : Nat))).setCell ⟨wr.heap.size + 1, 2, none⟩ (.string (sho a))).frozen? ⟨wr.heap.size + 1, 3, none⟩ = false) ∧ (((((W.setCell ⟨wr.heap.size + 1, 0, none⟩ (.int .i64 (lw 4 m : Nat))).setCell ⟨wr.heap.size + 1, 1, none⟩ (.int .i64 (i : Nat))).setCell ⟨wr.heap.size + 1, 2, none⟩ (.string (sho a))).setCell ⟨wr.heap.size + 1, 3, none⟩ (.string (sho bb))).cell? ⟨wr.heap.size + 1, 4, none⟩ = some (.string ⟨#[]⟩) ∧ ((((W.setCell ⟨wr.heap.size + 1, 0, none⟩ (.int .i64 (lw 4 m : Nat))).setCell ⟨wr.heap.size + 1, 1, none⟩ (.int .i64 (i : Nat))).setCell ⟨wr.heap.size + 1, 2, none⟩ (.string (sho a))).setCell ⟨wr.heap.size + 1, 3, none⟩ (.string (sho bb))).frozen? ⟨wr.heap.size + 1, 4, none⟩ = false) ∧ ((((((W.setCell ⟨wr.heap.size + 1, 0, none⟩ (.int .i64 (lw 4 m : Nat))).setCell ⟨wr.heap.size + 1, 1, none⟩ (.int .i64 (i : Nat))).setCell ⟨wr.heap.size + 1, 2, none⟩ (.string (sho a))).setCell ⟨wr.heap.size + 1, 3, none⟩ (.string (sho bb))).setCell ⟨wr.heap.size + 1, 4, none⟩ (.string (sho a))).cell? ⟨wr.heap.size + 1, 5, none⟩ = some (.int .i64 0) ∧ (((((W.setCell ⟨wr.heap.size + 1, 0, none⟩ (.int .i64 (lw 4 m : Nat))).setCell ⟨wr.heap.size + 1, 1, none⟩ (.int .i64 (i : Nat))).setCell ⟨wr.heap.size + 1, 2, none⟩ (.string (sho a))).setCell ⟨wr.heap.size + 1, 3, none⟩ (.string (sho bb))).setCell ⟨wr.heap.size + 1, 4, none⟩ (.string (sho a))).frozen? ⟨wr.heap.size + 1, 5, none⟩ = false) ∧ (((((((W.setCell ⟨wr.heap.size + 1, 0, none⟩ (.int .i64 (lw 4 m : Nat))).setCell ⟨wr.heap.size + 1, 1, none⟩ (.int .i64 (i : Nat))).setCell ⟨wr.heap.size + 1, 2, none⟩ (.string (sho a))).setCell ⟨wr.heap.size + 1, 3, none⟩ (.string (sho bb))).setCell ⟨wr.heap.size + 1, 4, none⟩ (.string (sho a))).setCell ⟨wr.heap.size + 1, 5, none⟩ (.int .i64 k)).cell? ⟨wr.heap.size + 1, 6, none⟩ = some (.string ⟨#[]⟩) ∧ ((((((W.setCell ⟨wr.heap.size + 1, 0, none⟩ (.int .i64 (lw 4 m : Nat))).setCell ⟨wr.heap.size + 1, 1, none⟩ (.int .i64 (i : Nat))).setCell ⟨wr.heap.size + 1, 2, none⟩ (.string (sho a))).setCell ⟨wr.heap.size + 1, 3, none⟩ (.string (sho bb))).setCell ⟨wr.heap.size + 1, 4, none⟩ (.string (sho a))).setCell ⟨wr.heap.size + 1, 5, none⟩ (.int .i64 k)).frozen? ⟨wr.heap.size + 1, 6, none⟩ = false) ∧ ((((((((W.setCell ⟨wr.heap.size + 1, 0, none⟩ (.int .i64 (lw 4 m : Nat))).setCell ⟨wr.heap.size + 1, 1, none⟩ (.int .i64 (i : Nat))).setCell ⟨wr.heap.size + 1, 2, none⟩ (.string (sho a))).setCell ⟨wr.heap.size + 1, 3, none⟩ (.string (sho bb))).setCell ⟨wr.heap.size + 1, 4, none⟩ (.string (sho a))).setCell ⟨wr.heap.size + 1, 5, none⟩ (.int .i64 k)).setCell ⟨wr.heap.size + 1, 6, none⟩ (.string (sho a))).cell? ⟨wr.heap.size + 1, 7, none⟩ = some (.string ⟨#[]⟩) ∧ (((((((W.setCell ⟨wr.heap.size + 1, 0, none⟩ (.int .i64 (lw 4 m : Nat))).setCell ⟨wr.heap.size + 1, 1, none⟩ (.int .i64 (i : Nat))).setCell ⟨wr.heap.size + 1, 2, none⟩ (.string (sho a))).setCell ⟨wr.heap.size + 1, 3, none⟩ (.string (sho bb))).setCell ⟨wr.heap.size + 1, 4, none⟩ (.string (sho a))).setCell ⟨wr.heap.size + 1, 5, none⟩ (.int .i64 k)).setCell ⟨wr.heap.size + 1, 6, none⟩ (.string (sho a))).frozen? ⟨wr.heap.size + 1, 7, none⟩ = false) ∧ (((((((((W.setCell ⟨wr.heap.size + 1, 0, none⟩ (.int .i64 (lw 4 m : Nat))).setCell ⟨wr.heap.size + 1, 1, none⟩ (.int .i64 (i : Nat))).setCell ⟨wr.heap.size + 1, 2, none⟩ (.string (sho a))).setCell ⟨wr.heap.size + 1, 3, none⟩ (.string (sho bb))).setCell ⟨wr.heap.size + 1, 4, none⟩ (.string (sho a))).setCell ⟨wr.heap.size + 1, 5, none⟩ (.int .i64 k)).setCell ⟨wr.heap.size + 1, 6, none⟩ (.string (sho a))).setCell ⟨wr.heap.size + 1, 7, none⟩ (.string (sho bb))).cell? ⟨wr.heap.size + 1, 8, none⟩ = some (.int .i64 0) ∧ ((((((((W.setCell ⟨wr.heap.size + 1, 0, none⟩ (.int .i64 (lw 4 m : Nat))).setCell ⟨wr.heap.size + 1, 1, none⟩ (.int .i64 (i : Nat))).setCell ⟨wr.heap.size + 1, 2, none⟩ (.string (sho a))).setCell ⟨wr.heap.size + 1, 3, none⟩ (.string (sho bb))).setCell ⟨wr.heap.size + 1, 4, none⟩ (.string (sho a))).setCell ⟨wr.heap.size + 1, 5, none⟩ (.int .i64 k)).setCell ⟨wr.heap.size + 1, 6, none⟩ (.string (sho a))).setCell ⟨wr.heap.size + 1, 7, none⟩ (.string (sho bb))).frozen? ⟨wr.heap.size + 1, 8, none⟩ = false) ∧ ((((((((((W.setCell ⟨wr.heap.size + 1, 0, none⟩ (.int .i64 (lw 4 m : Nat))).setCell ⟨wr.heap.size + 1, 1, none⟩ (.int .i64 (i : Nat))).setCell ⟨wr.heap.size + 1, 2, none⟩ (.string (sho a))).setCell ⟨wr.heap.size + 1, 3, none⟩ (.string (sho bb))).setCell ⟨wr.heap.size + 1, 4, none⟩ (.string (sho a))).setCell ⟨wr.heap.size + 1, 5, none⟩ (.int .i64 k)).setCell ⟨wr.heap.size + 1, 6, none⟩ (.string (sho a))).setCell ⟨wr.heap.size + 1, 7, none⟩ (.string (sho bb))).setCell ⟨wr.heap.size + 1, 8, none⟩ (.int .i64 op)).cell? ⟨wr.heap.size + 1, 9, none⟩ = some (.int .i64 0) ∧ (((((((((W.setCell ⟨wr.heap.size + 1, 0, none⟩ (.int .i64 (lw 4 m : Nat))).setCell ⟨wr.heap.size + 1, 1, none⟩ (.int .i64 (i : Nat))).setCell ⟨wr.heap.size + 1, 2, none⟩ (.string (sho a))).setCell ⟨wr.heap.size + 1, 3, none⟩ (.string (sho bb))).setCell ⟨wr.heap.size + 1, 4, none⟩ (.string (sho a))).setCell ⟨wr.heap.size + 1, 5, none⟩ (.int .i64 k)).setCell ⟨wr.heap.size + 1, 6, none⟩ (.string (sho a))).setCell ⟨wr.heap.size + 1, 7, none⟩ (.string (sho bb))).setCell ⟨wr.heap.size + 1, 8, none⟩ (.int .i64 op)).frozen? ⟨wr.heap.size + 1, 9, none⟩ = false) ∧ (((((((((((W.setCell ⟨wr.heap.size + 1, 0, none⟩ (.int .i64 (lw 4 m : Nat))).setCell ⟨wr.heap.size + 1, 1, none⟩ (.int .i64 (i : Nat))).setCell ⟨wr.heap.size + 1, 2, none⟩ (.string (sho a))).setCell ⟨wr.heap.size + 1, 3, none⟩ (.string (sho bb))).setCell ⟨wr.heap.size + 1, 4, none⟩ (.string (sho a))).setCell ⟨wr.heap.size + 1, 5, none⟩ (.int .i64 k)).setCell ⟨wr.heap.size + 1, 6, none⟩ (.string (sho a))).setCell ⟨wr.heap.size + 1, 7, none⟩ (.string (sho bb))).setCell ⟨wr.heap.size + 1, 8, none⟩ (.int .i64 op)).setCell ⟨wr.heap.size + 1, 9, none⟩ (.int .i64 nn)).cell? ⟨wr.heap.size + 1, 10, none⟩ = some (.slice none 0 0) ∧ ((((((((((W.setCell ⟨wr.heap.size + 1, 0, none⟩ (.int .i64 (lw 4 m : Nat))).setCell ⟨wr.heap.size + 1, 1, none⟩ (.int .i64 (i : Nat))).setCell ⟨wr.heap.size + 1, 2, none⟩ (.string (sho a))).setCell ⟨wr.heap.size + 1, 3, none⟩ (.string (sho bb))).setCell ⟨wr.heap.size + 1, 4, none⟩ (.string (sho a))).setCell ⟨wr.heap.size + 1, 5, none⟩ (.int .i64 k)).setCell ⟨wr.heap.size + 1, 6, none⟩ (.string (sho a))).setCell ⟨wr.heap.size + 1, 7, none⟩ (.string (sho bb))).setCell ⟨wr.heap.size + 1, 8, none⟩ (.int .i64 op)).setCell ⟨wr.heap.size + 1, 9, none⟩ (.int .i64 nn)).frozen? ⟨wr.heap.size + 1, 10, none⟩ = false) ∧ ((((((((((((W.setCell ⟨wr.heap.size + 1, 0, none⟩ (.int .i64 (lw 4 m : Nat))).setCell ⟨wr.heap.size + 1, 1, none⟩ (.int .i64 (i : Nat))).setCell ⟨wr.heap.size + 1, 2, none⟩ (.string (sho a))).setCell ⟨wr.heap.size + 1, 3, none⟩ (.string (sho bb))).setCell ⟨wr.heap.size + 1, 4, none⟩ (.string (sho a))).setCell ⟨wr.heap.size + 1, 5, none⟩ (.int .i64 k)).setCell ⟨wr.heap.size + 1, 6, none⟩ (.string (sho a))).setCell ⟨wr.heap.size + 1, 7, none⟩ (.string (sho bb))).setCell ⟨wr.heap.size + 1, 8, none⟩ (.int .i64 op)).setCell ⟨wr.heap.size + 1, 9, none⟩ (.int .i64 nn)).setCell ⟨wr.heap.size + 1, 10, none⟩ (.slice pa (lw 2 m) ca)).cell? ⟨wr.heap.size + 1, 11, none⟩ = some (.slice none 0 0) ∧ (((((((((((W.setCell ⟨wr.heap.size + 1, 0, none⟩ (.int .i64 (lw 4 m : Nat))).setCell ⟨wr.heap.size + 1, 1, none⟩ (.int .i64 (i : Nat))).setCell ⟨wr.heap.size + 1, 2, none⟩ (.string (sho a))).setCell ⟨wr.heap.size + 1, 3, none⟩ (.string (sho bb))).setCell ⟨wr.heap.size + 1, 4, none⟩ (.string (sho a))).setCell ⟨wr.heap.size + 1, 5, none⟩ (.int .i64 k)).setCell ⟨wr.heap.size + 1, 6, none⟩ (.string (sho a))).setCell ⟨wr.heap.size + 1, 7, none⟩ (.string (sho bb))).setCell ⟨wr.heap.size + 1, 8, none⟩ (.int .i64 op)).setCell ⟨wr.heap.size + 1, 9, none⟩ (.int .i64 nn)).setCell ⟨wr.heap.size + 1, 10, none⟩ (.slice pa (lw 2 m) ca)).frozen? ⟨wr.heap.size + 1, 11, none⟩ = false) ∧ (((((((((((((W.setCell ⟨wr.heap.size + 1, 0, none⟩ (.int .i64 (lw 4 m : Nat))).setCell ⟨wr.heap.size + 1, 1, none⟩ (.int .i64 (i : Nat))).setCell ⟨wr.heap.size + 1, 2, none⟩ (.string (sho a))).setCell ⟨wr.heap.size + 1, 3, none⟩ (.string (sho bb))).setCell ⟨wr.heap.size + 1, 4, none⟩ (.string (sho a))).setCell ⟨wr.heap.size + 1, 5, none⟩ (.int .i64 k)).setCell ⟨wr.heap.size + 1, 6, none⟩ (.string (sho a))).setCell ⟨wr.heap.size + 1, 7, none⟩ (.string (sho bb))).setCell ⟨wr.heap.size + 1, 8, none⟩ (.int .i64 op)).setCell ⟨wr.heap.size + 1, 9, none⟩ (.int .i64 nn)).setCell ⟨wr.heap.size + 1, 10, none⟩ (.slice pa (lw 2 m) ca)).setCell ⟨wr.heap.size + 1, 11, none⟩ (.slice none 0 0)).cell? ⟨wr.heap.size + 1, 12, none⟩ = some (.slice none 0 0) ∧ ((((((((((((W.setCell ⟨wr.heap.size + 1, 0, none⟩ (.int .i64 (lw 4 m : Nat))).setCell ⟨wr.heap.size + 1, 1, none⟩ (.int .i64 (i : Nat))).setCell ⟨wr.heap.size + 1, 2, none⟩ (.string (sho a))).setCell ⟨wr.heap.size + 1, 3, none⟩ (.string (sho bb))).setCell ⟨wr.heap.size + 1, 4, none⟩ (.string (sho a))).setCell ⟨wr.heap.size + 1, 5, none⟩ (.int .i64 k)).setCell ⟨wr.heap.size + 1, 6, none⟩ (.string (sho a))).setCell ⟨wr.heap.size + 1, 7, none⟩ (.string (sho bb))).setCell ⟨wr.heap.size + 1, 8, none⟩ (.int .i64 op)).setCell ⟨wr.heap.size + 1, 9, none⟩ (.int .i64 nn)).setCell ⟨wr.heap.size + 1, 10, none⟩ (.slice pa (lw 2 m) ca)).setCell ⟨wr.heap.size + 1, 11, none⟩ (.slice none 0 0)).frozen? ⟨wr.heap.size + 1, 12, none⟩ = false)) := fun W pa ca hz => by
          obtain ⟨⟨r0, f0⟩, ⟨r1, f1⟩, ⟨r2, f2⟩, ⟨r3, f3⟩, ⟨r4, f4⟩, ⟨r5, f5⟩, ⟨r6, f6⟩, ⟨r7, f7⟩, ⟨r8, f8⟩, ⟨r9, f9⟩, ⟨r10, f10⟩, ⟨r11, f11⟩, ⟨r12, f12⟩, _⟩ := put13 hz (.int .i64 (lw 4 m : Nat)) (.int .i64 (i : Nat)) (.string (sho a)) (.string (sho bb)) (.string (sho a)) (.int .i64 k) (.string (sho a)) (.string (sho bb)) (.int .i64 op) (.int .i64 nn) (.slice pa (lw 2 m) ca) (.slice none 0 0) (.slice none 0 0)
          exact ⟨⟨r0, f0⟩, ⟨r1, f1⟩, ⟨r2, f2⟩, ⟨r3, f3⟩, ⟨r4, f4⟩, ⟨r5, f5⟩, ⟨r6, f6⟩, ⟨r7, f7⟩, ⟨r8, f8⟩, ⟨r9, f9⟩, ⟨r10, f10⟩, ⟨r11, f11⟩, ⟨r12, f12⟩⟩
        have HPF : Hid (∀ (W : World) (pa : Option Addr) (ca : Nat), W.heap[wr.heap.size + 1]? = some (.cells #[.int .i64 0, .int .i64 0, .string ⟨#[]⟩, .string ⟨#[]⟩, .string ⟨#[]⟩, .int .i64 0, .string ⟨#[]⟩, .string ⟨#[]⟩, .int .i64 0, .int .i64 0, .slice none 0 0, .slice none 0 0, .slice none 0 0] 67) → (((((((((((((W.setCell ⟨wr.heap.size + 1, 0, none⟩ (.int .i64 (lw 4 m : Nat))).setCell ⟨wr.heap.size + 1, 1, none⟩ (.int .i64 (i : Nat))).setCell ⟨wr.heap.size + 1, 2, none⟩ (.string (sho a))).setCell ⟨wr.heap.size + 1, 3, none⟩ (.string (sho bb))).setCell ⟨wr.heap.size + 1, 4, none⟩ (.string (sho a))).setCell ⟨wr.heap.size + 1, 5, none⟩ (.int .i64 k)).setCell ⟨wr.heap.size + 1, 6, none⟩ (.string (sho a))).setCell ⟨wr.heap.size + 1, 7, none⟩ (.string (sho bb))).setCell ⟨wr.heap.size + 1, 8, none⟩ (.int .i64 op)).setCell ⟨wr.heap.size + 1, 9, none⟩ (.int .i64 nn)).setCell ⟨wr.heap.size + 1, 10, none⟩ (.slice pa (lw 2 m) ca)).setCell ⟨wr.heap.size + 1, 11, none⟩ (.slice none 0 0)).setCell ⟨wr.heap.size + 1, 12, none⟩ (.slice none 0 0)).heap[wr.heap.size + 1]? = some (.cells #[.int .i64 (lw 4 m : Nat), .int .i64 (i : Nat), .string (sho a), .string (sho bb), .string (sho a), .int .i64 k, .string (sho a), .string (sho bb), .int .i64 op, .int .i64 nn, .slice pa (lw 2 m) ca, .slice none 0 0, .slice none 0 0] 67)) := fun W pa ca hz => by
          obtain ⟨_, _, _, _, _, _, _, _, _, _, _, _, _, h⟩ := put13 hz (.int .i64 (lw 4 m : Nat)) (.int .i64 (i : Nat)) (.string (sho a)) (.string (sho bb)) (.string (sho a)) (.int .i64 k) (.string (sho a)) (.string (sho bb)) (.int .i64 op) (.int .i64 nn) (.slice pa (lw 2 m) ca) (.slice none 0 0) (.slice none 0 0)
          exact h
        have HW1 : Hid ((wr.alloc (.cells #[.int .i64 k, .int .i64 op, .int .i64 nn, .string a, .string bb, .int .i64 m] 32)).heap.size ≤ wr.heap.size + 1) := by show _ ≤ _; rw [size_alloc]; exact Nat.le_refl _
        clear hcell he hok hS hccm
        go_upto_region 6 with fail
        obtain ⟨Qb, hQ⟩ : ∃ Qb : Exit → Act → World → Prop, Qb = (fun ex1 fr1 w1 => ex1 = .normal ∧ ∃ (tm : Array Value) (h : Nat) (pa : Option Addr) (ca : Nat), fr1 = ⟨tm, []⟩ ∧ tm.size = 77 ∧ tm.getD 0 undef = .slice (some ⟨b, o, none⟩) n c ∧ tm.getD 1 undef = .int .i64 (deep : Nat) ∧ tm.getD 5 undef = .slice q i cc ∧ tm.getD 6 undef = .int .i64 (i : Nat) ∧ tm.getD 7 undef = .pointer (some ⟨wr.heap.size, 0, none⟩) ∧ tm.getD 8 undef = .pointer (some ⟨h, 0, none⟩) ∧ Stm wr (⟨k, op, nn, a, bb, m⟩ : Ev) i wr.heap.size h pa ca none 0 0 none 0 0 w1) := ⟨_, rfl⟩
        have HQ : Hid _ := hQ
        clear hQ
        refine wp_mono (show Code.wp _ _ Qb _ _ from ?_) ?_
        · clear IH HOK HE HS0 HSo c0 c1 c2 c3 c4 c5 hJ hK
          go_region_held3 (fun W => W.cell? ⟨wr.heap.size, 0, none⟩ = some (.int .i64 k) ∧ W.cell? ⟨wr.heap.size, 1, none⟩ = some (.int .i64 op) ∧ W.cell? ⟨wr.heap.size, 2, none⟩ = some (.int .i64 nn) ∧ W.cell? ⟨wr.heap.size, 3, none⟩ = some (.string a) ∧ W.cell? ⟨wr.heap.size, 4, none⟩ = some (.string bb) ∧ W.cell? ⟨wr.heap.size, 5, none⟩ = some (.int .i64 m)) (exact HSA.out _ (by (repeat (first | (with_reducible refine kept_set ?_ HW1.out _) | assumption | exact Kept.refl _ | apply Kept.drew | apply Kept.alloc)))) (first
            | (go_at_call 18; (with_reducible refine (hA.out _).mono ?_); rintro e w1 ⟨rfl, rfl⟩)
            | (go_at_call 18; (with_reducible refine (hB.out _).mono ?_); rintro e w1 ⟨rfl, rfl⟩)
            | (go_at_call 9; (with_reducible refine (hX.out _).mono ?_); rintro x w3 ⟨pa, ca, rfl, hay, hk3⟩; have hkb : Kept (wr.alloc (.cells #[.int .i64 k, .int .i64 op, .int .i64 nn, .string a, .string bb, .int .i64 m] 32)) w3 := Kept.trans (by (repeat (first | (with_reducible refine kept_set ?_ HW1.out _) | assumption | exact Kept.refl _ | apply Kept.drew | apply Kept.alloc))) hk3; have HAY : Hid (w3.ownsRow (wr.heap.size + 2) 9 1 (.slice pa (lw 2 m) ca) (lw 2 m) (sc (List.replicate (lw 2 m) (sho bb)))) := own_from (wr := wr) (o := .cells #[.int .i64 k, .int .i64 op, .int .i64 nn, .string a, .string bb, .int .i64 m] 32) (by (repeat (first | (with_reducible refine kept_set ?_ HW1.out _) | assumption | exact Kept.refl _ | apply Kept.drew | apply Kept.alloc))) hay; clear hay; have HKB : Hid _ := hkb; first | (have hz : w3.heap[wr.heap.size + 1]? = some (.cells #[.int .i64 0, .int .i64 0, .string ⟨#[]⟩, .string ⟨#[]⟩, .string ⟨#[]⟩, .int .i64 0, .string ⟨#[]⟩, .string ⟨#[]⟩, .int .i64 0, .int .i64 0, .slice none 0 0, .slice none 0 0, .slice none 0 0] 67) := (by with_reducible exact hk3.block HZ.out); have hp := HPUT.out w3 pa ca hz; have HF1 : Hid _ := HPF.out w3 pa ca hz; clear hz hk3) | (clear hk3; skip))
            | fail)
          all_goals rw [HQ.out]
          all_goals try (refine ⟨rfl, _, w3.heap.size, pa, ca, rfl, rfl, rfl, rfl, rfl, rfl, rfl, rfl, ?_⟩; exact stm_late HKB.out HAY.out)
          all_goals refine ⟨rfl, _, wr.heap.size + 1, pa, ca, rfl, rfl, rfl, rfl, rfl, rfl, rfl, rfl, ?_⟩
          all_goals exact stm_early HKB.out HAY.out (fun g hg => set_other13 hg _ _ _ _ _ _ _ _ _ _ _ _ _) HF1.out (kept_set13 (((Kept.refl wr).alloc _).trans HKB.out) (Nat.le_succ _) _ _ _ _ _ _ _ _ _ _ _ _ _)
        · rw [HQ.out]
          rintro ex1 fr1 wa ⟨rfl, tm, h, pa, ca, rfl, hsz1, s0, s1, s5, s6, s7, s8, hst⟩
          have HST : Hid _ := hst
          clear hst c0 c1 c2 c3 c4 c5 hA hB hX HSA HZ HPUT HPF HW1 hbm
          revert tm
          refine lit77 ?_
          intro v0 v1 v2 v3 v4 v5 v6 v7 v8 v9 v10 v11 v12 v13 v14 v15 v16 v17 v18 v19 v20 v21 v22 v23 v24 v25 v26 v27 v28 v29 v30 v31 v32 v33 v34 v35 v36 v37 v38 v39 v40 v41 v42 v43 v44 v45 v46 v47 v48 v49 v50 v51 v52 v53 v54 v55 v56 v57 v58 v59 v60 v61 v62 v63 v64 v65 v66 v67 v68 v69 v70 v71 v72 v73 v74 v75 v76 s0 s1 s5 s6 s7 s8
          have e0 : v0 = .slice (some ⟨b, o, none⟩) n c := s0
          have e1 : v1 = .int .i64 (deep : Nat) := s1
          have e5 : v5 = .slice q i cc := s5
          have e6 : v6 = .int .i64 (i : Nat) := s6
          have e7 : v7 = .pointer (some ⟨wr.heap.size, 0, none⟩) := s7
          have e8 : v8 = .pointer (some ⟨h, 0, none⟩) := s8
          clear s0 s1 s5 s6 s7 s8
          subst e0 e1 e5 e6 e7 e8
          apply_assumption
          refine wp_seq ?_
          obtain ⟨Qb, hQ⟩ : ∃ Qb : Exit → Act → World → Prop, Qb = (fun ex1 fr1 w1 => ex1 = .normal ∧ ∃ (tm : Array Value) (pb : Option Addr) (nb cb : Nat) (sb : Sts), fr1 = ⟨tm, []⟩ ∧ tm.size = 77 ∧ tm.getD 0 undef = .slice (some ⟨b, o, none⟩) n c ∧ tm.getD 1 undef = .int .i64 (deep : Nat) ∧ tm.getD 5 undef = .slice q i cc ∧ tm.getD 6 undef = .int .i64 (i : Nat) ∧ tm.getD 7 undef = .pointer (some ⟨wr.heap.size, 0, none⟩) ∧ tm.getD 8 undef = .pointer (some ⟨h, 0, none⟩) ∧ Stm wr (⟨k, op, nn, a, bb, m⟩ : Ev) i wr.heap.size h pa ca pb nb cb none 0 0 w1 ∧ Ba (fun k => wr.heap.size ≤ k ∧ k ≠ h) w1 pb nb cb sb deep) := ⟨_, rfl⟩
          have HQ : Hid _ := hQ
          clear hQ
          refine wp_mono (show Code.wp _ _ Qb _ _ from ?_) ?_
          · clear hJ hK
            by_cases hd : deep = 0
            · have hd0 : ¬ (0 : Int) < (deep : Nat) := by omega
              clear hd
              go_wp2
              rw [HQ.out]
              exact ⟨rfl, _, none, 0, 0, .nil, rfl, rfl, rfl, rfl, rfl, rfl, rfl, rfl, HST.out, ba_nil _ _ _⟩
            · have hd1 : (0 : Int) < (deep : Nat) := by omega
              have hd2 : (deep : Int) ≤ 2 := by omega
              obtain ⟨d, hdd0⟩ : ∃ d, d + 1 = deep := ⟨deep - 1, by omega⟩
              have hdd : (deep : Int) - 1 = (d : Nat) := by omega
              have IHd0 := IH.out d hdd0
              unfold Mk at IHd0
              have IHd : Hid _ := IHd0
              clear IHd0
              have xop : wa.cell? ⟨wr.heap.size, 1, none⟩ = some (.int .i64 op) := by rw [cell_of_row _ _ 1 _ _ _ HST.out.ec]; rfl
              have HDD : Hid (d + 1 = deep) := hdd0
              clear hdd0 hd
              by_cases hq : bits .and .i64 op 1 = 1
              · obtain ⟨qa, hsl, hqa⟩ := tail_slice b o n c (i + 1) (by omega) wa
                have hsl' : (Instr.sliceAt 22 (.slice (some ⟨b, o, none⟩) n c) (some (.int .i64 ((i : Int) + 1))) none none).run Tryd.prog wa = .ok (.slice (some qa) (n - (i + 1)) (c - (i + 1))) wa := hsl
                have HEs : Hid (Es wa (some qa) (n - (i + 1)) (c - (i + 1)) (l.drop (i + 1))) := ((HE.out.kept HSo.out.low).kept HST.out.low).tail (i + 1) (by omega) hqa
                clear hsl hqa
                go_wp2_with (go_at_call 19; ((with_reducible refine (IHd.out wa _ _ _ _ HEs.out).mono ?_); rintro x w2 ⟨q2, m2, c2, s2, rfl, hs2, ok2, dp2, sz2, hk2⟩; have hcl := HST.out.cells hk2; obtain ⟨⟨x11, f11⟩, x12, f12⟩ := hcl; have HR : Hid (Kept wa w2 ∧ (∀ V, Kp (wa.heap.size ≤ ·) w2 V → Sl V q2 m2 c2 s2) ∧ s2.Ok ∧ s2.dp ≤ d + 1 ∧ s2.sz ≤ 10 * Cst d) := ⟨hk2, hs2, ok2, dp2, sz2⟩; clear hk2 hs2 ok2 dp2 sz2))
                obtain ⟨hk2, hs2, ok2, dp2, sz2⟩ := HR.out
                obtain rfl := HDD.out
                rw [HQ.out]
                exact ⟨rfl, _, q2, m2, c2, s2, rfl, rfl, rfl, rfl, rfl, rfl, rfl, rfl, HST.out.setB hk2 q2 m2 c2, ba_of HST.out.lt HST.out.low.size hs2 ok2 dp2 sz2 _⟩
              · go_wp2
                rw [HQ.out]
                exact ⟨rfl, _, none, 0, 0, .nil, rfl, rfl, rfl, rfl, rfl, rfl, rfl, rfl, HST.out, ba_nil _ _ _⟩
          · rw [HQ.out]
            rintro ex1 fr1 wb ⟨rfl, tm, pb, nb, cb, sb, rfl, hsz2, s0, s1, s5, s6, s7, s8, hst, hbb⟩
            clear HST HQ Qb
            have HST : Hid _ := hst
            have HBB : Hid _ := hbb
            clear hst hbb
            revert tm
            refine lit77 ?_
            intro y0 y1 y2 y3 y4 y5 y6 y7 y8 y9 y10 y11 y12 y13 y14 y15 y16 y17 y18 y19 y20 y21 y22 y23 y24 y25 y26 y27 y28 y29 y30 y31 y32 y33 y34 y35 y36 y37 y38 y39 y40 y41 y42 y43 y44 y45 y46 y47 y48 y49 y50 y51 y52 y53 y54 y55 y56 y57 y58 y59 y60 y61 y62 y63 y64 y65 y66 y67 y68 y69 y70 y71 y72 y73 y74 y75 y76 s0 s1 s5 s6 s7 s8
            have e0 : y0 = .slice (some ⟨b, o, none⟩) n c := s0
            have e1 : y1 = .int .i64 (deep : Nat) := s1
            have e5 : y5 = .slice q i cc := s5
            have e6 : y6 = .int .i64 (i : Nat) := s6
            have e7 : y7 = .pointer (some ⟨wr.heap.size, 0, none⟩) := s7
            have e8 : y8 = .pointer (some ⟨h, 0, none⟩) := s8
            clear s0 s1 s5 s6 s7 s8
            subst e0 e1 e5 e6 e7 e8
            simp only [Exit.then]
            refine wp_seq ?_
            obtain ⟨Qb, hQ⟩ : ∃ Qb : Exit → Act → World → Prop, Qb = (fun ex1 fr1 w1 => ex1 = .normal ∧ ∃ (tm : Array Value) (pe : Option Addr) (ne ce : Nat) (se : Sts), fr1 = ⟨tm, []⟩ ∧ tm.size = 77 ∧ tm.getD 0 undef = .slice (some ⟨b, o, none⟩) n c ∧ tm.getD 1 undef = .int .i64 (deep : Nat) ∧ tm.getD 5 undef = .slice q i cc ∧ tm.getD 6 undef = .int .i64 (i : Nat) ∧ tm.getD 7 undef = .pointer (some ⟨wr.heap.size, 0, none⟩) ∧ tm.getD 8 undef = .pointer (some ⟨h, 0, none⟩) ∧ Stm wr (⟨k, op, nn, a, bb, m⟩ : Ev) i wr.heap.size h pa ca pb nb cb pe ne ce w1 ∧ Ba (fun k => wr.heap.size ≤ k ∧ k ≠ h) w1 pb nb cb sb deep ∧ Ba (fun k => wr.heap.size ≤ k ∧ k ≠ h) w1 pe ne ce se deep) := ⟨_, rfl⟩
            have HQ : Hid _ := hQ
            clear hQ
            refine wp_mono (show Code.wp _ _ Qb _ _ from ?_) ?_
            · clear hJ hK
              by_cases hd : deep = 0
              · have hd0 : ¬ (0 : Int) < (deep : Nat) := by omega
                clear hd
                go_wp2
                rw [HQ.out]
                exact ⟨rfl, _, none, 0, 0, .nil, rfl, rfl, rfl, rfl, rfl, rfl, rfl, rfl, HST.out, HBB.out, ba_nil _ _ _⟩
              · have hd1 : (0 : Int) < (deep : Nat) := by omega
                have hd2 : (deep : Int) ≤ 2 := by omega
                obtain ⟨d, hdd0⟩ : ∃ d, d + 1 = deep := ⟨deep - 1, by omega⟩
                have hdd : (deep : Int) - 1 = (d : Nat) := by omega
                have IHd0 := IH.out d hdd0
                unfold Mk at IHd0
                have IHd : Hid _ := IHd0
                clear IHd0
                have xop : wb.cell? ⟨wr.heap.size, 1, none⟩ = some (.int .i64 op) := by rw [cell_of_row _ _ 1 _ _ _ HST.out.ec]; rfl
                have HDD : Hid (d + 1 = deep) := hdd0
                clear hdd0 hd
                by_cases hq : bits .and .i64 op 2 = 2
                · obtain ⟨qa, hsl, hqa⟩ := tail_slice b o n c (i + 1) (by omega) wb
                  have hsl' : (Instr.sliceAt 22 (.slice (some ⟨b, o, none⟩) n c) (some (.int .i64 ((i : Int) + 1))) none none).run Tryd.prog wb = .ok (.slice (some qa) (n - (i + 1)) (c - (i + 1))) wb := hsl
                  have HEs : Hid (Es wb (some qa) (n - (i + 1)) (c - (i + 1)) (l.drop (i + 1))) := ((HE.out.kept HSo.out.low).kept HST.out.low).tail (i + 1) (by omega) hqa
                  clear hsl hqa
                  go_wp2_with (go_at_call 19; ((with_reducible refine (IHd.out wb _ _ _ _ HEs.out).mono ?_); rintro x w2 ⟨q2, m2, c2, s2, rfl, hs2, ok2, dp2, sz2, hk2⟩; have hcl := HST.out.cells hk2; obtain ⟨⟨x11, f11⟩, x12, f12⟩ := hcl; have HR : Hid (Kept wb w2 ∧ (∀ V, Kp (wb.heap.size ≤ ·) w2 V → Sl V q2 m2 c2 s2) ∧ s2.Ok ∧ s2.dp ≤ d + 1 ∧ s2.sz ≤ 10 * Cst d) := ⟨hk2, hs2, ok2, dp2, sz2⟩; clear hk2 hs2 ok2 dp2 sz2))
                  obtain ⟨hk2, hs2, ok2, dp2, sz2⟩ := HR.out
                  obtain rfl := HDD.out
                  rw [HQ.out]
                  exact ⟨rfl, _, q2, m2, c2, s2, rfl, rfl, rfl, rfl, rfl, rfl, rfl, rfl, HST.out.setE hk2 q2 m2 c2, HBB.out.stay (kp_set hk2 _) (fun _ _ h => h), ba_of HST.out.lt HST.out.low.size hs2 ok2 dp2 sz2 _⟩
                · go_wp2
                  rw [HQ.out]
                  exact ⟨rfl, _, none, 0, 0, .nil, rfl, rfl, rfl, rfl, rfl, rfl, rfl, rfl, HST.out, HBB.out, ba_nil _ _ _⟩
            · rw [HQ.out]
              rintro ex1 fr1 wc ⟨rfl, tm, pe, ne, ce, se, rfl, hsz3, s0, s1, s5, s6, s7, s8, hst, hbb, hbe⟩
              clear HST HBB HQ Qb
              have HST : Hid _ := hst
              have HBB : Hid _ := And.intro hbb hbe
              have hH := hst.row
              clear hst hbb hbe
              revert tm
              refine lit77 ?_
              intro z0 z1 z2 z3 z4 z5 z6 z7 z8 z9 z10 z11 z12 z13 z14 z15 z16 z17 z18 z19 z20 z21 z22 z23 z24 z25 z26 z27 z28 z29 z30 z31 z32 z33 z34 z35 z36 z37 z38 z39 z40 z41 z42 z43 z44 z45 z46 z47 z48 z49 z50 z51 z52 z53 z54 z55 z56 z57 z58 z59 z60 z61 z62 z63 z64 z65 z66 z67 z68 z69 z70 z71 z72 z73 z74 z75 z76 s0 s1 s5 s6 s7 s8
              have e0 : z0 = .slice (some ⟨b, o, none⟩) n c := s0
              have e1 : z1 = .int .i64 (deep : Nat) := s1
              have e5 : z5 = .slice q i cc := s5
              have e6 : z6 = .int .i64 (i : Nat) := s6
              have e7 : z7 = .pointer (some ⟨wr.heap.size, 0, none⟩) := s7
              have e8 : z8 = .pointer (some ⟨h, 0, none⟩) := s8
              clear s0 s1 s5 s6 s7 s8
              subst e0 e1 e5 e6 e7 e8
              simp only [Exit.then]
              have x0 : wc.cell? ⟨h, 0, none⟩ = some (.int .i64 (lw 4 m : Nat)) := by rw [cell_of_row _ _ 0 _ _ _ hH]; rfl
              have x1 : wc.cell? ⟨h, 1, none⟩ = some (.int .i64 (i : Nat)) := by rw [cell_of_row _ _ 1 _ _ _ hH]; rfl
              have x2 : wc.cell? ⟨h, 2, none⟩ = some (.string (sho a)) := by rw [cell_of_row _ _ 2 _ _ _ hH]; rfl
              have x3 : wc.cell? ⟨h, 3, none⟩ = some (.string (sho bb)) := by rw [cell_of_row _ _ 3 _ _ _ hH]; rfl
              have x4 : wc.cell? ⟨h, 4, none⟩ = some (.string (sho a)) := by rw [cell_of_row _ _ 4 _ _ _ hH]; rfl
              have x5 : wc.cell? ⟨h, 5, none⟩ = some (.int .i64 k) := by rw [cell_of_row _ _ 5 _ _ _ hH]; rfl
              have x6 : wc.cell? ⟨h, 6, none⟩ = some (.string (sho a)) := by rw [cell_of_row _ _ 6 _ _ _ hH]; rfl
              have x7 : wc.cell? ⟨h, 7, none⟩ = some (.string (sho bb)) := by rw [cell_of_row _ _ 7 _ _ _ hH]; rfl
              have x8 : wc.cell? ⟨h, 8, none⟩ = some (.int .i64 op) := by rw [cell_of_row _ _ 8 _ _ _ hH]; rfl
              have x9 : wc.cell? ⟨h, 9, none⟩ = some (.int .i64 nn) := by rw [cell_of_row _ _ 9 _ _ _ hH]; rfl
              have x10 : wc.cell? ⟨h, 10, none⟩ = some (.slice pa (lw 2 m) ca) := by rw [cell_of_row _ _ 10 _ _ _ hH]; rfl
              have x11 : wc.cell? ⟨h, 11, none⟩ = some (.slice pb nb cb) := by rw [cell_of_row _ _ 11 _ _ _ hH]; rfl
              have x12 : wc.cell? ⟨h, 12, none⟩ = some (.slice pe ne ce) := by rw [cell_of_row _ _ 12 _ _ _ hH]; rfl
              have HN : Hid (∀ (j : Nat) (u : Value), (stc (lw 4 m : Nat) (i : Nat) (sho a) (sho bb) (sho a) (mx (⟨k, op, nn, a, bb, m⟩ : Ev)) pa (lw 2 m) ca pb nb cb pe ne ce)[j]? = some u → (wc.alloc (.cells #[.int .i64 (lw 4 m : Nat), .int .i64 (i : Nat), .string (sho a), .string (sho bb), .string (sho a), .int .i64 k, .string (sho a), .string (sho bb), .int .i64 op, .int .i64 nn, .slice pa (lw 2 m) ca, .slice pb nb cb, .slice pe ne ce] 67)).cell? ((⟨wc.heap.size, 0, none⟩ : Addr).add j) = some u) := fun j u hj => by
                rw [Addr.add_lit, Nat.zero_add, cell_of_row _ _ j _ _ _ (alloc_at wc _), ← Array.getElem?_toList]
                exact hj
              have HOW : Hid ((wc.alloc (.cells #[.int .i64 (lw 4 m : Nat), .int .i64 (i : Nat), .string (sho a), .string (sho bb), .string (sho a), .int .i64 k, .string (sho a), .string (sho bb), .int .i64 op, .int .i64 nn, .slice pa (lw 2 m) ca, .slice pb nb cb, .slice pe ne ce] 67)).ownsRow w.heap.size 67 13 (.slice q i cc) i cs) := own_kept HSo.out.own ((HST.out.low).alloc _)
              have HLE : Hid (w.heap.size ≤ (wc.alloc (.cells #[.int .i64 (lw 4 m : Nat), .int .i64 (i : Nat), .string (sho a), .string (sho bb), .string (sho a), .int .i64 k, .string (sho a), .string (sho bb), .int .i64 op, .int .i64 nn, .slice pa (lw 2 m) ca, .slice pb nb cb, .slice pe ne ce] 67)).heap.size) := ((HSo.out.low.trans HST.out.low).alloc _).size
              clear hH
              go_wp2_with (at_builtin; refine wpList_append_at _ rfl _ _ 45 rfl w.heap.size 67 i0 _ 13 192 Tryd.underlying45 hi0 hz0 hz1 hz2 rfl (by decide) (.slice q i cc) i cs rfl HOW.out ⟨wc.heap.size, 0, none⟩ 1 1 (stc (lw 4 m : Nat) (i : Nat) (sho a) (sho bb) (sho a) (mx (⟨k, op, nn, a, bb, m⟩ : Ev)) pa (lw 2 m) ca pb nb cb pe ne ce) rfl rfl HN.out (stc_one _ _ _ _ _ _ _ _ _ _ _ _ _ _ _) (by unfold maxLen; omega) (by omega) HLE.out ?_; intro v' w5 o5 g5 n5; obtain ⟨q5, c5, rfl⟩ := owns_shape' o5; have hmo := HSo.out.more HOK.out HST.out HBB.out.1 HBB.out.2 o5 g5 n5; have HMO : Hid _ := hmo; clear hmo o5 g5 n5)
              obtain ⟨acc', cs', hS'⟩ := HMO.out
              refine Handed.intro g' (Nat.lt_succ_self g') (hJ _ _ _ ?_)
              exact ⟨_, rfl, rfl, i + 1, q5, c5, acc', cs', rfl, rfl, rfl, (show Value.int .i64 ((i : Int) + 1) = .int .i64 ((i + 1 : Nat) : Int) by go_num), by omega, by omega, hS'⟩
      · have HK : Hid _ := HSo.out.ends (by omega)
        by_cases hc1 : i < n
        · have h1 : (i : Int) < (n : Nat) := by omega
          have h2 : ¬ (i : Int) < 10 := by omega
          clear hb hg hc1 hS
          go_wp2
          go_ret
          obtain ⟨s, s1, s2, s3, s4, s5⟩ := HK.out
          exact ⟨q, i, cc, rfl, s, s1, s2, s3, s4, s5⟩
        · have h1 : ¬ (i : Int) < (n : Nat) := by omega
          clear hb hg hc1 hS
          go_wp2
          go_ret
          obtain ⟨s, s1, s2, s3, s4, s5⟩ := HK.out
          exact ⟨q, i, cc, rfl, s, s1, s2, s3, s4, s5⟩
theorem stmts_walk : ∀ deep : Nat, deep ≤ 2 → Mk deep := by
  intro deep
  induction deep with
  | zero => exact fun h => stmts_step 0 h (fun d' e => absurd e (Nat.succ_ne_zero d'))
  | succ d ih => exact fun h => stmts_step (d + 1) h (fun d' e => by obtain rfl : d' = d := Nat.succ.inj e; exact ih (by omega))
end Go.Proofs.YtgdafolidifdoaaDoor.Tp
