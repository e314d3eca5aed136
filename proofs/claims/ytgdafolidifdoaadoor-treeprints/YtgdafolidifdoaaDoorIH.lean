/- What an expression says: the walk of exprSaid. No condition. -/
import Derived.Test.YtgdafolidifdoaaDoorIG
namespace Go.Proofs.YtgdafolidifdoaaDoor.Tp
open Go.ChangeShapes Go.WideShapes Go.ChangeAt Go.RowKit

theorem mid3 (w : World) (A B C : Obj) : (((w.alloc A).alloc B).alloc C).heap[w.heap.size + 1]? = some B := by
  have h := (Kept.alloc (Kept.refl ((w.alloc A).alloc B)) C).block (alloc_at (w.alloc A) B)
  rw [size_alloc] at h
  exact h
/-- What an expression says. -/
structure Sa where
  k : Int
  a : ByteArray
  b : ByteArray
  op : Int
  n : Int
  u : Bool
def sad (k : Int) (a b : ByteArray) (op n : Int) : Sa :=
  if k = 1 then ⟨1, ⟨#[]⟩, ⟨#[]⟩, 0, n, false⟩ else if k = 2 then ⟨2, ⟨#[]⟩, ⟨#[]⟩, 0, 0, false⟩ else if k = 3 then ⟨3, a, ⟨#[]⟩, 0, 0, false⟩ else if k = 4 then ⟨4, a, ⟨#[]⟩, 0, 0, false⟩
  else if k = 5 then ⟨5, a, b, 0, 0, false⟩ else if k = 6 then ⟨6, ⟨#[]⟩, ⟨#[]⟩, 0, 0, false⟩ else if k = 7 then ⟨7, a, ⟨#[]⟩, 0, 0, false⟩ else if k = 8 then ⟨8, a, b, op, 0, false⟩
  else if k = 9 then ⟨9, a, ⟨#[]⟩, op, n, false⟩ else if k = 10 then ⟨10, a, ⟨#[]⟩, 0, 0, true⟩ else if k = 11 then ⟨11, a, ⟨#[]⟩, 0, 0, true⟩ else ⟨0, ⟨#[]⟩, ⟨#[]⟩, 0, 0, false⟩
def sas (s : Sa) (p : Option Addr) (m c : Nat) : Value := if s.u = true then .slice p m c else .slice none 0 0
def sac (s : Sa) (p : Option Addr) (m c : Nat) : Array Value := #[.int .i64 s.k, .string s.a, .string s.b, .int .i64 s.op, .int .i64 s.n, sas s p m c]

set_option maxRecDepth 100000 in
set_option maxHeartbeats 2000000 in
theorem sd1 (w : World) (a b : ByteArray) (op n : Int) (p : Option Addr) (m c : Nat) : Calls Tryd.prog 28 #[.agg #[.int .i64 1, .string a, .string b, .int .i64 op, .int .i64 n, .slice p m c]] w fun x w' => x = .returned (.agg #[.int .i64 1, .string ⟨#[]⟩, .string ⟨#[]⟩, .int .i64 0, .int .i64 n, .slice none 0 0]) ∧ Kept w w' := by
  go_enter Tryd.func28, Tryd.ntmps28
  go_wp2
  all_goals
    refine bodyPost_ret (v := .agg #[.int .i64 1, .string ⟨#[]⟩, .string ⟨#[]⟩, .int .i64 0, .int .i64 n, .slice none 0 0]) ?_ rfl ⟨rfl, by (repeat (first | exact Kept.refl _ | apply Kept.drew | apply Kept.alloc))⟩
    exact results_cell_row rfl _ _ (w.heap.size + 1) 35 #[.int .i64 1, .string ⟨#[]⟩, .string ⟨#[]⟩, .int .i64 0, .int .i64 n, .slice none 0 0] (0, 0) _ rfl (mid3 w _ _ _) Tryd.underlying35 rfl size35
set_option maxRecDepth 100000 in
set_option maxHeartbeats 2000000 in
theorem sd2 (w : World) (a b : ByteArray) (op n : Int) (p : Option Addr) (m c : Nat) : Calls Tryd.prog 28 #[.agg #[.int .i64 2, .string a, .string b, .int .i64 op, .int .i64 n, .slice p m c]] w fun x w' => x = .returned (.agg #[.int .i64 2, .string ⟨#[]⟩, .string ⟨#[]⟩, .int .i64 0, .int .i64 0, .slice none 0 0]) ∧ Kept w w' := by
  go_enter Tryd.func28, Tryd.ntmps28
  go_wp2
  all_goals
    refine bodyPost_ret (v := .agg #[.int .i64 2, .string ⟨#[]⟩, .string ⟨#[]⟩, .int .i64 0, .int .i64 0, .slice none 0 0]) ?_ rfl ⟨rfl, by (repeat (first | exact Kept.refl _ | apply Kept.drew | apply Kept.alloc))⟩
    exact results_cell_row rfl _ _ (w.heap.size + 1) 35 #[.int .i64 2, .string ⟨#[]⟩, .string ⟨#[]⟩, .int .i64 0, .int .i64 0, .slice none 0 0] (0, 0) _ rfl (mid3 w _ _ _) Tryd.underlying35 rfl size35
set_option maxRecDepth 100000 in
set_option maxHeartbeats 2000000 in
theorem sd3 (w : World) (a b : ByteArray) (op n : Int) (p : Option Addr) (m c : Nat) : Calls Tryd.prog 28 #[.agg #[.int .i64 3, .string a, .string b, .int .i64 op, .int .i64 n, .slice p m c]] w fun x w' => x = .returned (.agg #[.int .i64 3, .string a, .string ⟨#[]⟩, .int .i64 0, .int .i64 0, .slice none 0 0]) ∧ Kept w w' := by
  go_enter Tryd.func28, Tryd.ntmps28
  go_wp2
  all_goals
    refine bodyPost_ret (v := .agg #[.int .i64 3, .string a, .string ⟨#[]⟩, .int .i64 0, .int .i64 0, .slice none 0 0]) ?_ rfl ⟨rfl, by (repeat (first | exact Kept.refl _ | apply Kept.drew | apply Kept.alloc))⟩
    exact results_cell_row rfl _ _ (w.heap.size + 1) 35 #[.int .i64 3, .string a, .string ⟨#[]⟩, .int .i64 0, .int .i64 0, .slice none 0 0] (0, 0) _ rfl (mid3 w _ _ _) Tryd.underlying35 rfl size35
set_option maxRecDepth 100000 in
set_option maxHeartbeats 2000000 in
theorem sd4 (w : World) (a b : ByteArray) (op n : Int) (p : Option Addr) (m c : Nat) : Calls Tryd.prog 28 #[.agg #[.int .i64 4, .string a, .string b, .int .i64 op, .int .i64 n, .slice p m c]] w fun x w' => x = .returned (.agg #[.int .i64 4, .string a, .string ⟨#[]⟩, .int .i64 0, .int .i64 0, .slice none 0 0]) ∧ Kept w w' := by
  go_enter Tryd.func28, Tryd.ntmps28
  go_wp2
  all_goals
    refine bodyPost_ret (v := .agg #[.int .i64 4, .string a, .string ⟨#[]⟩, .int .i64 0, .int .i64 0, .slice none 0 0]) ?_ rfl ⟨rfl, by (repeat (first | exact Kept.refl _ | apply Kept.drew | apply Kept.alloc))⟩
    exact results_cell_row rfl _ _ (w.heap.size + 1) 35 #[.int .i64 4, .string a, .string ⟨#[]⟩, .int .i64 0, .int .i64 0, .slice none 0 0] (0, 0) _ rfl (mid3 w _ _ _) Tryd.underlying35 rfl size35
set_option maxRecDepth 100000 in
set_option maxHeartbeats 2000000 in
theorem sd5 (w : World) (a b : ByteArray) (op n : Int) (p : Option Addr) (m c : Nat) : Calls Tryd.prog 28 #[.agg #[.int .i64 5, .string a, .string b, .int .i64 op, .int .i64 n, .slice p m c]] w fun x w' => x = .returned (.agg #[.int .i64 5, .string a, .string b, .int .i64 0, .int .i64 0, .slice none 0 0]) ∧ Kept w w' := by
  have HSA : Hid (∀ W, Kept ((w.alloc (.cells #[.int .i64 5, .string a, .string b, .int .i64 op, .int .i64 n, .slice p m c] 35)).alloc (.cells #[.int .i64 0, .string ⟨#[]⟩, .string ⟨#[]⟩, .int .i64 0, .int .i64 0, .slice none 0 0] 35)) W → W.cell? ⟨w.heap.size, 1, none⟩ = some (.string a) ∧ W.cell? ⟨w.heap.size, 2, none⟩ = some (.string b)) := fun W hW => by
    have hb := hW.block (Kept.block ((Kept.refl _).alloc _) (alloc_at w _))
    exact ⟨by rw [cell_of_row _ w.heap.size 1 _ _ _ hb]; rfl, by rw [cell_of_row _ w.heap.size 2 _ _ _ hb]; rfl⟩
  go_enter Tryd.func28, Tryd.ntmps28
  go_wp2
  go_region_held3 (fun W => W.cell? ⟨w.heap.size, 1, none⟩ = some (.string a) ∧ W.cell? ⟨w.heap.size, 2, none⟩ = some (.string b)) (exact HSA.out _ (by (repeat (first | (refine Kept.setCell ?_ (Kept.size ?_) _) | assumption | exact Kept.refl _ | apply Kept.drew | apply Kept.alloc)))) (first | fail)
  all_goals go_wp2
  all_goals
    refine bodyPost_ret (v := .agg #[.int .i64 5, .string a, .string b, .int .i64 0, .int .i64 0, .slice none 0 0]) ?_ rfl ⟨rfl, by (repeat (first | exact Kept.refl _ | apply Kept.drew | apply Kept.alloc))⟩
    exact results_cell_row rfl _ _ (w.heap.size + 1) 35 #[.int .i64 5, .string a, .string b, .int .i64 0, .int .i64 0, .slice none 0 0] (0, 0) _ rfl (mid3 w _ _ _) Tryd.underlying35 rfl size35
set_option maxRecDepth 100000 in
set_option maxHeartbeats 2000000 in
theorem sd6 (w : World) (a b : ByteArray) (op n : Int) (p : Option Addr) (m c : Nat) : Calls Tryd.prog 28 #[.agg #[.int .i64 6, .string a, .string b, .int .i64 op, .int .i64 n, .slice p m c]] w fun x w' => x = .returned (.agg #[.int .i64 6, .string ⟨#[]⟩, .string ⟨#[]⟩, .int .i64 0, .int .i64 0, .slice none 0 0]) ∧ Kept w w' := by
  go_enter Tryd.func28, Tryd.ntmps28
  go_wp2
  all_goals
    refine bodyPost_ret (v := .agg #[.int .i64 6, .string ⟨#[]⟩, .string ⟨#[]⟩, .int .i64 0, .int .i64 0, .slice none 0 0]) ?_ rfl ⟨rfl, by (repeat (first | exact Kept.refl _ | apply Kept.drew | apply Kept.alloc))⟩
    exact results_cell_row rfl _ _ (w.heap.size + 1) 35 #[.int .i64 6, .string ⟨#[]⟩, .string ⟨#[]⟩, .int .i64 0, .int .i64 0, .slice none 0 0] (0, 0) _ rfl (mid3 w _ _ _) Tryd.underlying35 rfl size35
set_option maxRecDepth 100000 in
set_option maxHeartbeats 2000000 in
theorem sd7 (w : World) (a b : ByteArray) (op n : Int) (p : Option Addr) (m c : Nat) : Calls Tryd.prog 28 #[.agg #[.int .i64 7, .string a, .string b, .int .i64 op, .int .i64 n, .slice p m c]] w fun x w' => x = .returned (.agg #[.int .i64 7, .string a, .string ⟨#[]⟩, .int .i64 0, .int .i64 0, .slice none 0 0]) ∧ Kept w w' := by
  go_enter Tryd.func28, Tryd.ntmps28
  go_wp2
  all_goals
    refine bodyPost_ret (v := .agg #[.int .i64 7, .string a, .string ⟨#[]⟩, .int .i64 0, .int .i64 0, .slice none 0 0]) ?_ rfl ⟨rfl, by (repeat (first | exact Kept.refl _ | apply Kept.drew | apply Kept.alloc))⟩
    exact results_cell_row rfl _ _ (w.heap.size + 1) 35 #[.int .i64 7, .string a, .string ⟨#[]⟩, .int .i64 0, .int .i64 0, .slice none 0 0] (0, 0) _ rfl (mid3 w _ _ _) Tryd.underlying35 rfl size35
set_option maxRecDepth 100000 in
set_option maxHeartbeats 2000000 in
theorem sd8 (w : World) (a b : ByteArray) (op n : Int) (p : Option Addr) (m c : Nat) : Calls Tryd.prog 28 #[.agg #[.int .i64 8, .string a, .string b, .int .i64 op, .int .i64 n, .slice p m c]] w fun x w' => x = .returned (.agg #[.int .i64 8, .string a, .string b, .int .i64 op, .int .i64 0, .slice none 0 0]) ∧ Kept w w' := by
  have HSA : Hid (∀ W, Kept ((w.alloc (.cells #[.int .i64 8, .string a, .string b, .int .i64 op, .int .i64 n, .slice p m c] 35)).alloc (.cells #[.int .i64 0, .string ⟨#[]⟩, .string ⟨#[]⟩, .int .i64 0, .int .i64 0, .slice none 0 0] 35)) W → W.cell? ⟨w.heap.size, 1, none⟩ = some (.string a) ∧ W.cell? ⟨w.heap.size, 2, none⟩ = some (.string b) ∧ W.cell? ⟨w.heap.size, 3, none⟩ = some (.int .i64 op)) := fun W hW => by
    have hb := hW.block (Kept.block ((Kept.refl _).alloc _) (alloc_at w _))
    exact ⟨by rw [cell_of_row _ w.heap.size 1 _ _ _ hb]; rfl, by rw [cell_of_row _ w.heap.size 2 _ _ _ hb]; rfl, by rw [cell_of_row _ w.heap.size 3 _ _ _ hb]; rfl⟩
  go_enter Tryd.func28, Tryd.ntmps28
  go_wp2
  go_region_held3 (fun W => W.cell? ⟨w.heap.size, 1, none⟩ = some (.string a) ∧ W.cell? ⟨w.heap.size, 2, none⟩ = some (.string b) ∧ W.cell? ⟨w.heap.size, 3, none⟩ = some (.int .i64 op)) (exact HSA.out _ (by (repeat (first | (refine Kept.setCell ?_ (Kept.size ?_) _) | assumption | exact Kept.refl _ | apply Kept.drew | apply Kept.alloc)))) (first | fail)
  all_goals go_wp2
  all_goals
    refine bodyPost_ret (v := .agg #[.int .i64 8, .string a, .string b, .int .i64 op, .int .i64 0, .slice none 0 0]) ?_ rfl ⟨rfl, by (repeat (first | exact Kept.refl _ | apply Kept.drew | apply Kept.alloc))⟩
    exact results_cell_row rfl _ _ (w.heap.size + 1) 35 #[.int .i64 8, .string a, .string b, .int .i64 op, .int .i64 0, .slice none 0 0] (0, 0) _ rfl (mid3 w _ _ _) Tryd.underlying35 rfl size35
set_option maxRecDepth 100000 in
set_option maxHeartbeats 2000000 in
theorem sd9 (w : World) (a b : ByteArray) (op n : Int) (p : Option Addr) (m c : Nat) : Calls Tryd.prog 28 #[.agg #[.int .i64 9, .string a, .string b, .int .i64 op, .int .i64 n, .slice p m c]] w fun x w' => x = .returned (.agg #[.int .i64 9, .string a, .string ⟨#[]⟩, .int .i64 op, .int .i64 n, .slice none 0 0]) ∧ Kept w w' := by
  have HSA : Hid (∀ W, Kept ((w.alloc (.cells #[.int .i64 9, .string a, .string b, .int .i64 op, .int .i64 n, .slice p m c] 35)).alloc (.cells #[.int .i64 0, .string ⟨#[]⟩, .string ⟨#[]⟩, .int .i64 0, .int .i64 0, .slice none 0 0] 35)) W → W.cell? ⟨w.heap.size, 1, none⟩ = some (.string a) ∧ W.cell? ⟨w.heap.size, 3, none⟩ = some (.int .i64 op) ∧ W.cell? ⟨w.heap.size, 4, none⟩ = some (.int .i64 n)) := fun W hW => by
    have hb := hW.block (Kept.block ((Kept.refl _).alloc _) (alloc_at w _))
    exact ⟨by rw [cell_of_row _ w.heap.size 1 _ _ _ hb]; rfl, by rw [cell_of_row _ w.heap.size 3 _ _ _ hb]; rfl, by rw [cell_of_row _ w.heap.size 4 _ _ _ hb]; rfl⟩
  go_enter Tryd.func28, Tryd.ntmps28
  go_wp2
  go_region_held3 (fun W => W.cell? ⟨w.heap.size, 1, none⟩ = some (.string a) ∧ W.cell? ⟨w.heap.size, 3, none⟩ = some (.int .i64 op) ∧ W.cell? ⟨w.heap.size, 4, none⟩ = some (.int .i64 n)) (exact HSA.out _ (by (repeat (first | (refine Kept.setCell ?_ (Kept.size ?_) _) | assumption | exact Kept.refl _ | apply Kept.drew | apply Kept.alloc)))) (first | fail)
  all_goals go_wp2
  all_goals
    refine bodyPost_ret (v := .agg #[.int .i64 9, .string a, .string ⟨#[]⟩, .int .i64 op, .int .i64 n, .slice none 0 0]) ?_ rfl ⟨rfl, by (repeat (first | exact Kept.refl _ | apply Kept.drew | apply Kept.alloc))⟩
    exact results_cell_row rfl _ _ (w.heap.size + 1) 35 #[.int .i64 9, .string a, .string ⟨#[]⟩, .int .i64 op, .int .i64 n, .slice none 0 0] (0, 0) _ rfl (mid3 w _ _ _) Tryd.underlying35 rfl size35
set_option maxRecDepth 100000 in
set_option maxHeartbeats 2000000 in
theorem sd10 (w : World) (a b : ByteArray) (op n : Int) (p : Option Addr) (m c : Nat) : Calls Tryd.prog 28 #[.agg #[.int .i64 10, .string a, .string b, .int .i64 op, .int .i64 n, .slice p m c]] w fun x w' => x = .returned (.agg #[.int .i64 10, .string a, .string ⟨#[]⟩, .int .i64 0, .int .i64 0, .slice p m c]) ∧ Kept w w' := by
  have HSA : Hid (∀ W, Kept ((w.alloc (.cells #[.int .i64 10, .string a, .string b, .int .i64 op, .int .i64 n, .slice p m c] 35)).alloc (.cells #[.int .i64 0, .string ⟨#[]⟩, .string ⟨#[]⟩, .int .i64 0, .int .i64 0, .slice none 0 0] 35)) W → W.cell? ⟨w.heap.size, 1, none⟩ = some (.string a) ∧ W.cell? ⟨w.heap.size, 5, none⟩ = some (.slice p m c)) := fun W hW => by
    have hb := hW.block (Kept.block ((Kept.refl _).alloc _) (alloc_at w _))
    exact ⟨by rw [cell_of_row _ w.heap.size 1 _ _ _ hb]; rfl, by rw [cell_of_row _ w.heap.size 5 _ _ _ hb]; rfl⟩
  go_enter Tryd.func28, Tryd.ntmps28
  go_wp2
  go_region_held3 (fun W => W.cell? ⟨w.heap.size, 1, none⟩ = some (.string a) ∧ W.cell? ⟨w.heap.size, 5, none⟩ = some (.slice p m c)) (exact HSA.out _ (by (repeat (first | (refine Kept.setCell ?_ (Kept.size ?_) _) | assumption | exact Kept.refl _ | apply Kept.drew | apply Kept.alloc)))) (first | fail)
  all_goals go_wp2
  all_goals
    refine bodyPost_ret (v := .agg #[.int .i64 10, .string a, .string ⟨#[]⟩, .int .i64 0, .int .i64 0, .slice p m c]) ?_ rfl ⟨rfl, by (repeat (first | exact Kept.refl _ | apply Kept.drew | apply Kept.alloc))⟩
    exact results_cell_row rfl _ _ (w.heap.size + 1) 35 #[.int .i64 10, .string a, .string ⟨#[]⟩, .int .i64 0, .int .i64 0, .slice p m c] (0, 0) _ rfl (mid3 w _ _ _) Tryd.underlying35 rfl size35
set_option maxRecDepth 100000 in
set_option maxHeartbeats 2000000 in
theorem sd11 (w : World) (a b : ByteArray) (op n : Int) (p : Option Addr) (m c : Nat) : Calls Tryd.prog 28 #[.agg #[.int .i64 11, .string a, .string b, .int .i64 op, .int .i64 n, .slice p m c]] w fun x w' => x = .returned (.agg #[.int .i64 11, .string a, .string ⟨#[]⟩, .int .i64 0, .int .i64 0, .slice p m c]) ∧ Kept w w' := by
  have HSA : Hid (∀ W, Kept ((w.alloc (.cells #[.int .i64 11, .string a, .string b, .int .i64 op, .int .i64 n, .slice p m c] 35)).alloc (.cells #[.int .i64 0, .string ⟨#[]⟩, .string ⟨#[]⟩, .int .i64 0, .int .i64 0, .slice none 0 0] 35)) W → W.cell? ⟨w.heap.size, 1, none⟩ = some (.string a) ∧ W.cell? ⟨w.heap.size, 5, none⟩ = some (.slice p m c)) := fun W hW => by
    have hb := hW.block (Kept.block ((Kept.refl _).alloc _) (alloc_at w _))
    exact ⟨by rw [cell_of_row _ w.heap.size 1 _ _ _ hb]; rfl, by rw [cell_of_row _ w.heap.size 5 _ _ _ hb]; rfl⟩
  go_enter Tryd.func28, Tryd.ntmps28
  go_wp2
  go_region_held3 (fun W => W.cell? ⟨w.heap.size, 1, none⟩ = some (.string a) ∧ W.cell? ⟨w.heap.size, 5, none⟩ = some (.slice p m c)) (exact HSA.out _ (by (repeat (first | (refine Kept.setCell ?_ (Kept.size ?_) _) | assumption | exact Kept.refl _ | apply Kept.drew | apply Kept.alloc)))) (first | fail)
  all_goals go_wp2
  all_goals
    refine bodyPost_ret (v := .agg #[.int .i64 11, .string a, .string ⟨#[]⟩, .int .i64 0, .int .i64 0, .slice p m c]) ?_ rfl ⟨rfl, by (repeat (first | exact Kept.refl _ | apply Kept.drew | apply Kept.alloc))⟩
    exact results_cell_row rfl _ _ (w.heap.size + 1) 35 #[.int .i64 11, .string a, .string ⟨#[]⟩, .int .i64 0, .int .i64 0, .slice p m c] (0, 0) _ rfl (mid3 w _ _ _) Tryd.underlying35 rfl size35
set_option maxRecDepth 100000 in
set_option maxHeartbeats 2000000 in
theorem sd0 (w : World) (k : Int) (a b : ByteArray) (op n : Int) (p : Option Addr) (m c : Nat) (hk : k < 1 ∨ 11 < k) : Calls Tryd.prog 28 #[.agg #[.int .i64 k, .string a, .string b, .int .i64 op, .int .i64 n, .slice p m c]] w fun x w' => x = .returned (.agg #[.int .i64 0, .string ⟨#[]⟩, .string ⟨#[]⟩, .int .i64 0, .int .i64 0, .slice none 0 0]) ∧ Kept w w' := by
  have n1 : ¬ k = 1 := by omega
  have n2 : ¬ k = 2 := by omega
  have n3 : ¬ k = 3 := by omega
  have n4 : ¬ k = 4 := by omega
  have n5 : ¬ k = 5 := by omega
  have n6 : ¬ k = 6 := by omega
  have n7 : ¬ k = 7 := by omega
  have n8 : ¬ k = 8 := by omega
  have n9 : ¬ k = 9 := by omega
  have n10 : ¬ k = 10 := by omega
  have n11 : ¬ k = 11 := by omega
  clear hk
  go_enter Tryd.func28, Tryd.ntmps28
  go_wp2
  all_goals
    refine bodyPost_ret (v := .agg #[.int .i64 0, .string ⟨#[]⟩, .string ⟨#[]⟩, .int .i64 0, .int .i64 0, .slice none 0 0]) ?_ rfl ⟨rfl, by (repeat (first | exact Kept.refl _ | apply Kept.drew | apply Kept.alloc))⟩
    exact results_cell_row rfl _ _ (w.heap.size + 1) 35 #[.int .i64 0, .string ⟨#[]⟩, .string ⟨#[]⟩, .int .i64 0, .int .i64 0, .slice none 0 0] (0, 0) _ rfl (mid3 w _ _ _) Tryd.underlying35 rfl size35
theorem said_walk (w : World) (k : Int) (a b : ByteArray) (op n : Int) (p : Option Addr) (m c : Nat) : Calls Tryd.prog 28 #[.agg #[.int .i64 k, .string a, .string b, .int .i64 op, .int .i64 n, .slice p m c]] w fun x w' => x = .returned (.agg (sac (sad k a b op n) p m c)) ∧ Kept w w' := by
  by_cases ho : k < 1 ∨ 11 < k
  · have e : sad k a b op n = ⟨0, ⟨#[]⟩, ⟨#[]⟩, 0, 0, false⟩ := by
      unfold sad
      iterate 11 rw [if_neg (by omega)]
    rw [e]
    exact sd0 w k a b op n p m c ho
  · have : k = 1 ∨ k = 2 ∨ k = 3 ∨ k = 4 ∨ k = 5 ∨ k = 6 ∨ k = 7 ∨ k = 8 ∨ k = 9 ∨ k = 10 ∨ k = 11 := by omega
    rcases this with rfl | rfl | rfl | rfl | rfl | rfl | rfl | rfl | rfl | rfl | rfl
    · exact sd1 w a b op n p m c
    · exact sd2 w a b op n p m c
    · exact sd3 w a b op n p m c
    · exact sd4 w a b op n p m c
    · exact sd5 w a b op n p m c
    · exact sd6 w a b op n p m c
    · exact sd7 w a b op n p m c
    · exact sd8 w a b op n p m c
    · exact sd9 w a b op n p m c
    · exact sd10 w a b op n p m c
    · exact sd11 w a b op n p m c
end Go.Proofs.YtgdafolidifdoaaDoor.Tp
