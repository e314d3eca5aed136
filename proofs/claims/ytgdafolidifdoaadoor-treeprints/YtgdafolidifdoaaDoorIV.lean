/- The walk of Print of a program that has nothing. No condition. -/
import Derived.Test.YtgdafolidifdoaaDoorIU
namespace Go.Proofs.YtgdafolidifdoaaDoor.Tp
open Go.ChangeShapes Go.WideShapes Go.ChangeAt Go.RowKit Go.Shelf

set_option maxHeartbeats 2000000 in
set_option maxRecDepth 100000 in
theorem string_nil (w : World) (b : Nat) (hbk : w.heap[b]? = some (.cells #[.pointer none, .slice none 0 0] 54)) :
    Calls Tryd.prog 22 #[.pointer (some ⟨b, 0, none⟩)] w fun e w' => e = .returned (.string ⟨#[]⟩) ∧ Kept w w' := by
  have hUS : ∀ W, (Builtin.unsafeString_ #[72, 3] 9 #[.pointer none, .int .i64 0]).run Tryd.prog W = .ok (.string ⟨#[]⟩) W := fun W => Lib.run_unsafeString_none W _ _ _ none
  have c1 : w.drew.cell? ⟨b, 1, none⟩ = some (.slice none 0 0) := by
    have : w.drew.heap[b]? = some (.cells #[.pointer none, .slice none 0 0] 54 (0, 0)) := hbk
    rw [Lib.cell_of_heap this]; rfl
  have hSD : (Builtin.unsafeSliceData_ #[50] 72 #[.slice none 0 0]).run Tryd.prog w.drew = .ok (.pointer none) w.drew := rfl
  have mixed := Tryd.lays156.mixed
  clear hbk
  go_enter Tryd.func22, Tryd.ntmps22
  go_wp2
  go_region_o
  all_goals (go_wp2; go_ret; exact ⟨rfl, (Kept.refl w).drew⟩)

set_option maxHeartbeats 2000000 in
set_option maxRecDepth 100000 in
theorem decls_none (b : Nat) (word : ByteArray) (p : Option Addr) (c : Nat) (w : World) :
    Calls Tryd.prog 20 #[.pointer (some ⟨b, 0, none⟩), .int .i64 0, .string word, .slice p 0 c] w fun e w' => e = .returned (.tuple #[]) ∧ w' = w := by
  go_enter Tryd.func20, Tryd.ntmps20
  go_wp2
  go_loopg [12] 0 (fun g' iv wx => iv = .int .i64 0 ∧ wx = w)
  case atStart => exact ⟨rfl, rfl⟩
  case round =>
    obtain ⟨rfl, rfl⟩ := hrel
    go_wp2
    go_end0
    exact ⟨rfl, rfl⟩

set_option maxRecDepth 100000 in
set_option maxHeartbeats 4000000 in
theorem print_none (w : World) (pg pf pn : Option Addr) (cg cf cn : Nat) :
    Calls Tryd.prog 7 #[.agg #[.slice pg 0 cg, .slice pf 0 cf, .slice pn 0 cn]] w fun e w' => e = .returned (.string ⟨#[]⟩) ∧ Kept w w' := by
  have HD : Hid (∀ b word p c W, Calls Tryd.prog 20 #[.pointer (some ⟨b, 0, none⟩), .int .i64 0, .string word, .slice p 0 c] W fun e w' => e = .returned (.tuple #[]) ∧ w' = W) := decls_none
  have hs := string_nil ((w.alloc (.cells #[.slice pg 0 cg, .slice pf 0 cf, .slice pn 0 cn] 26)).alloc (.cells #[.pointer none, .slice none 0 0] 54)) (w.heap.size + 1) (by
    have h := alloc_at (w.alloc (.cells #[.slice pg 0 cg, .slice pf 0 cf, .slice pn 0 cn] 26)) (.cells #[.pointer none, .slice none 0 0] 54)
    rw [size_alloc] at h
    exact h)
  have HK : Hid (Kept w ((w.alloc (.cells #[.slice pg 0 cg, .slice pf 0 cf, .slice pn 0 cn] 26)).alloc (.cells #[.pointer none, .slice none 0 0] 54))) := ((Kept.refl w).alloc _).alloc _
  go_enter Tryd.func7, Tryd.ntmps7
  go_wp2_with (first
    | (go_at_call 20; (with_reducible refine (HD.out _ _ _ _ _).mono ?_); rintro e w1 ⟨rfl, rfl⟩)
    | fail)
  go_loopg [15] 0 (fun g' iv wx => iv = .int .i64 0 ∧ wx = ((w.alloc (.cells #[.slice pg 0 cg, .slice pf 0 cf, .slice pn 0 cn] 26)).alloc (.cells #[.pointer none, .slice none 0 0] 54)))
  case atStart => exact ⟨rfl, rfl⟩
  case round =>
    obtain ⟨rfl, rfl⟩ := hrel
    go_wp2_with (go_at_call 22; (with_reducible refine hs.mono ?_); clear hs; rintro e w3 ⟨rfl, k3⟩)
    go_ret
    exact ⟨rfl, HK.out.trans k3⟩
end Go.Proofs.YtgdafolidifdoaaDoor.Tp
