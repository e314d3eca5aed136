/- The walk of the reference's Num. Conditions: numbers are ones of 64 bits. -/
import Derived.Deep.RegionWith
import Derived.Laws.IdiomStrings
import Derived.Test.YtpefmoddglpbfaaNWWalkF
namespace Go.Proofs.Ytpefmoddglpbfaa.N
open Go.ChangeShapes Go.WideShapes Go.ChangeAt Go.RowKit

set_option maxRecDepth 100000 in
set_option maxHeartbeats 1000000 in
theorem refnum_walk (n : Nat) (hn : n < 18446744073709551616) : ∀ (w : World),
    Calls Try.prog 10 #[.int .u64 n] w fun e w' => e = .returned (.string (bs (numL n))) ∧ Kept w w' := by
  induction n using Nat.strongRecOn with
  | _ n ih =>
    intro w
    by_cases h : n < 128
    · have one := one_text w (n : Int) (by omega) 5
      rw [Int.toNat_natCast] at one
      rw [numL_last h]
      go_enter Try.func10, Try.ntmps10
      go_wp2
      go_ret
      exact ⟨rfl, (Kept.refl w).alloc _⟩
    · have h15 : ∀ w, Calls Try.prog 10 #[.int .u64 ((n : Int) / 128)] w fun e w' => e = .returned (.string (bs (numL (n / 128)))) ∧ Kept w w' := by
        have := ih (n / 128) (by omega) (by omega)
        rwa [show ((n / 128 : Nat) : Int) = (n : Int) / 128 by omega] at this
      clear ih
      have h10 := numL_ten (n / 128) (by omega)
      rw [numL_more h]
      have hs := bs_size
      have hcat : ∀ l, bs [128 + n % 128] ++ bs l = bs ((128 + n % 128) :: l) := fun l => by rw [bs_append]; rfl
      have cv : ∀ W b, One W b ((128 + n % 128 : Nat) : Int) → (convert 48 9 (.slice (some ⟨b, 0, none⟩) 1 1)).run Try.prog W = .ok (.string (bs [128 + n % 128])) W := by
        intro W b ho
        have := ho.text (by omega)
        rwa [Int.toNat_natCast] at this
      have oa := One.alloc w ((128 + n % 128 : Nat) : Int)
      have od := One.drew _ _ _ oa
      have w1 : IntKind.u8.wrap (IntKind.u64.wrap (128 + (n : Int).tmod 128)) = ((128 + n % 128 : Nat) : Int) := by
        rw [Int.tmod_eq_emod_of_nonneg (by omega), IntKind.wrap_u64, IntKind.wrap_u8]; omega
      have w2 : IntKind.u64.wrap ((n : Int) / 128) = (n : Int) / 128 := by rw [IntKind.wrap_u64]; omega
      generalize ((128 + n % 128 : Nat) : Int) = X at cv oa od w1
      generalize numL (n / 128) = l at *
      go_enter Try.func10, Try.ntmps10
      go_wp2
      go_region_with (first
        | (go_at_call 10; refine (h15 _).mono ?_; rintro e v2 ⟨rfl, hk2⟩; have o2 := hk2.one _ _ od)
        | (go_at_call 10; refine (h15 _).mono ?_; rintro e v2 ⟨rfl, hk2⟩; have o3 := One.alloc v2 X))
      all_goals go_wp2
      all_goals go_ret
      all_goals first
        | exact ⟨rfl, (((Kept.refl w).alloc _).drew).trans hk2⟩
        | exact ⟨rfl, ((Kept.refl w).drew.trans hk2).alloc _⟩

end Go.Proofs.Ytpefmoddglpbfaa.N
