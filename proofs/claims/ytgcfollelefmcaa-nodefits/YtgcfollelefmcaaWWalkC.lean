/- The walks of awake and of the reference's Num. Conditions: a number is one of 64 bits. -/
import Derived.Test.YtgcfollelefmcaaWWalkA
import Derived.Deep.RegionWith
namespace Go.Proofs.Ytgcfollelefmcaa
open Go.ChangeShapes Go.WideShapes Go.ChangeAt Go.RowKit

theorem num300 : bs (numL 300) = ⟨#[172, 2]⟩ := by
  rw [numL_more (by decide), numL_last (by decide)]; rfl

theorem key258 : bs (keyL 258) = ⟨#[2, 1, 2]⟩ := by
  have : lowL 258 = [2, 1] := by
    rw [lowL_more (by decide), lowL_more (by decide)]
    show [2, 1] ++ lowL 0 = _
    rw [lowL_zero]; rfl
  unfold keyL
  rw [this]; rfl

/-- A block that begins with this byte. -/
structure One (w : World) (b : Nat) (x : Int) : Prop where
  out : w.cell? ⟨b, 0, none⟩ = some (.int .u8 x)

theorem Kept.one {w w' : World} (h : Kept w w') (b : Nat) (x : Int) (k : One w b x) : One w' b x :=
  ⟨(h.out.cell (World.block_lt_of_cell? w _ k.out)).trans k.out⟩

theorem One.alloc (w : World) (x : Int) : One (w.alloc (.cells #[.int .u8 x] 5)) w.heap.size x := ⟨by simp⟩

theorem One.drew (w : World) (b : Nat) (x : Int) (h : One w b x) : One w.drew b x := (Kept.refl w).drew.one b x h

theorem One.text {w : World} {b : Nat} {x : Int} (h : One w b x) (h0 : 0 ≤ x) :
    (convert 64 9 (.slice (some ⟨b, 0, none⟩) 1 1)).run Try.prog w = .ok (.string (bs [x.toNat])) w := by
  rw [run_convert_bytes_arg w 64 5 Try.underlying64 Try.underlying5 b 0 1 1 [x] rfl (fun i hi => ?_) 9 Try.underlying9]
  · have : strOfNums [x] = bs [x.toNat] := by rw [← strOf]; simp; congr 1; simp; omega
    rw [this]
  · obtain rfl : i = 0 := by omega
    exact h.out

theorem Kept.drewN1 (w : World) : Kept w w.drew := (Kept.refl w).drew

set_option maxRecDepth 100000 in
set_option maxHeartbeats 1000000 in
theorem refnum_walk (n : Nat) (hn : n < 18446744073709551616) : ∀ (w : World),
    Calls Try.prog 35 #[.int .u64 n] w fun e w' => e = .returned (.string (bs (numL n))) ∧ Kept w w' := by
  induction n using Nat.strongRecOn with
  | _ n ih =>
    intro w
    by_cases h : n < 128
    · have one := one_text w (n : Int) (by omega) 5
      rw [Int.toNat_natCast] at one
      rw [numL_last h]
      go_enter Try.func35, Try.ntmps35
      go_wp2
      go_ret
      exact ⟨rfl, (Kept.refl w).alloc _⟩
    · have h15 : ∀ w, Calls Try.prog 35 #[.int .u64 ((n : Int) / 128)] w fun e w' => e = .returned (.string (bs (numL (n / 128)))) ∧ Kept w w' := by
        have := ih (n / 128) (by omega) (by omega)
        rwa [show ((n / 128 : Nat) : Int) = (n : Int) / 128 by omega] at this
      clear ih
      have h10 := numL_ten (n / 128) (by omega)
      rw [numL_more h]
      have hs := bs_size
      have hcat : ∀ l, bs [128 + n % 128] ++ bs l = bs ((128 + n % 128) :: l) := fun l => by rw [bs_append]; rfl
      have cv : ∀ W b, One W b ((128 + n % 128 : Nat) : Int) → (convert 64 9 (.slice (some ⟨b, 0, none⟩) 1 1)).run Try.prog W = .ok (.string (bs [128 + n % 128])) W := by
        intro W b ho
        have := ho.text (by omega)
        rwa [Int.toNat_natCast] at this
      have oa := One.alloc w ((128 + n % 128 : Nat) : Int)
      have od := One.drew _ _ _ oa
      have w1 : IntKind.u8.wrap (IntKind.u64.wrap (128 + (n : Int).tmod 128)) = ((128 + n % 128 : Nat) : Int) := by
        rw [Int.tmod_eq_emod_of_nonneg (by omega), IntKind.wrap_u64, IntKind.wrap_u8]; omega
      have w2 : IntKind.u64.wrap ((n : Int) / 128) = (n : Int) / 128 := by rw [IntKind.wrap_u64]; omega
      generalize ((128 + n % 128 : Nat) : Int) = X at cv oa od w1
      generalize numL (n / 128) = l at *
      go_enter Try.func35, Try.ntmps35
      go_wp2
      go_region_with (first
        | (go_at_call 35; refine (h15 _).mono ?_; rintro e v2 ⟨rfl, hk2⟩; have o2 := hk2.one _ _ od)
        | (go_at_call 35; refine (h15 _).mono ?_; rintro e v2 ⟨rfl, hk2⟩; have o3 := One.alloc v2 X))
      all_goals go_wp2
      all_goals go_ret
      all_goals first
        | exact ⟨rfl, (((Kept.refl w).alloc _).drew).trans hk2⟩
        | exact ⟨rfl, ((Kept.refl w).drew.trans hk2).alloc _⟩
end Go.Proofs.Ytgcfollelefmcaa
