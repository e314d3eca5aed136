/- The walks of few, of crc.onward and of the reference: each returns what the plain functions say, and turns nothing. Conditions: a string's size is within Go's bound, a number is within its kind. -/
import Derived.Test.YthlhnjjofefgcaaGreatDoorRows
import Derived.Test.YthlhnjjofefgcaaGreatDoorPCrc
import Derived.WalkKit
import Derived.ProofKit
import Derived.Laws.BitsAllLaws
namespace Go.Proofs.YthlhnjjofefgcaaGreatDoor.P
open Go.ChangeShapes Go.WideShapes Go.ChangeAt Go.RowKit
open Chk

theorem and_one (c : Nat) (h : c < 4294967296) : bits .and .u32 (c : Int) 1 = ((c % 2 : Nat) : Int) := by
  have := u32_and_nat c 1 h (by omega)
  rw [nat_mask1] at this
  exact this

theorem xor_poly (c : Nat) (h : c < 4294967296) : bits .xor .u32 (c : Int) 3988292384 = ((c ^^^ 3988292384 : Nat) : Int) :=
  u32_xor_nat c 3988292384 h (by omega)

theorem xor_ones (c : Nat) (h : c < 4294967296) : bits .xor .u32 (c : Int) 4294967295 = ((c ^^^ 4294967295 : Nat) : Int) :=
  u32_xor_nat c 4294967295 h (by omega)

theorem onward_walk (c : Nat) (hc : c < 4294967296) (w : World) :
    Calls Tryz.prog 122 #[.int .u32 c] w fun e w' => e = .returned (.int .u32 (S c : Nat)) ∧ w' = w := by
  have e1 := and_one c hc
  by_cases h : c % 2 = 1
  · have hS : S c = c / 2 ^^^ 3988292384 := by unfold S; rw [if_pos h]
    have e2 := xor_poly (c / 2) (by omega)
    have t : (bits .and .u32 (c : Int) 1 != 0) = true := by rw [e1, h]; rfl
    rw [hS]; clear hS e1
    go_enter Tryz.func122, Tryz.ntmps122
    go_wp2
    go_ret
    exact ⟨by simp [← e2], rfl⟩
  · have hS : S c = c / 2 := by unfold S; rw [if_neg h]
    have t : (bits .and .u32 (c : Int) 1 != 0) = false := by rw [e1, show c % 2 = 0 by omega]; rfl
    rw [hS]; clear hS e1
    go_enter Tryz.func122, Tryz.ntmps122
    go_wp2
    go_ret
    exact ⟨by simp, rfl⟩

/-- A string's bytes as plain numbers. -/
def byte (s : ByteArray) (k : Nat) : Nat := if h : k < s.size then s[k].toNat else 0

theorem byte_at {s : ByteArray} {k : Nat} (h : k < s.size) : s[k].toNat = byte s k := by unfold byte; rw [dif_pos h]

theorem byte_lt (s : ByteArray) (k : Nat) : byte s k < 256 := by
  unfold byte; split
  · exact UInt8.toNat_lt _
  · omega

end Go.Proofs.YthlhnjjofefgcaaGreatDoor.P
