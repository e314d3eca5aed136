/- The walks of few, of crc.onward and of the reference: each returns what the plain functions say, and turns nothing. Conditions: a string's size is within Go's bound, a number is within its kind. -/
import Derived.Test.YtgpjnmimicoeoaaRows
import Derived.Test.YtgpjnmimicoeoaaCrc
import Derived.WalkKit
import Derived.ProofKit
import Derived.Laws.BitsAllLaws
namespace Go.Proofs.Ytgpjnmimicoeoaa
open Go.ChangeShapes Go.WideShapes Go.ChangeAt Go.RowKit
open Chk

theorem and_one (c : Nat) (h : c < 4294967296) : bits .and .u32 (c : Int) 1 = ((c % 2 : Nat) : Int) := by
  have := u32_and_nat c 1 h (by omega)
  rw [nat_mask1] at this
  exact this

theorem xor_poly (c : Nat) (h : c < 4294967296) : bits .xor .u32 (c : Int) 3988292384 = ((c ^^^ 3988292384 : Nat) : Int) :=
  u32_xor_nat c 3988292384 h (by omega)

theorem xor_ones (c : Nat) (h : c < 4294967296) : bits .xor .u32 (c : Int) 4294967295 = ((c ^^^ 4294967295 : Nat) : Int) :=
  u32_xor_nat c 4294967295 h (by omega)

theorem onward_walk (c : Nat) (hc : c < 4294967296) (w : World) :
    Calls Try.prog 55 #[.int .u32 c] w fun e w' => e = .returned (.int .u32 (S c : Nat)) ∧ w' = w := by
  have e1 := and_one c hc
  by_cases h : c % 2 = 1
  · have hS : S c = c / 2 ^^^ 3988292384 := by unfold S; rw [if_pos h]
    have e2 := xor_poly (c / 2) (by omega)
    have t : (bits .and .u32 (c : Int) 1 != 0) = true := by rw [e1, h]; rfl
    rw [hS]; clear hS e1
    go_enter Try.func55, Try.ntmps55
    go_wp2
    go_ret
    exact ⟨by simp [← e2], rfl⟩
  · have hS : S c = c / 2 := by unfold S; rw [if_neg h]
    have t : (bits .and .u32 (c : Int) 1 != 0) = false := by rw [e1, show c % 2 = 0 by omega]; rfl
    rw [hS]; clear hS e1
    go_enter Try.func55, Try.ntmps55
    go_wp2
    go_ret
    exact ⟨by simp, rfl⟩

/-- A string's bytes as plain numbers. -/
def byte (s : ByteArray) (k : Nat) : Nat := if h : k < s.size then s[k].toNat else 0

theorem byte_at {s : ByteArray} {k : Nat} (h : k < s.size) : s[k].toNat = byte s k := by unfold byte; rw [dif_pos h]

theorem byte_lt (s : ByteArray) (k : Nat) : byte s k < 256 := by
  unfold byte; split
  · exact UInt8.toNat_lt _
  · omega

theorem ref_walk (s : ByteArray) (hs : s.size ≤ maxLen) (w : World) :
    Calls Try.prog 23 #[.string s] w fun e w' => e = .returned (.int .u32 (check (byte s) s.size : Nat)) ∧ w' = w := by
  unfold maxLen at hs
  go_enter Try.func23, Try.ntmps23
  go_wp2
  go_loop [3, 4] (fun c i => ∃ k : Nat, k ≤ s.size ∧ i = .int .i64 k ∧ c = .int .u32 (run (byte s) 4294967295 k : Nat)) (fun _ i => s.size - (intOf i).toNat)
  case atStart => exact ⟨0, Nat.zero_le _, rfl, rfl⟩
  case round =>
    obtain ⟨k, hk, rfl, rfl⟩ := hrel
    have hx : run (byte s) 4294967295 k < 4294967296 := run_lt (byte_lt s) (by omega) k
    by_cases hlt : k < s.size
    · generalize hr : run (byte s) 4294967295 k = x at hx ⊢
      have hb := byte_lt s k
      have e0 : bits .xor .u32 (x : Int) ((s[k].toNat : Int) % 4294967296) = ((x ^^^ byte s k : Nat) : Int) := by
        rw [byte_at hlt, show ((byte s k : Nat) : Int) % 4294967296 = ((byte s k : Nat) : Int) by omega]
        exact u32_xor_nat x (byte s k) hx (by omega)
      have hy : x ^^^ byte s k < 4294967296 := Nat.xor_lt_two_pow (n := 32) hx (by omega)
      go_wp2
      go_loop [3, 5] (fun c j => ∃ m : Nat, m ≤ 8 ∧ j = .int .i64 m ∧ c = .int .u32 (It m (x ^^^ byte s k) : Nat)) (fun _ j => 8 - (intOf j).toNat)
      case atStart => exact ⟨0, Nat.zero_le _, rfl, rfl⟩
      case round =>
        obtain ⟨m, hm, rfl, rfl⟩ := hrel
        have hz : It m (x ^^^ byte s k) < 4294967296 := It_lt m hy
        have hS := S_It m (x ^^^ byte s k)
        by_cases h8 : m < 8
        · generalize It m (x ^^^ byte s k) = z at hz hS ⊢
          by_cases h1 : z % 2 = 1
          · have t : ((z : Int) % 2 == 1) = true := by
              have : (z : Int) % 2 = 1 := by omega
              rw [this]; rfl
            have e2 := xor_poly (z / 2) (by omega)
            have hS' : It (m + 1) (x ^^^ byte s k) = z / 2 ^^^ 3988292384 := by rw [← hS]; unfold S; rw [if_pos h1]
            clear hS
            go_wp2
            go_round
            case rel => exact ⟨m + 1, by omega, by go_num, by rw [hS', ← e2]; simp⟩
            case measure => simp [intOf]; omega
          · have t : ((z : Int) % 2 == 1) = false := by
              have : (z : Int) % 2 = 0 := by omega
              rw [this]; rfl
            have hS' : It (m + 1) (x ^^^ byte s k) = z / 2 := by rw [← hS]; unfold S; rw [if_neg h1]
            clear hS
            go_wp2
            go_round
            case rel => exact ⟨m + 1, by omega, by go_num, by rw [hS']; simp⟩
            case measure => simp [intOf]; omega
        · obtain rfl : m = 8 := by omega
          go_wp2
          go_round
          case rel => exact ⟨k + 1, by omega, by go_num, by simp only [run]; rw [hr]; rfl⟩
          case measure => simp [intOf]; omega
    · obtain rfl : k = s.size := by omega
      have e3 := xor_ones _ hx
      go_wp2
      go_ret
      exact ⟨rfl, rfl⟩
end Go.Proofs.Ytgpjnmimicoeoaa
