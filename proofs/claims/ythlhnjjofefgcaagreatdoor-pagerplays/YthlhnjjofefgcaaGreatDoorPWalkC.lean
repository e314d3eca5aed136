/- The walks of crc.More, crc.Of and of the law's awake: each returns what the plain functions say, and makes memory of its own alone. Conditions: a string's size is within Go's bound, a number is within its kind. -/
import Derived.Test.YthlhnjjofefgcaaGreatDoorPWalkB
namespace Go.Proofs.YthlhnjjofefgcaaGreatDoor.P
open Go.ChangeShapes Go.WideShapes Go.ChangeAt Go.RowKit
open Chk

/-- What More answers. -/
def more (c : Nat) (s : ByteArray) : Nat := run (byte s) (c ^^^ 4294967295) s.size ^^^ 4294967295

theorem not_u32 (c : Nat) (h : c < 4294967296) : bits .xor .u32 IntKind.u32.max (c : Int) = ((c ^^^ 4294967295 : Nat) : Int) := by
  have e := u32_xor_nat 4294967295 c (by omega) h
  rw [Nat.xor_comm] at e
  exact e

set_option maxRecDepth 100000 in
theorem more_walk (c : Nat) (hc : c < 4294967296) (s : ByteArray) (hs : s.size ≤ maxLen) (w : World) :
    Calls Tryz.prog 94 #[.int .u32 c, .string s] w fun e w' => e = .returned (.int .u32 (more c s : Nat)) ∧ Kept w w' := by
  unfold maxLen at hs
  have z165 := zero165
  have sg : IntKind.u32.signed = false := rfl
  have en := not_u32 c hc
  have hn : c ^^^ 4294967295 < 4294967296 := Nat.xor_lt_two_pow (n := 32) hc (by omega)
  have HM : Hid (more c s = run (byte s) (c ^^^ 4294967295) s.size ^^^ 4294967295) := rfl
  generalize c ^^^ 4294967295 = d at hn en HM
  generalize more c s = m at HM
  go_enter Tryz.func94, Tryz.ntmps94
  go_wp2_with (first
    | (go_at_call 112; refine (effects_walk _).mono ?_; rintro e w1 ⟨rfl, hg1⟩)
    | (refine wpList_store_row rfl 165 (.tmp 5) (.tmp 7) rfl _ (tab (It 8)) rfl rfl 165 (tab fun _ => 0) (heap_alloc_new _ _) (by rw [tab_size]; exact size165) (by rw [tab_size, tab_size]) (tab_one _) ?_; rw [World.setRow_alloc_new]))
  clear z165 en
  have hT : ∀ k, k < 256 → (tab (It 8))[k]? = some (.int .u32 (It 8 k : Nat)) := fun k hk => tab_at _ hk
  have HT : Hid (∀ k, k < 256 → (tab (It 8))[k]? = some (.int .u32 (It 8 k : Nat))) := hT
  generalize tab (It 8) = T at HT ⊢
  clear hT
  go_loop [0, 6, 12] (fun c' _ i => ∃ k : Nat, k ≤ s.size ∧ i = .int .i64 k ∧ c' = .int .u32 (run (byte s) d k : Nat)) (fun _ _ i => s.size - (intOf i).toNat)
  case atStart => exact ⟨0, Nat.zero_le _, rfl, rfl⟩
  case round =>
    obtain ⟨k, hk, rfl, rfl⟩ := hrel
    have hx : run (byte s) d k < 4294967296 := run_lt (byte_lt s) hn k
    by_cases hlt : k < s.size
    · have HR : Hid (run (byte s) d (k + 1) = F (run (byte s) d k) (byte s k)) := rfl
      generalize hr : run (byte s) d k = x at hx HR ⊢
      clear hr
      have hb := byte_lt s k
      have e0 : bits .xor .u8 ((x : Int) % 256) (s[k].toNat : Int) = (((x % 256) ^^^ byte s k : Nat) : Int) := by
        rw [byte_at hlt, show ((x : Int) % 256) = ((x % 256 : Nat) : Int) by omega]
        exact u8_xor_nat _ _ (by omega) hb
      have hi : (x % 256) ^^^ byte s k < 256 := Nat.xor_lt_two_pow (n := 8) (by omega) hb
      have hat := HT.out _ hi
      have hF := F_table x (byte s k) hb
      have hv : It 8 ((x % 256) ^^^ byte s k) < 4294967296 := It_lt 8 (by omega)
      have e1 : bits .xor .u32 ((It 8 ((x % 256) ^^^ byte s k) : Nat) : Int) ((x : Int) / 256) = ((F x (byte s k) : Nat) : Int) := by
        rw [hF, show ((x : Int) / 256) = ((x / 256 : Nat) : Int) by omega]
        exact u32_xor_nat _ _ hv (by omega)
      have HH : Hid (∃ y, F x (byte s k) = y) := ⟨_, rfl⟩
      clear hF hv
      generalize F x (byte s k) = y at e1 HR
      generalize It 8 ((x % 256) ^^^ byte s k) = v at e1 hat
      generalize (x % 256) ^^^ byte s k = ix at e0 hi hat
      clear hb HH
      go_wp2
      go_round
      case rel => exact ⟨k + 1, by omega, by go_num, by rw [HR.out]⟩
      case measure => simp [intOf]; omega
    · obtain rfl : k = s.size := by omega
      have e3 := not_u32 _ hx
      rw [← HM.out] at e3
      clear HM HT
      go_wp2
      go_ret
      exact ⟨rfl, hg1.alloc _⟩

theorem of_walk (s : ByteArray) (hs : s.size ≤ maxLen) (w : World) :
    Calls Tryz.prog 73 #[.string s] w fun e w' => e = .returned (.int .u32 (check (byte s) s.size : Nat)) ∧ Kept w w' := by
  have HM : Hid (more 0 s = check (byte s) s.size) := by
    unfold more check; rw [Nat.zero_xor]; exact rfl
  rw [← HM.out]
  clear HM
  go_enter Tryz.func73, Tryz.ntmps73
  go_wp2_with (go_at_call 94; refine (more_walk 0 (by omega) s hs _).mono ?_; rintro e w1 ⟨rfl, hg1⟩)
  go_ret
  exact ⟨rfl, hg1⟩

end Go.Proofs.YthlhnjjofefgcaaGreatDoor.P
