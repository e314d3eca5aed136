/- The walk of the law that a page of which one byte is another one is none. Conditions: numbers are within their kinds, a string's size is within Go's bound. -/
import Derived.Test.YtkllkdmmncegfaaWalkM
namespace Go.Proofs.Ytkllkdmmncegfaa
open Go.ChangeShapes Go.WideShapes Go.ChangeAt Go.RowKit
attribute [local go_sem ↓] Go.wp_at_zero Go.wp_at_succ

theorem lowbits (k m : Nat) (hk : k ≤ 14) (h1 : (BitVec.ofInt 64 (m : Int)).toNat = 2 ^ k - 1) (a : Int) : ∃ x : Nat, x < 2 ^ k ∧ bits .and .i64 a m = (x : Int) := by
  have key : (BitVec.ofInt 64 a &&& BitVec.ofInt 64 m).toNat = (a % ((2 ^ 64 : Nat) : Int)).toNat % 2 ^ k := by
    rw [BitVec.toNat_and, BitVec.toNat_ofInt, h1, Nat.and_two_pow_sub_one_eq_mod]
  have hp : 2 ^ k ≤ 2 ^ 14 := Nat.pow_le_pow_right (by decide) hk
  have hl := Nat.mod_lt (a % ((2 ^ 64 : Nat) : Int)).toNat (Nat.two_pow_pos k)
  refine ⟨(a % ((2 ^ 64 : Nat) : Int)).toNat % 2 ^ k, hl, ?_⟩
  show IntKind.i64.wrap ((BitVec.ofInt 64 a &&& BitVec.ofInt 64 m).toNat : Nat) = _
  rw [key, IntKind.wrap_i64]
  omega


set_option maxRecDepth 100000 in
set_option maxHeartbeats 4000000 in
theorem burst_A (kd nm a : Int) (g y k n : Nat) (hk : k < 4) (s D P : ByteArray) (tl : List Nat) (hsm : Small tl) (hln : tl.length = 256) (hD : s.extract 0 (min (s.size : Int) 237).toNat = D) (hT : P = bs tl)
    (ek : bits .and .i64 kd 3 = (k : Int)) (en : bits .and .i64 nm 16383 = (n : Int))
    (f6 : ∀ W, Calls Try.prog 6 #[.agg #[.int .i64 ((k : Int) + 1), .int .i64 (n : Nat), .int .u64 (g : Nat), .string D]] W fun e w' => e = .returned (.string P) ∧ Kept W w')
    (hy : y < 256) (hy0 : y ≠ 0) (i : Nat) (hi : i < tl.length) (hI : (wrap64 (a.tmod 256 + 256)).tmod 256 = (i : Int))
    (f10 : ∀ W, Calls Try.prog 10 #[.string (bs (tl.set i (tl.getD i 0 ^^^ y)))] W fun e w' => e = .returned (.tuple #[.agg #[.int .i64 0, .int .i64 0, .int .u64 0, .string ⟨#[]⟩], .int .i64 3]) ∧ Kept W w') (w : World) :
    Calls Try.prog 5 #[.agg #[.int .i64 kd, .int .i64 nm, .int .u64 (g : Nat), .string s], .int .i64 a, .int .u8 (y : Nat)] w fun e w' => e = .returned (.bool true) ∧ Kept w w' := by
  have m1 : (0 : Int) ≤ min (s.size : Int) 237 := by omega
  have m2 : min (s.size : Int) 237 ≤ (s.size : Int) := by omega
  have m3 : IntKind.i64.wrap ((k : Int) + 1) = (k : Int) + 1 := by rw [IntKind.wrap_i64]; omega
  have P0 := Pg.alloc (w.alloc (.cells #[.int .i64 kd, .int .i64 nm, .int .u64 (g : Nat), .string s] 24)) ((k : Int) + 1) n g D 24
  rw [show (w.alloc (.cells #[.int .i64 kd, .int .i64 nm, .int .u64 (g : Nat), .string s] 24)).heap.size = w.heap.size + 1 by simp] at P0
  have P0 := ((Kept.refl _).drew).pg P0
  have HC : Hid (∀ W, ∃ cap w', (convert 9 33 (.string P)).run Try.prog W = .ok (.slice (some ⟨W.heap.size, 0, none⟩) 256 cap) w' ∧ Kept W w' ∧ Bt w' W.heap.size tl) := by
    intro W
    have := bytes_bt W tl hsm
    rwa [← hT, hln] at this
  have hxor := u8_xor_nat (tl.getD i 0) y (hsm.getD i) hy
  obtain ⟨X, hX⟩ : ∃ X, tl.getD i 0 = X := ⟨_, rfl⟩
  rw [hX] at f10 hxor
  have HX : Hid (tl.getD i 0 = X) := hX
  clear hX
  generalize X ^^^ y = Y at *
  have hy0 : ((y : Int) == 0) = false := by simp; omega
  have hi2 : i < 256 := by omega
  clear hT hsm
  go_enter Try.func5, Try.ntmps5
  go_upto_region 2 with fail
  go_cut [] from 12 to 28 (fun wx => wx = ((w.alloc (.cells #[.int .i64 kd, .int .i64 nm, .int .u64 (g : Nat), .string s] 24)).alloc (.cells #[.int .i64 ((k : Int) + 1), .int .i64 (n : Nat), .int .u64 (g : Nat), .string D] 24)).drew)
  case first =>
    go_region_held3 (fun W => W.cell? ⟨w.heap.size, 0, none⟩ = some (.int .i64 kd) ∧ W.cell? ⟨w.heap.size, 1, none⟩ = some (.int .i64 nm) ∧ W.cell? ⟨w.heap.size, 3, none⟩ = some (.string s)) (go_keep) (fail)
    all_goals go_wp2_with fail
    all_goals go_meet
    all_goals rfl
  case rest =>
    obtain rfl := hcut
    obtain ⟨p0, p1, p2, p3⟩ := P0.cs
    have K0 : Hid (Kept w ((w.alloc (.cells #[.int .i64 kd, .int .i64 nm, .int .u64 (g : Nat), .string s] 24)).alloc (.cells #[.int .i64 ((k : Int) + 1), .int .i64 (n : Nat), .int .u64 (g : Nat), .string D] 24)).drew) := (((Kept.refl w).alloc _).alloc _).drew
    go_wp2_with (first
      | (go_at_call 6; with_reducible refine (f6 _).mono ?_; rintro e v1 ⟨rfl, q1⟩; obtain ⟨cap, v2, hcv, q2, B2⟩ := HC.out v1; have hcc := B2.cell i hi; rw [HX.out] at hcc; have hff := B2.free i hi; have B2s := B2.set hi Y; have hc2 := B2s.text cap; rw [List.length_set, hln] at hc2)
      | (go_at_call 10; with_reducible refine (f10 _).mono ?_; rintro e v3 ⟨rfl, q3⟩)
      | (go_at_call 8; with_reducible refine (awake_walk _).mono ?_; rintro e v5 ⟨rfl, q5⟩))
    go_ret
    have k1' := K0.out.trans q1
    have k2' := k1'.trans q2
    have k3' := k2'.set (a := ⟨v1.heap.size, i, none⟩) k1'.size (.int .u8 (Y : Nat))
    exact ⟨rfl, ((k3'.trans q3).alloc _).trans q5⟩

set_option maxRecDepth 100000 in
set_option maxHeartbeats 4000000 in
theorem burst_B (kd nm a : Int) (g y k n : Nat) (hk : k < 4) (s D P : ByteArray) (tl : List Nat) (hsm : Small tl) (hln : tl.length = 256) (hD : s.extract 0 (min (s.size : Int) 237).toNat = D) (hT : P = bs tl)
    (ek : bits .and .i64 kd 3 = (k : Int)) (en : bits .and .i64 nm 16383 = (n : Int))
    (f6 : ∀ W, Calls Try.prog 6 #[.agg #[.int .i64 ((k : Int) + 1), .int .i64 (n : Nat), .int .u64 (g : Nat), .string D]] W fun e w' => e = .returned (.string P) ∧ Kept W w')
    (hy0 : y = 0) (w : World) :
    Calls Try.prog 5 #[.agg #[.int .i64 kd, .int .i64 nm, .int .u64 (g : Nat), .string s], .int .i64 a, .int .u8 (y : Nat)] w fun e w' => e = .returned (.bool true) ∧ Kept w w' := by
  have m1 : (0 : Int) ≤ min (s.size : Int) 237 := by omega
  have m2 : min (s.size : Int) 237 ≤ (s.size : Int) := by omega
  have m3 : IntKind.i64.wrap ((k : Int) + 1) = (k : Int) + 1 := by rw [IntKind.wrap_i64]; omega
  have P0 := Pg.alloc (w.alloc (.cells #[.int .i64 kd, .int .i64 nm, .int .u64 (g : Nat), .string s] 24)) ((k : Int) + 1) n g D 24
  rw [show (w.alloc (.cells #[.int .i64 kd, .int .i64 nm, .int .u64 (g : Nat), .string s] 24)).heap.size = w.heap.size + 1 by simp] at P0
  have P0 := ((Kept.refl _).drew).pg P0
  have HC : Hid (∀ W, ∃ cap w', (convert 9 33 (.string P)).run Try.prog W = .ok (.slice (some ⟨W.heap.size, 0, none⟩) 256 cap) w' ∧ Kept W w' ∧ Bt w' W.heap.size tl) := by
    intro W
    have := bytes_bt W tl hsm
    rwa [← hT, hln] at this
  subst hy0
  clear hT hsm
  go_enter Try.func5, Try.ntmps5
  go_upto_region 2 with fail
  go_cut [] from 12 to 28 (fun wx => wx = ((w.alloc (.cells #[.int .i64 kd, .int .i64 nm, .int .u64 (g : Nat), .string s] 24)).alloc (.cells #[.int .i64 ((k : Int) + 1), .int .i64 (n : Nat), .int .u64 (g : Nat), .string D] 24)).drew)
  case first =>
    go_region_held3 (fun W => W.cell? ⟨w.heap.size, 0, none⟩ = some (.int .i64 kd) ∧ W.cell? ⟨w.heap.size, 1, none⟩ = some (.int .i64 nm) ∧ W.cell? ⟨w.heap.size, 3, none⟩ = some (.string s)) (go_keep) (fail)
    all_goals go_wp2_with fail
    all_goals go_meet
    all_goals rfl
  case rest =>
    obtain rfl := hcut
    obtain ⟨p0, p1, p2, p3⟩ := P0.cs
    have K0 : Hid (Kept w ((w.alloc (.cells #[.int .i64 kd, .int .i64 nm, .int .u64 (g : Nat), .string s] 24)).alloc (.cells #[.int .i64 ((k : Int) + 1), .int .i64 (n : Nat), .int .u64 (g : Nat), .string D] 24)).drew) := (((Kept.refl w).alloc _).alloc _).drew
    go_wp2_with (first
      | (go_at_call 6; with_reducible refine (f6 _).mono ?_; rintro e v1 ⟨rfl, q1⟩; obtain ⟨cap, v2, hcv, q2, B2⟩ := HC.out v1)
      | (go_at_call 10; with_reducible refine (f6 _).mono ?_; rintro e v3 ⟨rfl, q3⟩)
      | (go_at_call 8; with_reducible refine (awake_walk _).mono ?_; rintro e v5 ⟨rfl, q5⟩))
    go_ret
    have k1' := K0.out.trans q1
    have k2' := k1'.trans q2
    exact ⟨rfl, k2'.trans q5⟩

theorem bursts_walk (kd nm : Int) (g : Nat) (hg : g < 18446744073709551616) (s : ByteArray) (a : Int) (y : Nat) (hy : y < 256) (w : World) :
    Calls Try.prog 5 #[.agg #[.int .i64 kd, .int .i64 nm, .int .u64 (g : Nat), .string s], .int .i64 a, .int .u8 (y : Nat)] w fun e w' => e = .returned (.bool true) ∧ Kept w w' := by
  obtain ⟨D, hD⟩ : ∃ D, s.extract 0 (min (s.size : Int) 237).toNat = D := ⟨_, rfl⟩
  have hDz : (un D).length ≤ 237 := by rw [un_length, ← hD, ByteArray.size_extract]; omega
  obtain ⟨k, hk, ek⟩ := lowbits 2 3 (by omega) (by decide) kd
  obtain ⟨n, hn, en⟩ := lowbits 14 16383 (by omega) (by decide) nm
  have ek' : bits .and .i64 kd 3 = (k : Int) := ek
  have en' : bits .and .i64 nm 16383 = (n : Int) := en
  have f6 := put_yes (k + 1) n g (un D) (by omega) (by omega) (by omega) hg hDz
  rw [bs_un, show ((k + 1 : Nat) : Int) = (k : Int) + 1 by omega] at f6
  have hsm := pageL_small (k + 1) n g (un_small D)
  have hln := pageL_length (k + 1) n g (un D) hDz
  by_cases h0 : y = 0
  · exact burst_B kd nm a g y k n hk s D _ _ hsm hln hD rfl ek' en' f6 h0 w
  · obtain ⟨i, hi, hI⟩ := place a 256 (by omega) (by omega)
    have ho := one_byte (k + 1) n g (un D) (un_small D) hDz i hi y h0 hy
    have f10 := get_no _ (small_set hsm i (Nat.xor_lt_two_pow (n := 8) (hsm.getD i) hy)) ho
    exact burst_A kd nm a g y k n hk s D _ _ hsm hln hD rfl ek' en' f6 hy h0 i (by omega) hI f10 w
end Go.Proofs.Ytkllkdmmncegfaa
