/- The walks of the laws on no reader and on texts: both return true for every input, and all memory that was there is as it was. Conditions: numbers are within their kinds; a text's size is within Go's bound. -/
import Derived.Test.YthjjajlacicncaaWalkK
namespace Go.Proofs.Ythjjajlacicncaa
open Go.ChangeShapes Go.WideShapes Go.ChangeAt Go.RowKit

set_option maxRecDepth 100000 in
set_option maxHeartbeats 1000000 in
theorem none_walk (q : Int) (w : World) :
    Calls Try.prog 8 #[.int .i64 q] w fun e w' => e = .returned (.bool true) ∧ Kept w w' := by
  have T1 : Tok 1 := ⟨trivial⟩
  have T2 : Tok 2 := ⟨trivial⟩
  have T3 : Tok 3 := ⟨trivial⟩
  have T4 : Tok 4 := ⟨trivial⟩
  go_enter Try.func8, Try.ntmps8
  go_wp2_with (first
    | (go_at_call 32; have := T1; refine (fail_nil 4 rfl _).mono ?_; rintro e w1 ⟨rfl, hw⟩; rw [hw]; clear hw this T1)
    | (go_at_call 9; refine (new_walk _ _).mono ?_; rintro e w2 ⟨rfl, k2, hk2⟩)
    | (go_at_call 32; have := T2; refine (fail_first 4 rfl k2).mono ?_; rintro e w3 ⟨rfl, k3, o3⟩; clear this T2)
    | (go_at_call 32; refine (fail_later 3 4 rfl rfl k3).mono ?_; rintro e w4 ⟨rfl, hw⟩; rw [hw]; clear hw)
    | (go_at_call 12; refine (awake_walk _).mono ?_; rintro e w5 ⟨rfl, hk5⟩)
    | (go_at_call 13; refine (err_nil _).mono ?_; rintro e w6 ⟨rfl, hw⟩; rw [hw]; clear hw)
    | (go_at_call 14; have := T3; refine (left_nil _).mono ?_; rintro e w7 ⟨rfl, hw⟩; rw [hw]; clear hw this T3)
    | (go_at_call 11; refine (num_nil _ _).mono ?_; rintro e w8 ⟨rfl, hw⟩; rw [hw]; clear hw)
    | (go_at_call 21; refine (take_nil _ _).mono ?_; rintro e w9 ⟨rfl, hw⟩; rw [hw]; clear hw)
    | (go_at_call 23; refine (rfixed_nil _ _).mono ?_; rintro e w10 ⟨rfl, hk10⟩)
    | (go_at_call 25; refine (text_nil _ _).mono ?_; rintro e w11 ⟨rfl, hw⟩; rw [hw]; clear hw)
    | (go_at_call 16; have := T4; refine (end_nil _).mono ?_; rintro e w12 ⟨rfl, hw⟩; rw [hw]; clear hw this T4)
    | (go_at_call 16; refine (end_walk (hk10.rd (hk5.rd k3))).mono ?_; rintro e w13 ⟨rfl, hw⟩; rw [hw]; clear hw)
    | (go_at_call 14; refine (left_none (hk10.rd (hk5.rd k3))).mono ?_; rintro e w14 ⟨rfl, hw⟩; rw [hw]; clear hw))
  go_ret
  exact ⟨rfl, (((hk2.on0.own o3 (Nat.le_refl _)).more hk5).more hk10).kept⟩

theorem mask_and (n : Nat) (hn : n < 18446744073709551616) (k : Nat) (hk : k < 8) :
    bits .and .u64 (n : Int) (IntKind.u64.wrap (IntKind.u64.wrap (2 ^ (8 * k)) - 1)) = ((n % 256 ^ k : Nat) : Int) := by
  have h0 : (2 : Nat) ^ (8 * k) ≤ 2 ^ 56 := Nat.pow_le_pow_right (by omega) (by omega)
  have h1 : 0 < (2 : Nat) ^ (8 * k) := Nat.two_pow_pos _
  have h2 : ((2 : Int) ^ (8 * k)) = ((2 ^ (8 * k) : Nat) : Int) := by simp
  have h3 : IntKind.u64.wrap (IntKind.u64.wrap (2 ^ (8 * k)) - 1) = ((2 ^ (8 * k) - 1 : Nat) : Int) := by
    rw [IntKind.wrap_u64, IntKind.wrap_u64, h2]; omega
  rw [h3, bits_and_u64_nat _ _ hn (by omega), Nat.and_two_pow_sub_one_eq_mod, Nat.pow_mul]

set_option maxRecDepth 100000 in
set_option maxHeartbeats 1000000 in
theorem texts_walk (s : ByteArray) (hs : s.size ≤ maxLen) (n : Nat) (hn : n < 18446744073709551616) (q : Int) (w : World) :
    Calls Try.prog 7 #[.string s, .int .u64 (n : Nat), .int .i64 q] w fun e w' => e = .returned (.bool true) ∧ Kept w w' := by
  unfold maxLen at hs
  have h12 := awake_walk
  obtain ⟨tl, htl, htl3, hcut0⟩ := cut_at s 300
  have hcut : s.extract 0 (min (s.size : Int) 300).toNat = bs tl := hcut0
  clear hcut0
  have h28 := text_walk tl (by omega)
  have h30 := reftext_walk tl (by omega)
  have h29 := fixed_walk n hn q
  have hk8 := kOf_le q
  have hke := kOf_eq q
  have h31 := reffixed_walk n hn (kOf q) hk8
  have h25 := @rtext_walk tl (fixL n (kOf q)) htl3 (by rw [fixL_length]; omega)
  have h23 := @rfixed_walk n hn q
  have hcat : bs (numL tl.length ++ tl) ++ bs (fixL n (kOf q)) = bs (numL tl.length ++ (tl ++ fixL n (kOf q))) := by rw [bs_append, List.append_assoc]
  have hz1 : (bs (numL tl.length ++ tl)).size ≤ 310 := by rw [bs_size]; have := numL_ten tl.length (by omega); simp; omega
  have hz2 : (bs (fixL n (kOf q))).size ≤ 8 := by rw [bs_size, fixL_length]; exact hk8
  generalize bs (numL tl.length ++ (tl ++ fixL n (kOf q))) = x3 at *
  generalize bs (numL tl.length ++ tl) = x1 at *
  generalize bs (fixL n (kOf q)) = x2 at *
  generalize bs tl = t at *
  obtain ⟨V, hV⟩ : ∃ V, V = n % 256 ^ kOf q := ⟨_, rfl⟩
  rw [← hV] at h23
  have HV : Hid (V = n % 256 ^ kOf q) := hV
  clear hV htl htl3
  generalize kOf q = k at *
  have T1 : Toki 1 := ⟨trivial⟩
  have T2 : Toki 2 := ⟨trivial⟩
  by_cases hk : k < 8
  · have hand := mask_and n hn k hk
    rw [← HV.out] at hand
    go_enter Try.func7, Try.ntmps7
    go_wp2_with (first
      | (go_at_call 28; have := T1; refine (h28 _).mono ?_; rintro e w1 ⟨rfl, hk1⟩; clear this T1)
      | (go_at_call 29; have := T2; refine (h29 _).mono ?_; rintro e w2 ⟨rfl, hk2⟩; clear this T2)
      | (go_at_call 9; refine (new_walk _ _).mono ?_; rintro e w3 ⟨rfl, k3, hk3⟩)
      | (go_at_call 25; refine (h25 k3).mono ?_; rintro e w4 ⟨rfl, k4, o4⟩)
      | (go_at_call 23; refine (h23 k4).mono ?_; rintro e w5 ⟨rfl, k5, o5⟩)
      | (go_at_call 12; refine (h12 _).mono ?_; rintro e w6 ⟨rfl, hk6⟩)
      | (go_at_call 28; refine (h28 _).mono ?_; rintro e w7 ⟨rfl, hk7⟩)
      | (go_at_call 30; refine (h30 _).mono ?_; rintro e w8 ⟨rfl, hk8⟩)
      | (go_at_call 29; refine (h29 _).mono ?_; rintro e w9 ⟨rfl, hk9⟩)
      | (go_at_call 31; refine (h31 _).mono ?_; rintro e w10 ⟨rfl, hk10⟩)
      | (go_at_call 16; refine (end_walk (hk10.rd (hk9.rd (hk8.rd (hk7.rd (hk6.rd k5)))))).mono ?_; rintro e w11 ⟨rfl, hw⟩; rw [hw]; clear hw))
    go_ret
    exact ⟨rfl, (((((((((hk1.on0.more hk2).more hk3).own o4 (Nat.le_trans hk1.size hk2.size)).own o5 (Nat.le_trans hk1.size hk2.size)).more hk6).more hk7).more hk8).more hk9).more hk10).kept⟩
  · obtain rfl : k = 8 := by omega
    have hVn : V = n := by rw [HV.out]; exact Nat.mod_eq_of_lt hn
    subst hVn
    go_enter Try.func7, Try.ntmps7
    go_wp2_with (first
      | (go_at_call 28; have := T1; refine (h28 _).mono ?_; rintro e w1 ⟨rfl, hk1⟩; clear this T1)
      | (go_at_call 29; have := T2; refine (h29 _).mono ?_; rintro e w2 ⟨rfl, hk2⟩; clear this T2)
      | (go_at_call 9; refine (new_walk _ _).mono ?_; rintro e w3 ⟨rfl, k3, hk3⟩)
      | (go_at_call 25; refine (h25 k3).mono ?_; rintro e w4 ⟨rfl, k4, o4⟩)
      | (go_at_call 23; refine (h23 k4).mono ?_; rintro e w5 ⟨rfl, k5, o5⟩)
      | (go_at_call 12; refine (h12 _).mono ?_; rintro e w6 ⟨rfl, hk6⟩)
      | (go_at_call 28; refine (h28 _).mono ?_; rintro e w7 ⟨rfl, hk7⟩)
      | (go_at_call 30; refine (h30 _).mono ?_; rintro e w8 ⟨rfl, hk8⟩)
      | (go_at_call 29; refine (h29 _).mono ?_; rintro e w9 ⟨rfl, hk9⟩)
      | (go_at_call 31; refine (h31 _).mono ?_; rintro e w10 ⟨rfl, hk10⟩)
      | (go_at_call 16; refine (end_walk (hk10.rd (hk9.rd (hk8.rd (hk7.rd (hk6.rd k5)))))).mono ?_; rintro e w11 ⟨rfl, hw⟩; rw [hw]; clear hw))
    go_ret
    exact ⟨rfl, (((((((((hk1.on0.more hk2).more hk3).own o4 (Nat.le_trans hk1.size hk2.size)).own o5 (Nat.le_trans hk1.size hk2.size)).more hk6).more hk7).more hk8).more hk9).more hk10).kept⟩
end Go.Proofs.Ythjjajlacicncaa
