/- The walks of crc.times, crc.power and crc.Join: each returns what the plain functions say, and turns nothing. Conditions: numbers are within their kinds; power's first number is a power of x. -/
import Derived.Test.YtidikhagpdfbcaaJoin
import Derived.Laws.Bits128
namespace Go.Proofs.Ytidikhagpdfbcaa
open Go.ChangeShapes Go.WideShapes Go.ChangeAt Go.RowKit
open Chk

theorem i64_and1 (n : Nat) (h : n < 9223372036854775808) : bits .and .i64 (n : Int) 1 = ((n % 2 : Nat) : Int) := by
  have h1 : (BitVec.ofInt 64 1).toNat = 2 ^ 1 - 1 := by decide
  have key : (BitVec.ofInt 64 (n : Int) &&& BitVec.ofInt 64 1).toNat = ((n : Int) % ((2 ^ 64 : Nat) : Int)).toNat % 2 ^ 1 := by
    rw [BitVec.toNat_and, BitVec.toNat_ofInt, h1, Nat.and_two_pow_sub_one_eq_mod]
  show IntKind.i64.wrap ((BitVec.ofInt 64 (n : Int) &&& BitVec.ofInt 64 1).toNat : Nat) = ((n % 2 : Nat) : Int)
  rw [key, IntKind.wrap_i64]
  omega

/-- A bit of a, asked by Go's test. -/
theorem bit_test (a j : Nat) (ha : a < 4294967296) (hj : j < 32) :
    bits .and .u32 (a : Int) ((2147483648 / 2 ^ j : Nat) : Int) = ((a / 2 ^ (31 - j) % 2 * 2 ^ (31 - j) : Nat) : Int) := by
  have e : 2147483648 / 2 ^ j = 2 ^ (31 - j) := by
    have : (2147483648 : Nat) = 2 ^ (31 - j) * 2 ^ j := by rw [← Nat.pow_add, show 31 - j + j = 31 by omega]
    rw [this, Nat.mul_div_cancel _ (Nat.pow_pos (by omega))]
  rw [e, u32_and_nat a (2 ^ (31 - j)) ha (by
    have : (2 : Nat) ^ (31 - j) ≤ 2 ^ 31 := Nat.pow_le_pow_right (by omega) (by omega)
    omega), nat_bit]

theorem times_walk (a b : Nat) (ha : a < 4294967296) (hb : b < 4294967296) (w : World) :
    Calls Try.prog 14 #[.int .u32 a, .int .u32 b] w fun e w' => e = .returned (.int .u32 (mul a b 32 : Nat)) ∧ w' = w := by
  go_enter Try.func14, Try.ntmps14
  go_wp2
  go_loopg [1, 5, 6] 32 (fun g y p t wx => ∃ j : Nat, j + g = 32 ∧ t = .int .u32 (2147483648 / 2 ^ j : Nat) ∧ p = .int .u32 (mul a b j : Nat) ∧ y = .int .u32 (It j b : Nat) ∧ wx = w)
  case atStart => exact ⟨0, rfl, rfl, rfl, rfl, rfl⟩
  case round =>
    obtain ⟨j, hj, rfl, rfl, rfl, rfl⟩ := hrel
    cases gk with
    | succ g =>
      have hj1 : j < 32 := by omega
      have et := bit_test a j ha hj1
      have hp := mul_lt a hb j
      have hy : It j b < 4294967296 := It_lt j hb
      have HN : Hid (mul a b (j + 1) = mul a b j ^^^ (if a / 2 ^ (31 - j) % 2 = 1 then It j b else 0)) := rfl
      have HS : Hid (S (It j b) = It (j + 1) b) := S_It j b
      have hd : 0 < 2147483648 / 2 ^ j ∧ 2147483648 / 2 ^ j < 4294967296 ∧ 2147483648 / 2 ^ (j + 1) = 2147483648 / 2 ^ j / 2 := by
        have : ∀ j : Nat, j < 32 → 0 < 2147483648 / 2 ^ j ∧ 2147483648 / 2 ^ j < 4294967296 ∧ 2147483648 / 2 ^ (j + 1) = 2147483648 / 2 ^ j / 2 := by decide +kernel
        exact this j hj1
      obtain ⟨hd0, hd1, hd2⟩ := hd
      have HD : Hid (2147483648 / 2 ^ (j + 1) = 2147483648 / 2 ^ j / 2) := hd2
      clear hd2
      generalize 2147483648 / 2 ^ j = d at hd0 hd1 HD et ⊢
      generalize mul a b j = p at hp HN ⊢
      generalize It j b = y at hy HN HS ⊢
      have ex := u32_xor_nat p y hp hy
      have hpos : 0 < 2 ^ (31 - j) := Nat.pow_pos (by omega)
      generalize 2 ^ (31 - j) = q at hpos et HN
      by_cases h : a / q % 2 = 1
      · have t : (bits .and .u32 (a : Int) (d : Int) != 0) = true := by
          rw [et, h, Nat.one_mul]
          exact bne_iff_ne.mpr (by omega)
        have HN' : Hid (mul a b (j + 1) = p ^^^ y) := by have := HN.out; rw [if_pos h] at this; exact this
        have HJ : Hid (j + (g + 1) = 32) := hj
        clear et HN hj h hpos
        go_wp2_with (go_at_call 16; refine (onward_walk _ hy _).mono ?_; rintro e w' ⟨rfl, rfl⟩)
        go_roundg g
        case measure => omega
        case rel => exact ⟨j + 1, by have := HJ.out; omega, by rw [HD.out]; simp, by rw [HN'.out], by rw [← HS.out], rfl⟩
      · have t : (bits .and .u32 (a : Int) (d : Int) != 0) = false := by
          rw [et, show a / q % 2 = 0 by omega, Nat.zero_mul]
          rfl
        have HN' : Hid (mul a b (j + 1) = p) := by have := HN.out; rw [if_neg h, Nat.xor_zero] at this; exact this
        have HJ : Hid (j + (g + 1) = 32) := hj
        clear et HN hj h hpos
        go_wp2_with (go_at_call 16; refine (onward_walk _ hy _).mono ?_; rintro e w' ⟨rfl, rfl⟩)
        go_roundg g
        case measure => omega
        case rel => exact ⟨j + 1, by have := HJ.out; omega, by rw [HD.out]; simp, by rw [HN'.out], by rw [← HS.out], rfl⟩
    | zero =>
      obtain rfl : j = 32 := by omega
      have hz : 2147483648 / 2 ^ 32 = 0 := by decide +kernel
      rw [hz]
      clear hz
      go_wp2
      go_ret
      exact ⟨rfl, rfl⟩

theorem mul_powers (u v : Nat) : mul (It v 2147483648) (It u 2147483648) 32 = It (v + u) 2147483648 := by
  rw [mul_pow (It_lt v (by omega)), ← It_add]

theorem power_walk (u n : Nat) (hn : n < 9223372036854775808) (w : World) :
    Calls Try.prog 15 #[.int .u32 (It u 2147483648 : Nat), .int .i64 n] w fun e w' => e = .returned (.int .u32 (It (u * n) 2147483648 : Nat)) ∧ w' = w := by
  have HE : ∃ E, E = u * n := ⟨_, rfl⟩
  obtain ⟨E, hE⟩ := HE
  rw [← hE]
  have HE : Hid (E = u * n) := hE
  clear hE
  go_enter Try.func15, Try.ntmps15
  go_wp2
  go_loopg [0, 1, 5] n (fun g c m p wx => ∃ u' v' : Nat, g ≤ n ∧ m = .int .i64 g ∧ c = .int .u32 (It u' 2147483648 : Nat) ∧ p = .int .u32 (It v' 2147483648 : Nat) ∧ u' * g + v' = E ∧ wx = w)
  case atStart => exact ⟨u, 0, Nat.le_refl _, rfl, rfl, rfl, by rw [HE.out]; omega, rfl⟩
  case round =>
    obtain ⟨u', v', hgn, rfl, rfl, rfl, hsum, rfl⟩ := hrel
    have hc : It u' 2147483648 < 4294967296 := It_lt u' (by omega)
    have hp : It v' 2147483648 < 4294967296 := It_lt v' (by omega)
    have e1 := i64_and1 gk (by omega)
    have HS : Hid (u' * gk + v' = E) := hsum
    have HV : Hid (mul (It v' 2147483648) (It u' 2147483648) 32 = It (v' + u') 2147483648) := mul_powers u' v'
    have HU : Hid (mul (It u' 2147483648) (It u' 2147483648) 32 = It (u' + u') 2147483648) := mul_powers u' u'
    have HG : Hid (gk ≤ n) := hgn
    have hlt : gk < 9223372036854775808 := by omega
    clear hsum HE hgn
    by_cases h0 : gk = 0
    · subst h0
      have HX : Hid (v' = E) := by
        show v' = E
        have := HS.out
        omega
      clear HS HV HU e1 hc hp HG
      go_wp2
      go_ret
      exact ⟨by rw [← HX.out]; rfl, rfl⟩
    · have hpos : 0 < gk := by omega
      clear h0
      generalize It u' 2147483648 = c at hc HV HU ⊢
      generalize hpv : It v' 2147483648 = p at hp HV ⊢
      have HP : Hid (It v' 2147483648 = p) := hpv
      clear hpv
      by_cases h : gk % 2 = 1
      · have t : (bits .and .i64 (gk : Int) 1 != 0) = true := by rw [e1, h]; rfl
        have HO : Hid (gk % 2 = 1) := h
        clear e1 h
        go_wp2_with (go_at_call 14; refine (times_walk _ _ (by assumption) (by assumption) _).mono ?_; rintro e w' ⟨rfl, rfl⟩)
        go_roundg (gk / 2)
        case measure => omega
        case rel =>
          refine ⟨u' + u', v' + u', by have := HG.out; omega, by simp, by rw [HU.out], by rw [HV.out], ?_, rfl⟩
          have h1 := HS.out
          have h2 : u' * gk = (u' + u') * (gk / 2) + u' := by
            have : gk = 2 * (gk / 2) + 1 := by have := HO.out; omega
            generalize gk / 2 = q at this ⊢
            subst this
            rw [Nat.mul_add, Nat.mul_one, ← Nat.mul_assoc, Nat.mul_two]
          omega
      · have t : (bits .and .i64 (gk : Int) 1 != 0) = false := by rw [e1, show gk % 2 = 0 by omega]; rfl
        have HO : Hid (gk % 2 = 0) := by show gk % 2 = 0; omega
        clear e1 h
        go_wp2_with (go_at_call 14; refine (times_walk _ _ (by assumption) (by assumption) _).mono ?_; rintro e w' ⟨rfl, rfl⟩)
        go_roundg (gk / 2)
        case measure => omega
        case rel =>
          refine ⟨u' + u', v', by have := HG.out; omega, by simp, by rw [HU.out], by rw [HP.out], ?_, rfl⟩
          have h1 := HS.out
          have h2 : u' * gk = (u' + u') * (gk / 2) := by
            have : gk = 2 * (gk / 2) := by have := HO.out; omega
            generalize gk / 2 = q at this ⊢
            subst this
            rw [← Nat.mul_assoc, Nat.mul_two]
          omega

theorem byteOn_is : It 8 2147483648 = 8388608 := by decide +kernel

theorem join_walk (a b n : Nat) (ha : a < 4294967296) (hb : b < 4294967296) (h1 : 0 < n) (hn : n < 9223372036854775808) (w : World) :
    Calls Try.prog 12 #[.int .u32 a, .int .u32 b, .int .i64 n] w fun e w' => e = .returned (.int .u32 (It (8 * n) a ^^^ b : Nat)) ∧ w' = w := by
  have hp := power_walk 8 n hn
  rw [byteOn_is] at hp
  have hx : It (8 * n) 2147483648 < 4294967296 := It_lt _ (by omega)
  have HM : Hid (mul a (It (8 * n) 2147483648) 32 = It (8 * n) a) := mul_pow ha _
  have hl : mul a (It (8 * n) 2147483648) 32 < 4294967296 := mul_lt a hx 32
  have ex := u32_xor_nat _ _ hl hb
  rw [← HM.out]
  clear HM
  have ht := times_walk a _ ha hx
  generalize It (8 * n) 2147483648 = x at *
  generalize mul a x 32 = y at *
  go_enter Try.func12, Try.ntmps12
  go_wp2_with (first
    | (go_at_call 15; refine (hp _).mono ?_; rintro e w' ⟨rfl, rfl⟩)
    | (go_at_call 14; refine (ht _).mono ?_; rintro e w' ⟨rfl, rfl⟩))
  go_ret
  exact ⟨rfl, rfl⟩

theorem join_none (a b : Nat) (n : Int) (h1 : n ≤ 0) (w : World) :
    Calls Try.prog 12 #[.int .u32 a, .int .u32 b, .int .i64 n] w fun e w' => e = .returned (.int .u32 a) ∧ w' = w := by
  go_enter Try.func12, Try.ntmps12
  go_wp2
  go_ret
  exact ⟨rfl, rfl⟩
end Go.Proofs.Ytidikhagpdfbcaa
