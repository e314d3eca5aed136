/- The walk of wire.first over the bytes of a number, with whatever behind them: the number, and how many bytes it has. Conditions: the number is one of 64 bits; all bytes are below 256; a text's size is within Go's bound. -/
import Derived.Test.YtpefmoddglpbfaaNWWalkD
namespace Go.Proofs.Ytpefmoddglpbfaa.N
open Go.ChangeShapes Go.WideShapes Go.ChangeAt Go.RowKit

theorem andNot128 (x : Nat) (h : x < 256) : bits .andNot .u8 (x : Int) 128 = ((x % 128 : Nat) : Int) := by
  have key : ∀ y : Fin 256, bits .andNot .u8 ((y.val : Nat) : Int) 128 = ((y.val % 128 : Nat) : Int) := by decide +kernel
  exact key ⟨x, h⟩

/-- One part more. -/
theorem part_or (n k : Nat) (hn : n < 18446744073709551616) (x : Nat) (hx : n % 128 ^ (k + 1) = n % 128 ^ k + x * 128 ^ k) :
    bits .or .u64 ((n % 128 ^ k : Nat) : Int) ((x : Int) * 2 ^ (7 * k) % 18446744073709551616) = ((n % 128 ^ (k + 1) : Nat) : Int) := by
  have e : (128 : Nat) ^ k = 2 ^ (7 * k) := by rw [Nat.pow_mul]
  have h1 : n % 128 ^ k < 2 ^ (7 * k) := by rw [← e]; exact Nat.mod_lt _ (by rw [e]; exact Nat.two_pow_pos _)
  have h2 : n % 128 ^ (k + 1) ≤ n := Nat.mod_le _ _
  have h3 : x * 2 ^ (7 * k) < 18446744073709551616 := by rw [← e]; omega
  have h4 : ((x : Int) * 2 ^ (7 * k) % 18446744073709551616) = ((x * 2 ^ (7 * k) : Nat) : Int) := by
    have : ((x * 2 ^ (7 * k) : Nat) : Int) = (x : Int) * 2 ^ (7 * k) := by simp
    omega
  rw [h4, bits_or_u64_nat _ _ (by omega) h3, or_add _ _ _ h1, hx, ← e]

theorem numL_part (n k : Nat) (h : n / 128 ^ k < 128) : n % 128 ^ (k + 1) = n % 128 ^ k + n / 128 ^ k * 128 ^ k ∧ n % 128 ^ (k + 1) = n := by
  have := mod_step n (128 ^ k) 128
  rw [← Nat.pow_succ, Nat.mod_eq_of_lt h] at this
  refine ⟨this, ?_⟩
  rw [this, Nat.mul_comm]
  exact Nat.mod_add_div n (128 ^ k)

set_option maxRecDepth 100000 in
set_option maxHeartbeats 1000000 in
theorem first_walk (n : Nat) (hn : n < 18446744073709551616) (t : List Nat) (ht : t.length ≤ 100000) (w : World) :
    Calls Try.prog 21 #[.string (bs (numL n ++ t))] w fun e w' => e = .returned (.tuple #[.int .u64 (n : Nat), .int .i64 ((numL n).length : Nat), .int .i64 0]) ∧ w' = w := by
  have h10 := numL_ten n hn
  generalize hs : bs (numL n ++ t) = s
  have hsz : s.size = (numL n).length + t.length := by rw [← hs, bs_size]; simp
  have hb : ∀ k (h : k < s.size), s[k].toNat = ((numL n ++ t).getD k 0) % 256 := by subst hs; exact fun k h => bs_get _ k h
  have HS : Hid (s.size = (numL n).length + t.length) := hsz
  have HB : Hid (∀ k (h : k < s.size), s[k].toNat = ((numL n ++ t).getD k 0) % 256) := hb
  have hsm : s.size ≤ 100010 := by omega
  clear hsz hb hs
  go_enter Try.func21, Try.ntmps21
  go_wp2
  go_loopg [5, 10] n (fun g acc at_ wx => ∃ k m A : Nat, A = n % 128 ^ k ∧ m = g ∧ m = n / 128 ^ k ∧ (k = 0 ∨ m ≠ 0) ∧ (numL n ++ t).drop k = numL m ++ t ∧ k + (numL m).length = (numL n).length ∧ acc = .int .u64 (A : Nat) ∧ at_ = .int .i64 k ∧ wx = w)
  case atStart => exact ⟨0, n, 0, by rw [Nat.pow_zero, Nat.mod_one], rfl, by simp, Or.inl rfl, by simp, by simp, rfl, rfl, rfl⟩
  case round =>
    obtain ⟨k, m, A, hA, hg, hm, hz, hd, hl, rfl, rfl, rfl⟩ := hrel
    have hne : 1 ≤ (numL m).length := by have := numL_ne m; cases h : numL m with
      | nil => exact absurd h this
      | cons _ _ => simp
    have hk9 : k ≤ 9 := by omega
    have hks : k < s.size := by have := HS.out; omega
    have hm9 : k = 9 → m < 2 := by intro e; subst e; rw [hm]; omega
    have hget : (numL n ++ t).getD k 0 = (numL m ++ t).getD 0 0 := by rw [← hd]; simp [List.getD]
    have hx0 := HB.out k hks
    rw [hget] at hx0
    have HA : Hid (A = n % 128 ^ k) := hA
    have HG : Hid (m = gk) := hg
    have HM : Hid (m = n / 128 ^ k) := hm
    have HD : Hid ((numL n ++ t).drop k = numL m ++ t) := hd
    have HL : Hid (k + (numL m).length = (numL n).length) := hl
    clear hA hg hm hd hl hget
    by_cases h : m < 128
    · rw [numL_last h] at hx0
      have hx : s[k].toNat = m := by rw [hx0]; simp; omega
      obtain ⟨p1, p2⟩ := numL_part n k (by rw [← HM.out]; exact h)
      have p3 := part_or n k hn m (by rw [HM.out]; exact p1)
      have e1 := andNot128 m (by omega)
      rw [p2, ← HA.out] at p3
      rw [Nat.mod_eq_of_lt h] at e1
      have hlen : k + 1 = (numL n).length := by rw [← HL.out, numL_last h]; rfl
      have HN : Hid (k + 1 = (numL n).length) := hlen
      have p4 : bits .or .u64 (A : Int) (IntKind.u64.wrap ((m : Int) * 2 ^ (7 * k))) = (n : Int) := by rw [IntKind.wrap_u64]; exact p3
      clear p1 p2 hx0 hlen
      by_cases h0 : m = 0
      · have hk0 : k = 0 := by rcases hz with hz | hz; exact hz; exact absurd h0 hz
        subst hk0
        have hn0 : n = 0 := by have := HM.out; rw [Nat.pow_zero, Nat.div_one] at this; omega
        have hA0 : A = 0 := by rw [HA.out, Nat.pow_zero, Nat.mod_one]
        subst hn0 hA0 h0
        clear p3 p4 e1
        have HN2 : Hid (1 = (numL 0).length) := HN.out
        go_wp2
        go_ret3
        exact ⟨by rw [← HN2.out]; rfl, rfl⟩
      · have t0 : ((m : Int) == 0) = false := by simp; omega
        by_cases h1 : m ≤ 1
        · by_cases h9 : k = 9
          · subst h9
            have p9 : bits .or .u64 (A : Int) ((m : Int) * 9223372036854775808) = (n : Int) := by
              rw [← p3]; congr 1; omega
            clear p3 p4
            go_wp2
            go_ret3
            exact ⟨by rw [← HN.out]; rfl, rfl⟩
          · have t9 : ((k : Int) == 9) = false := by simp; omega
            clear p3
            go_wp2
            all_goals go_ret3
            all_goals exact ⟨by rw [← HN.out]; rfl, rfl⟩
        · have t9 : ((k : Int) == 9) = false := by simp; intro e; have := hm9 (by omega); omega
          clear p3
          go_wp2
          all_goals go_ret3
          all_goals exact ⟨by rw [← HN.out]; rfl, rfl⟩
    · have t9 : ((k : Int) == 9) = false := by simp; intro e; have := hm9 (by omega); omega
      have hk8 : k ≤ 8 := by
        rcases Nat.lt_or_ge 8 k with h8 | h8
        · have := hm9 (by omega); omega
        · exact h8
      rw [numL_more h] at hx0
      have hx : s[k].toNat = 128 + m % 128 := by rw [hx0]; simp; omega
      have e1 := andNot128 (128 + m % 128) (by omega)
      rw [show (128 + m % 128) % 128 = m % 128 by omega] at e1
      have p1 := mod_step n (128 ^ k) 128
      rw [← Nat.pow_succ, ← HM.out] at p1
      have p3 := part_or n k hn (m % 128) p1
      rw [← HA.out] at p3
      obtain ⟨y, hy⟩ : ∃ y, y = 128 + m % 128 := ⟨_, rfl⟩
      have hy2 : 128 ≤ y ∧ y < 256 := by omega
      obtain ⟨hy3, hy4⟩ := hy2
      have t0 : ((y : Int) == 0) = false := by simp; omega
      rw [← hy] at hx e1
      obtain ⟨z, hz2⟩ : ∃ z, z = m % 128 := ⟨_, rfl⟩
      rw [← hz2] at e1 p3
      have hz3 : z < 128 := by omega
      obtain ⟨B, hB⟩ : ∃ B, B = n % 128 ^ (k + 1) := ⟨_, rfl⟩
      rw [← hB] at p3
      have p4 : bits .or .u64 (A : Int) (IntKind.u64.wrap ((z : Int) * 2 ^ (7 * k))) = (B : Int) := by rw [IntKind.wrap_u64]; exact p3
      have HB2 : Hid (B = n % 128 ^ (k + 1)) := hB
      clear p1 p3 hx0 hy hz2 hB hz
      go_wp2
      · go_roundg (m / 128)
        case measure => have := HG.out; omega
        case rel =>
          refine ⟨k + 1, m / 128, B, HB2.out, rfl, ?_, Or.inr (by omega), ?_, ?_, rfl, by go_num, rfl⟩
          · rw [HM.out, Nat.div_div_eq_div_mul, ← Nat.pow_succ]
          · rw [← List.drop_drop, HD.out, numL_more h]; rfl
          · rw [← HL.out, numL_more h, List.length_cons]; omega
      · go_roundg (m / 128)
        case measure => have := HG.out; omega
        case rel =>
          refine ⟨k + 1, m / 128, B, HB2.out, rfl, ?_, Or.inr (by omega), ?_, ?_, rfl, by go_num, rfl⟩
          · rw [HM.out, Nat.div_div_eq_div_mul, ← Nat.pow_succ]
          · rw [← List.drop_drop, HD.out, numL_more h]; rfl
          · rw [← HL.out, numL_more h, List.length_cons]; omega
end Go.Proofs.Ytpefmoddglpbfaa.N
