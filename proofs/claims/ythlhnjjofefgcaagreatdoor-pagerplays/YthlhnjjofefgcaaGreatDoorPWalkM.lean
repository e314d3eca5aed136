/- The walk of wire.first over whatever bytes: what it answers is within its kinds; over the bytes of a number up to 16384 alone it is that number, and how many bytes it has. Conditions: all bytes are below 256; there are 100000 at most. -/
import Derived.Test.YthlhnjjofefgcaaGreatDoorPWalkL
import Derived.Test.YthlhnjjofefgcaaGreatDoorPWalkF
namespace Go.Proofs.YthlhnjjofefgcaaGreatDoor.P
open Go.ChangeShapes Go.WideShapes Go.ChangeAt Go.RowKit

theorem andNot128 (x : Nat) (h : x < 256) : bits .andNot .u8 (x : Int) 128 = ((x % 128 : Nat) : Int) := by
  have key : ∀ y : Fin 256, bits .andNot .u8 ((y.val : Nat) : Int) 128 = ((y.val % 128 : Nat) : Int) := by decide +kernel
  exact key ⟨x, h⟩

/-- One part more, whatever there is; a number's, if it is one's. -/
theorem part_any (A z k : Nat) (hA : A < 18446744073709551616) :
    ∃ B : Nat, B < 18446744073709551616 ∧ bits .or .u64 (A : Int) (IntKind.u64.wrap ((z : Int) * 2 ^ (7 * k))) = (B : Int) ∧
      ∀ m, m ≤ 16384 → A = m % 128 ^ k → m % 128 ^ (k + 1) = m % 128 ^ k + z * 128 ^ k → B = m % 128 ^ (k + 1) := by
  have e : (128 : Nat) ^ k = 2 ^ (7 * k) := by rw [Nat.pow_mul]
  have h4 : IntKind.u64.wrap ((z : Int) * 2 ^ (7 * k)) = ((z * 2 ^ (7 * k) % 18446744073709551616 : Nat) : Int) := by
    have : ((z * 2 ^ (7 * k) : Nat) : Int) = (z : Int) * 2 ^ (7 * k) := by simp
    rw [IntKind.wrap_u64]
    omega
  have h5 : z * 2 ^ (7 * k) % 18446744073709551616 < 18446744073709551616 := Nat.mod_lt _ (by decide)
  refine ⟨A ||| (z * 2 ^ (7 * k) % 18446744073709551616), ?_, ?_, ?_⟩
  · exact Nat.or_lt_two_pow (n := 64) hA h5
  · rw [h4, bits_or_u64_nat _ _ (by omega) h5]
  · intro m hm hAm hs
    have h1 : m % 128 ^ k < 2 ^ (7 * k) := by rw [← e]; exact Nat.mod_lt _ (by rw [e]; exact Nat.two_pow_pos _)
    have h2 : m % 128 ^ (k + 1) ≤ m := Nat.mod_le _ _
    have h3 : z * 2 ^ (7 * k) < 18446744073709551616 := by rw [← e]; omega
    rw [Nat.mod_eq_of_lt h3, hAm, or_add _ _ _ h1, hs, ← e]

/-- What wire.first answers. -/
structure FirstIs (l : List Nat) (n k : Nat) (x : Int) : Prop where
  fits : n < 18446744073709551616
  within : k ≤ l.length
  kind : x = 0 ∨ x = 2 ∨ x = 3
  own : ∀ m, m ≤ 16384 → l = numL m → x = 0 ∧ n = m ∧ k = l.length

set_option maxRecDepth 100000 in
set_option maxHeartbeats 1000000 in
theorem first_any (l : List Nat) (hl : Small l) (ht : l.length ≤ 100000) (w : World) :
    Calls Tryz.prog 113 #[.string (bs l)] w fun e w' => w' = w ∧ ∃ (n k : Nat) (x : Int), e = .returned (.tuple #[.int .u64 (n : Nat), .int .i64 (k : Nat), .int .i64 x]) ∧ FirstIs l n k x := by
  generalize hs : bs l = s
  have hsz : s.size = l.length := by rw [← hs, bs_size]
  have hb : ∀ k (h : k < s.size), s[k].toNat = l.getD k 0 := by subst hs; exact fun k h => by rw [bs_get _ k h, Nat.mod_eq_of_lt (hl.getD k)]
  have HL : Hid (s.size = l.length) := hsz
  have HB : Hid (∀ k (h : k < s.size), s[k].toNat = l.getD k 0) := hb
  have hsm : s.size ≤ 100000 := by omega
  have HSm : Hid (Small l) := hl
  clear hsz hb hs ht hl
  go_enter Tryz.func113, Tryz.ntmps113
  go_wp2
  go_loopg [5, 10] s.size (fun g acc at_ wx => ∃ k A : Nat, k + g = s.size ∧ k ≤ 9 ∧ A < 18446744073709551616 ∧ (k = 0 → A = 0) ∧ (∀ m, m ≤ 16384 → l = numL m → A = m % 128 ^ k ∧ k < s.size) ∧ acc = .int .u64 (A : Nat) ∧ at_ = .int .i64 k ∧ wx = w)
  case atStart => exact ⟨0, 0, by omega, by omega, by omega, fun _ => rfl, fun m _ e => ⟨by rw [Nat.pow_zero, Nat.mod_one], by rw [HL.out, e]; have := numL_ne m; cases h : numL m with
      | nil => exact absurd h this
      | cons _ _ => simp⟩, rfl, rfl, rfl⟩
  case round =>
    obtain ⟨k, A, hg, hk9, hA, hz, hm, rfl, rfl, rfl⟩ := hrel
    have HM : Hid (∀ m, m ≤ 16384 → l = numL m → A = m % 128 ^ k ∧ k < s.size) := hm
    have HZ : Hid (k = 0 → A = 0) := hz
    have HG : Hid (k + gk = s.size) := hg
    clear hm hz
    cases gk with
    | zero =>
      have hks : k = s.size := by omega
      clear hg
      go_wp2
      go_ret3
      refine ⟨rfl, 0, 0, 2, rfl, by decide, Nat.zero_le _, by decide, fun m h1 h2 => ?_⟩
      have := (HM.out m h1 h2).2
      omega
    | succ g =>
      have hks : k < s.size := by omega
      clear hg
      have hx0 := HB.out k hks
      have hy := HSm.out.getD k
      have hst : ∀ m, m ≤ 16384 → l = numL m → A = m % 128 ^ k ∧ m % 128 ^ (k + 1) = m % 128 ^ k + l.getD k 0 % 128 * 128 ^ k ∧ (l.getD k 0 < 128 → k + 1 = l.length ∧ m % 128 ^ (k + 1) = m ∧ (k = 0 ∨ l.getD k 0 ≠ 0)) ∧ (¬ l.getD k 0 < 128 → k + 1 < s.size) ∧ k ≤ 2 := by
        intro m h1 h2
        have h3 : k < (numL m).length := by rw [← h2, ← HL.out]; exact hks
        obtain ⟨a, b, c⟩ := num_step k m h3
        have h4 := numL_three h1
        rw [← h2] at a b c h3 h4
        exact ⟨(HM.out m h1 h2).1, a, b, fun h => by rw [HL.out]; exact c h, by omega⟩
      generalize hyy : l.getD k 0 = y at *
      clear hyy
      have HST : Hid (∀ m, m ≤ 16384 → l = numL m → A = m % 128 ^ k ∧ m % 128 ^ (k + 1) = m % 128 ^ k + y % 128 * 128 ^ k ∧ (y < 128 → k + 1 = l.length ∧ m % 128 ^ (k + 1) = m ∧ (k = 0 ∨ y ≠ 0)) ∧ (¬ y < 128 → k + 1 < s.size) ∧ k ≤ 2) := hst
      clear hst
      have e1 := andNot128 y hy
      by_cases h0 : y = 0
      · subst h0
        by_cases hk0 : k = 0
        · subst hk0
          have hA0 : A = 0 := HZ.out rfl
          subst hA0
          clear e1
          go_wp2
          go_ret3
          refine ⟨rfl, 0, 1, 0, rfl, by decide, by rw [← HL.out]; omega, by decide, fun m h1 h2 => ?_⟩
          obtain ⟨a, b, c, _⟩ := HST.out m h1 h2
          obtain ⟨c1, c2, _⟩ := c (by decide)
          simp [Nat.mod_one] at b c2
          exact ⟨rfl, by omega, by omega⟩
        · have hk1 : (0 : Int) < (k : Int) := by omega
          clear e1
          go_wp2
          all_goals go_ret3
          all_goals refine ⟨rfl, 0, 0, 3, rfl, by decide, Nat.zero_le _, by decide, fun m h1 h2 => ?_⟩
          all_goals
            obtain ⟨a, b, c, _⟩ := HST.out m h1 h2
            obtain ⟨c1, c2, c3⟩ := c (by decide)
            rcases c3 with c3 | c3
            · exact absurd c3 hk0
            · exact absurd rfl c3
      · have t0 : ((y : Int) == 0) = false := by simp; omega
        obtain ⟨B, hB, pB, qB⟩ := part_any A (y % 128) k hA
        have HQ : Hid (∀ m, m ≤ 16384 → A = m % 128 ^ k → m % 128 ^ (k + 1) = m % 128 ^ k + y % 128 * 128 ^ k → B = m % 128 ^ (k + 1)) := qB
        clear qB
        obtain ⟨z, hz⟩ : ∃ z, z = y % 128 := ⟨_, rfl⟩
        rw [← hz] at e1 pB
        have hz2 : z < 128 := by omega
        have HZZ : Hid (z = y % 128) := hz
        clear hz
        by_cases h9 : k = 9
        · subst h9
          by_cases h1 : y ≤ 1
          · have p9 : bits .or .u64 (A : Int) ((z : Int) * 9223372036854775808) = (B : Int) := by
              rw [← pB, IntKind.wrap_u64]; congr 1
              have := HZZ.out; omega
            have hzz : z ≤ 1 := by have := HZZ.out; omega
            clear pB
            go_wp2
            all_goals go_ret3
            all_goals refine ⟨rfl, B, 10, 0, rfl, hB, by rw [← HL.out]; omega, by decide, fun m h1 h2 => ?_⟩
            all_goals have := (HST.out m h1 h2).2.2.2.2; omega
          · have h1' : (1 : Int) < (y : Int) := by omega
            clear pB e1
            go_wp2
            all_goals go_ret3
            all_goals refine ⟨rfl, 0, 0, 3, rfl, by decide, Nat.zero_le _, by decide, fun m h1 h2 => ?_⟩
            all_goals have := (HST.out m h1 h2).2.2.2.2; omega
        · have t9 : ((k : Int) == 9) = false := by simp; omega
          have hk8 : k ≤ 8 := by omega
          by_cases h1 : y < 128
          · go_wp2
            all_goals go_ret3
            all_goals refine ⟨rfl, B, k + 1, 0, rfl, hB, by rw [← HL.out]; omega, by decide, fun m h2 h3 => ?_⟩
            all_goals
              obtain ⟨a, b, c, _⟩ := HST.out m h2 h3
              obtain ⟨c1, c2, _⟩ := c h1
              exact ⟨rfl, (HQ.out m h2 a b).trans c2, c1⟩
          · go_wp2
            all_goals
              go_roundg g
              case measure => omega
              case rel =>
                refine ⟨k + 1, B, by have := HG.out; omega, by omega, hB, by omega, fun m h2 h3 => ?_, rfl, by go_num, rfl⟩
                obtain ⟨a, b, _, d, _⟩ := HST.out m h2 h3
                exact ⟨HQ.out m h2 a b, d h1⟩
end Go.Proofs.YthlhnjjofefgcaaGreatDoor.P
