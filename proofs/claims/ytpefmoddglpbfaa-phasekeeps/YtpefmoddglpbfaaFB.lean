/- The walks of wire.first and of a reader's Num over whatever bytes, and of End: what is read is what the bytes say. Conditions: all bytes are below 256; a text's size is within a bound. -/
import Derived.Test.YtpefmoddglpbfaaFA
import Derived.Test.YtpefmoddglpbfaaNWWalkD
namespace Go.Proofs.Ytpefmoddglpbfaa.Ph
open Go.ChangeShapes Go.WideShapes Go.ChangeAt Go.RowKit
open N (bs bs_get bs_size bs_extract numL Small Rd On Kept err_walk fail_first left_walk)

theorem andNot128 (x : Nat) (h : x < 256) : bits .andNot .u8 (x : Int) 128 = ((x % 128 : Nat) : Int) := by
  have key : ∀ y : Fin 256, bits .andNot .u8 ((y.val : Nat) : Int) 128 = ((y.val % 128 : Nat) : Int) := by decide +kernel
  exact key ⟨x, h⟩

/-- One part more. -/
theorem part_more (A z k : Nat) (hA : A < 128 ^ k) (hz : z * 128 ^ k < 18446744073709551616) (hA2 : A < 18446744073709551616) :
    bits .or .u64 (A : Int) (IntKind.u64.wrap ((z : Int) * 2 ^ (7 * k))) = ((A + z * 128 ^ k : Nat) : Int) := by
  have e : (128 : Nat) ^ k = 2 ^ (7 * k) := by rw [Nat.pow_mul]
  rw [e] at hA hz ⊢
  have h4 : IntKind.u64.wrap ((z : Int) * 2 ^ (7 * k)) = ((z * 2 ^ (7 * k) : Nat) : Int) := by
    have : ((z * 2 ^ (7 * k) : Nat) : Int) = (z : Int) * 2 ^ (7 * k) := by simp
    rw [IntKind.wrap_u64]
    omega
  rw [h4, bits_or_u64_nat _ _ hA2 hz, N.or_add _ _ _ hA]

theorem pow_le {k j : Nat} (h : k ≤ j) : (128 : Nat) ^ k ≤ 128 ^ j := Nat.pow_le_pow_right (by decide) h

set_option maxRecDepth 100000 in
set_option maxHeartbeats 1000000 in
theorem first_is (l : List Nat) (hl : Small l) (ht : l.length ≤ 100000) (w : World) :
    Calls Try.prog 21 #[.string (bs l)] w fun e w' => w' = w ∧ ∃ (x : Int) (n k : Nat), e = .returned (.tuple #[.int .u64 (n : Nat), .int .i64 (k : Nat), .int .i64 x]) ∧ scan 0 0 l = (x, n, k) := by
  generalize hs : bs l = s
  have hsz : s.size = l.length := by rw [← hs, bs_size]
  have hb : ∀ k (h : k < s.size), s[k].toNat = l.getD k 0 := by subst hs; exact fun k h => by rw [bs_get _ k h, Nat.mod_eq_of_lt (hl.getD k)]
  have HL : Hid (s.size = l.length) := hsz
  have HB : Hid (∀ k (h : k < s.size), s[k].toNat = l.getD k 0) := hb
  have hsm : s.size ≤ 100000 := by omega
  have HSm : Hid (Small l) := hl
  clear hsz hb hs ht hl
  go_enter Try.func21, Try.ntmps21
  go_wp2
  go_loopg [5, 10] s.size (fun g acc at_ wx => ∃ k A : Nat, k + g = s.size ∧ k ≤ 9 ∧ A < 128 ^ k ∧ scan 0 0 l = scan k A (l.drop k) ∧ acc = .int .u64 (A : Nat) ∧ at_ = .int .i64 k ∧ wx = w)
  case atStart => exact ⟨0, 0, by omega, by omega, by decide, by simp, rfl, rfl, rfl⟩
  case round =>
    obtain ⟨k, A, hg, hk9, hA, hsc, rfl, rfl, rfl⟩ := hrel
    have HG : Hid (k + gk = s.size) := hg
    have HA : Hid (A < 128 ^ k) := hA
    have HS : Hid (scan 0 0 l = scan k A (l.drop k)) := hsc
    have hA2 : A < 18446744073709551616 := by have := pow_le hk9; omega
    clear hsc hA
    cases gk with
    | zero =>
      have hks : k = s.size := by omega
      clear hg
      go_wp2
      go_ret3
      exact ⟨rfl, 2, 0, 0, rfl, by rw [HS.out, List.drop_of_length_le (by rw [← HL.out]; omega), scan_nil]⟩
    | succ g =>
      have hks : k < s.size := by omega
      clear hg
      have hx0 := HB.out k hks
      have hy := HSm.out.getD k
      have hd : l.drop k = l.getD k 0 :: l.drop (k + 1) := by
        have h1 : k < l.length := by rw [← HL.out]; exact hks
        rw [List.drop_eq_getElem_cons h1, List.getD, List.getElem?_eq_getElem h1]; rfl
      have HD : Hid (l.drop k = l.getD k 0 :: l.drop (k + 1)) := hd
      clear hd
      generalize hyy : l.getD k 0 = y at *
      clear hyy
      have hc : scan 0 0 l = scan k A (y :: l.drop (k + 1)) := by rw [HS.out, HD.out]
      have HC : Hid (scan 0 0 l = scan k A (y :: l.drop (k + 1))) := hc
      clear hc
      have e1 := andNot128 y hy
      by_cases h0 : y = 0
      · subst h0
        by_cases hk0 : k = 0
        · subst hk0
          have hA0 : A = 0 := by have := HA.out; omega
          subst hA0
          clear e1
          go_wp2
          go_ret3
          exact ⟨rfl, 0, 0, 1, rfl, by rw [HC.out, scan_last (by omega) (by omega)]⟩
        · have hk1 : (0 : Int) < (k : Int) := by omega
          clear e1
          go_wp2
          all_goals go_ret3
          all_goals exact ⟨rfl, 3, 0, 0, rfl, by rw [HC.out, scan_form (by omega)]⟩
      · have t0 : ((y : Int) == 0) = false := by simp; omega
        by_cases h9 : k = 9
        · subst h9
          by_cases h1 : y ≤ 1
          · obtain ⟨z, hz⟩ : ∃ z, z = y % 128 := ⟨_, rfl⟩
            have hzy : z = y := by omega
            have pB := part_more A z 9 HA.out (by omega) hA2
            obtain ⟨B, hBe⟩ : ∃ B, B = A + z * 128 ^ 9 := ⟨_, rfl⟩
            rw [← hBe] at pB
            rw [← hz] at e1
            have HBe : Hid (B = A + z * 128 ^ 9) := hBe
            have HZ : Hid (z = y) := hzy
            have p9 : bits .or .u64 (A : Int) ((z : Int) * 9223372036854775808) = (B : Int) := by
              rw [← pB, IntKind.wrap_u64]; congr 1
              omega
            have hzz : z ≤ 1 := by omega
            clear hBe pB hz hzy
            go_wp2
            all_goals go_ret3
            all_goals exact ⟨rfl, 0, B, 10, rfl, by rw [HC.out, scan_last (by omega) (by omega), HBe.out, HZ.out]⟩
          · have h1' : (1 : Int) < (y : Int) := by omega
            clear e1
            go_wp2
            all_goals go_ret3
            all_goals exact ⟨rfl, 3, 0, 0, rfl, by rw [HC.out, scan_form (by omega)]⟩
        · have t9 : ((k : Int) == 9) = false := by simp; omega
          have hk8 : k ≤ 8 := by omega
          have hp := pow_le hk8
          obtain ⟨z, hz⟩ : ∃ z, z = y % 128 := ⟨_, rfl⟩
          have hz2 : z < 128 := by omega
          have hzp : z * 128 ^ k ≤ 127 * 128 ^ k := Nat.mul_le_mul_right _ (by omega)
          have pB := part_more A z k HA.out (by omega) hA2
          have hB : A + z * 128 ^ k < 128 ^ (k + 1) := by have := HA.out; rw [Nat.pow_succ]; omega
          rw [← hz] at e1
          have HZ : Hid (z = y % 128) := hz
          obtain ⟨B, hBe⟩ : ∃ B, B = A + z * 128 ^ k := ⟨_, rfl⟩
          rw [← hBe] at pB hB
          have HBB : Hid (B < 128 ^ (k + 1)) := hB
          have HBe : Hid (B = A + z * 128 ^ k) := hBe
          clear hz hzp hp hB hBe
          by_cases h1 : y < 128
          · go_wp2
            all_goals go_ret3
            all_goals exact ⟨rfl, 0, B, k + 1, rfl, by rw [HC.out, scan_last (by omega) h1, HBe.out, HZ.out, Nat.mod_eq_of_lt h1]⟩
          · go_wp2
            all_goals
              go_roundg g
              case measure => omega
              case rel =>
                exact ⟨k + 1, B, by have := HG.out; omega, by omega, HBB.out, by rw [HC.out, scan_more (by omega) h1, HBe.out, HZ.out], rfl, by go_num, rfl⟩

set_option maxRecDepth 100000 in
theorem num_late {b : Nat} {s : ByteArray} {x : Int} (hx : x ≠ 0) (M : Nat) {w : World} (r : Rd w b s x) :
    Calls Try.prog 17 #[.pointer (some ⟨b, 0, none⟩), .int .u64 (M : Nat)] w fun e w' => e = .returned (.int .u64 0) ∧ w' = w := by
  have t0 : (x == 0) = false := by simp [hx]
  have e13 := err_walk r
  go_enter Try.func17, Try.ntmps17
  go_wp2_with (go_at_call 20; refine e13.mono ?_; rintro e w' ⟨rfl, rfl⟩)
  go_ret
  exact ⟨rfl, rfl⟩

set_option maxRecDepth 100000 in
theorem num_pass {b : Nat} {l : List Nat} {x : Int} (hl : Small l) (ht : l.length ≤ 100000) (M : Nat) {w : World} (r : Rd w b (bs l) x) :
    Calls Try.prog 17 #[.pointer (some ⟨b, 0, none⟩), .int .u64 (M : Nat)] w fun e w' => e = .returned (.int .u64 ((pass M l x).2.2 : Nat)) ∧ Rd w' b (bs (pass M l x).1) (pass M l x).2.1 ∧ On b w w' := by
  by_cases hx : x = 0
  · subst hx
    have e13 := err_walk r
    have f1 := first_is l hl ht w
    have c0 := r.c0
    have f0 := r.f0 0
    have hfl : ∀ y : Int, (y == 0) = false → Calls Try.prog 22 #[.pointer (some ⟨b, 0, none⟩), .int .i64 y] w fun e w' => e = .returned (.tuple #[]) ∧ Rd w' b ⟨#[]⟩ y ∧ On b w w' := fun y hy => fail_first y hy r
    rcases hsc : scan 0 0 l with ⟨y, n, k⟩
    have g1 : Calls Try.prog 21 #[.string (bs l)] w fun e w' => e = .returned (.tuple #[.int .u64 (n : Nat), .int .i64 (k : Nat), .int .i64 y]) ∧ w' = w := f1.mono (by
      rintro e w' ⟨hw, x', n', k', he, h⟩
      rw [hsc] at h
      injection h with h1 h
      injection h with h2 h3
      subst h1 h2 h3
      exact ⟨he, hw⟩)
    clear f1
    by_cases hy : y = 0
    · subst hy
      by_cases hn : n ≤ M
      · rw [pass_in hsc hn]
        have hk : k ≤ l.length := by have := scan_within l 0 0 (by rw [hsc]); rw [hsc] at this; simpa using this
        have hsz := bs_size l
        have hex : (bs l).extract k (bs l).size = bs (l.drop k) := by
          rw [bs_extract, bs_size, List.take_of_length_le (by rw [List.length_drop]; exact Nat.le_refl _)]
        have k2 := r.set0 (bs (l.drop k))
        have o2' : On b w (w.setCell ⟨b, 0, none⟩ (.string (bs (l.drop k)))) := ⟨(Below.refl b w).setCell (Nat.le_refl _) _⟩
        have o2 : Hid (On b w (w.setCell ⟨b, 0, none⟩ (.string (bs (l.drop k))))) := o2'
        have K2 : Hid (Rd (w.setCell ⟨b, 0, none⟩ (.string (bs (l.drop k)))) b (bs (l.drop k)) 0) := k2
        generalize bs (l.drop k) = t at *
        generalize bs l = s at *
        have hks : k ≤ s.size := by omega
        clear k2 hsz hsc hl r o2'
        go_enter Try.func17, Try.ntmps17
        go_wp2_with (first
          | (go_at_call 20; refine e13.mono ?_; rintro e w' ⟨rfl, rfl⟩)
          | (go_at_call 21; refine g1.mono ?_; rintro e w' ⟨rfl, rfl⟩))
        go_ret
        exact ⟨rfl, K2.out, o2.out⟩
      · rw [pass_over hsc (by omega)]
        have hn2 : M < n := by omega
        have e32 := hfl 4 rfl
        generalize bs l = s at *
        clear hsc hl r hfl
        go_enter Try.func17, Try.ntmps17
        go_wp2_with (first
          | (go_at_call 20; refine e13.mono ?_; rintro e w' ⟨rfl, rfl⟩)
          | (go_at_call 21; refine g1.mono ?_; rintro e w' ⟨rfl, rfl⟩)
          | (go_at_call 22; refine e32.mono ?_; rintro e w1 ⟨rfl, k1, o1⟩))
        go_ret
        exact ⟨rfl, k1, o1⟩
    · rw [pass_wrong hsc hy]
      have t0 : (y == 0) = false := by simp [hy]
      have e32 := hfl y t0
      generalize bs l = s at *
      clear hsc hl r hfl
      go_enter Try.func17, Try.ntmps17
      go_wp2_with (first
        | (go_at_call 20; refine e13.mono ?_; rintro e w' ⟨rfl, rfl⟩)
        | (go_at_call 21; refine g1.mono ?_; rintro e w' ⟨rfl, rfl⟩)
        | (go_at_call 22; refine e32.mono ?_; rintro e w1 ⟨rfl, k1, o1⟩))
      go_ret
      exact ⟨rfl, k1, o1⟩
  · rw [pass_err hx]
    refine (num_late hx M r).mono ?_
    rintro e w' ⟨rfl, rfl⟩
    exact ⟨rfl, r, On.refl _ _⟩

/-- The first error, or that bytes are left. -/
def fin (l : List Nat) (x : Int) : Int := if l = [] then x else 5
set_option maxRecDepth 100000 in
theorem end_is {b : Nat} {l : List Nat} {x : Int} {w : World} (r : Rd w b (bs l) x) :
    Calls Try.prog 18 #[.pointer (some ⟨b, 0, none⟩)] w fun e w' => e = .returned (.int .i64 (fin l x)) ∧ w' = w := by
  by_cases h : l = []
  · subst h; exact N.end_walk r
  · have hf : fin l x = 5 := if_neg h
    rw [hf]
    have h1 := left_walk r
    have hsz : 0 < (bs l).size := by rw [bs_size]; exact List.length_pos_iff.2 h
    generalize bs l = s at *
    have hsz2 : (0 : Int) < (s.size : Nat) := by omega
    go_enter Try.func18, Try.ntmps18
    go_wp2_with (go_at_call 23; refine h1.mono ?_; rintro e w' ⟨rfl, rfl⟩)
    go_ret
    exact ⟨rfl, rfl⟩
end Go.Proofs.Ytpefmoddglpbfaa.Ph
