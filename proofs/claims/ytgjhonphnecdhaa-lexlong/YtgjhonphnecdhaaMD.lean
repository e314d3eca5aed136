/- The walks of between, Kept, HasPrefix. Conditions: texts are within a bound. -/
import Derived.Test.YtgjhonphnecdhaaMC
namespace Go.Proofs.Ytgjhonphnecdhaa.Lx
open Go.ChangeShapes Go.WideShapes Go.ChangeAt Go.RowKit

set_option maxRecDepth 100000 in
set_option maxHeartbeats 400000 in
theorem between_walk (s : ByteArray) (i : Nat) (hi : i ≤ s.size) (hs : s.size ≤ 1000000) (w : World) :
    Calls Try.prog 16 #[.string s, .int .i64 (i : Nat)] w fun e w' => e = .returned (.int .i64 (gp false s i : Nat)) ∧ w' = w := by
  have HB : Hid (∀ k (h : k < s.size), s[k].toNat = bt s k) := bt_get s
  have fP : Hid (∀ k W, Calls Try.prog 23 #[.string s, .int .i64 (k : Nat), .func (.func 25) #[] #[]] W fun e w' => e = .returned (.int .i64 (run isT s k : Nat)) ∧ w' = W) := fun k W => past_note s k hs W
  go_enter Try.func16, Try.ntmps16
  go_wp2
  go_loopg [1] (s.size - i) (fun g at_ wx => ∃ k : Nat, k + g = s.size ∧ gp false s i = gp false s k ∧ at_ = .int .i64 (k : Nat) ∧ wx = w)
  case atStart => exact ⟨i, by omega, rfl, rfl, rfl⟩
  case round =>
    obtain ⟨k, hg, hr, rfl, rfl⟩ := hrel
    have HR : Hid (gp false s i = gp false s k) := hr
    clear hr hi
    cases gk with
    | zero =>
      have hi2 : ¬ (k : Int) < (s.size : Nat) := by omega
      have HK : Hid (s.size ≤ k) := by show s.size ≤ k; omega
      clear hg
      go_wp2
      go_ret
      exact ⟨by rw [HR.out, gp_end HK.out]; rfl, rfl⟩
    | succ g =>
      have hks : k < s.size := by omega
      have hx0 := HB.out k hks
      have f1 := fun W => kind_walk (bt s k) W
      have HG : Hid (k + g + 1 = s.size) := by show k + g + 1 = s.size; omega
      by_cases h1 : knd (bt s k) = 1
      · have HS : Hid (gp false s k = gp false s (k + 1)) := by
          have := knd_gap.2 h1
          by_cases h10 : bt s k = 10
          · exact gp_lf hks h10
          · exact gp_sp hks h10 (.inr (by omega))
        rw [h1] at f1
        generalize bt s k = y at *
        clear hg h1
        go_wp2_with (go_at_call 22; (with_reducible refine (f1 _).mono ?_); rintro e w1 ⟨rfl, hw1⟩; subst hw1)
        go_roundg g
        case measure => omega
        case rel => exact ⟨k + 1, by have := HG.out; omega, by rw [HR.out, HS.out], by go_num, rfl⟩
      · by_cases h2 : knd (bt s k) = 2
        · have h35 := knd_note.2 h2
          have HS : Hid (gp false s k = gp false s (run isT s k)) := gp_past hks h35
          have hge : k + 1 ≤ run isT s k := by rw [run_go hks (by simp [isT, h35])]; exact run_ge _ _ _
          have hle : run isT s k ≤ s.size := run_le (Nat.le_of_lt hks)
          have f2 := fun W => fP.out k W
          rw [h2] at f1
          generalize run isT s k = r at *
          generalize bt s k = y at *
          clear hg h2 h1 h35
          go_wp2_with (first
            | (go_at_call 22; (with_reducible refine (f1 _).mono ?_); rintro e w1 ⟨rfl, hw1⟩; subst hw1)
            | (go_at_call 23; (with_reducible refine (f2 _).mono ?_); rintro e w1 ⟨rfl, hw1⟩; subst hw1))
          go_roundg (s.size - r)
          case measure => have := HG.out; omega
          case rel => exact ⟨r, by omega, by rw [HR.out, HS.out], rfl, rfl⟩
        · have HS : Hid (gp false s k = k) := gp_stop (fun h => by
            by_cases e : bt s k = 35
            · exact h2 (knd_note.1 e)
            · exact h1 (knd_gap.1 (by omega)))
          have t1 : ((knd (bt s k) : Nat) == (1 : Int)) = false := by simp; omega
          have t2 : ((knd (bt s k) : Nat) == (2 : Int)) = false := by simp; omega
          generalize knd (bt s k) = z at *
          generalize bt s k = y at *
          clear hg h2 h1
          go_wp2_with (go_at_call 22; (with_reducible refine (f1 _).mono ?_); rintro e w1 ⟨rfl, hw1⟩; subst hw1)
          go_ret
          exact ⟨by rw [HR.out, HS.out]; rfl, rfl⟩

set_option maxRecDepth 100000 in
set_option maxHeartbeats 400000 in
theorem kept_walk (t : ByteArray) (w : World) :
    Calls Try.prog 12 #[.string t] w fun e w' => e = .returned (.bool (kept t)) ∧ w' = w := by
  go_enter Try.func12, Try.ntmps12
  go_wp2
  all_goals go_ret
  all_goals refine ⟨congrArg Ending.returned (congrArg Value.bool ?_), rfl⟩
  all_goals (first | (exfalso; simp_all; done) | (unfold kept kws; simp only [List.any_cons, List.any_nil, ← seq_data]; simp [*]; done))

theorem cut_two (s : ByteArray) (i : Nat) (h : i ≤ s.size) : (s.extract i s.size).extract 0 2 = s.extract i (i + 2) := by
  apply ext_bt
  · simp only [size_extract]; omega
  · intro k hk
    simp only [size_extract] at hk
    rw [bt_extract, bt_extract, bt_extract, if_pos (by omega), if_pos (by omega), if_pos (by omega), Nat.zero_add]
/-- Whether two signs of equality stand there. -/
theorem two_iff (s : ByteArray) (i : Nat) : s.extract i (i + 2) = ⟨#[61, 61]⟩ ↔ bt s i = 61 ∧ bt s (i + 1) = 61 := by
  have e0 : bt (s.extract i (i + 2)) 0 = bt s i := by rw [bt_extract, if_pos (by omega)]; rfl
  have e1 : bt (s.extract i (i + 2)) 1 = bt s (i + 1) := by rw [bt_extract, if_pos (by omega)]
  constructor
  · intro h
    rw [h] at e0 e1
    exact ⟨e0.symm, e1.symm⟩
  · rintro ⟨h0, h1⟩
    have h2 := bt_in (s := s) (k := i + 1) (by omega)
    apply ext_bt
    · rw [size_extract]; show min (i + 2) s.size - i = 2; omega
    · intro k hk
      rw [size_extract] at hk
      match k, hk with
      | 0, _ => rw [e0, h0]; rfl
      | 1, _ => rw [e1, h1]; rfl
      | k + 2, hk => omega

set_option maxRecDepth 100000 in
theorem prefix_walk (s : ByteArray) (i : Nat) (hi : i < s.size) (hs : s.size ≤ 1000000) (w : World) :
    Calls Try.prog 28 #[.string (s.extract i s.size), .string ⟨#[61, 61]⟩] w fun e w' => e = .returned (.bool (decide (sl s i = 2))) ∧ w' = w := by
  have hsz : (s.extract i s.size).size = s.size - i := by rw [size_extract]; omega
  have hc := cut_two s i (Nat.le_of_lt hi)
  have ht := two_iff s i
  have hq : decide (sl s i = 2) = (((s.extract i s.size).extract 0 2).toList == (⟨#[61, 61]⟩ : ByteArray).toList) := by
    rw [Bool.eq_iff_iff, seq_eq, hc, ht, decide_eq_true_iff]
    unfold sl
    split <;> simp_all
  have hq2 : ¬ 2 ≤ s.size - i → sl s i ≠ 2 := by
    intro h e
    have : bt s i = 61 ∧ bt s (i + 1) = 61 := by
      unfold sl at e; split at e
      · assumption
      · omega
    have := bt_in (s := s) (k := i + 1) (by omega)
    omega
  have key : ∀ W, Calls Try.prog 29 #[.string (s.extract i s.size), .string ⟨#[61, 61]⟩] W fun e w' => e = .returned (.bool (decide (sl s i = 2))) ∧ w' = W := by
    intro W
    by_cases h2 : 2 ≤ s.size - i
    · rw [hq, show (⟨#[61, 61]⟩ : ByteArray).toList = [61, 61] from toList_data _]
      clear hq hq2 hc ht
      have h3 : 2 ≤ (s.extract i s.size).size := by omega
      have h4 : (s.extract i s.size).size ≤ 1000000 := by omega
      generalize s.extract i s.size = t at *
      have h5 : (2 : Int) ≤ (t.size : Nat) := by omega
      clear hsz h2
      go_enter Try.func29, Try.ntmps29
      go_wp2
      go_ret
      exact ⟨rfl, rfl⟩
    · rw [decide_eq_false (hq2 h2)]
      clear hq hq2 hc ht
      have h3 : (s.extract i s.size).size < 2 := by omega
      generalize s.extract i s.size = t at *
      have h5 : ¬ (2 : Int) ≤ (t.size : Nat) := by omega
      clear hsz h2
      go_enter Try.func29, Try.ntmps29
      go_wp2
      go_ret
      exact ⟨rfl, rfl⟩
  clear hq hq2 hc ht hsz
  generalize s.extract i s.size = t at *
  go_enter Try.func28, Try.ntmps28
  go_wp2_with (go_at_call 29; (with_reducible refine (key _).mono ?_); rintro e w1 ⟨rfl, hw1⟩; subst hw1)
  go_ret
  exact ⟨rfl, rfl⟩
end Go.Proofs.Ytgjhonphnecdhaa.Lx
