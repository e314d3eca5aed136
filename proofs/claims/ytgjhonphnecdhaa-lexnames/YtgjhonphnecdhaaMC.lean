/- The walks of ofName, ofNote, ofNumber, past, between, Kept, HasPrefix, and of the reference's letter. Conditions: texts are within a bound. -/
import Derived.Test.YtgjhonphnecdhaaMB
namespace Go.Proofs.Ytgjhonphnecdhaa.Lx
open Go.ChangeShapes Go.WideShapes Go.ChangeAt Go.RowKit

set_option maxRecDepth 100000 in
theorem ofName_walk (y : Nat) (w : World) :
    Calls Try.prog 24 #[.int .u8 (y : Nat)] w fun e w' => e = .returned (.bool (isN y)) ∧ w' = w := by
  have f1 := fun W => kind_walk y W
  have HN : Hid (isN y = decide (knd y = 3 ∨ knd y = 4)) := rfl
  generalize isN y = r at *
  generalize knd y = k at *
  have h3 : ((k : Int) == 3) = decide (k = 3) := by rw [Bool.eq_iff_iff]; simp; omega
  have h4 : ((k : Int) == 4) = decide (k = 4) := by rw [Bool.eq_iff_iff]; simp; omega
  by_cases g3 : k = 3
  · have t3 : ((k : Int) == 3) = true := by rw [h3]; simp [g3]
    obtain rfl : r = true := by rw [HN.out]; simp [g3]
    clear h3 h4 g3 HN
    go_enter Try.func24, Try.ntmps24
    go_wp2_with (go_at_call 22; (with_reducible refine (f1 _).mono ?_); rintro e w1 ⟨rfl, hw1⟩; subst hw1)
    go_ret
    exact ⟨rfl, rfl⟩
  · have t3 : ((k : Int) == 3) = false := by rw [h3]; simp [g3]
    have t4 : ((k : Int) == 4) = r := by rw [h4, HN.out]; simp [g3]
    clear h3 h4 g3 HN
    go_enter Try.func24, Try.ntmps24
    go_wp2_with (go_at_call 22; (with_reducible refine (f1 _).mono ?_); rintro e w1 ⟨rfl, hw1⟩; subst hw1)
    go_ret
    exact ⟨rfl, rfl⟩

set_option maxRecDepth 100000 in
theorem ofNumber_walk (y : Nat) (w : World) :
    Calls Try.prog 26 #[.int .u8 (y : Nat)] w fun e w' => e = .returned (.bool (isD y)) ∧ w' = w := by
  have f1 := fun W => kind_walk y W
  have h4 : ((knd y : Nat) == (4 : Int)) = isD y := by unfold isD; rw [Bool.eq_iff_iff]; simp; omega
  generalize isD y = r at *
  generalize knd y = k at *
  have H4 : Hid (((k : Nat) == (4 : Int)) = r) := h4
  clear h4
  go_enter Try.func26, Try.ntmps26
  go_wp2_with (go_at_call 22; (with_reducible refine (f1 _).mono ?_); rintro e w1 ⟨rfl, hw1⟩; subst hw1)
  go_ret
  exact ⟨congrArg (fun b => Ending.returned (.bool b)) H4.out, rfl⟩

set_option maxRecDepth 100000 in
theorem ofNote_walk (y : Nat) (w : World) :
    Calls Try.prog 25 #[.int .u8 (y : Nat)] w fun e w' => e = .returned (.bool (isT y)) ∧ w' = w := by
  have h4 : ((y : Nat) != (10 : Int)) = isT y := by unfold isT; rw [Bool.eq_iff_iff]; simp; omega
  have H4 : Hid (((y : Nat) != (10 : Int)) = isT y) := h4
  clear h4
  go_enter Try.func25, Try.ntmps25
  go_wp2
  go_ret
  exact ⟨congrArg (fun b => Ending.returned (.bool b)) H4.out, rfl⟩

set_option maxRecDepth 100000 in
theorem past_name (s : ByteArray) (i : Nat) (hs : s.size ≤ 1000000) (w : World) :
    Calls Try.prog 23 #[.string s, .int .i64 (i : Nat), .func (.func 24) #[] #[]] w fun e w' => e = .returned (.int .i64 (run isN s i : Nat)) ∧ w' = w := by
  have HB : Hid (∀ k (h : k < s.size), s[k].toNat = bt s k) := bt_get s
  by_cases hi : s.size ≤ i
  · rw [run_end hi]
    have hi2 : ¬ (i : Int) < (s.size : Nat) := by omega
    go_enter Try.func23, Try.ntmps23
    go_wp2
    refine wp_loop_rounds 1 ?_
    rw [rounds_succ]
    go_wp2
    go_ret
    exact ⟨rfl, rfl⟩
  · go_enter Try.func23, Try.ntmps23
    go_wp2
    go_loopg [1] (s.size - i) (fun g at_ wx => ∃ k : Nat, k + g = s.size ∧ run isN s i = run isN s k ∧ at_ = .int .i64 (k : Nat) ∧ wx = w)
    case atStart => exact ⟨i, by omega, rfl, rfl, rfl⟩
    case round =>
      obtain ⟨k, hg, hr, rfl, rfl⟩ := hrel
      have HR : Hid (run isN s i = run isN s k) := hr
      clear hr hi
      cases gk with
      | zero =>
        have hi2 : ¬ (k : Int) < (s.size : Nat) := by omega
        have HK : Hid (s.size ≤ k) := by show s.size ≤ k; omega
        clear hg
        go_wp2
        go_ret
        exact ⟨by rw [HR.out, run_end HK.out]; rfl, rfl⟩
      | succ g =>
        have hks : k < s.size := by omega
        have hx0 := HB.out k hks
        have f1 := fun W => ofName_walk (bt s k) W
        have HG : Hid (k + g + 1 = s.size) := by show k + g + 1 = s.size; omega
        cases hp : isN (bt s k) with
        | false =>
          have HS : Hid (run isN s k = k) := run_stop hp
          rw [hp] at f1
          generalize bt s k = y at *
          clear hg hp
          go_wp2_with (go_at_call 24; (with_reducible refine (f1 _).mono ?_); rintro e w1 ⟨rfl, hw1⟩; subst hw1)
          go_ret
          exact ⟨by rw [HR.out, HS.out]; rfl, rfl⟩
        | true =>
          have HS : Hid (run isN s k = run isN s (k + 1)) := run_go hks hp
          rw [hp] at f1
          generalize bt s k = y at *
          clear hg hp
          go_wp2_with (go_at_call 24; (with_reducible refine (f1 _).mono ?_); rintro e w1 ⟨rfl, hw1⟩; subst hw1)
          go_roundg g
          case measure => omega
          case rel => exact ⟨k + 1, by have := HG.out; omega, by rw [HR.out, HS.out], by go_num, rfl⟩

set_option maxRecDepth 100000 in
theorem past_number (s : ByteArray) (i : Nat) (hs : s.size ≤ 1000000) (w : World) :
    Calls Try.prog 23 #[.string s, .int .i64 (i : Nat), .func (.func 26) #[] #[]] w fun e w' => e = .returned (.int .i64 (run isD s i : Nat)) ∧ w' = w := by
  have HB : Hid (∀ k (h : k < s.size), s[k].toNat = bt s k) := bt_get s
  by_cases hi : s.size ≤ i
  · rw [run_end hi]
    have hi2 : ¬ (i : Int) < (s.size : Nat) := by omega
    go_enter Try.func23, Try.ntmps23
    go_wp2
    refine wp_loop_rounds 1 ?_
    rw [rounds_succ]
    go_wp2
    go_ret
    exact ⟨rfl, rfl⟩
  · go_enter Try.func23, Try.ntmps23
    go_wp2
    go_loopg [1] (s.size - i) (fun g at_ wx => ∃ k : Nat, k + g = s.size ∧ run isD s i = run isD s k ∧ at_ = .int .i64 (k : Nat) ∧ wx = w)
    case atStart => exact ⟨i, by omega, rfl, rfl, rfl⟩
    case round =>
      obtain ⟨k, hg, hr, rfl, rfl⟩ := hrel
      have HR : Hid (run isD s i = run isD s k) := hr
      clear hr hi
      cases gk with
      | zero =>
        have hi2 : ¬ (k : Int) < (s.size : Nat) := by omega
        have HK : Hid (s.size ≤ k) := by show s.size ≤ k; omega
        clear hg
        go_wp2
        go_ret
        exact ⟨by rw [HR.out, run_end HK.out]; rfl, rfl⟩
      | succ g =>
        have hks : k < s.size := by omega
        have hx0 := HB.out k hks
        have f1 := fun W => ofNumber_walk (bt s k) W
        have HG : Hid (k + g + 1 = s.size) := by show k + g + 1 = s.size; omega
        cases hp : isD (bt s k) with
        | false =>
          have HS : Hid (run isD s k = k) := run_stop hp
          rw [hp] at f1
          generalize bt s k = y at *
          clear hg hp
          go_wp2_with (go_at_call 26; (with_reducible refine (f1 _).mono ?_); rintro e w1 ⟨rfl, hw1⟩; subst hw1)
          go_ret
          exact ⟨by rw [HR.out, HS.out]; rfl, rfl⟩
        | true =>
          have HS : Hid (run isD s k = run isD s (k + 1)) := run_go hks hp
          rw [hp] at f1
          generalize bt s k = y at *
          clear hg hp
          go_wp2_with (go_at_call 26; (with_reducible refine (f1 _).mono ?_); rintro e w1 ⟨rfl, hw1⟩; subst hw1)
          go_roundg g
          case measure => omega
          case rel => exact ⟨k + 1, by have := HG.out; omega, by rw [HR.out, HS.out], by go_num, rfl⟩

set_option maxRecDepth 100000 in
theorem past_note (s : ByteArray) (i : Nat) (hs : s.size ≤ 1000000) (w : World) :
    Calls Try.prog 23 #[.string s, .int .i64 (i : Nat), .func (.func 25) #[] #[]] w fun e w' => e = .returned (.int .i64 (run isT s i : Nat)) ∧ w' = w := by
  have HB : Hid (∀ k (h : k < s.size), s[k].toNat = bt s k) := bt_get s
  by_cases hi : s.size ≤ i
  · rw [run_end hi]
    have hi2 : ¬ (i : Int) < (s.size : Nat) := by omega
    go_enter Try.func23, Try.ntmps23
    go_wp2
    refine wp_loop_rounds 1 ?_
    rw [rounds_succ]
    go_wp2
    go_ret
    exact ⟨rfl, rfl⟩
  · go_enter Try.func23, Try.ntmps23
    go_wp2
    go_loopg [1] (s.size - i) (fun g at_ wx => ∃ k : Nat, k + g = s.size ∧ run isT s i = run isT s k ∧ at_ = .int .i64 (k : Nat) ∧ wx = w)
    case atStart => exact ⟨i, by omega, rfl, rfl, rfl⟩
    case round =>
      obtain ⟨k, hg, hr, rfl, rfl⟩ := hrel
      have HR : Hid (run isT s i = run isT s k) := hr
      clear hr hi
      cases gk with
      | zero =>
        have hi2 : ¬ (k : Int) < (s.size : Nat) := by omega
        have HK : Hid (s.size ≤ k) := by show s.size ≤ k; omega
        clear hg
        go_wp2
        go_ret
        exact ⟨by rw [HR.out, run_end HK.out]; rfl, rfl⟩
      | succ g =>
        have hks : k < s.size := by omega
        have hx0 := HB.out k hks
        have f1 := fun W => ofNote_walk (bt s k) W
        have HG : Hid (k + g + 1 = s.size) := by show k + g + 1 = s.size; omega
        cases hp : isT (bt s k) with
        | false =>
          have HS : Hid (run isT s k = k) := run_stop hp
          rw [hp] at f1
          generalize bt s k = y at *
          clear hg hp
          go_wp2_with (go_at_call 25; (with_reducible refine (f1 _).mono ?_); rintro e w1 ⟨rfl, hw1⟩; subst hw1)
          go_ret
          exact ⟨by rw [HR.out, HS.out]; rfl, rfl⟩
        | true =>
          have HS : Hid (run isT s k = run isT s (k + 1)) := run_go hks hp
          rw [hp] at f1
          generalize bt s k = y at *
          clear hg hp
          go_wp2_with (go_at_call 25; (with_reducible refine (f1 _).mono ?_); rintro e w1 ⟨rfl, hw1⟩; subst hw1)
          go_roundg g
          case measure => omega
          case rel => exact ⟨k + 1, by have := HG.out; omega, by rw [HR.out, HS.out], by go_num, rfl⟩

end Go.Proofs.Ytgjhonphnecdhaa.Lx
