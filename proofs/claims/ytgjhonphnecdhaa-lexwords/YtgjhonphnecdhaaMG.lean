/- The walks of Name, both, and of few. Conditions: texts are within a bound. -/
import Derived.Test.YtgjhonphnecdhaaMF
namespace Go.Proofs.Ytgjhonphnecdhaa.Lx
open Go.ChangeShapes Go.WideShapes Go.ChangeAt Go.RowKit

/-- Whether a text may be a name. -/
def nam (s : ByteArray) : Bool := decide (knd (bt s 0) = 3 ∧ run isN s 0 = s.size ∧ kept s = false)

theorem empty_of {s : ByteArray} (h : s.size = 0) : s = ⟨#[]⟩ := ByteArray.ext (Array.size_eq_zero_iff.1 h)
theorem list_ne {s : ByteArray} (h : 0 < s.size) : (s.toList == []) = false ∧ (s.toList != []) = true := by
  have e : s.toList ≠ [] := fun e => by
    rw [toList_data] at e
    have : s.data.size = 0 := by rw [← Array.length_toList, e]; rfl
    have h2 : s.data.size = s.size := rfl
    omega
  constructor
  · simp [e]
  · simp [e]

set_option maxRecDepth 100000 in
set_option maxHeartbeats 1000000 in
theorem name_walk (s : ByteArray) (hs : s.size ≤ 1000000) (w : World) :
    Calls Try.prog 14 #[.string s] w fun e w' => e = .returned (.bool (nam s)) ∧ w' = w := by
  by_cases h0 : s.size = 0
  · obtain rfl := empty_of h0
    have hn : nam ⟨#[]⟩ = false := decide_eq_false (fun h => by have := h.1; rw [bt_out (Nat.le_of_eq h0)] at this; exact absurd this (by decide))
    rw [hn]
    go_enter Try.func14, Try.ntmps14
    go_wp2
    go_ret
    exact ⟨rfl, rfl⟩
  · obtain ⟨e1, e2⟩ := list_ne (Nat.pos_of_ne_zero h0)
    have hp0 : 0 < s.size := Nat.pos_of_ne_zero h0
    have hx0 := bt_get s 0 hp0
    have f1 := fun W => kind_walk (bt s 0) W
    have f2 : ∀ W, Calls Try.prog 23 #[.string s, .int .i64 0, .func (.func 24) #[] #[]] W fun e w' => e = .returned (.int .i64 (run isN s 0 : Nat)) ∧ w' = W := fun W => past_name s 0 hs W
    have f3 := fun W => kept_walk s W
    have HN : Hid (nam s = decide (knd (bt s 0) = 3 ∧ run isN s 0 = s.size ∧ kept s = false)) := rfl
    generalize nam s = v at *
    generalize kept s = kp at *
    generalize run isN s 0 = r at *
    generalize knd (bt s 0) = z at *
    generalize bt s 0 = y at *
    clear h0
    by_cases h3 : z = 3
    · have t3 : ((z : Int) == 3) = true := by simp; omega
      by_cases hr : r = s.size
      · have tr : ((r : Int) == (s.size : Nat)) = true := by simp; omega
        obtain rfl : v = !kp := by rw [HN.out]; cases kp <;> simp [h3, hr]
        clear HN h3 hr
        go_enter Try.func14, Try.ntmps14
        go_wp2_with (first
          | (go_at_call 22; (with_reducible refine (f1 _).mono ?_); rintro e w1 ⟨rfl, hw1⟩; subst hw1)
          | (go_at_call 23; (with_reducible refine (f2 _).mono ?_); rintro e w1 ⟨rfl, hw1⟩; subst hw1)
          | (go_at_call 12; (with_reducible refine (f3 _).mono ?_); rintro e w1 ⟨rfl, hw1⟩; subst hw1))
        go_ret
        exact ⟨rfl, rfl⟩
      · have tr : ((r : Int) == (s.size : Nat)) = false := by simp; omega
        obtain rfl : v = false := by rw [HN.out]; simp [hr]
        clear HN h3 hr
        go_enter Try.func14, Try.ntmps14
        go_wp2_with (first
          | (go_at_call 22; (with_reducible refine (f1 _).mono ?_); rintro e w1 ⟨rfl, hw1⟩; subst hw1)
          | (go_at_call 23; (with_reducible refine (f2 _).mono ?_); rintro e w1 ⟨rfl, hw1⟩; subst hw1))
        go_ret
        exact ⟨rfl, rfl⟩
    · have t3 : ((z : Int) == 3) = false := by simp; omega
      obtain rfl : v = false := by rw [HN.out]; simp [h3]
      clear HN h3
      go_enter Try.func14, Try.ntmps14
      go_wp2_with (go_at_call 22; (with_reducible refine (f1 _).mono ?_); rintro e w1 ⟨rfl, hw1⟩; subst hw1)
      go_ret
      exact ⟨rfl, rfl⟩

set_option maxRecDepth 100000 in
set_option maxHeartbeats 1000000 in
theorem rname_walk (s : ByteArray) (hs : s.size ≤ 1000000) (w : World) :
    Calls Try.prog 15 #[.string s] w fun e w' => e = .returned (.bool (nam s)) ∧ Kept w w' := by
  by_cases h0 : s.size = 0
  · obtain rfl := empty_of h0
    have hn : nam ⟨#[]⟩ = false := decide_eq_false (fun h => by have := h.1; rw [bt_out (Nat.le_of_eq h0)] at this; exact absurd this (by decide))
    rw [hn]
    go_enter Try.func15, Try.ntmps15
    go_wp2
    refine wp_loop_rounds 1 ?_
    rw [rounds_succ]
    go_wp2
    go_ret
    exact ⟨rfl, Kept.refl _⟩
  have hpos : 0 < s.size := Nat.pos_of_ne_zero h0
  clear h0
  have HB : Hid (∀ k (h : k < s.size), s[k].toNat = bt s k) := bt_get s
  have f3 := fun W => rkept_walk s W
  have HN : Hid (nam s = decide (knd (bt s 0) = 3 ∧ run isN s 0 = s.size ∧ kept s = false)) := rfl
  go_enter Try.func15, Try.ntmps15
  go_wp2
  go_loopg [3] s.size (fun g at_ wx => ∃ k : Nat, k + g = s.size ∧ ((∀ j, j < k → isN (bt s j) = true) ∧ (0 < k → knd (bt s 0) = 3)) ∧ at_ = .int .i64 (k : Nat) ∧ wx = w)
  case atStart => exact ⟨0, by omega, ⟨fun j h => absurd h (Nat.not_lt_zero j), fun h => absurd h (by omega)⟩, rfl, rfl⟩
  case round =>
    obtain ⟨k, hg, hn, rfl, rfl⟩ := hrel
    have HI : Hid ((∀ j, j < k → isN (bt s j) = true) ∧ (0 < k → knd (bt s 0) = 3)) := hn
    clear hn
    cases gk with
    | zero =>
      have hk : k = s.size := by omega
      have hi2 : ¬ (k : Int) < (s.size : Nat) := by omega
      obtain ⟨e1, e2⟩ := list_ne hpos
      have hz : Hid (nam s = !kept s) := by
        show nam s = !kept s
        have h3 := HI.out.2 (by omega)
        have hr : run isN s 0 = s.size := run_is (Nat.le_refl _) (fun h => absurd h (Nat.lt_irrefl _)) s.size 0 (by omega) (fun j _ h => HI.out.1 j (by omega))
        rw [HN.out, h3, hr]
        cases kept s <;> simp
      generalize kept s = kp at *
      clear hg hk
      go_wp2_with (go_at_call 13; (with_reducible refine (f3 _).mono ?_); rintro e w1 ⟨rfl, k1⟩)
      go_ret
      exact ⟨by rw [hz.out]; rfl, k1⟩
    | succ g =>
      have hks : k < s.size := by omega
      have hx0 := HB.out k hks
      have HG : Hid (k + g + 1 = s.size) := by show k + g + 1 = s.size; omega
      have f1 := fun W => letter_walk (bt s k) W
      have hle := lt_le (bt s k)
      by_cases hl0 : lt (bt s k) = 0
      · have hz : Hid (nam s = false) := decide_eq_false (fun g => by
          have := run_all (p := isN) (s := s) (i := 0) (k := k) (by omega) (by rw [g.2.1]; exact hks)
          rw [isN_lt, hl0] at this; simp at this)
        rw [hl0] at f1
        generalize bt s k = y at *
        clear hg hl0 hle
        go_wp2_with (go_at_call 19; (with_reducible refine (f1 _).mono ?_); rintro e w1 ⟨rfl, hw1⟩; subst hw1)
        go_ret
        exact ⟨by rw [hz.out]; rfl, Kept.refl _⟩
      · have hN : isN (bt s k) = true := by rw [isN_lt]; simp; omega
        by_cases hl2 : lt (bt s k) = 2
        · by_cases hk0 : k = 0
          · subst hk0
            have hz : Hid (nam s = false) := decide_eq_false (fun g => by have := lt_1.2 g.1; omega)
            rw [hl2] at f1
            generalize bt s 0 = y at *
            clear hg hl0 hle hl2
            go_wp2_with (go_at_call 19; (with_reducible refine (f1 _).mono ?_); rintro e w1 ⟨rfl, hw1⟩; subst hw1)
            go_ret
            exact ⟨by rw [hz.out]; rfl, Kept.refl _⟩
          · have HM : Hid ((∀ j, j < k + 1 → isN (bt s j) = true) ∧ (0 < k + 1 → knd (bt s 0) = 3)) := ⟨fun j hj => by
              rcases Nat.lt_or_ge j k with h | h
              · exact HI.out.1 j h
              · obtain rfl : j = k := by omega
                exact hN, fun _ => HI.out.2 (by omega)⟩
            have tk : ((k : Int) == 0) = false := by simp; omega
            rw [hl2] at f1
            generalize bt s k = y at *
            clear hg hl0 hle hl2 hN
            go_wp2_with (go_at_call 19; (with_reducible refine (f1 _).mono ?_); rintro e w1 ⟨rfl, hw1⟩; subst hw1)
            go_roundg g
            case measure => omega
            case rel => exact ⟨k + 1, by have := HG.out; omega, HM.out, by go_num, rfl⟩
        · have hl1 : lt (bt s k) = 1 := by omega
          have HM : Hid ((∀ j, j < k + 1 → isN (bt s j) = true) ∧ (0 < k + 1 → knd (bt s 0) = 3)) := ⟨fun j hj => by
              rcases Nat.lt_or_ge j k with h | h
              · exact HI.out.1 j h
              · obtain rfl : j = k := by omega
                exact hN, fun _ => by
              by_cases hk0 : k = 0
              · subst hk0; exact lt_1.1 hl1
              · exact HI.out.2 (by omega)⟩
          rw [hl1] at f1
          generalize bt s k = y at *
          clear hg hl0 hle hl2 hN hl1
          go_wp2_with (go_at_call 19; (with_reducible refine (f1 _).mono ?_); rintro e w1 ⟨rfl, hw1⟩; subst hw1)
          go_roundg g
          case measure => omega
          case rel => exact ⟨k + 1, by have := HG.out; omega, HM.out, by go_num, rfl⟩

set_option maxRecDepth 100000 in
theorem few_walk (s : ByteArray) (hs : s.size ≤ maxLen) (w : World) :
    Calls Try.prog 8 #[.string s] w fun e w' => e = .returned (.string (s.extract 0 (min s.size 2000))) ∧ w' = w := by
  unfold maxLen at hs
  by_cases h : s.size ≤ 2000
  · have e1 : min (s.size : Int) 2000 = (s.size : Nat) := by omega
    have e2 : min s.size 2000 = s.size := by omega
    rw [e2, show s.extract 0 s.size = s from by cases s; simp]
    go_enter Try.func8, Try.ntmps8
    go_wp2
    go_ret
    exact ⟨rfl, rfl⟩
  · have e1 : min (s.size : Int) 2000 = 2000 := by omega
    have e2 : min s.size 2000 = 2000 := by omega
    rw [e2]
    have h2 : 2000 ≤ s.size := by omega
    have h3 : ¬ (s.size : Int) ≤ 2000 := by omega
    clear h
    go_enter Try.func8, Try.ntmps8
    go_wp2
    go_ret
    exact ⟨rfl, rfl⟩
end Go.Proofs.Ytgjhonphnecdhaa.Lx
