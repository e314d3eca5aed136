/- The walks of the reference's Words, Kept and skip; of Name, both; of few. Conditions: texts are within a bound. -/
import Derived.Test.YtgjhonphnecdhaaME
namespace Go.Proofs.Ytgjhonphnecdhaa.Lx
open Go.ChangeShapes Go.WideShapes Go.ChangeAt Go.RowKit

theorem kept_mem {t : ByteArray} : kept t = true ↔ t ∈ kws := by
  unfold kept
  rw [List.any_eq_true]
  constructor
  · rintro ⟨x, hx, h⟩
    rw [← seq_data, seq_eq] at h
    rw [h]; exact hx
  · intro h
    exact ⟨t, h, by simp⟩

/-- The kept names as cells. -/
def kcs : Array Value := #[.string ⟨#[103, 108, 111, 98, 97, 108]⟩, .string ⟨#[102, 105, 101, 108, 100]⟩, .string ⟨#[102, 110]⟩, .string ⟨#[118, 97, 114]⟩, .string ⟨#[105, 110, 116]⟩, .string ⟨#[114, 101, 102]⟩, .string ⟨#[102, 117, 110]⟩, .string ⟨#[105, 102]⟩, .string ⟨#[101, 108, 115, 101]⟩, .string ⟨#[119, 104, 105, 108, 101]⟩, .string ⟨#[108, 111, 99, 107]⟩, .string ⟨#[117, 110, 108, 111, 99, 107]⟩, .string ⟨#[115, 112, 97, 119, 110]⟩, .string ⟨#[114, 101, 116, 117, 114, 110]⟩, .string ⟨#[115, 107, 105, 112]⟩, .string ⟨#[110, 101, 119]⟩, .string ⟨#[110, 117, 108, 108]⟩]
theorem kcs_is : kcs.toList = kws.map fun x => .string x := rfl

set_option maxRecDepth 100000 in
theorem words_walk (w : World) : Calls Try.prog 21 #[] w fun e w' => e = .returned (.slice (some ⟨w.heap.size, 0, none⟩) 17 17) ∧ w' = w.alloc (.cells kcs 9) := by
  go_enter Try.func21, Try.ntmps21
  go_wp2
  go_ret
  exact ⟨rfl, rfl⟩

set_option maxRecDepth 100000 in
set_option maxHeartbeats 1000000 in
theorem rkept_walk (t : ByteArray) (w : World) :
    Calls Try.prog 13 #[.string t] w fun e w' => e = .returned (.bool (kept t)) ∧ Kept w w' := by
  have kA : Hid (Kept w (w.alloc (.cells kcs 9))) := (Kept.refl w).alloc _
  have HC : Hid (∀ (k : Nat) (x : ByteArray), kws[k]? = some x → (w.alloc (.cells kcs 9)).cell? ⟨w.heap.size, k, none⟩ = some (.string x)) := fun k x hx => row_at w kws kcs _ kcs_is (Kept.refl _) hx
  have HE : Hid (∀ (k : Nat) (x : ByteArray), kws[k]? = some x → (x.toList == t.toList) = decide (x = t)) := fun k x hx => by
    rw [Bool.eq_iff_iff, seq_eq, decide_eq_true_iff]
  have HK : Hid (kept t = true ↔ t ∈ kws) := kept_mem
  have f1 := words_walk w
  go_enter Try.func13, Try.ntmps13
  go_wp2_with (go_at_call 21; (with_reducible refine f1.mono ?_); rintro e w1 ⟨rfl, hw1⟩; rw [← hw1] at kA HC; clear hw1)
  go_loopg [4] 17 (fun g at_ wx => ∃ k : Nat, k + g = 17 ∧ (∀ j x, j < k → kws[j]? = some x → x ≠ t) ∧ at_ = .int .i64 (k : Nat) ∧ wx = w1)
  case atStart => exact ⟨0, rfl, fun j x h => absurd h (Nat.not_lt_zero j), rfl, rfl⟩
  case round =>
    obtain ⟨k, hg, hn, rfl, rfl⟩ := hrel
    have HN : Hid (∀ j x, j < k → kws[j]? = some x → x ≠ t) := hn
    clear hn
    cases gk with
    | zero =>
      obtain rfl : k = 17 := by omega
      have hz : Hid (kept t = false) := by
        show kept t = false
        rw [Bool.eq_false_iff]
        intro h
        obtain ⟨j, hj⟩ := List.getElem?_of_mem (HK.out.1 h)
        exact HN.out j t (by have := (List.getElem?_eq_some_iff.1 hj).1; exact this) hj rfl
      clear hg
      go_wp2
      go_ret
      exact ⟨by rw [hz.out]; rfl, kA.out⟩
    | succ g =>
      have hk : k < 17 := by omega
      have HG : Hid (k + g + 1 = 17) := by show k + g + 1 = 17; omega
      obtain ⟨x, hx⟩ : ∃ x, kws[k]? = some x := ⟨_, List.getElem?_eq_getElem (show k < kws.length from hk)⟩
      have hc := HC.out k x hx
      have hq := HE.out k x hx
      have HX : Hid (kws[k]? = some x) := hx
      clear hg hx
      by_cases hm : x = t
      · rw [decide_eq_true hm] at hq
        have HM : Hid (kept t = true) := HK.out.2 (hm ▸ List.mem_of_getElem? HX.out)
        clear hm
        go_wp2
        go_ret
        exact ⟨by rw [HM.out]; rfl, kA.out⟩
      · rw [decide_eq_false hm] at hq
        have HM : Hid (∀ j x, j < k + 1 → kws[j]? = some x → x ≠ t) := fun j z hj hz => by
          rcases Nat.lt_or_ge j k with h | h
          · exact HN.out j z h hz
          · obtain rfl : j = k := by omega
            rw [HX.out] at hz; cases hz
            exact hm
        clear hm
        go_wp2
        go_roundg g
        case measure => omega
        case rel => exact ⟨k + 1, by have := HG.out; omega, HM.out, by go_num, rfl⟩

set_option maxRecDepth 100000 in
set_option maxHeartbeats 1000000 in
theorem skip_walk (s : ByteArray) (i : Nat) (hi : i ≤ s.size) (hs : s.size ≤ 1000000) (w : World) :
    Calls Try.prog 18 #[.string s, .int .i64 (i : Nat)] w fun e w' => e = .returned (.int .i64 (gp false s i : Nat)) ∧ w' = w := by
  have HB : Hid (∀ k (h : k < s.size), s[k].toNat = bt s k) := bt_get s
  go_enter Try.func18, Try.ntmps18
  go_wp2
  go_loopg [5, 6] (s.size - i) (fun g at_ nt wx => ∃ (k : Nat) (b : Bool), k + g = s.size ∧ gp false s i = gp b s k ∧ at_ = .int .i64 (k : Nat) ∧ nt = .bool b ∧ wx = w)
  case atStart => exact ⟨i, false, by omega, rfl, rfl, rfl, rfl⟩
  case round =>
    obtain ⟨k, b, hg, hr, rfl, rfl, rfl⟩ := hrel
    have HR : Hid (gp false s i = gp b s k) := hr
    clear hr hi
    cases gk with
    | zero =>
      have hi2 : ¬ (k : Int) < (s.size : Nat) := by omega
      have HK : Hid (s.size ≤ k) := by show s.size ≤ k; omega
      clear hg
      go_wp2
      go_ret
      exact ⟨by rw [HR.out, gp_end HK.out]; rfl, rfl⟩
    | succ g =>
      have hks : k < s.size := by omega
      have hx0 := HB.out k hks
      have HG : Hid (k + g + 1 = s.size) := by show k + g + 1 = s.size; omega
      by_cases h10 : bt s k = 10
      · have HS : Hid (gp b s k = gp false s (k + 1)) := gp_lf hks h10
        rw [h10] at hx0
        clear hg h10
        go_wp2
        go_roundg g
        case measure => omega
        case rel => exact ⟨k + 1, false, by have := HG.out; omega, by rw [HR.out, HS.out], by go_num, rfl, rfl⟩
      · have t10 : ((bt s k : Nat) == (10 : Int)) = false := by simp; omega
        cases b with
        | true =>
          have HS : Hid (gp true s k = gp true s (k + 1)) := gp_sp hks h10 (.inl rfl)
          generalize bt s k = y at *
          clear hg h10
          go_wp2
          go_roundg g
          case measure => omega
          case rel => exact ⟨k + 1, true, by have := HG.out; omega, by rw [HR.out, HS.out], by go_num, rfl, rfl⟩
        | false =>
          by_cases h1 : bt s k = 32 ∨ bt s k = 9 ∨ bt s k = 13
          · have HS : Hid (gp false s k = gp false s (k + 1)) := gp_sp hks h10 (.inr h1)
            have HG1 : Hid (bt s k = 32 ∨ bt s k = 9 ∨ bt s k = 13) := h1
            rcases h1 with h1 | h1 | h1
            all_goals
              rw [h1] at hx0
              clear hg h10 t10 h1
              go_wp2
              go_roundg g
              case measure => omega
              case rel => exact ⟨k + 1, false, by have := HG.out; omega, by rw [HR.out, HS.out], by go_num, rfl, rfl⟩
          · by_cases h35 : bt s k = 35
            · have HS : Hid (gp false s k = gp true s (k + 1)) := gp_note hks h35
              rw [h35] at hx0
              clear hg h10 t10 h1 h35
              go_wp2
              go_roundg g
              case measure => omega
              case rel => exact ⟨k + 1, true, by have := HG.out; omega, by rw [HR.out, HS.out], by go_num, rfl, rfl⟩
            · have HS : Hid (gp false s k = k) := gp_stop (by omega)
              have t32 : ((bt s k : Nat) == (32 : Int)) = false := by simp; omega
              have t9 : ((bt s k : Nat) == (9 : Int)) = false := by simp; omega
              have t13 : ((bt s k : Nat) == (13 : Int)) = false := by simp; omega
              have t35 : ((bt s k : Nat) == (35 : Int)) = false := by simp; omega
              generalize bt s k = y at *
              clear hg h10 h1 h35
              go_wp2
              go_ret
              exact ⟨by rw [HR.out, HS.out]; rfl, rfl⟩
end Go.Proofs.Ytgjhonphnecdhaa.Lx
