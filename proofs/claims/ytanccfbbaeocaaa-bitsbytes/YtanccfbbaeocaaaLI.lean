/- The walks of what only looks at sets: Empty, Many, Same, Has. Conditions: those that each row names. -/
import Derived.Test.YtanccfbbaeocaaaLC
import Derived.Test.YtanccfbbaeocaaaLG
namespace Go.Proofs.Ytanccfbbaeocaaa.Bt
open Go.ChangeShapes Go.WideShapes Go.ChangeAt Go.RowKit

theorem nm_take_le (P : List Pt) (hP : P.length ≤ 16384) (i : Nat) : (nm (P.take i)).length ≤ 1048576 := by
  have := nm_len_le (P.take i)
  have : (P.take i).length ≤ P.length := List.length_take_le' i P
  omega

set_option maxHeartbeats 2000000 in
theorem many_walk {w : World} {p : Option Addr} {n c : Nat} {P : List Pt} (h : St w p n c P) : Calls Try.prog 21 #[.agg #[.slice p n c]] w fun e w' => e = .returned (.int .i64 ((nm P).length : Nat)) ∧ Kept w w' := by
  have hf := h.few
  have H : Hid (St w p n c P) := h
  have HL : Hid (P.length = n) := h.len
  have HM : Hid (∀ i, (nm (P.take i)).length ≤ 1048576) := nm_take_le P h.ok.len
  have K0 : Hid (Kept w (w.alloc (.cells #[.slice p n c] 25))) := (Kept.refl w).alloc _
  clear h
  go_enter Try.func21, Try.ntmps21
  go_wp2
  go_loopg [3, 9] n (fun g s3 s9 wr => ∃ i m : Nat, s3 = .int .i64 (m : Nat) ∧ s9 = .int .i64 (i : Nat) ∧ i ≤ n ∧ n - i ≤ g ∧ Hid (m = (nm (P.take i)).length ∧ Kept w wr))
  case atStart => exact ⟨0, 0, rfl, rfl, Nat.zero_le _, by omega, ⟨by simp [nm], K0.out⟩⟩
  case round =>
    clear K0
    obtain ⟨i, m, rfl, rfl, hi, hg, HK⟩ := hrel
    have hm : m ≤ 1048576 := by rw [HK.out.1]; exact HM.out i
    by_cases hlt : i < n
    · obtain ⟨x, hx⟩ : ∃ x, P[i]? = some x := ⟨_, List.getElem?_eq_getElem (by rw [HL.out]; omega)⟩
      obtain ⟨b, o, rfl, c0, c1⟩ := (H.out.kept HK.out.2).at hx
      have hok := H.out.ok.may x (List.mem_of_getElem? hx)
      have ho := fun W => ones_walk x.2 hok.2.2 W
      have hc := cnt_le x.2
      have HN : Hid (m + cnt x.2 64 = (nm (P.take (i + 1))).length) := by show _ = _; rw [nm_take_succ P i x hx, HK.out.1]
      have HKr : Hid (Kept w wr) := HK.out.2
      obtain ⟨x1, x2⟩ := x
      simp only at c0 c1 ho hc HN
      generalize cnt x2 64 = y at *
      clear hx hok HK
      go_wp2_with (go_at_call 38; refine (ho _).mono ?_; rintro e w' ⟨rfl, hw'⟩; rw [hw']; clear hw')
      go_roundg (n - (i + 1))
      case measure => omega
      case rel => exact ⟨i + 1, m + y, by go_num, by go_num, by omega, Nat.le_refl _, ⟨HN.out, HKr.out.alloc _⟩⟩
    · obtain rfl : i = n := by omega
      have he : m = (nm P).length := by rw [HK.out.1, List.take_of_length_le (by rw [HL.out]; exact Nat.le_refl _)]
      have hk := HK.out.2
      clear HK
      go_wp2
      go_ret
      exact ⟨by rw [he]; rfl, hk⟩

theorem nan_walk (a : Int) (w : World) : Calls Try.prog 45 #[.int .i64 a] w fun e w' => e = .returned (.bool false) ∧ w' = w := by
  go_enter Try.func45, Try.ntmps45
  go_wp2
  go_ret
  exact ⟨by simp, rfl⟩
/-- What is said of two numbers. -/
def cmpv (a b : Nat) : Int := if a < b then -1 else if b < a then 1 else 0
set_option maxHeartbeats 1000000 in
theorem cmp_walk (a b : Nat) (w : World) : Calls Try.prog 37 #[.int .i64 (a : Nat), .int .i64 (b : Nat)] w fun e w' => e = .returned (.int .i64 (cmpv a b)) ∧ w' = w := by
  rcases Nat.lt_trichotomy a b with h | h | h
  · rw [show cmpv a b = -1 from if_pos h]
    have h' : (a : Int) < (b : Int) := by omega
    go_enter Try.func37, Try.ntmps37
    go_wp2_with (go_at_call 45; refine (nan_walk _ _).mono ?_; rintro e w' ⟨rfl, rfl⟩)
    go_ret
    exact ⟨rfl, rfl⟩
  · subst h
    rw [show cmpv a a = 0 by simp [cmpv]]
    go_enter Try.func37, Try.ntmps37
    go_wp2_with (go_at_call 45; refine (nan_walk _ _).mono ?_; rintro e w' ⟨rfl, rfl⟩)
    go_ret
    exact ⟨rfl, rfl⟩
  · rw [show cmpv a b = 1 by simp [cmpv]; omega]
    have h' : (b : Int) < (a : Int) := by omega
    have h'' : ¬ (a : Int) < (b : Int) := by omega
    go_enter Try.func37, Try.ntmps37
    go_wp2_with (go_at_call 45; refine (nan_walk _ _).mono ?_; rintro e w' ⟨rfl, rfl⟩)
    go_ret
    exact ⟨rfl, rfl⟩
set_option maxHeartbeats 1000000 in
theorem has1_walk (a x k : Nat) (w : World) : Calls Try.prog 36 #[.agg #[.int .i64 (a : Nat), .int .u64 (x : Nat)], .int .i64 (k : Nat)] w fun e w' => e = .returned (.int .i64 (cmpv a k)) ∧ Kept w w' := by
  have kk : Kept w (w.alloc (.cells #[.int .i64 (a : Nat), .int .u64 (x : Nat)] 42)) := (Kept.refl w).alloc _
  go_enter Try.func36, Try.ntmps36
  go_wp2_with (go_at_call 37; refine (cmp_walk _ _ _).mono ?_; rintro e w' ⟨rfl, rfl⟩)
  go_ret
  exact ⟨rfl, kk⟩

/-- Where a part stands, or would. -/
structure Cut (P : List Pt) (k i : Nat) : Prop where
  le : i ≤ P.length
  lo : ∀ t x, P[t]? = some x → t < i → x.1 < k
  hi : ∀ t x, P[t]? = some x → i ≤ t → k ≤ x.1
theorem cut_at : ∀ {P : List Pt}, Okp P → ∀ k, ∃ i, Cut P k i
  | [], _, k => ⟨0, Nat.le_refl _, fun t x h => by simp at h, fun t x h => by simp at h⟩
  | p :: r, h, k => by
    by_cases hp : p.1 < k
    · obtain ⟨i, h1, h2, h3⟩ := cut_at h.tail k
      refine ⟨i + 1, by simp; omega, fun t x hx ht => ?_, fun t x hx ht => ?_⟩
      · cases t with
        | zero => simp at hx; subst hx; exact hp
        | succ t => exact h2 t x (by simpa using hx) (by omega)
      · cases t with
        | zero => omega
        | succ t => exact h3 t x (by simpa using hx) (by omega)
    · refine ⟨0, Nat.zero_le _, fun t x hx ht => by omega, fun t x hx _ => ?_⟩
      cases t with
      | zero => simp at hx; subst hx; omega
      | succ t => have := (List.pairwise_cons.1 h.up).1 x (List.mem_of_getElem? (by simpa using hx)); omega
def fnd (P : List Pt) (i k : Nat) : Bool := match P[i]? with | some x => decide (x.1 = k) | none => false

set_option maxHeartbeats 2000000 in
theorem search_walk {w : World} {p : Option Addr} {n c : Nat} {P : List Pt} (h : St w p n c P) (k i : Nat) (hC : Cut P k i) :
    Calls Try.prog 35 #[.slice p n c, .int .i64 (k : Nat), .func (.func 36) #[] #[]] w fun e w' => e = .returned (.tuple #[.int .i64 (i : Nat), .bool (fnd P i k)]) ∧ Kept w w' := by
  have hf := h.few
  have H : Hid (St w p n c P) := h
  have HL : Hid (P.length = n) := h.len
  have C : Hid (Cut P k i) := hC
  have hin : i ≤ n := by have := hC.le; rw [h.len] at this; exact this
  clear h hC
  generalize hfq : fnd P i k = fq
  have HF : Hid (fnd P i k = fq) := hfq
  clear hfq
  go_enter Try.func35, Try.ntmps35
  go_wp2
  go_loopg [9, 10] n (fun g s9 s10 wr => ∃ lo hi : Nat, s9 = .int .i64 (lo : Nat) ∧ s10 = .int .i64 (hi : Nat) ∧ lo ≤ i ∧ i ≤ hi ∧ hi ≤ n ∧ hi - lo ≤ g ∧ Hid (Kept w wr))
  case atStart => exact ⟨0, n, rfl, rfl, Nat.zero_le _, hin, Nat.le_refl _, by omega, Kept.refl w⟩
  case round =>
    obtain ⟨lo, hi, rfl, rfl, h1, h2, h3, hg, HK⟩ := hrel
    by_cases hlt : lo < hi
    · obtain ⟨x, hx⟩ : ∃ x, P[(lo + hi) / 2]? = some x := ⟨_, List.getElem?_eq_getElem (by rw [HL.out]; omega)⟩
      obtain ⟨b, o, rfl, c0, c1⟩ := (H.out.kept HK.out).at hx
      have hl : cmpv x.1 k < 0 ↔ (lo + hi) / 2 < i := by
        constructor
        · intro hc
          rcases Nat.lt_or_ge ((lo + hi) / 2) i with h | h
          · exact h
          · have := C.out.hi _ _ hx h
            unfold cmpv at hc
            rw [if_neg (by omega)] at hc
            split at hc <;> omega
        · intro hc
          have := C.out.lo _ _ hx hc
          unfold cmpv
          rw [if_pos this]; decide
      obtain ⟨x1, x2⟩ := x
      simp only at hl c0 c1
      have hc1 := fun W => has1_walk x1 x2 k W
      generalize cmpv x1 k = cv at *
      clear hx
      have emid : ((lo : Int) + (hi : Int)) / 2 = (((lo + hi) / 2 : Nat) : Int) := by omega
      generalize hmd : (lo + hi) / 2 = md at *
      have b1 : lo ≤ md := by omega
      have b2 : md < hi := by omega
      by_cases hyx : cv < 0
      · have hmi := hl.1 hyx
        clear hl hmd
        go_wp2_with (go_at_call 36; refine (hc1 _).mono ?_; rintro e w1 ⟨rfl, k1⟩)
        go_roundg (hi - (md + 1))
        case measure => omega
        case rel => exact ⟨md + 1, hi, by go_num, rfl, by omega, h2, h3, Nat.le_refl _, HK.out.trans k1⟩
      · have hmi : ¬ md < i := fun h => hyx (hl.2 h)
        clear hl hmd
        go_wp2_with (go_at_call 36; refine (hc1 _).mono ?_; rintro e w1 ⟨rfl, k1⟩)
        go_roundg (md - lo)
        case measure => omega
        case rel => exact ⟨lo, md, rfl, by go_num, h1, by omega, by omega, Nat.le_refl _, HK.out.trans k1⟩
    · obtain rfl : lo = i := by omega
      obtain rfl : hi = lo := by omega
      by_cases hn : hi < n
      · obtain ⟨x, hx⟩ : ∃ x, P[hi]? = some x := ⟨_, List.getElem?_eq_getElem (by rw [HL.out]; omega)⟩
        obtain ⟨b, o, rfl, c0, c1⟩ := (H.out.kept HK.out).at hx
        have hfx : fq = decide (cmpv x.1 k = 0) := by
          rw [← HF.out, fnd, hx]
          show decide (x.1 = k) = _
          unfold cmpv
          congr 1
          rcases Nat.lt_trichotomy x.1 k with h | h | h
          · rw [if_pos h]; simp; omega
          · rw [h]; simp
          · rw [if_neg (by omega), if_pos h]; simp; omega
        obtain ⟨x1, x2⟩ := x
        simp only at c0 c1 hfx
        have hc1 := fun W => has1_walk x1 x2 k W
        generalize cmpv x1 k = cv at *
        clear hx HF C
        by_cases hz : cv = 0
        · subst hz
          go_wp2_with (go_at_call 36; refine (hc1 _).mono ?_; rintro e w1 ⟨rfl, k1⟩)
          go_ret2
          exact ⟨by rw [hfx]; simp, HK.out.trans k1⟩
        · go_wp2_with (go_at_call 36; refine (hc1 _).mono ?_; rintro e w1 ⟨rfl, k1⟩)
          go_ret2
          exact ⟨by rw [hfx]; simp [hz], HK.out.trans k1⟩
      · obtain rfl : hi = n := by omega
        have hfx : fq = false := by rw [← HF.out, fnd, List.getElem?_eq_none (by rw [HL.out]; exact Nat.le_refl _)]
        have hk := HK.out
        clear HK
        go_wp2
        go_ret2
        exact ⟨by rw [hfx]; rfl, hk⟩
end Go.Proofs.Ytanccfbbaeocaaa.Bt
