/- The walks of awake and same; the laws on names and on words. Conditions: those that each row names. -/
import Derived.Test.YtgjhonphnecdhaaMK
import Derived.Test.YtgjhonphnecdhaaMG
namespace Go.Proofs.Ytgjhonphnecdhaa.Lx
open Go.ChangeShapes Go.WideShapes Go.ChangeAt Go.RowKit

/-- The text that awake asks of. -/
def aw : ByteArray := ⟨#[97, 49, 61, 61, 50, 32, 35, 32, 120]⟩
def awl : List Tok := [⟨1, 0, 0, ⟨#[97, 49]⟩⟩, ⟨4, 2, 0, ⟨#[61, 61]⟩⟩, ⟨2, 4, 2, ⟨#[50]⟩⟩, ⟨0, 9, 0, ⟨#[]⟩⟩]
theorem aw_words : words aw = .ok awl := by kernel_rfl

set_option maxRecDepth 100000 in
set_option maxHeartbeats 1000000 in
theorem awake_walk (w : World) :
    Calls Try.prog 10 #[] w fun e w' => e = .returned (.bool true) ∧ Kept w w' := by
  have f1 : ∀ W, Calls Try.prog 7 #[.string aw] W fun e w' => (∃ b o c, e = .returned (.tuple #[.slice (some ⟨b, o, none⟩) 4 c, .agg #[.int .i64 0, .int .i64 0]]) ∧ (w'.cell? ⟨b, o + 3, none⟩ = some (.string ⟨#[97, 49]⟩) ∧ w'.cell? ⟨b, o + 7, none⟩ = some (.string ⟨#[61, 61]⟩) ∧ w'.cell? ⟨b, o + 10, none⟩ = some (.int .i64 2)) ∧ c ≤ 9223372036854775807 ∧ 4 ≤ c) ∧ Kept W w' := fun W => (lex_walk aw (by decide) W).mono (by
    rintro e w' ⟨h, k⟩
    unfold Ls at h
    rw [aw_words] at h
    obtain ⟨p, c, rfl, T⟩ := h
    obtain ⟨b, o, rfl, _, _, _, t1⟩ := T.at (i := 0) (x := ⟨1, 0, 0, ⟨#[97, 49]⟩⟩) rfl
    obtain ⟨b', o', e2, _, _, _, t2⟩ := T.at (i := 1) (x := ⟨4, 2, 0, ⟨#[61, 61]⟩⟩) rfl
    obtain ⟨b'', o'', e3, _, _, t3, _⟩ := T.at (i := 2) (x := ⟨2, 4, 2, ⟨#[50]⟩⟩) rfl
    cases e2; cases e3
    exact ⟨⟨b, o, c, rfl, ⟨t1, t2, t3⟩, T.small.2, T.le⟩, k⟩)
  unfold aw at f1
  go_enter Try.func10, Try.ntmps10
  go_wp2_with (go_at_call 7; (with_reducible refine (f1 _).mono ?_); rintro e w1 ⟨⟨b, o, c, rfl, ⟨t1, t2, t3⟩, hc, hc4⟩, k1⟩; have k2 := k1.alloc (.cells #[.int .i64 0, .int .i64 0] 25); have K : Hid (Kept w (w1.alloc (.cells #[.int .i64 0, .int .i64 0] 25))) := k2; have ka := (Kept.refl w1).alloc (.cells #[.int .i64 0, .int .i64 0] 25); replace t1 := ka.cell t1; replace t2 := ka.cell t2; replace t3 := ka.cell t3; have HF := F2.made w1 0 0; obtain ⟨c0, c1⟩ := HF.cs; clear k1 k2 ka HF)
  go_ret
  exact ⟨rfl, K.out⟩

set_option maxRecDepth 100000 in
set_option maxHeartbeats 1000000 in
theorem same_walk {w : World} {p p' : Option Addr} {n c c' : Nat} {l : List Tok} (h : Tw w p n c l) (h' : Tw w p' n c' l) :
    Calls Try.prog 11 #[.slice p n c, .slice p' n c'] w fun e w' => e = .returned (.bool true) ∧ Kept w w' := by
  have HH : Hid (Tw w p n c l ∧ Tw w p' n c' l) := ⟨h, h'⟩
  have hc := h.small.2
  have hc' := h'.small.2
  have l1 := h.le
  have l2 := h'.le
  clear h h'
  go_enter Try.func11, Try.ntmps11
  go_wp2
  go_loopg [5] n (fun g iv wx => ∃ k : Nat, k + g = n ∧ Hid (Kept w wx) ∧ iv = .int .i64 (k : Nat))
  case atStart => exact ⟨0, by omega, Kept.refl _, rfl⟩
  case round =>
    obtain ⟨k, hg, HK, rfl⟩ := hrel
    cases gk with
    | zero =>
      have hk : ¬ (k : Int) < (n : Nat) := by omega
      clear hg
      go_wp2
      go_ret
      exact ⟨rfl, HK.out⟩
    | succ g =>
      have hk : k < n := by omega
      have HG : Hid (k + g + 1 = n) := by show k + g + 1 = n; omega
      obtain ⟨x, hx⟩ : ∃ x, l[k]? = some x := ⟨_, List.getElem?_eq_getElem (by rw [HH.out.1.len]; exact hk)⟩
      obtain ⟨b, o, rfl, a0, a1, a2, a3⟩ := (HH.out.1.kept HK.out).at hx
      obtain ⟨b', o', rfl, d0, d1, d2, d3⟩ := (HH.out.2.kept HK.out).at hx
      obtain ⟨xk, xa, xn, xt⟩ := x
      simp only at a0 a1 a2 a3 d0 d1 d2 d3
      have HKd : Hid (Kept w wr.drew) := HK.out.drew
      have hlt : (k : Int) < (n : Nat) := by omega
      clear hx HH hg
      go_wp2
      go_region
      all_goals go_wp2
      all_goals go_roundg g
      case measure => omega
      case rel => exact ⟨k + 1, by have := HG.out; omega, HKd, by go_num⟩
end Go.Proofs.Ytgjhonphnecdhaa.Lx
