/- The walk of the statement on nothing: it returns true. Conditions: errors.errorType and the library's table of powers of ten hold what the program's text lays. -/
import Derived.Test.YtbdlobmciemadaaDoorWalkH
namespace Go.Proofs.YtbdlobmciemadaaDoor
open Go.RowKit

/-- Since w there is new memory at most, and what the program's text lays is there. -/
structure Gd (w W : World) : Prop where
  k : Kept w W
  d : Lds W

theorem Gd.step {w W W' : World} (h : Gd w W) (k : Kept W W') : Gd w W' := ⟨h.k.trans k, h.d.kept k⟩

theorem awake_in {w W : World} (h : Gd w W) : Calls Tryd.prog 10 #[] W fun e w' => e = .returned (.bool true) ∧ Gd w w' :=
  (awake_walk W h.d).mono fun _ _ ⟨he, k⟩ => ⟨he, h.step k⟩

theorem error_in {w W : World} (h : Gd w W) : Calls Tryd.prog 16 #[.pointer none] W fun e w' => e = .returned (.string ⟨#[]⟩) ∧ Gd w w' :=
  (error_none W h.d).mono fun _ _ ⟨he, k⟩ => ⟨he, h.step k⟩

theorem is_in {w W : World} (h : Gd w W) : Calls Tryd.prog 18 #[.pointer none, .nilIface] W fun e w' => e = .returned (.bool false) ∧ Gd w w' :=
  (is_none W).mono fun _ _ ⟨he, k⟩ => ⟨he, h.step k⟩

theorem text_in {w W : World} (h : Gd w W) : Calls Tryd.prog 13 #[.nilIface] W fun e w' => e = .returned (.string ⟨#[]⟩) ∧ Gd w w' :=
  (text_walk [] .nilIface W rfl h.d (fun _ hy => by cases hy) (by simp)).mono fun _ _ ⟨he, k⟩ => ⟨he, h.step k⟩

theorem chain_in {w W : World} (h : Gd w W) : Calls Tryd.prog 9 #[.nilIface] W fun e w' => (∃ p cap, e = .returned (.slice p 0 cap)) ∧ Gd w w' :=
  (chain_walk [] .nilIface W rfl h.d).mono fun _ _ ⟨v, he, hn, k⟩ => by
    obtain ⟨p, cap, hv⟩ := hn.shape
    exact ⟨⟨p, cap, by rw [he, hv]; rfl⟩, h.step k⟩

theorem first_in {w W : World} (h : Gd w W) : Calls Tryd.prog 12 #[.nilIface] W fun e w' => e = .returned (.int .i64 0) ∧ Gd w w' :=
  (first_walk [] .nilIface W rfl h.d).mono fun _ _ ⟨he, k⟩ => ⟨he, h.step k⟩

theorem has_in {w W : World} (c : Int) (h : Gd w W) : Calls Tryd.prog 14 #[.nilIface, .int .i64 c] W fun e w' => e = .returned (.bool false) ∧ Gd w w' := by
  by_cases hc : c = 0
  · subst hc
    exact (has_ok _ W).mono fun _ _ ⟨he, k⟩ => ⟨he, h.step k⟩
  · exact (has_walk [] .nilIface c W rfl h.d (by simp) (beq_eq_false_iff_ne.2 hc)).mono fun _ _ ⟨he, k⟩ => ⟨he, h.step k⟩

set_option maxHeartbeats 1000000 in
theorem none_walk (s : ByteArray) (c : Int) (w : World) (hd : Lds w) :
    Calls Tryd.prog 7 #[.string s, .int .i64 c] w fun e w' => e = .returned (.bool true) ∧ Kept w w' := by
  have h0 : Gd w w := ⟨Kept.refl _, hd⟩
  clear hd
  go_enter Tryd.func7, Tryd.ntmps7
  go_wp2_with (first
    | (go_at_call 15; refine (new_ok _ _ _).mono ?_; rintro e w' ⟨rfl, rfl⟩)
    | (go_at_call 10; refine (awake_in (by assumption)).mono ?_; rintro e w1 ⟨rfl, h1⟩)
    | (go_at_call 16; refine (error_in (by assumption)).mono ?_; rintro e w2 ⟨rfl, h2⟩)
    | (go_at_call 17; refine (unwrap_none _).mono ?_; rintro e w' ⟨rfl, rfl⟩)
    | (go_at_call 18; refine (is_in (by assumption)).mono ?_; rintro e w3 ⟨rfl, h3⟩)
    | (go_at_call 11; refine (code_walk [] _ _ rfl).mono ?_; rintro e w' ⟨rfl, rfl⟩; simp only [code])
    | (go_at_call 13; refine (text_in (by assumption)).mono ?_; rintro e w4 ⟨rfl, h4⟩)
    | (go_at_call 9; refine (chain_in (by assumption)).mono ?_; rintro e w5 ⟨⟨p, cap, rfl⟩, h5⟩)
    | (go_at_call 12; refine (first_in (by assumption)).mono ?_; rintro e w6 ⟨rfl, h6⟩)
    | (go_at_call 14; refine (has_in _ (by assumption)).mono ?_; rintro e w7 ⟨rfl, h7⟩))
  go_ret
  exact ⟨rfl, h7.k⟩
end Go.Proofs.YtbdlobmciemadaaDoor
