/- The walks of the statements on texts and on Has: each returns true. Conditions: errors.errorType and the library's table of powers of ten hold what the program's text lays; the list's cells hold strings and numbers. -/
import Derived.Test.YtbdlobmciemadaaDoorWalkK
namespace Go.Proofs.YtbdlobmciemadaaDoor
open Go.RowKit

/-- A list of places and numbers, as it comes in. -/
structure Given (w : World) (p : Option Addr) (n : Nat) : Prop where
  ex : ∃ (b off : Nat) (S : Nat → ByteArray) (C : Nat → Int), n ≤ 9223372036854775807 ∧ (0 < n → p = some ⟨b, off, none⟩) ∧ (∀ j, (S j).size ≤ 9223372036854775807) ∧
    (∀ j, j < n → w.cell? ⟨b, off + j * 2, none⟩ = some (.string (S j))) ∧ (∀ j, j < n → w.cell? ⟨b, off + j * 2 + 1, none⟩ = some (.int .i64 (C j)))

theorem made_given {p : Option Addr} {n : Nat} {w : World} (cap : Nat) (h : Given w p n) (hd : Lds w) :
    Calls Tryd.prog 8 #[.slice p n cap] w fun e w' => ∃ l err g cap, e = .returned (.tuple #[err, .slice (some ⟨g, 0, none⟩) l.length cap, .string ⟨(txt l).toArray⟩]) ∧ Ch w' l err ∧ NumI w' l g cap ∧ l.length ≤ 20 ∧ (∀ y ∈ l, Small y) ∧ Gd w w' := by
  obtain ⟨b, off, S, C, h1, h2, h3, h4, h5⟩ := h.ex
  refine (made_walk p n cap b off S C w hd h1 h2 h3 h4 h5).mono ?_
  rintro e w' ⟨l, err, g, cap, t, rfl, hch, hnum, ht, hl, hsm, hk⟩
  refine ⟨l, err, g, cap, ?_, hch, hnum, hl, hsm, hk, hd.kept hk⟩
  have : t = ⟨(txt l).toArray⟩ := by rw [← ht]
  rw [this]

theorem text_gd {w W : World} {l : List Nd} {err : Value} (h : Gd w W) (hch : Ch W l err) (hl : l.length ≤ 20) (hsm : ∀ y ∈ l, Small y) :
    Calls Tryd.prog 13 #[err] W fun e w' => e = .returned (.string ⟨(txt l).toArray⟩) ∧ Gd w w' :=
  (text_walk l err W hch h.d (fun y hy => (hsm y hy).fine) (by omega)).mono fun _ _ ⟨he, k⟩ => ⟨he, h.step k⟩

theorem awake_gd {w W : World} (h : Gd w W) : Calls Tryd.prog 10 #[] W fun e w' => e = .returned (.bool true) ∧ Kept W w' ∧ Gd w w' :=
  (awake_walk W h.d).mono fun _ _ ⟨he, k⟩ => ⟨he, k, h.step k⟩

theorem texts_walk (p : Option Addr) (n cap : Nat) (w : World) (hgv : Given w p n) (hd : Lds w) :
    Calls Tryd.prog 4 #[.slice p n cap] w fun e w' => e = .returned (.bool true) ∧ Kept w w' := by
  have hm := made_given cap hgv hd
  clear hgv hd
  go_enter Tryd.func4, Tryd.ntmps4
  go_wp2_with (first
    | (go_at_call 8; refine hm.mono ?_; rintro e w1 ⟨l, err, g, cap1, rfl, hch, hnum, hl, hsm, h1⟩; clear hm hnum)
    | (go_at_call 10; refine (awake_gd h1).mono ?_; rintro e w2 ⟨rfl, k2, h2⟩)
    | (go_at_call 13; refine (text_gd h2 (Ch.kept k2 _ _ hch) hl hsm).mono ?_; rintro e w3 ⟨rfl, h3⟩))
  go_ret
  exact ⟨rfl, h3.k⟩

theorem has_zero (l : List Nd) (hsm : ∀ y ∈ l, Small y) : has l 0 = false := by
  unfold has
  rw [List.any_eq_false]
  intro y hy
  have := (hsm y hy).c0
  simp
  omega

theorem has_gd {w W : World} {l : List Nd} {err : Value} (c : Int) (h : Gd w W) (hch : Ch W l err) (hl : l.length ≤ 20) (hsm : ∀ y ∈ l, Small y) :
    Calls Tryd.prog 14 #[err, .int .i64 c] W fun e w' => e = .returned (.bool (has l c)) ∧ Kept W w' ∧ Gd w w' := by
  by_cases hc : c = 0
  · subst hc
    rw [has_zero l hsm]
    exact (has_ok err W).mono fun _ _ ⟨he, k⟩ => ⟨he, k, h.step k⟩
  · exact (has_walk l err c W hch h.d (by omega) (beq_eq_false_iff_ne.2 hc)).mono fun _ _ ⟨he, k⟩ => ⟨he, k, h.step k⟩

theorem has_next {l : List Nd} {k : Nat} {y : Nd} (c : Int) (h : l[k]? = some y) : has (l.take (k + 1)) c = (has (l.take k) c || y.c == c) := by
  rw [take_next h]
  unfold has
  rw [List.any_append]
  simp only [List.any_cons, List.any_nil, Bool.or_false]
  congr 1
  exact Bool.beq_comm ..

set_option maxRecDepth 100000 in
set_option maxHeartbeats 1000000 in
theorem hasLaw_walk (p : Option Addr) (n cap : Nat) (c : Int) (w : World) (hgv : Given w p n) (hd : Lds w) :
    Calls Tryd.prog 5 #[.slice p n cap, .int .i64 c] w fun e w' => e = .returned (.bool true) ∧ Kept w w' := by
  have hm := made_given cap hgv hd
  clear hgv hd
  go_enter Tryd.func5, Tryd.ntmps5
  go_wp2_with (go_at_call 8; refine hm.mono ?_; rintro e w1 ⟨l, err, g, cap1, rfl, hch, hnum, hl, hsm, h1⟩; clear hm)
  have HN : Hid (NumI w1 l g cap1) := hnum
  have hcap := hnum.cap
  clear hnum
  go_loopg [8, 9] l.length (fun m wt i wx => ∃ k : Nat, k + m = l.length ∧ i = .int .i64 k ∧ wt = .bool (has (l.take k) c) ∧ wx = w1)
  case atStart => exact ⟨0, by omega, rfl, rfl, rfl⟩
  case round =>
    obtain ⟨k, hkm, rfl, rfl, rfl⟩ := hrel
    by_cases hlt : k < l.length
    · obtain ⟨y, hy⟩ : ∃ y, l[k]? = some y := ⟨l[k], List.getElem?_eq_getElem hlt⟩
      have c0 := HN.out.at' k y hy
      have HX : Hid (has (l.take (k + 1)) c = (has (l.take k) c || y.c == c)) := has_next c hy
      clear hy
      generalize has (l.take k) c = b at *
      cases b
      · go_wp2
        obtain ⟨q, rfl⟩ : ∃ q, gk = q + 1 := ⟨gk - 1, by omega⟩
        go_roundg q
        case measure => omega
        case rel => exact ⟨k + 1, by omega, by go_num, by rw [HX.out]; rfl, rfl⟩
      · go_wp2
        obtain ⟨q, rfl⟩ : ∃ q, gk = q + 1 := ⟨gk - 1, by omega⟩
        go_roundg q
        case measure => omega
        case rel => exact ⟨k + 1, by omega, by go_num, by rw [HX.out]; rfl, rfl⟩
    · obtain rfl : k = l.length := by omega
      rw [List.take_length]
      have H1 := fun W h k1 => has_gd (w := w) (W := W) c h (Ch.kept k1 _ _ hch) hl hsm
      have H2 := fun W h k1 => has_gd (w := w) (W := W) 0 h (Ch.kept k1 _ _ hch) hl hsm
      rw [has_zero l hsm] at H2
      generalize has l c = b at *
      go_wp2_with (go_at_call 10; refine (awake_gd h1).mono ?_; rintro e w2 ⟨rfl, k2, h2⟩; go_wp2_with fail; refine (H1 _ h2 k2).mono ?_; rintro e w3 ⟨rfl, k3, h3⟩; go_wp2_with fail; refine (H2 _ h3 (k2.trans k3)).mono ?_; rintro e w4 ⟨rfl, k4, h4⟩)
      go_ret
      exact ⟨rfl, h4.k⟩
end Go.Proofs.YtbdlobmciemadaaDoor
