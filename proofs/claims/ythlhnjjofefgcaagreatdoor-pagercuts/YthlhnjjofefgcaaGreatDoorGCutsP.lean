/- The law on cuts, in plain words: what is left of two commits, wherever the power fails in the second one. Conditions: texts of at most 100 bytes. -/
import Derived.Test.YthlhnjjofefgcaaGreatDoorGBlank
import Derived.Test.YthlhnjjofefgcaaGreatDoorGWalkG
namespace Go.Proofs.YthlhnjjofefgcaaGreatDoor.G
open Go.ChangeShapes Go.WideShapes Go.ChangeAt Go.RowKit
open D (Dk Ok DiskAt Sec Wr Ct CutsAt FatesAt whole)
open P (bs supL Sup supP Small)

/-- The first page, and the second one. -/
def pg2 (s : ByteArray) : Pag := ⟨2, (2 : Nat), 2, s⟩
def pg3 (t : ByteArray) : Pag := ⟨3, (3 : Nat), 3, t⟩
def mp2 (s : ByteArray) : Nat → Option Pag := putM (fun _ => none) 2 (pg2 s)
def mp3 (t : ByteArray) : Nat → Option Pag := putM (fun _ => none) 3 (pg3 t)
theorem keys2 (s : ByteArray) : keysOf (mp2 s) = [2] := rfl
theorem keys3 (t : ByteArray) : keysOf (mp3 t) = [3] := rfl
theorem gen2 (s : ByteArray) (n : Nat) : (atK (mp2 s) n).gen < 18446744073709551616 := by
  show ((putM (fun _ => none) 2 (pg2 s) n).getD Pag.zero).gen < _
  unfold putM
  split
  · show 2 < 18446744073709551616; decide
  · show 0 < 18446744073709551616; decide
theorem gen3 (s : ByteArray) (n : Nat) : (atK (mp3 s) n).gen < 18446744073709551616 := by
  show ((putM (fun _ => none) 3 (pg3 s) n).getD Pag.zero).gen < _
  unfold putM
  split
  · show 3 < 18446744073709551616; decide
  · show 0 < 18446744073709551616; decide
theorem sup22 : Sup 2 2 := by unfold Sup; decide
theorem sup33 : Sup 3 3 := by unfold Sup; decide

/-- Behind the first commit. -/
structure C2 (s : ByteArray) (l : List Ct) (d : Dk) : Prop where
  flu : Flu d
  len : d.secs.length = 9
  s0 : d.secs[0]? = some ⟨bs (supP 2 2), false, 0⟩
  s1 : d.secs[1]? = some ⟨st1, false, 0⟩
  s2 : d.secs[2]? = some ⟨whole (secOf (mp2 s) 2), false, 0⟩
  cuts : d.cuts = l
  fails : d.fails = 0
  since : d.since = 11
  ok : Ok 11 d

theorem c2_of (s : ByteArray) {l : List Ct} {d : Dk} (hb : Bg 9 l d) (hl : Liv d 4) : ∃ d2, wrt (mp2 s) d (keysOf (mp2 s)) 2 2 = (d2, 0, false) ∧ C2 s l d2 := by
  obtain ⟨d1, d2, e, w1, w2⟩ := wrt_live (mp2 s) hb.flu (l := keysOf (mp2 s)) hl (keys_ne _) (by rw [keys2]; intro n hn; simp at hn; subst hn; rw [hb.len]; decide) (by rw [hb.len]; decide) 2 2 sup22
  have ok2 := wrt_ok (M := mp2 s) hb.ok (keysOf (mp2 s)) 2 2
  rw [e] at ok2
  rw [keys2] at w1
  refine ⟨d2, e, w2.flu, by rw [w2.len, w1.len, hb.len], w2.own ⟨0, bs (supP 2 2)⟩ (by simp), ?_, ?_, by rw [w2.cuts, w1.cuts, hb.cuts], by rw [w2.fails, w1.fails, hb.fails], by rw [w2.since, w1.since, hb.since]; rfl, ok2⟩
  · rw [w2.oth 1 (by intro x hx; simp at hx; subst hx; decide), w1.oth 1 (by intro x hx; simp [wrl] at hx; subst hx; show 2 ≠ 1; decide)]
    exact hb.s1
  · rw [w2.oth 2 (by intro x hx; simp at hx; subst hx; decide)]
    exact w1.own ⟨2, whole (secOf (mp2 s) 2)⟩ (by simp [wrl])

/-- Behind the second one, when there is power again: what it answered, which state is there. -/
structure En (s t : ByteArray) (f : Int) (U : Dk) (r : Nat) : Prop where
  flu : Flu U
  cuts : U.cuts = []
  len : U.secs.length = 9
  ok : Ok 40 U
  s2 : U.secs[2]? = some ⟨whole (secOf (mp2 s) 2), false, 0⟩
  st : ∃ s0 s1 o0 o1, U.secs[0]? = some s0 ∧ U.secs[1]? = some s1 ∧ Sd (sayS s0).1 0 o0 ∧ Sd (sayS s1).1 1 o1 ∧ pick o0 o1 = some (r, (r : Int))
  which : (r = 2 ∧ f = 40) ∨ (r = 3 ∧ U.secs[3]? = some ⟨whole (secOf (mp3 t) 3), false, 0⟩ ∧ (f = 0 ∨ 0 < U.fails))

theorem en_ok (s t : ByteArray) {d : Dk} (h : C2 s [] d) : ∃ d3, wrt (mp3 t) d (keysOf (mp3 t)) 3 3 = (d3, 0, false) ∧ En s t 0 d3.up 3 := by
  obtain ⟨d1, d3, e, w1, w2⟩ := wrt_live (mp3 t) h.flu (l := keysOf (mp3 t)) ⟨h.flu.up, by intro c r e; rw [h.cuts] at e; cases e⟩ (keys_ne _) (by rw [keys3]; intro n hn; simp at hn; subst hn; rw [h.len]; decide) (by rw [h.len]; decide) 3 3 sup33
  have ok3 := wrt_ok (M := mp3 t) h.ok (keysOf (mp3 t)) 3 3
  rw [e] at ok3
  rw [keys3] at w1
  have eu : d3.up = d3 := by unfold Dk.up; rw [if_neg (by rw [w2.flu.up]; decide)]
  refine ⟨d3, e, ?_⟩
  rw [eu]
  have a0 : d3.secs[0]? = some ⟨bs (supP 2 2), false, 0⟩ := by
    rw [w2.oth 0 (by intro x hx; simp at hx; subst hx; decide), w1.oth 0 (by intro x hx; simp [wrl] at hx; subst hx; show 3 ≠ 0; decide)]; exact h.s0
  have a2 : d3.secs[2]? = some ⟨whole (secOf (mp2 s) 2), false, 0⟩ := by
    rw [w2.oth 2 (by intro x hx; simp at hx; subst hx; decide), w1.oth 2 (by intro x hx; simp [wrl] at hx; subst hx; show 3 ≠ 2; decide)]; exact h.s2
  have a3 : d3.secs[3]? = some ⟨whole (secOf (mp3 t) 3), false, 0⟩ := by
    rw [w2.oth 3 (by intro x hx; simp at hx; subst hx; decide)]; exact w1.own ⟨3, whole (secOf (mp3 t) 3)⟩ (by simp [wrl])
  have a1 : d3.secs[1]? = some ⟨bs (supP 3 3), false, 0⟩ := w2.own ⟨1, bs (supP 3 3)⟩ (by simp)
  exact ⟨w2.flu, by rw [w2.cuts, w1.cuts, h.cuts], by rw [w2.len, w1.len, h.len], Ok.mono ok3 (show 11 + 1 + 3 ≤ 40 by decide), a2, ⟨_, _, some (2, 2), some (3, 3), a0, a1, sd_state sup22 rfl, sd_state sup33 rfl, rfl⟩, .inr ⟨rfl, a3, .inl rfl⟩⟩

/-- The power failed: what is left of a disk, and power again. -/
theorem lft_up {d0 d : Dk} {ws : List Wr} (h : Lft d0 ws d) (hc : d.cuts = []) : Flu d.up ∧ d.up.cuts = [] ∧ d.up.secs = d.secs ∧ d.up.fails = d.fails := by
  have e : d.up = { d with dead := false, since := 0 } := by simp [Dk.up, h.dead]
  rw [e]
  exact ⟨⟨h.waits, h.last, rfl⟩, hc, rfl, rfl⟩

theorem en_cut (s t : ByteArray) (c : Ct) (k : Nat) (hk : k < 4) (hc : c.at_ = 11 + (k : Int)) {d : Dk} (h : C2 s [c] d) : ∃ d3 b r, wrt (mp3 t) d (keysOf (mp3 t)) 3 3 = (d3, 40, b) ∧ En s t 40 d3.up r := by
  obtain ⟨x3, hx3⟩ : ∃ x3 : Wr, x3 = ⟨3, whole (secOf (mp3 t) 3)⟩ := ⟨_, rfl⟩
  have ok3 := wrt_ok (M := mp3 t) h.ok (keysOf (mp3 t)) 3 3
  have p0 := Pend.nil h.flu
  have hz := sec_size (mp3 t) 3
  -- only the page was under way
  have early : ∀ {d' : Dk}, Lft d [x3] d' → d'.cuts = [] → Ok 15 d' → En s t 40 d'.up 2 := by
    intro d' hl hcu hok
    obtain ⟨fl, cu, es, ef⟩ := lft_up hl hcu
    have ot : ∀ i, i ≠ 3 → d'.up.secs[i]? = d.secs[i]? := by
      intro i hi; rw [es]; exact hl.oth i (by intro x hx; simp at hx; subst hx; rw [hx3]; exact Ne.symm hi)
    exact ⟨fl, cu, by rw [es, hl.len, h.len], Ok.mono (D.up_ok hok) (by decide), by rw [ot 2 (by decide)]; exact h.s2,
      ⟨_, _, some (2, 2), some (1, -1), (ot 0 (by decide)).trans h.s0, (ot 1 (by decide)).trans h.s1, sd_state sup22 rfl, sd_state sup11 rfl, rfl⟩, .inl ⟨rfl, rfl⟩⟩
  by_cases k0 : k = 0
  · obtain ⟨d', e, l1, l2⟩ := write_fails p0 h.flu h.cuts (by rw [h.since, hc]; omega) 3 (by rw [h.len]; decide) (by intro _ h; cases h) (secOf (mp3 t) 3) hz
    rw [List.nil_append, ← hx3] at l1
    have ew : wrs (mp3 t) d [3] = (d', 40) := by unfold wrs; rw [e, if_pos (show (40 : Int) ≠ 0 by decide)]
    have et : wrt (mp3 t) d (keysOf (mp3 t)) 3 3 = (d', 40, false) := by rw [keys3]; unfold wrt; rw [ew, if_pos (show (40 : Int) ≠ 0 by decide)]
    rw [et] at ok3
    exact ⟨d', false, 2, et, early l1 l2 ok3⟩
  · have lv : ∀ j, j ≤ k → Liv d j := fun j hj => ⟨h.flu.up, fun c' r hc' => by rw [h.cuts] at hc'; injection hc' with e _; subst e; rw [h.since, hc]; omega⟩
    have e1 := write_live (lv 1 (by omega)) 3 (by rw [h.len]; decide) (secOf (mp3 t) 3) hz
    rw [← hx3] at e1
    have p1 := p0.write h.flu x3 (by rw [hx3, h.len]; show 3 < 9; decide) (by intro _ h; cases h)
    rw [List.nil_append] at p1
    have ew : wrs (mp3 t) d [3] = ((d.wait x3).begin, 0) := by unfold wrs; rw [e1, if_neg (by simp)]; rfl
    by_cases k1 : k = 1
    · obtain ⟨d', e, l1, l2⟩ := flush_fails p1 h.flu h.cuts (by rw [p1.since, h.since, hc]; show ¬ ((11 + 1 : Nat) : Int) < _; omega)
      have et : wrt (mp3 t) d (keysOf (mp3 t)) 3 3 = (d', 40, false) := by rw [keys3]; unfold wrt; rw [ew, if_neg (by simp), e, if_pos (show (40 : Int) ≠ 0 by decide)]
      rw [et] at ok3
      exact ⟨d', false, 2, et, early l1 l2 ok3⟩
    · have lv1 : Liv (d.wait x3).begin 1 := p1.live (lv 2 (by omega))
      have e2 := flush_live lv1
      have w1 := p1.flush h.flu
      obtain ⟨d1, hd1⟩ : ∃ d1, (d.wait x3).begin.begin.good = d1 := ⟨_, rfl⟩
      rw [hd1] at e2 w1
      have ot : ∀ i, i ≠ 3 → d1.secs[i]? = d.secs[i]? := fun i hi => w1.oth i (by intro x hx; simp at hx; subst hx; rw [hx3]; exact Ne.symm hi)
      have o3 : d1.secs[3]? = some ⟨whole (secOf (mp3 t) 3), false, 0⟩ := by have := w1.own x3 (by simp); rw [hx3] at this; exact this
      have cu1 : d1.cuts = [c] := by rw [w1.cuts]; exact h.cuts
      have si1 : d1.since = 13 := by rw [w1.since, h.since]; rfl
      have late : ∀ {d' : Dk}, Lft d1 [⟨1, bs (supP 3 3)⟩] d' → d'.cuts = [] → Ok 15 d' → ∃ r, En s t 40 d'.up r := by
        intro d' hl hcu hok
        obtain ⟨fl, cu, es, ef⟩ := lft_up hl hcu
        have ot' : ∀ i, i ≠ 1 → d'.up.secs[i]? = d1.secs[i]? := by
          intro i hi; rw [es]; exact hl.oth i (by intro x hx; simp at hx; subst hx; exact Ne.symm hi)
        have a0 : d'.up.secs[0]? = some ⟨bs (supP 2 2), false, 0⟩ := (ot' 0 (by decide)).trans ((ot 0 (by decide)).trans h.s0)
        have a2 := (ot' 2 (by decide)).trans ((ot 2 (by decide)).trans h.s2)
        have a3 := (ot' 3 (by decide)).trans o3
        have ln : d'.up.secs.length = 9 := by rw [es, hl.len, w1.len, h.len]
        have fa : d'.up.fails = 1 := by rw [ef, hl.fails, w1.fails, h.fails]
        have ok' : Ok 40 d'.up := Ok.mono (D.up_ok hok) (by decide)
        have hown := hl.own ⟨1, bs (supP 3 3)⟩ (by simp)
        rcases hown with e | e | e
        · exact ⟨2, fl, cu, ln, ok', a2, ⟨_, ⟨st1, false, 0⟩, some (2, 2), some (1, -1), a0, (by rw [es]; exact e.trans ((ot 1 (by decide)).trans h.s1)), sd_state sup22 rfl, sd_state sup11 rfl, rfl⟩, .inl ⟨rfl, rfl⟩⟩
        · exact ⟨3, fl, cu, ln, ok', a2, ⟨_, ⟨bs (supP 3 3), false, 0⟩, some (2, 2), some (3, 3), a0, (by rw [es]; exact e), sd_state sup22 rfl, sd_state sup33 rfl, rfl⟩, .inr ⟨rfl, a3, .inr (by rw [fa]; decide)⟩⟩
        · exact ⟨2, fl, cu, ln, ok', a2, ⟨_, ⟨bs (supP 3 3), true, 0⟩, some (2, 2), none, a0, (by rw [es]; exact e), sd_state sup22 rfl, sd_empty 1, rfl⟩, .inl ⟨rfl, rfl⟩⟩
      have hst : (bs (supL 3 3)).size ≤ 256 := sup_size _ _
      have ewh : whole (bs (supL 3 3)) = bs (supP 3 3) := sup_whole sup33
      have ec0 : comt d1 3 3 = setl d1 1 (bs (supL 3 3)) := rfl
      by_cases k2 : k = 2
      · obtain ⟨d', e, l1, l2⟩ := write_fails (Pend.nil w1.flu) w1.flu cu1 (by rw [si1, hc]; omega) 1 (by rw [w1.len, h.len]; decide) (by intro _ h; cases h) (bs (supL 3 3)) hst
        rw [ewh, List.nil_append] at l1
        have ec : comt d1 3 3 = (d', 40) := by
          have e' : d1.write 1 (bs (supL 3 3)) = (d', 40) := e
          rw [ec0]; unfold setl; rw [e', if_pos (show (40 : Int) ≠ 0 by decide)]
        have et : wrt (mp3 t) d (keysOf (mp3 t)) 3 3 = (d', 40, true) := by rw [keys3]; unfold wrt; rw [ew, if_neg (by simp), e2, if_neg (by simp), ec]; rfl
        rw [et] at ok3
        obtain ⟨r, hr⟩ := late l1 l2 ok3
        exact ⟨d', true, r, et, hr⟩
      · have lw1 : Liv d1 1 := w1.live (lv 3 (by omega))
        have e4 : d1.write 1 (bs (supL 3 3)) = ((d1.wait ⟨1, bs (supP 3 3)⟩).begin, 0) := by
          have := write_live lw1 1 (by rw [w1.len, h.len]; decide) (bs (supL 3 3)) hst
          rw [ewh] at this
          exact this
        have p3 := (Pend.nil w1.flu).write w1.flu ⟨1, bs (supP 3 3)⟩ (show 1 < _ by rw [w1.len, h.len]; decide) (by intro _ h; cases h)
        rw [List.nil_append] at p3
        obtain ⟨d', e, l1, l2⟩ := flush_fails p3 w1.flu cu1 (by rw [p3.since, si1, hc]; show ¬ ((13 + 1 : Nat) : Int) < _; omega)
        have ec : comt d1 3 3 = (d', 40) := by
          rw [ec0]; unfold setl; rw [e4, if_neg (by simp)]; exact e
        have et : wrt (mp3 t) d (keysOf (mp3 t)) 3 3 = (d', 40, true) := by rw [keys3]; unfold wrt; rw [ew, if_neg (by simp), e2, if_neg (by simp), ec]; rfl
        rw [et] at ok3
        obtain ⟨r, hr⟩ := late l1 l2 ok3
        exact ⟨d', true, r, et, hr⟩
end Go.Proofs.YthlhnjjofefgcaaGreatDoor.G
