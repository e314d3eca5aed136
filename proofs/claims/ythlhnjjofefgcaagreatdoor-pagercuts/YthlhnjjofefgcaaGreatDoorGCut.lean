/- Disks of which the power fails, in plain words: while it is formatted, while it is opened. No condition but those that each row names. -/
import Derived.Test.YthlhnjjofefgcaaGreatDoorGWalkM
namespace Go.Proofs.YthlhnjjofefgcaaGreatDoor.G
open D (Dk Ok Sec Wr Ct settled settle1 whole)
open P (bs supL Sup supP Small)

theorem Lft.congr {d0 d d' : Dk} {ws : List Wr} (h : Lft d0 ws d) (hs : d'.secs = d.secs) (hw : d'.waits = d.waits) (hc : d'.cuts = d.cuts) (hf : d'.fails = d.fails) (hd : d'.dead = d.dead) : Lft d0 ws d' :=
  ⟨hw.trans h.waits, by rw [hs]; exact h.last, by rw [hs]; exact h.len, by rw [hs]; exact h.oth, by rw [hs]; exact h.own, by rw [hc]; exact h.cuts, hf.trans h.fails, hd.trans h.dead⟩

/-- The power fails in an act. -/
theorem act_fails {d : Dk} {c : Ct} (hc : d.cuts = [c]) (hs : ¬ (d.since : Int) < c.at_) : d.act = (d.begin.fail c [], true) := by
  unfold Dk.act
  rw [hc]
  dsimp only
  rw [if_neg hs]

theorem write_fails {d0 d : Dk} {ws : List Wr} {c : Ct} (h : Pend d0 ws d) (h0 : Flu d0) (hc : d0.cuts = [c]) (hs : ¬ (d.since : Int) < c.at_) (n : Nat) (hn : n < d0.secs.length) (hne : ∀ y ∈ ws, y.sec ≠ n) (s : ByteArray) (hz : s.size ≤ 256) :
    ∃ d', d.write (n : Nat) s = (d', 40) ∧ Lft d0 (ws ++ [⟨n, whole s⟩]) d' ∧ d'.cuts = [] := by
  have p1 := h.write h0 ⟨n, whole s⟩ hn hne
  obtain ⟨e1, e2, e3, e4, e5, e6⟩ := D.wait_fields d ⟨n, whole s⟩
  have ea := act_fails (d := d.wait ⟨n, whole s⟩) (c := c) (by rw [e1, h.cuts, hc]) (by rw [e3]; exact hs)
  refine ⟨(d.wait ⟨n, whole s⟩).begin.fail c [], ?_, (p1.fail h0 c [] hc).congr rfl rfl rfl rfl rfl, rfl⟩
  unfold Dk.write
  have e7 : ((n : Nat) : Int).toNat = n := by omega
  rw [if_neg (by simp [h.up]), if_neg (by rw [h.len]; omega), if_neg (by omega), e7, ea]
  rfl
theorem flush_fails {d0 d : Dk} {ws : List Wr} {c : Ct} (h : Pend d0 ws d) (h0 : Flu d0) (hc : d0.cuts = [c]) (hs : ¬ (d.since : Int) < c.at_) :
    ∃ d', d.flush = (d', 40) ∧ Lft d0 ws d' ∧ d'.cuts = [] := by
  have ea := act_fails (d := d) (c := c) (by rw [h.cuts, hc]) hs
  refine ⟨d.begin.fail c [], ?_, h.fail h0 c [] hc, rfl⟩
  unfold Dk.flush
  rw [if_neg (by simp [h.up]), ea]
  rfl
theorem read_fails {d : Dk} {c : Ct} (h : Flu d) (hc : d.cuts = [c]) (hs : ¬ (d.since : Int) < c.at_) (n : Nat) (hn : n < d.secs.length) :
    ∃ d', d.read (n : Nat) = (d', ⟨#[]⟩, 40) ∧ Lft d [] d' ∧ d'.cuts = [] := by
  have ea := act_fails hc hs
  refine ⟨d.begin.fail c [], ?_, (Pend.nil h).fail h c [] hc, rfl⟩
  unfold Dk.read
  rw [if_neg (by simp [h.up]), if_neg (by omega), ea]
  rfl

/-- The bytes of the first state. -/
def st1 : ByteArray := bs (supP 1 (-1))
/-- The bytes of a blank sector. -/
def zs : ByteArray := whole ⟨#[]⟩

/-- A disk that is blank, or formatted. -/
structure Bl (n : Nat) (d : Dk) : Prop where
  waits : d.waits = []
  last : ∀ (i : Nat) (s : Sec), d.secs[i]? = some s → s.last = 0
  len : d.secs.length = n
  s0 : ∃ b, d.secs[0]? = some ⟨zs, b, 0⟩
  s1 : ∃ b, d.secs[1]? = some ⟨zs, b, 0⟩ ∨ d.secs[1]? = some ⟨st1, b, 0⟩
  cuts : d.cuts = []

theorem fmt_cut (n : Nat) (h2 : 2 ≤ n) (c : Ct) (k : Nat) (hk : k < 5) (hc : c.at_ = (k : Int)) : ∃ d, fmtd (Dk.new n [c]) = (d, 40) ∧ Bl n d ∧ d.dead = true := by
  obtain ⟨dn, hdn⟩ : ∃ dn, Dk.new n [c] = dn := ⟨_, rfl⟩
  have h0 : Flu dn := by rw [← hdn]; exact new_flu n [c]
  have ln : dn.secs.length = n := by rw [← hdn]; simp [Dk.new]
  have cu : dn.cuts = [c] := by rw [← hdn]; rfl
  have si : dn.since = 0 := by rw [← hdn]; rfl
  have z0 : ∀ i, i < n → dn.secs[i]? = some ⟨zs, false, 0⟩ := by
    intro i hi
    rw [← hdn]
    show (List.replicate n (⟨whole ⟨#[]⟩, false, 0⟩ : Sec))[i]? = _
    rw [List.getElem?_replicate, if_pos hi]; rfl
  have lv : ∀ j, j ≤ k → Liv dn j := fun j hj => ⟨h0.up, fun c' r hc' => by rw [cu] at hc'; injection hc' with e _; subst e; rw [si, hc]; omega⟩
  rw [hdn]
  clear hdn
  have two : ∀ {d' : Dk} {ws : List Wr}, Lft dn ws d' → d'.cuts = [] → (∀ x ∈ ws, x.bytes = zs ∧ (x.sec = 0 ∨ x.sec = 1)) → Bl n d' ∧ d'.dead = true := by
    intro d' ws hl hcu hx
    have at_ : ∀ i, i < 2 → ∃ b, d'.secs[i]? = some ⟨zs, b, 0⟩ := by
      intro i hi
      by_cases hh : ∀ x ∈ ws, x.sec ≠ i
      · exact ⟨false, by rw [hl.oth i hh]; exact z0 i (by omega)⟩
      · simp only [Classical.not_forall, Classical.not_not] at hh
        obtain ⟨x, hxm, rfl⟩ := hh
        rcases hl.own x hxm with e | e | e
        · exact ⟨false, by rw [e]; exact z0 _ (by omega)⟩
        · exact ⟨false, by rw [e, (hx x hxm).1]⟩
        · exact ⟨true, by rw [e, (hx x hxm).1]⟩
    obtain ⟨b1, e1⟩ := at_ 1 (by decide)
    exact ⟨⟨hl.waits, hl.last, by rw [hl.len, ln], at_ 0 (by decide), ⟨b1, .inl e1⟩, hcu⟩, hl.dead⟩
  have p0 := Pend.nil h0
  by_cases k0 : k = 0
  · obtain ⟨d', e, l1, l2⟩ := write_fails p0 h0 cu (by rw [si, hc]; omega) 0 (by omega) (by intro _ h; cases h) ⟨#[]⟩ (by decide)
    have e' : dn.write 0 ⟨#[]⟩ = (d', 40) := e
    refine ⟨d', ?_, two l1 l2 (by intro x hx; simp at hx; subst hx; exact ⟨rfl, .inl rfl⟩)⟩
    unfold fmtd
    rw [e', if_pos (show (40 : Int) ≠ 0 by decide)]
  · have e1 : dn.write 0 ⟨#[]⟩ = ((dn.wait ⟨0, zs⟩).begin, 0) := write_live (lv 1 (by omega)) 0 (by omega) ⟨#[]⟩ (by decide)
    have p1 := p0.write h0 ⟨0, zs⟩ (show 0 < _ by omega) (by intro _ h; cases h)
    rw [List.nil_append] at p1
    by_cases k1 : k = 1
    · obtain ⟨d', e, l1, l2⟩ := write_fails p1 h0 cu (by rw [p1.since, si, hc]; show ¬ ((0 + 1 : Nat) : Int) < _; omega) 1 (by omega) (by intro y hy; simp at hy; subst hy; show 0 ≠ 1; decide) ⟨#[]⟩ (by decide)
      have e' : (dn.wait ⟨0, zs⟩).begin.write 1 ⟨#[]⟩ = (d', 40) := e
      refine ⟨d', ?_, two l1 l2 (by intro x hx; simp at hx; rcases hx with rfl | rfl; exact ⟨rfl, .inl rfl⟩; exact ⟨rfl, .inr rfl⟩)⟩
      have es : setl (dn.wait ⟨0, zs⟩).begin 1 ⟨#[]⟩ = (d', 40) := by unfold setl; rw [e', if_pos (show (40 : Int) ≠ 0 by decide)]
      unfold fmtd
      rw [e1, if_neg (by simp), es, if_pos (show (40 : Int) ≠ 0 by decide)]
    · have lv1 : Liv (dn.wait ⟨0, zs⟩).begin 1 := p1.live (lv 2 (by omega))
      have e2 : (dn.wait ⟨0, zs⟩).begin.write 1 ⟨#[]⟩ = (((dn.wait ⟨0, zs⟩).begin.wait ⟨1, zs⟩).begin, 0) := write_live lv1 1 (by rw [p1.len]; omega) ⟨#[]⟩ (by decide)
      have p2 := p1.write h0 ⟨1, zs⟩ (show 1 < _ by omega) (by intro y hy; simp at hy; subst hy; show 0 ≠ 1; decide)
      by_cases k2 : k = 2
      · obtain ⟨d', e, l1, l2⟩ := flush_fails p2 h0 cu (by rw [p2.since, si, hc]; show ¬ ((0 + 2 : Nat) : Int) < _; omega)
        refine ⟨d', ?_, two l1 l2 (by intro x hx; simp at hx; rcases hx with rfl | rfl; exact ⟨rfl, .inl rfl⟩; exact ⟨rfl, .inr rfl⟩)⟩
        have es : setl (dn.wait ⟨0, zs⟩).begin 1 ⟨#[]⟩ = (d', 40) := by unfold setl; rw [e2, if_neg (by simp), e]
        unfold fmtd
        rw [e1, if_neg (by simp), es, if_pos (show (40 : Int) ≠ 0 by decide)]
      · have lv2 : Liv ((dn.wait ⟨0, zs⟩).begin.wait ⟨1, zs⟩).begin 1 := p2.live (lv 3 (by omega))
        have e3 := flush_live lv2
        have w1 := p2.flush h0
        obtain ⟨d1, hd1⟩ : ∃ d1, ((dn.wait ⟨0, zs⟩).begin.wait ⟨1, zs⟩).begin.begin.good = d1 := ⟨_, rfl⟩
        rw [hd1] at e3 w1
        have es : setl (dn.wait ⟨0, zs⟩).begin 1 ⟨#[]⟩ = (d1, 0) := by unfold setl; rw [e2, if_neg (by simp), e3]
        have q0 : d1.secs[0]? = some ⟨zs, false, 0⟩ := w1.own ⟨0, zs⟩ (by simp)
        have q1 : d1.secs[1]? = some ⟨zs, false, 0⟩ := w1.own ⟨1, zs⟩ (by simp)
        have cu1 : d1.cuts = [c] := by rw [w1.cuts]; exact cu
        have si1 : d1.since = 3 := by rw [w1.since, si]; rfl
        have fin : ∀ {d' : Dk}, Lft d1 [⟨1, st1⟩] d' → d'.cuts = [] → Bl n d' ∧ d'.dead = true := by
          intro d' hl hcu
          refine ⟨⟨hl.waits, hl.last, by rw [hl.len, w1.len, ln], ⟨false, by rw [hl.oth 0 (by intro x hx; simp at hx; subst hx; show 1 ≠ 0; decide)]; exact q0⟩, ?_, hcu⟩, hl.dead⟩
          rcases hl.own ⟨1, st1⟩ (by simp) with e | e | e
          · exact ⟨false, .inl (e.trans q1)⟩
          · exact ⟨false, .inr e⟩
          · exact ⟨true, .inr e⟩
        have hst : (bs (supL 1 (-1))).size ≤ 256 := sup_size _ _
        have ew : whole (bs (supL 1 (-1))) = st1 := sup_whole sup11
        by_cases k3 : k = 3
        · obtain ⟨d', e, l1, l2⟩ := write_fails (Pend.nil w1.flu) w1.flu cu1 (by rw [si1, hc]; omega) 1 (by rw [w1.len]; omega) (by intro _ h; cases h) (bs (supL 1 (-1))) hst
          rw [ew, List.nil_append] at l1
          have ec : comt d1 1 (-1) = (d', 40) := by
            have e' : d1.write 1 (bs (supL 1 (-1))) = (d', 40) := e
            have ec0 : comt d1 1 (-1) = setl d1 1 (bs (supL 1 (-1))) := rfl
            rw [ec0]
            unfold setl
            rw [e', if_pos (show (40 : Int) ≠ 0 by decide)]
          refine ⟨d', ?_, fin l1 l2⟩
          unfold fmtd
          rw [e1, if_neg (by simp), es, if_neg (by simp)]
          exact ec
        · have lw1 : Liv d1 1 := w1.live (lv 4 (by omega))
          have e4 : d1.write 1 (bs (supL 1 (-1))) = ((d1.wait ⟨1, st1⟩).begin, 0) := by
            have := write_live lw1 1 (by rw [w1.len]; omega) (bs (supL 1 (-1))) hst
            rw [ew] at this
            exact this
          have p3 := (Pend.nil w1.flu).write w1.flu ⟨1, st1⟩ (show 1 < _ by rw [w1.len]; omega) (by intro _ h; cases h)
          rw [List.nil_append] at p3
          obtain ⟨d', e, l1, l2⟩ := flush_fails p3 w1.flu cu1 (by rw [p3.since, si1, hc]; show ¬ ((3 + 1 : Nat) : Int) < _; omega)
          have ec : comt d1 1 (-1) = (d', 40) := by
            have ec0 : comt d1 1 (-1) = setl d1 1 (bs (supL 1 (-1))) := rfl
            rw [ec0]
            unfold setl
            rw [e4, if_neg (by simp)]
            exact e
          refine ⟨d', ?_, fin l1 l2⟩
          unfold fmtd
          rw [e1, if_neg (by simp), es, if_neg (by simp)]
          exact ec
end Go.Proofs.YthlhnjjofefgcaaGreatDoor.G
