/- The walk of disk.own: a copy of cuts that says the same and shares nothing. Conditions: no more than 5 cuts; each one's fates take at most 2^47 bytes. -/
import Derived.Test.YthlhnjjofefgcaaGreatDoorDWalkB
namespace Go.Proofs.YthlhnjjofefgcaaGreatDoor.D
open Go.ChangeShapes Go.WideShapes Go.ChangeAt Go.RowKit

/-- Cuts that are being copied: of the first k of them fates are copied, too. -/
structure Half (B : Nat) (w : World) (l : List Ct) (g k : Nat) (wx : World) : Prop where
  cur : ∃ cur : Array Value, wx.heap[g]? = some (.cells cur 48) ∧ ∀ j (h : j < l.length), cur[j * 2]? = some (.int .i64 l[j].at_) ∧ ∃ vf, cur[j * 2 + 1]? = some vf ∧
    (j < k → wx.ownsRow w.heap.size 3 1 vf l[j].fates.length (l[j].fates.map (Value.int .i64))) ∧ (k ≤ j → FatesAt B w vf l[j].fates)
  kept : Kept w wx
  new : w.heap.size ≤ g

theorem Half.at0 {B : Nat} {w : World} {l : List Ct} {g k : Nat} {wx : World} (h : Half B w l g k wx) (hk : k < l.length) :
    wx.cell? ⟨g, k * 2, none⟩ = some (.int .i64 l[k].at_) ∧ ∃ vf, wx.cell? ⟨g, k * 2 + 1, none⟩ = some vf ∧ FatesAt B w vf l[k].fates ∧ wx.frozen? ⟨g, k * 2 + 1, none⟩ = false := by
  obtain ⟨cur, hg, hc⟩ := h.cur
  obtain ⟨h1, vf, h2, _, h3⟩ := hc k hk
  exact ⟨by rw [cell_of_row wx g _ _ _ _ hg]; exact h1, vf, by rw [cell_of_row wx g _ _ _ _ hg]; exact h2, h3 (Nat.le_refl _), frozen_of_row wx g _ _ _ hg⟩

theorem own_kept {w w' : World} (h : Kept w w') {base e size : Nat} {v : Value} {n : Nat} {xs : List Value} (k : w.ownsRow base e size v n xs) : w'.ownsRow base e size v n xs := by
  refine ⟨k.1, ?_⟩
  rcases k.2 with k | ⟨g, cap, cur, h1, h2, h3, h4⟩
  · exact .inl k
  · exact .inr ⟨g, cap, cur, h1, h2, h.block h3, h4⟩

theorem own_base {w : World} {base base' e size : Nat} {v : Value} {n : Nat} {xs : List Value} (k : w.ownsRow base e size v n xs) (hb : base' ≤ base) : w.ownsRow base' e size v n xs := by
  refine ⟨k.1, ?_⟩
  rcases k.2 with k | ⟨g, cap, cur, h1, h2, h3, h4⟩
  · exact .inl k
  · exact .inr ⟨g, cap, cur, h1, Nat.le_trans hb h2, h3, h4⟩

theorem Half.to {B : Nat} {w : World} {l : List Ct} {g k : Nat} {wx wy : World} (h : Half B w l g k wx) (hk : Kept wx wy) : Half B w l g k wy := by
  obtain ⟨cur, hg, hc⟩ := h.cur
  refine ⟨⟨cur, hk.block hg, fun j hj => ?_⟩, h.kept.trans hk, h.new⟩
  obtain ⟨h1, vf, h2, h3, h4⟩ := hc j hj
  exact ⟨h1, vf, h2, fun e => own_kept hk (h3 e), h4⟩

theorem own_set {w : World} {base e size : Nat} {v : Value} {n : Nat} {xs : List Value} (k : w.ownsRow base e size v n xs) {g i : Nat} {cs : Array Value} {t : TypeId} {fr : Nat × Nat} (hg : w.heap[g]? = some (.cells cs t fr)) (ht : t ≠ e) (u : Value) : (w.setCell ⟨g, i, none⟩ u).ownsRow base e size v n xs := by
  refine ⟨k.1, ?_⟩
  rcases k.2 with k | ⟨b, cap, cur, h1, h2, h3, h4⟩
  · exact .inl k
  · refine .inr ⟨b, cap, cur, h1, h2, ?_, h4⟩
    rw [Below.heap_setCell w ⟨g, i, none⟩ u b (fun e' => ?_)]
    · exact h3
    · have e' : b = g := e'
      subst e'
      rw [hg] at h3
      injection h3 with h3
      injection h3 with _ e2 _
      exact ht e2

theorem Half.put {B : Nat} {w : World} {l : List Ct} {g k : Nat} {wx : World} (h : Half B w l g k wx) (hk : k < l.length) {v : Value} (ho : wx.ownsRow w.heap.size 3 1 v l[k].fates.length (l[k].fates.map (Value.int .i64))) :
    Half B w l g (k + 1) (wx.setCell ⟨g, k * 2 + 1, none⟩ v) := by
  obtain ⟨cur, hg, hc⟩ := h.cur
  refine ⟨⟨_, heap_setCell_same wx g (k * 2 + 1) _ _ _ hg, fun j hj => ?_⟩, h.kept.setCell h.new _, h.new⟩
  obtain ⟨h1, vf, h2, h3, h4⟩ := hc j hj
  refine ⟨by rw [Array.getElem?_setIfInBounds_ne (by omega)]; exact h1, ?_⟩
  by_cases e : j = k
  · subst e
    refine ⟨v, ?_, fun _ => own_set ho hg (by decide) _, fun q => absurd q (by omega)⟩
    have hlt : j * 2 + 1 < cur.size := (Array.getElem?_eq_some_iff.1 h2).1
    rw [Array.getElem?_setIfInBounds_self_of_lt hlt]
  · refine ⟨vf, by rw [Array.getElem?_setIfInBounds_ne (by omega)]; exact h2, fun q => own_set (h3 (by omega)) hg (by decide) _, fun q => h4 (by omega)⟩

set_option maxHeartbeats 2000000 in
set_option maxRecDepth 100000 in
theorem own_loop {B : Nat} {w : World} {l : List Ct} {v : Value} (hl : l.length ≤ 5) (hfl : ∀ c ∈ l, c.fates.length * 8 ≤ 140737488355328) (hB : B ≤ w.heap.size)
    (hcl : Calls Tryz.prog 59 #[v] w fun e w' => ∃ g cap, e = .returned (.slice (some ⟨g, 0, none⟩) l.length cap) ∧ l.length ≤ cap ∧ cap ≤ maxLen ∧ Half B w l g 0 w') :
    Calls Tryz.prog 40 #[v] w fun e w' => ∃ g cap, e = .returned (.slice (some ⟨g, 0, none⟩) l.length cap) ∧ l.length ≤ cap ∧ cap ≤ maxLen ∧ Half B w l g l.length w' := by
  go_enter Tryz.func40, Tryz.ntmps40
  go_wp2_with (go_at_call 59; refine hcl.mono ?_; rintro e w1 ⟨g, cap, rfl, hcap, hmax, hw1⟩)
  go_loopg [10] l.length (fun q iv wx => ∃ k : Nat, q + k = l.length ∧ iv = .int .i64 k ∧ Half B w l g k wx)
  case atStart => exact ⟨0, rfl, rfl, hw1⟩
  case round =>
    obtain ⟨k, hq, rfl, hh⟩ := hrel
    by_cases hk : k < l.length
    · obtain ⟨c0, vf, c1, hf, f1⟩ := hh.at0 hk
      obtain ⟨p, c, rfl, _⟩ := hf.out
      have hd : decide ((k : Int) < (l.length : Int)) = true := by simpa using hk
      have hfk := hfl _ (List.getElem_mem hk)
      clear hcl hfl
      have HW := hw1
      go_wp2_with (go_at_call 60; refine (clone_fates B (hf.on ((hh.kept.alloc _).on hB)) hfk).mono ?_; rintro e w2 ⟨v2, rfl, ho2, hk2⟩; have hh2 := hh.to (((Kept.refl wr).alloc _).trans hk2); obtain ⟨_, _, c2, _, f2⟩ := hh2.at0 hk; obtain ⟨p2, cp2, hv2⟩ : ∃ p2 c2, v2 = .slice p2 l[k].fates.length c2 := (by rcases ho2.2 with ⟨e1, e2⟩ | ⟨g', cap', cur', e1, _⟩; exact ⟨none, 0, by rw [e1, e2]⟩; exact ⟨_, _, e1⟩); subst hv2)
      go_roundg (l.length - (k + 1))
      case measure => omega
      case rel => exact ⟨k + 1, by omega, by go_num, hh2.put hk (own_base ho2 (Nat.le_trans hh.kept.size (by simp)))⟩
    · have hd : decide ((k : Int) < (l.length : Int)) = false := by simpa using hk
      go_wp2
      go_ret
      obtain rfl : k = l.length := by omega
      exact ⟨g, cap, rfl, hcap, hmax, hh⟩

theorem own_none {w : World} (n c : Nat) : Calls Tryz.prog 40 #[.slice none n c] w fun e w' => e = .returned (.slice none 0 0) ∧ w' = w := by
  go_enter Tryz.func40, Tryz.ntmps40
  go_wp2_with (go_at_call 59; refine (clone_cuts_nil _ _ _).mono ?_; rintro e w' ⟨rfl, rfl⟩)
  refine wp_loop_rounds 1 ?_
  rw [rounds_succ]
  go_wp2
  go_ret
  exact ⟨rfl, rfl⟩

theorem own_walk {B : Nat} {w : World} {v : Value} {l : List Ct} (h : CutsAt B w v l) (hB : B ≤ w.heap.size) (hl : l.length ≤ 5) (hfl : ∀ c ∈ l, c.fates.length * 8 ≤ 140737488355328) :
    Calls Tryz.prog 40 #[v] w fun e w' => ∃ v', e = .returned v' ∧ CutsAt 0 w' v' l ∧ Kept w w' := by
  obtain ⟨p, c, rfl, h1, h2, hc⟩ := h.out
  cases p with
  | none =>
    have hl0 : l = [] := by
      cases l with
      | nil => rfl
      | cons x r => obtain ⟨b, off, vf, hp, _⟩ := hc 0 (by simp); exact absurd hp (by simp)
    subst hl0
    refine (own_none _ _).mono ?_
    rintro e w' ⟨rfl, rfl⟩
    exact ⟨_, rfl, ⟨none, 0, rfl, Nat.le_refl _, Nat.zero_le _, fun j hj => absurd hj (by simp)⟩, Kept.refl _⟩
  | some a =>
    -- what each one's fates are, as a value
    have hf : ∃ f : Nat → Value, (∀ k, (f k).oneCell' = true) ∧ (∀ j u, (cutCells l f 0)[j]? = some u → w.cell? (a.add j) = some u) ∧ ∀ j (h : j < l.length), FatesAt B w (f j) l[j].fates := by
      have hch : ∀ j, ∃ vf : Value, vf.oneCell' = true ∧ ∀ h : j < l.length, w.cell? (a.add (j * 2)) = some (.int .i64 l[j].at_) ∧ w.cell? (a.add (j * 2 + 1)) = some vf ∧ FatesAt B w vf l[j].fates := by
        intro j
        by_cases hj : j < l.length
        · obtain ⟨b, off, vf, hp, _, hx, hy, hz⟩ := hc j hj
          injection hp with hp
          subst hp
          refine ⟨vf, ?_, fun _ => ⟨by rw [Addr.add_lit]; exact hx, by rw [Addr.add_lit, ← Nat.add_assoc]; exact hy, hz⟩⟩
          obtain ⟨p', c', rfl, _⟩ := hz.out
          rfl
        · exact ⟨.slice none 0 0, rfl, fun e => absurd e hj⟩
      obtain ⟨f, hf⟩ := Classical.axiomOfChoice hch
      refine ⟨f, fun k => (hf k).1, fun j u hu => ?_, fun j hj => ((hf j).2 hj).2.2⟩
      have hlen := cutCells_length f l 0
      have hj : j < l.length * 2 := by rw [← hlen]; exact (List.getElem?_eq_some_iff.1 hu).1
      have hg := cutCells_get f l 0 (j / 2) (by omega)
      have hq := (hf (j / 2)).2 (by omega)
      rcases Nat.mod_two_eq_zero_or_one j with hm | hm
      · rw [show j / 2 * 2 = j by omega] at hg hq
        rw [hg.1] at hu
        rw [← hu]; exact hq.1
      · rw [show j / 2 * 2 + 1 = j by omega] at hg hq
        rw [hg.2, Nat.zero_add] at hu
        rw [← hu]; exact hq.2.1
    obtain ⟨f, hf1, hf2, hf3⟩ := hf
    refine (own_loop (B := B) hl hfl hB ((clone_cuts_walk f hf1 hl hf2).mono ?_)).mono ?_
    · rintro e w' ⟨v', rfl, ho, hne, hk⟩
      rcases ho.2 with ⟨e1, e2⟩ | ⟨g, cap, cur, rfl, hg0, hg, hcap, hmax, hcs, htk⟩
      · rw [e1] at hne; exact absurd rfl hne
      · refine ⟨g, cap, rfl, hcap, hmax, ⟨cur, hg, fun j hj => ?_⟩, hk, hg0⟩
        have hx := cutCells_get f l 0 j hj
        rw [← htk, List.getElem?_take_of_lt (by omega), List.getElem?_take_of_lt (by omega), Nat.zero_add] at hx
        exact ⟨by simpa using hx.1, f j, by simpa using hx.2, fun q => absurd q (by omega), fun _ => hf3 j hj⟩
    · rintro e w' ⟨g, cap, rfl, hcap, hmax, hh⟩
      obtain ⟨cur, hg, hcu⟩ := hh.cur
      refine ⟨_, rfl, ⟨_, _, rfl, hcap, hmax, fun j hj => ?_⟩, hh.kept⟩
      obtain ⟨h1, vf, h2, h3, _⟩ := hcu j hj
      refine ⟨g, 0, vf, rfl, .inr ⟨_, _, _, hg, calm48⟩, ?_, ?_, FatesAt.own (h3 hj)⟩
      · rw [Nat.zero_add, cell_of_row w' g _ _ _ _ hg]; exact h1
      · rw [Nat.zero_add, cell_of_row w' g _ _ _ _ hg]; exact h2
end Go.Proofs.YthlhnjjofefgcaaGreatDoor.D
