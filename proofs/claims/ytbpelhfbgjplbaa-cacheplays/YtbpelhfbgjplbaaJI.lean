/- The walk of change. Conditions: those that each row names. -/
import Derived.Test.YtbpelhfbgjplbaaJH
namespace Go.Proofs.Ytbpelhfbgjplbaa.Ca
open Go.ChangeShapes Go.WideShapes Go.ChangeAt Go.RowKit
open N (Kept)
open Q (kept_cell Kv Vn Km m_get m_put m_del)
variable {E : Nat → Prop} {X : List En}

theorem nx_set {G : Nat → Option It} {b : Nat} {y z : It} (h : G b = some y) (e : z.n = y.n) (x : Nat) : nx (upd G b z) x = nx G x := by
  unfold nx upd
  by_cases e2 : x = b
  · subst e2; rw [if_pos rfl, h]; exact e
  · rw [if_neg e2]
theorem pv_set {G : Nat → Option It} {b : Nat} {y z : It} (h : G b = some y) (e : z.o = y.o) (x : Nat) : pv (upd G b z) x = pv G x := by
  unfold pv upd
  by_cases e2 : x = b
  · subst e2; rw [if_pos rfl, h]; exact e
  · rw [if_neg e2]
theorem bl_mid (A C : List En) {x y : En} (h : y.b = x.b) : bl (A ++ y :: C) = bl (A ++ x :: C) := by simp [bl, h]
/-- Its text, and whether it has one, are these from now on. -/
theorem Hs.fill {w : World} {B e : Nat} {A C : List En} {x y : En} (h : Hs X w e (A ++ x :: C)) (hb : y.b = x.b) (hk : y.k = x.k) (hB : B ≤ x.b) :
    Hs X ((w.setCell ⟨x.b, 1, none⟩ (.string y.t)).setCell ⟨x.b, 2, none⟩ (.bool y.i)) e (A ++ y :: C) ∧ Fi B w ((w.setCell ⟨x.b, 1, none⟩ (.string y.t)).setCell ⟨x.b, 2, none⟩ (.bool y.i)) := by
  obtain ⟨G, h1, h2, hX⟩ := h.out
  obtain ⟨z, hz, z1, z2, z3⟩ := (h2.at' x (by simp)).out
  have g1 := h1.set hz 1 (.string y.t) (y := { z with t := y.t }) rfl
  have g2 := g1.set (upd_eq _ _ _) 2 (.bool y.i) (y := { z with t := y.t, i := y.i }) rfl
  have f1 := (Fi.refl B w).set h1 hz hB 1 (.string y.t)
  have f2 := f1.set g1 (upd_eq _ _ _) hB 2 (.bool y.i)
  refine ⟨⟨_, g2, ⟨?_, ?_, ?_⟩, ⟨fun v hv => ⟨?_, ?_⟩⟩⟩, f2⟩
  · rw [bl_mid A C hb]
    have hr := h2.ring
    have en : nx (upd (upd G x.b { z with t := y.t }) x.b { z with t := y.t, i := y.i }) = nx G := funext fun v => (nx_set (y := { z with t := y.t }) (z := { z with t := y.t, i := y.i }) (upd_eq _ _ _) rfl v).trans (nx_set (z := { z with t := y.t }) hz rfl v)
    have ep : pv (upd (upd G x.b { z with t := y.t }) x.b { z with t := y.t, i := y.i }) = pv G := funext fun v => (pv_set (y := { z with t := y.t }) (z := { z with t := y.t, i := y.i }) (upd_eq _ _ _) rfl v).trans (pv_set (z := { z with t := y.t }) hz rfl v)
    rw [en, ep]
    exact hr
  · obtain ⟨ye, he⟩ := h2.fin
    by_cases e2 : e = x.b
    · rw [e2]; exact ⟨_, upd_eq _ _ _⟩
    · exact ⟨ye, by rw [upd_ne _ _ e2, upd_ne _ _ e2]; exact he⟩
  · intro v hv
    have nd := (List.nodup_cons.1 h2.ring.nd).2
    rw [bl_app] at nd
    rw [List.nodup_append] at nd
    have other : ∀ v ∈ A ++ C, v.b ≠ x.b := by
      intro v hv e2
      rcases List.mem_append.1 hv with hv | hv
      · exact nd.2.2 v.b (List.mem_map.2 ⟨v, hv, rfl⟩) x.b (by simp [bl]) e2
      · exact (List.nodup_cons.1 nd.2.1).1 (by show x.b ∈ bl C; rw [← e2]; exact List.mem_map.2 ⟨v, hv, rfl⟩)
    have old : ∀ v ∈ A ++ C, Is (upd (upd G x.b { z with t := y.t }) x.b { z with t := y.t, i := y.i }) v := by
      intro v hv
      obtain ⟨u, u1, u2⟩ := (h2.at' v (by
        rcases List.mem_append.1 hv with hv | hv
        · simp [hv]
        · simp [hv])).out
      exact ⟨u, by rw [upd_ne _ _ (other v hv), upd_ne _ _ (other v hv)]; exact u1, u2⟩
    rcases List.mem_append.1 hv with hv | hv
    · exact old v (by simp [hv])
    · rcases List.mem_cons.1 hv with rfl | hv
      · exact ⟨{ z with t := v.t, i := v.i }, by rw [hb]; exact upd_eq _ _ _, z1.trans hk.symm, rfl, rfl⟩
      · exact old v (by simp [hv])
  · refine (hX.out v hv).1.ky fun cs fr e1 => ?_
    have hvb : v.b ≠ x.b := fun e2 => by
      have := (hX.out v hv).2
      rw [e2, hz] at this; cases this
    rw [heap_setCell_other _ ⟨x.b, 2, none⟩ v.b _ hvb, heap_setCell_other _ ⟨x.b, 1, none⟩ v.b _ hvb]
    exact e1
  · have hvb : v.b ≠ x.b := fun e2 => by
      have := (hX.out v hv).2
      rw [e2, hz] at this; cases this
    rw [upd_ne _ _ hvb, upd_ne _ _ hvb]
    exact (hX.out v hv).2

theorem Hs.c {w : World} {e : Nat} {es : List En} {x : En} (h : Hs X w e es) (hx : x ∈ es) :
    w.cell? ⟨x.b, 0, none⟩ = some (.string x.k) ∧ w.cell? ⟨x.b, 1, none⟩ = some (.string x.t) ∧ w.cell? ⟨x.b, 2, none⟩ = some (.bool x.i) ∧ ∀ j, w.frozen? ⟨x.b, j, none⟩ = false := by
  obtain ⟨G, h1, h2, _⟩ := h.out
  obtain ⟨z, hz, z1, z2, z3⟩ := (h2.at' x hx).out
  obtain ⟨c0, c1, c2, _⟩ := h1.c hz
  rw [z1] at c0
  rw [z2] at c1
  rw [z3] at c2
  exact ⟨c0, c1, c2, h1.f hz⟩
theorem Hs.pne {w : World} {p e : Nat} {q : Cc} {es : List En} {x : En} (h : Hs X w e es) (hc : CB w p q) (hx : x ∈ es) : p ≠ x.b := by
  obtain ⟨G, h1, h2, _⟩ := h.out
  obtain ⟨z, hz, _⟩ := (h2.at' x hx).out
  exact hc.ne h1 hz
theorem Bd.sub {B e : Nat} {es fs : List En} (h : Bd B e es) (hs : ∀ x ∈ fs, ∃ y ∈ es, x.b = y.b) : Bd B e fs := ⟨h.e, fun x hx => by
  obtain ⟨y, hy, e2⟩ := hs x hx
  rw [e2]; exact h.es y hy⟩

set_option maxRecDepth 100000 in
set_option maxHeartbeats 2000000 in
theorem change_walk {w : World} {B p n : Nat} {q : Cc} {A C : List En} {x : En} {f : ByteArray → Option ByteArray} (h : CM E X w B p q (A ++ x :: C) n f) (hl : (A ++ x :: C).length ≤ 1000) (t : ByteArray) (i : Bool) :
    Calls Try.prog 23 #[.pointer (some ⟨p, 0, none⟩), .pointer (some ⟨x.b, 0, none⟩), .string t, .bool i] w fun r w' => r = .returned (.tuple #[]) ∧ CM E X w' B p q (A ++ C ++ [⟨x.b, x.k, t, i, true⟩]) n f ∧ Vc E B w w' := by
  obtain ⟨y, hy⟩ : ∃ y : En, y = ⟨x.b, x.k, t, i, true⟩ := ⟨_, rfl⟩
  have hx : x ∈ A ++ x :: C := by simp
  have hyb : y.b = x.b := by rw [hy]
  have hyk : y.k = x.k := by rw [hy]
  have hyt : y.t = t := by rw [hy]
  have hyi : y.i = i := by rw [hy]
  have hyd : y.d = true := by rw [hy]
  rw [← hy]
  obtain ⟨b0, b1, b2, bf⟩ := h.hs.c hx
  have bf1 := bf 1
  have bf2 := bf 2
  have hpb := h.hs.pne h.cb hx
  obtain ⟨_, _, _, c3, _⟩ := h.cb.c
  obtain ⟨g1, g2⟩ := h.hs.fill (A := A) (C := C) (x := x) (y := y) hyb hyk (h.bd.es x hx)
  rw [hyt, hyi] at g1 g2
  have hp1 := perm_head A C x
  have hp2 := perm_head A C y
  have hnk : Nk (x :: (A ++ C)) := Nk.perm h.kn hp1
  have hnky : Nk (y :: (A ++ C)) := by
    unfold Nk at hnk ⊢
    simpa [hyk] using hnk
  have H1 : Hid (∀ W, W = (w.setCell ⟨x.b, 1, none⟩ (.string t)).setCell ⟨x.b, 2, none⟩ (.bool i) → (W.cell? ⟨p, 3, none⟩ = some (.map (some q.mc)) ∧ W.cell? ⟨x.b, 0, none⟩ = some (.string x.k)) ∧
      ∃ w2, (Instr.mapUpdate 57 (.map (some q.mc)) (.string x.k) (.pointer (some ⟨x.b, 0, none⟩))).run Try.prog W.drew = .ok () w2 ∧ CM E X w2 B p q (A ++ y :: C) n f ∧ Vc E B w w2) := by
    intro W hW
    subst hW
    have hcb := h.cb.ky g2.kC
    have hcd : ((w.setCell ⟨x.b, 1, none⟩ (.string t)).setCell ⟨x.b, 2, none⟩ (.bool i)).cell? ⟨x.b, 0, none⟩ = some (.string x.k) := by
      have := (g1.c (x := y) (by simp)).1
      rwa [hyb, hyk] at this
    refine ⟨⟨hcb.c.2.2.2.1, hcd⟩, ?_⟩
    have kd : Kept ((w.setCell ⟨x.b, 1, none⟩ (.string t)).setCell ⟨x.b, 2, none⟩ (.bool i)) ((w.setCell ⟨x.b, 1, none⟩ (.string t)).setCell ⟨x.b, 2, none⟩ (.bool i)).drew := (Kept.refl _).drew
    have m1 := (h.cm.ky g2.kM).ky (.kept kd)
    have hcnt : cnt (A ++ x :: C) ≤ 1000 := Nat.le_trans (List.length_filter_le _ _) hl
    obtain ⟨w2, r2, m2, o2⟩ := m1.store (by omega) x.k (h.sz x hx) x.b
    refine ⟨w2, r2, ⟨((hcb.ky (.kept kd)).ky (o2.ky m1 nC)), ((g1.ky (.kept kd)).ky (o2.ky m1 nI)), ?_, ?_, ?_, ?_, ?_, h.ne, ?_, h.le, ?_⟩, ?_⟩
    · have hm1 := (h.hm.ky g2.kM).ky (.kept kd)
      have hm2 : MP w2 q.mh (hmap (A ++ x :: C)) (A ++ x :: C).length := hm1.same (o2.block _ h.ne)
      have e1 : (A ++ y :: C).length = (A ++ x :: C).length := by simp
      rw [e1]
      refine hm2.congr fun k => ?_
      rw [← hmap_perm (Nk.perm hnky hp2.symm) hp2, chg_hmap x y _ hyk hyb, hmap_perm h.kn hp1]
    · have e1 : cnt (A ++ y :: C) = if (cmap (A ++ x :: C) x.k).isSome then cnt (A ++ x :: C) else cnt (A ++ x :: C) + 1 := by
        rw [← cnt_perm hp2, chg_cnt hnk hyd, ← cmap_perm h.kn hp1, ← cnt_perm hp1]
      rw [e1]
      refine m2.congr fun k => ?_
      rw [← cmap_perm (Nk.perm hnky hp2.symm) hp2, chg_cmap hyk hyb hyd]
      unfold putM
      rw [cmap_perm h.kn hp1]
    · exact ((Kv.ky (Kv.ky (Kv.ky h.kv g2.kV) (.kept kd)) (o2.ky m1 nV)))
    · exact Nk.perm hnky hp2.symm
    · intro z hz
      rcases List.mem_append.1 hz with hz | hz
      · exact h.sz z (by simp [hz])
      · rcases List.mem_cons.1 hz with rfl | hz
        · rw [hyk]; exact h.sz x hx
        · exact h.sz z (by simp [hz])
    · refine h.bd.sub fun z hz => ?_
      rcases List.mem_append.1 hz with hz | hz
      · exact ⟨z, by simp [hz], rfl⟩
      · rcases List.mem_cons.1 hz with rfl | hz
        · exact ⟨x, hx, hyb⟩
        · exact ⟨z, by simp [hz], rfl⟩
    · rw [o2.size]; exact Nat.le_trans h.base (Nat.le_trans g2.low.size kd.size)
    · exact (g2.vc.trans (Vc.of kd (Nat.le_trans h.base g2.low.size))).trans (o2.vc m1 h.le.2.2)
  have HY : Hid (y.k = x.k) := hyk
  have HP : Hid ((A ++ y :: C).Perm (A ++ C ++ [y])) := perm_mid A C y
  clear g1 g2 hp1 hp2 hnk hnky h hl hyk hyt hyi hyd hy bf
  go_enter Try.func23, Try.ntmps23
  go_wp2_with fail
  generalize hW : (w.setCell ⟨x.b, 1, none⟩ (.string t)).setCell ⟨x.b, 2, none⟩ (.bool i) = W1
  obtain ⟨⟨d3, d0⟩, w2, r2, M2, v2⟩ := H1.out W1 hW.symm
  have F2 : Hid (CM E X w2 B p q (A ++ y :: C) n f ∧ Vc E B w w2) := ⟨M2, v2⟩
  have l2 := renew_walk (x := y) M2.cb M2.hs M2.bd
  have D2 : Hid (w2.cell? ⟨p, 3, none⟩ = some (.map (some q.mc)) ∧ w2.cell? ⟨x.b, 0, none⟩ = some (.string x.k)) := ⟨M2.cb.c.2.2.2.1, (by have := (M2.hs.c (x := y) (by simp)).1; rwa [hyb, HY.out] at this)⟩
  rw [hyb] at l2
  clear hW H1 b0 b1 b2 bf1 bf2 c3 M2 v2
  go_region_held3 (fun W => W.cell? ⟨p, 3, none⟩ = some (.map (some q.mc)) ∧ W.cell? ⟨x.b, 0, none⟩ = some (.string x.k)) (first | exact ⟨d3, d0⟩ | exact D2.out | go_keep) (first | fail)
  all_goals go_wp2_with (go_at_call 29; (with_reducible refine l2.mono ?_); rintro r w3 ⟨rfl, h3, f3⟩; have F3 : Hid (Hs X w3 q.e (A ++ C ++ [y]) ∧ Fi B w2 w3) := ⟨h3, f3⟩; clear h3 f3 l2)
  all_goals go_end0
  all_goals
    obtain ⟨M2, v2⟩ := F2.out
    obtain ⟨h3, f3⟩ := F3.out
    refine ⟨rfl, ⟨M2.cb.ky f3.kC, h3, ?_, ?_, Kv.ky M2.kv f3.kV, Nk.perm M2.kn HP.out, fun z hz => M2.sz z (HP.out.mem_iff.2 hz), M2.ne, M2.bd.sub fun z hz => ⟨z, HP.out.mem_iff.2 hz, rfl⟩, M2.le, Nat.le_trans M2.base f3.low.size⟩, v2.trans f3.vc⟩
    · rw [← HP.out.length_eq]
      exact (M2.hm.ky f3.kM).congr fun k => hmap_perm M2.kn HP.out k
    · rw [cnt_perm HP.out]
      exact (M2.cm.ky f3.kM).congr fun k => cmap_perm M2.kn HP.out k
end Go.Proofs.Ytbpelhfbgjplbaa.Ca
