/- The walk of the law on Set and Unset. Conditions: the list is in memory. -/
import Derived.Test.YtgcfollelefmcaaNQ
import Derived.Test.YtgcfollelefmcaaEmpty
import Derived.Deep.CutRange
namespace Go.Proofs.Ytgcfollelefmcaa
open Go.ChangeShapes Go.WideShapes Go.ChangeAt Go.RowKit

theorem Gw.kept {w w' : World} {p : Option Addr} {n c : Nat} {L : List Ki} (h : Gw w p n c L) (k : Kept w w') : Gw w' p n c L := h.imp (fun g => ⟨k.rw g.out⟩) id
theorem leaf_gw {w : World} {p : Option Addr} {n c : Nat} {L : List Ki} (h : Gw w p n c L) :
    Calls Try.prog 16 #[.slice p n c] w fun e w' => ∃ kp m kc vp vc, e = .returned (.agg #[.bool true, .slice kp m kc, .slice vp m vc, .slice none 0 0]) ∧ Own w' w.heap.size 9 1 kp m kc (kcl (leafP (L.take 40)).1) ∧ Own w' w.heap.size 49 3 vp m vc (vcl (leafP (L.take 40)).2) ∧ m ≤ 40 ∧ Kept w w' := by
  rcases h with h | ⟨rfl, rfl⟩
  · exact leaf_walk h
  · refine leaf_empty.mono ?_
    rintro e w' ⟨rfl, hk⟩
    exact ⟨_, _, _, _, _, rfl, ⟨World.ownsRow_nil _ _ _ _⟩, ⟨World.ownsRow_nil _ _ _ _⟩, Nat.zero_le _, hk⟩

set_option linter.unusedSimpArgs false in
set_option maxHeartbeats 8000000 in
set_option maxRecDepth 100000 in
theorem sets_walk {w : World} {p : Option Addr} {n c : Nat} {L : List Ki} (h : Gw w p n c L) (x : Ki) :
    Calls Try.prog 5 #[.slice p n c, .agg #[.string x.s, .string x.v, .int .i64 x.pg, .int .i64 x.ln]] w fun e w' => e = .returned (.bool true) ∧ Kept w w' := by
  have HLF : Hid (∀ W, Kept w W → Calls Try.prog 16 #[.slice p n c] W fun e w' => ∃ kp m kc vp vc, e = .returned (.agg #[.bool true, .slice kp m kc, .slice vp m vc, .slice none 0 0]) ∧ Own w' W.heap.size 9 1 kp m kc (kcl (leafP (L.take 40)).1) ∧ Own w' W.heap.size 49 3 vp m vc (vcl (leafP (L.take 40)).2) ∧ m ≤ 40 ∧ Kept W w') := fun W hW => leaf_gw (h.kept hW)
  have HY : Hid (Leafy (leafP (L.take 40)).1 (leafP (L.take 40)).2) := leafP_leafy _
  generalize (leafP (L.take 40)).1 = ks at *
  generalize (leafP (L.take 40)).2 = vs at *
  have hcut : x.s.extract 0 (min (x.s.size : Int) 64).toNat = kkey x := rfl
  have HKV : Hid (∀ W, Calls Try.prog 18 #[.agg #[.string x.s, .string x.v, .int .i64 x.pg, .int .i64 x.ln]] W fun e w' => e = .returned (.agg #[.string (kval x).d, .int .i64 (kval x).p, .int .i64 (kval x).l]) ∧ Kept W w') := fun W => val_walk x W
  generalize kkey x = key at *
  generalize kval x = v at *
  have hb1 : (0 : Int) ≤ min (x.s.size : Int) 64 := by omega
  have hb2 : min (x.s.size : Int) 64 ≤ (x.s.size : Int) := by omega
  have K0 : Kept w (w.alloc (.cells #[.string x.s, .string x.v, .int .i64 x.pg, .int .i64 x.ln] 45)) := (Kept.refl w).alloc _
  have A0 := C4.alloc w 45 (.string x.s) (.string x.v) (.int .i64 x.pg) (.int .i64 x.ln)
  clear h
  go_enter Try.func5, Try.ntmps5
  go_upto_region 3 with (first
    | (go_at_call 16
       (with_reducible refine (HLF.out _ K0).mono ?_)
       rintro e v1 ⟨kp, m, kc, vp, vc, rfl, O1, O2, hm, k1⟩
       have k1a := k1.trans ((Kept.refl v1).alloc (.cells #[.bool true, .slice kp m kc, .slice vp m vc, .slice none 0 0] 27))
       have K1 := K0.trans k1a
       have A1 := A0.kept k1a
       have N1 : NV (v1.alloc (.cells #[.bool true, .slice kp m kc, .slice vp m vc, .slice none 0 0] 27)) true kp m kc vp m vc none 0 0 ⟨true, ks, vs, []⟩ := NV.kept ⟨rfl, O1.rw, O2.rw, ⟨rfl, Nat.le_refl _, Nat.zero_le _, .inl ⟨rfl, rfl⟩⟩⟩ ((Kept.refl v1).alloc _)
       have X1 := C4.alloc v1 27 (.bool true) (.slice kp m kc) (.slice vp m vc) (.slice none 0 0)
       clear O1 O2 K0 A0 k1 k1a HLF)
    | (go_at_call 17
       (with_reducible refine (copy_walk N1.k N1.v N1.i (kcl_one _) (vcl_one _) (icl_one _) (by omega) (by omega) (by omega)).mono ?_)
       rintro e v2 ⟨kp2, kc2, vp2, vc2, ip2, ic2, rfl, P1, P2, P3, k2⟩
       have k2a := k2.trans ((Kept.refl v2).alloc (.cells #[.bool true, .slice kp2 m kc2, .slice vp2 m vc2, .slice ip2 0 ic2] 27))
       have K2 := K1.trans k2a
       have A2 := A1.kept k2a
       have N2 := N1.kept k2a
       have X2 := X1.kept k2a
       have M2 : NV (v2.alloc (.cells #[.bool true, .slice kp2 m kc2, .slice vp2 m vc2, .slice ip2 0 ic2] 27)) true kp2 m kc2 vp2 m vc2 ip2 0 ic2 ⟨true, ks, vs, []⟩ := NV.kept ⟨rfl, P1.rw, P2.rw, P3.rw⟩ ((Kept.refl v2).alloc _)
       have Y2 := C4.alloc v2 27 (.bool true) (.slice kp2 m kc2) (.slice vp2 m vc2) (.slice ip2 0 ic2)
       clear P1 P2 P3 K1 A1 N1 X1 k2 k2a))
  have hbv : v1.heap.size < (v2.alloc (.cells #[.bool true, .slice kp2 m kc2, .slice vp2 m vc2, .slice ip2 0 ic2] 27)).heap.size := X2.lt
  generalize hb5 : v1.heap.size = b5 at *
  generalize hb6 : v2.heap.size = b6 at *
  generalize v2.alloc (.cells #[.bool true, .slice kp2 m kc2, .slice vp2 m vc2, .slice ip2 0 ic2] 27) = W2 at *
  clear hb5 hb6
  obtain ⟨a0, a1, a2, a3⟩ := A2.drew.cs
  have aa0 := fun o => (A2.kept ((Kept.refl W2).alloc o)).cs.1
  have aa1 := fun o => (A2.kept ((Kept.refl W2).alloc o)).cs.2.1
  have aa2 := fun o => (A2.kept ((Kept.refl W2).alloc o)).cs.2.2.1
  have aa3 := fun o => (A2.kept ((Kept.refl W2).alloc o)).cs.2.2.2
  go_cut [7, 8] from 29 to 37 (fun kv pv wx => ∃ b8 : Nat, kv = .string key ∧ pv = .pointer (some ⟨b8, 0, none⟩) ∧ C3 wx b8 49 (.string v.d) (.int .i64 v.p) (.int .i64 v.l) ∧ Kept W2 wx)
  case first =>
    go_region_held3 (fun W => W.cell? ⟨w.heap.size, 0, none⟩ = some (.string x.s) ∧ W.cell? ⟨w.heap.size, 1, none⟩ = some (.string x.v) ∧ W.cell? ⟨w.heap.size, 2, none⟩ = some (.int .i64 x.pg) ∧ W.cell? ⟨w.heap.size, 3, none⟩ = some (.int .i64 x.ln)) (go_keep) (first
      | (go_at_call 18
         (with_reducible refine (HKV.out W2.drew).mono ?_)
         rintro e v3 ⟨rfl, k3⟩
         have k3 := (Kept.refl W2).drew.trans k3
         have A3 := A2.kept k3
         obtain ⟨b0, b1, b2, b3⟩ := A3.cs
         have bb0 := fun o => (A3.kept ((Kept.refl v3).alloc o)).cs.1
         have bb1 := fun o => (A3.kept ((Kept.refl v3).alloc o)).cs.2.1
         have bb2 := fun o => (A3.kept ((Kept.refl v3).alloc o)).cs.2.2.1
         have bb3 := fun o => (A3.kept ((Kept.refl v3).alloc o)).cs.2.2.2
         have F3 := C3.alloc v3 49 (.string v.d) (.int .i64 v.p) (.int .i64 v.l)
         have E3 := k3.trans ((Kept.refl v3).alloc (.cells #[.string v.d, .int .i64 v.p, .int .i64 v.l] 49)))
      | (go_at_call 18
         (with_reducible refine (HKV.out (W2.alloc (.cells #[.string ⟨#[]⟩, .int .i64 0, .int .i64 0] 49)).drew).mono ?_)
         rintro e v3 ⟨rfl, k3⟩
         have Z3 := ((C3.alloc W2 49 (.string ⟨#[]⟩) (.int .i64 0) (.int .i64 0)).drew).kept k3
         have k3 := (((Kept.refl W2).alloc (.cells #[.string ⟨#[]⟩, .int .i64 0, .int .i64 0] 49)).drew).trans k3
         have A3 := A2.kept k3
         obtain ⟨b0, b1, b2, b3⟩ := A3.cs
         have hne1 : ¬ (w.heap.size = W2.heap.size) := (by have := A2.lt; omega)
         have hne2 : ¬ (W2.heap.size = w.heap.size) := (by have := A2.lt; omega)
         obtain ⟨⟨g0, f0⟩, ⟨g1, f1⟩, ⟨g2, f2⟩, hfin⟩ := ready3 Z3.out (.string v.d) (.int .i64 v.p) (.int .i64 v.l)
         have F3 : C3 (((v3.setCell ⟨W2.heap.size, 0, none⟩ (.string v.d)).setCell ⟨W2.heap.size, 1, none⟩ (.int .i64 v.p)).setCell ⟨W2.heap.size, 2, none⟩ (.int .i64 v.l)) W2.heap.size 49 (.string v.d) (.int .i64 v.p) (.int .i64 v.l) := ⟨hfin⟩
         have E3 := k3.st3 (Nat.le_refl _) (.string v.d) (.int .i64 v.p) (.int .i64 v.l)))
    all_goals (go_wp2_with fail)
    all_goals go_meet
    all_goals exact ⟨_, rfl, rfl, F3, E3⟩
  case rest =>
    obtain ⟨b8, rfl, rfl, V3, k3⟩ := hcut
    have A3 := A2.kept k3
    have N3 := N2.kept k3
    have X3 := X2.kept k3
    have M3 := M2.kept k3
    have Y3 := Y2.kept k3
    have K3 := K2.trans k3
    clear A2 N2 X2 M2 Y2 K2 a0 a1 a2 a3 aa0 aa1 aa2 aa3 hcut hb1 hb2 HKV
    have hkl : ks.length = m := N3.nk
    obtain ⟨e1, e2⟩ := set_fnd HY.out.up key
    have e3 := set_val HY.out.len key v
    have HR : Hid (Rest ks vs key (delK (setK ks key) key) (delV (setK ks key) (setV ks vs key v) key)) := rest_of HY.out key v
    have hgone : oldV (setK ks key) (setV ks vs key v) key = v := by
      unfold oldV
      rw [if_pos e2, e1, e3]
      rfl
    have hm4 : (setK ks key).length ≤ 41 := by rw [setK_length]; split <;> omega
    have hm5 : (delK (setK ks key) key).length = (setK ks key).length - 1 := delK_length _ _ e2
    have hnone : oldV (delK (setK ks key) key) (delV (setK ks key) (setV ks vs key v) key) key = ⟨⟨#[]⟩, -1, 0⟩ := by
      unfold oldV
      rw [if_neg (by rw [HR.out.gone]; decide)]
    have hd1 : delK (delK (setK ks key) key) key = delK (setK ks key) key := by
      show (if _ then _ else _) = _
      rw [if_neg (by rw [HR.out.gone]; decide)]
    have hd2 : delV (delK (setK ks key) key) (delV (setK ks key) (setV ks vs key v) key) key = delV (setK ks key) (setV ks vs key v) key := by
      show (if _ then _ else _) = _
      rw [if_neg (by rw [HR.out.gone]; decide)]
    have HF1 : Hid (∀ (W : World) (p : Option Addr) (m c : Nat), Rw W 1 p m c (kcl ks) → m ≤ 1000 → Calls Try.prog 19 #[.slice p m c, .string key] W fun e w' => e = .returned (.tuple #[.int .i64 (fnd key ks : Nat), .bool (isk key ks)]) ∧ w' = W) := fun W p m c h hm => find_walk h (by omega) key
    have HS : Hid (∀ (W : World) (kp : Option Addr) (m kc : Nat) (vp : Option Addr) (vc : Nat), NV W true kp m kc vp m vc none 0 0 ⟨true, ks, vs, []⟩ → m ≤ 1000 → Calls Try.prog 20 #[.agg #[.bool true, .slice kp m kc, .slice vp m vc, .slice none 0 0], .string key, .agg #[.string v.d, .int .i64 v.p, .int .i64 v.l]] W fun e w' => ∃ kp' m' kc' vp' vc', e = .returned (.tuple #[.agg #[.bool true, .slice kp' m' kc', .slice vp' m' vc', .slice none 0 0], .agg #[.string (oldV ks vs key).d, .int .i64 (oldV ks vs key).p, .int .i64 (oldV ks vs key).l], .bool (isk key ks)]) ∧ NV w' true kp' m' kc' vp' m' vc' none 0 0 ⟨true, setK ks key, setV ks vs key v, []⟩ ∧ Kept W w') := fun W kp m kc vp vc h hm => by
      refine (set_walk h.k h.v (by omega) key v).mono ?_
      rintro e w' ⟨kp', m', kc', vp', vc', rfl, o1, o2, k⟩
      exact ⟨_, _, _, _, _, rfl, ⟨rfl, o1.rw, o2.rw, ⟨rfl, Nat.le_refl _, Nat.zero_le _, .inl ⟨rfl, rfl⟩⟩⟩, k⟩
    have HU : Hid (∀ (W : World) (kp : Option Addr) (m kc : Nat) (vp : Option Addr) (vc : Nat), NV W true kp m kc vp m vc none 0 0 ⟨true, setK ks key, setV ks vs key v, []⟩ → Calls Try.prog 21 #[.agg #[.bool true, .slice kp m kc, .slice vp m vc, .slice none 0 0], .string key] W fun e w' => ∃ kp' m' kc' vp' vc', e = .returned (.tuple #[.agg #[.bool true, .slice kp' m' kc', .slice vp' m' vc', .slice none 0 0], .agg #[.string v.d, .int .i64 v.p, .int .i64 v.l], .bool true]) ∧ NV w' true kp' m' kc' vp' m' vc' none 0 0 ⟨true, delK (setK ks key) key, delV (setK ks key) (setV ks vs key v) key, []⟩ ∧ Kept W w') := fun W kp m kc vp vc h => by
      refine (unset_walk h.k h.v (by have a : (setK ks key).length = m := h.nk; omega) key).mono ?_
      rintro e w' ⟨kp', m', kc', vp', vc', rfl, o1, o2, k⟩
      rw [hgone, e2]
      exact ⟨_, _, _, _, _, rfl, ⟨rfl, o1.rw, o2.rw, ⟨rfl, Nat.le_refl _, Nat.zero_le _, .inl ⟨rfl, rfl⟩⟩⟩, k⟩
    have HU2 : Hid (∀ (W : World) (kp : Option Addr) (m kc : Nat) (vp : Option Addr) (vc : Nat), NV W true kp m kc vp m vc none 0 0 ⟨true, delK (setK ks key) key, delV (setK ks key) (setV ks vs key v) key, []⟩ → Calls Try.prog 21 #[.agg #[.bool true, .slice kp m kc, .slice vp m vc, .slice none 0 0], .string key] W fun e w' => ∃ kp' m' kc' vp' vc', e = .returned (.tuple #[.agg #[.bool true, .slice kp' m' kc', .slice vp' m' vc', .slice none 0 0], .agg #[.string ⟨#[]⟩, .int .i64 (-1), .int .i64 0], .bool false]) ∧ NV w' true kp' m' kc' vp' m' vc' none 0 0 ⟨true, delK (setK ks key) key, delV (setK ks key) (setV ks vs key v) key, []⟩ ∧ Kept W w') := fun W kp m kc vp vc h => by
      refine (unset_walk h.k h.v (by have a : (delK (setK ks key) key).length = m := h.nk; omega) key).mono ?_
      rintro e w' ⟨kp', m', kc', vp', vc', rfl, o1, o2, k⟩
      rw [hnone, HR.out.gone]
      rw [hd1] at o1
      rw [hd2] at o2
      exact ⟨_, _, _, _, _, rfl, ⟨rfl, o1.rw, o2.rw, ⟨rfl, Nat.le_refl _, Nat.zero_le _, .inl ⟨rfl, rfl⟩⟩⟩, k⟩
    have HF2 : Hid (∀ (W : World) (p : Option Addr) (m c : Nat), Rw W 1 p m c (kcl (setK ks key)) → Calls Try.prog 19 #[.slice p m c, .string key] W fun e w' => e = .returned (.tuple #[.int .i64 (fnd key ks : Nat), .bool true]) ∧ w' = W) := fun W p m c h => by
      have a := find_walk h (by have b := h.len; rw [kcl_length] at b; omega) key
      rwa [e1, e2] at a
    have HO : Hid ((isk key ks = true → vs[fnd key ks]? = some (oldV ks vs key)) ∧ (isk key ks = false → (oldV ks vs key).p = -1)) := by
      refine ⟨fun h => ?_, fun h => ?_⟩
      · have hlt := isk_lt h
        have hvl := HY.out.len
        unfold oldV
        rw [if_pos h, List.getElem?_eq_getElem (by omega)]
        rfl
      · unfold oldV
        rw [if_neg (by rw [h]; decide)]
    have HAT : Hid (isk key ks = true → fnd key ks < m) := fun h => by rw [← hkl]; exact isk_lt h
    have HE3 : Hid ((setV ks vs key v)[fnd key ks]? = some v) := e3
    have HM4 : Hid ((setK ks key).length ≤ 41) := hm4
    have HM5 : Hid ((delK (setK ks key) key).length = (setK ks key).length - 1) := hm5
    have HPOS : Hid (fnd key ks < (setK ks key).length) := by show fnd key ks < _; rw [← e1]; exact isk_lt e2
    clear e1 e2 e3 hgone hm4 hm5 hnone hd1 hd2 hkl
    generalize oldV ks vs key = ov at *
    generalize hks1 : setK ks key = ks1 at *
    generalize hvs1 : setV ks vs key v = vs1 at *
    generalize hks2 : delK ks1 key = ks2 at *
    generalize hvs2 : delV ks1 vs1 key = vs2 at *
    generalize hat : fnd key ks = at_ at *
    generalize his : isk key ks = is at *
    have HIS : Hid (isk key ks = is) := his
    have HATE : Hid (fnd key ks = at_) := hat
    clear his hat hks1 hvs1 hks2 hvs2
    have x31 := X3.cs.2.1
    obtain ⟨x30, _, x32, x33⟩ := X3.cs
    obtain ⟨w30, w31, w32⟩ := V3.cs
    go_wp2_with (first
      | (go_at_call 19
         (with_reducible refine (HF1.out _ _ _ _ N3.k (by omega)).mono ?_)
         rintro e vx ⟨rfl, hvx⟩
         rw [hvx]
         clear hvx HF1)
      | (go_at_call 20
         (with_reducible refine (HS.out _ _ _ _ _ _ N3 (by omega)).mono ?_)
         rintro e v4 ⟨kp4, m4, kc4, vp4, vc4, rfl, M4, k4⟩
         have k4a := k4.trans (((Kept.refl v4).alloc (.cells #[.bool true, .slice kp4 m4 kc4, .slice vp4 m4 vc4, .slice none 0 0] 27)).alloc (.cells #[.string ov.d, .int .i64 ov.p, .int .i64 ov.l] 49))
         have A4 := A3.kept k4a
         have N4 := N3.kept k4a
         have X4 := X3.kept k4a
         have C4_ := M3.kept k4a
         have Y4 := Y3.kept k4a
         have V4 := V3.kept k4a
         have K4 := K3.trans k4a
         have M4 := M4.kept (((Kept.refl v4).alloc (.cells #[.bool true, .slice kp4 m4 kc4, .slice vp4 m4 vc4, .slice none 0 0] 27)).alloc (.cells #[.string ov.d, .int .i64 ov.p, .int .i64 ov.l] 49))
         have P4 : C4 ((v4.alloc (.cells #[.bool true, .slice kp4 m4 kc4, .slice vp4 m4 vc4, .slice none 0 0] 27)).alloc (.cells #[.string ov.d, .int .i64 ov.p, .int .i64 ov.l] 49)) v4.heap.size 27 (.bool true) (.slice kp4 m4 kc4) (.slice vp4 m4 vc4) (.slice none 0 0) := (C4.alloc v4 27 _ _ _ _).kept ((Kept.refl _).alloc _)
         have Q4 : C3 ((v4.alloc (.cells #[.bool true, .slice kp4 m4 kc4, .slice vp4 m4 vc4, .slice none 0 0] 27)).alloc (.cells #[.string ov.d, .int .i64 ov.p, .int .i64 ov.l] 49)) (v4.heap.size + 1) 49 (.string ov.d) (.int .i64 ov.p) (.int .i64 ov.l) := (by rw [← size_alloc v4 (.cells #[.bool true, .slice kp4 m4 kc4, .slice vp4 m4 vc4, .slice none 0 0] 27)]; exact C3.alloc _ 49 _ _ _)
         obtain ⟨p40, p41, p42, p43⟩ := P4.cs
         clear A3 N3 X3 M3 Y3 V3 K3 k4 k4a HS x30 x31 x32 x33 w30 w31 w32)
      | (go_at_call 21
         (with_reducible refine (HU.out _ _ _ _ _ _ M4).mono ?_)
         rintro e v5 ⟨kp5, m5, kc5, vp5, vc5, rfl, M5, k5⟩
         have k5a := k5.trans (((Kept.refl v5).alloc (.cells #[.bool true, .slice kp5 m5 kc5, .slice vp5 m5 vc5, .slice none 0 0] 27)).alloc (.cells #[.string v.d, .int .i64 v.p, .int .i64 v.l] 49))
         have A5 := A4.kept k5a
         have N5 := N4.kept k5a
         have X5 := X4.kept k5a
         have C5_ := C4_.kept k5a
         have Y5 := Y4.kept k5a
         have V5 := V4.kept k5a
         have K5 := K4.trans k5a
         have M45 := M4.kept k5a
         have P5 := P4.kept k5a
         have Q5 := Q4.kept k5a
         have M5 := M5.kept (((Kept.refl v5).alloc (.cells #[.bool true, .slice kp5 m5 kc5, .slice vp5 m5 vc5, .slice none 0 0] 27)).alloc (.cells #[.string v.d, .int .i64 v.p, .int .i64 v.l] 49))
         have R5 : C4 ((v5.alloc (.cells #[.bool true, .slice kp5 m5 kc5, .slice vp5 m5 vc5, .slice none 0 0] 27)).alloc (.cells #[.string v.d, .int .i64 v.p, .int .i64 v.l] 49)) v5.heap.size 27 (.bool true) (.slice kp5 m5 kc5) (.slice vp5 m5 vc5) (.slice none 0 0) := (C4.alloc v5 27 _ _ _ _).kept ((Kept.refl _).alloc _)
         have S5 : C3 ((v5.alloc (.cells #[.bool true, .slice kp5 m5 kc5, .slice vp5 m5 vc5, .slice none 0 0] 27)).alloc (.cells #[.string v.d, .int .i64 v.p, .int .i64 v.l] 49)) (v5.heap.size + 1) 49 (.string v.d) (.int .i64 v.p) (.int .i64 v.l) := (by rw [← size_alloc v5 (.cells #[.bool true, .slice kp5 m5 kc5, .slice vp5 m5 vc5, .slice none 0 0] 27)]; exact C3.alloc _ 49 _ _ _)
         obtain ⟨r50, r51, r52, r53⟩ := R5.cs
         clear A4 N4 X4 C4_ Y4 V4 K4 M4 P4 Q4 k5 k5a HU p40 p41 p42 p43)
      | (go_at_call 21
         (with_reducible refine (HU2.out _ _ _ _ _ _ M5).mono ?_)
         rintro e v6 ⟨kp6, m6, kc6, vp6, vc6, rfl, M6, k6⟩
         have k6a := k6.trans (((Kept.refl v6).alloc (.cells #[.bool true, .slice kp6 m6 kc6, .slice vp6 m6 vc6, .slice none 0 0] 27)).alloc (.cells #[.string ⟨#[]⟩, .int .i64 (-1), .int .i64 0] 49))
         have N6 := N5.kept k6a
         have X6 := X5.kept k6a
         have C6_ := C5_.kept k6a
         have Y6 := Y5.kept k6a
         have V6 := V5.kept k6a
         have K6 := K5.trans k6a
         have M46 := M45.kept k6a
         have P6 := P5.kept k6a
         have Q6 := Q5.kept k6a
         have M56 := M5.kept k6a
         have R6 := R5.kept k6a
         have S6 := S5.kept k6a
         have M6 := M6.kept (((Kept.refl v6).alloc (.cells #[.bool true, .slice kp6 m6 kc6, .slice vp6 m6 vc6, .slice none 0 0] 27)).alloc (.cells #[.string ⟨#[]⟩, .int .i64 (-1), .int .i64 0] 49))
         have T6 : C4 ((v6.alloc (.cells #[.bool true, .slice kp6 m6 kc6, .slice vp6 m6 vc6, .slice none 0 0] 27)).alloc (.cells #[.string ⟨#[]⟩, .int .i64 (-1), .int .i64 0] 49)) v6.heap.size 27 (.bool true) (.slice kp6 m6 kc6) (.slice vp6 m6 vc6) (.slice none 0 0) := (C4.alloc v6 27 _ _ _ _).kept ((Kept.refl _).alloc _)
         clear A5 N5 X5 C5_ Y5 V5 K5 M45 P5 Q5 M5 R5 S5 k6 k6a HU2 r50 r51 r52 r53))
    generalize v4.heap.size = b11 at *
    generalize v5.heap.size = b14 at *
    generalize v6.heap.size = b17 at *
    generalize (v6.alloc (.cells #[.bool true, .slice kp6 m6 kc6, .slice vp6 m6 vc6, .slice none 0 0] 27)).alloc (.cells #[.string ⟨#[]⟩, .int .i64 (-1), .int .i64 0] 49) = W6 at *
    have HREF : Hid (∀ (W : World) (l : Bool) (kp : Option Addr) (nk kc : Nat) (vp : Option Addr) (nv vc : Nat) (ip : Option Addr) (ni ic : Nat) (x : Nd), NV W l kp nk kc vp nv vc ip ni ic x → nv ≤ 1000 → Calls Try.prog 13 #[.agg #[.bool l, .slice kp nk kc, .slice vp nv vc, .slice ip ni ic]] W fun e w' => ∃ vp' vc', e = .returned (.agg #[.bool l, .slice kp nk kc, .slice vp' nv vc', .slice ip ni ic]) ∧ NV w' l kp nk kc vp' nv vc' ip ni ic x ∧ Kept W w') := fun W l kp nk kc vp nv vc ip ni ic x h hn => ref_walk h hn
    have h5 : m5 ≤ 1000 := by have a : ks2.length = m5 := M56.nk; have b := HM5.out; have c := HM4.out; omega
    have h6 : m6 ≤ 1000 := by have a : ks2.length = m6 := M6.nk; have b := HM5.out; have c := HM4.out; omega
    have hmm : m ≤ 1000 := by omega
    have KD : Kept W6 W6.drew := (Kept.refl W6).drew
    cases is with
    | false =>
      have hov := HO.out.2 rfl
      have HSA : Hid (∀ W, Kept W6 W → W.cell? ⟨b5, 0, none⟩ = some (.bool true) ∧ W.cell? ⟨b5, 1, none⟩ = some (.slice kp m kc) ∧ W.cell? ⟨b5, 2, none⟩ = some (.slice vp m vc) ∧ W.cell? ⟨b5, 3, none⟩ = some (.slice none 0 0) ∧ W.cell? ⟨b6, 0, none⟩ = some (.bool true) ∧ W.cell? ⟨b6, 1, none⟩ = some (.slice kp2 m kc2) ∧ W.cell? ⟨b6, 2, none⟩ = some (.slice vp2 m vc2) ∧ W.cell? ⟨b6, 3, none⟩ = some (.slice ip2 0 ic2) ∧ W.cell? ⟨b8, 0, none⟩ = some (.string v.d) ∧ W.cell? ⟨b8, 1, none⟩ = some (.int .i64 v.p) ∧ W.cell? ⟨b8, 2, none⟩ = some (.int .i64 v.l) ∧ W.cell? ⟨b11 + 1, 0, none⟩ = some (.string ov.d) ∧ W.cell? ⟨b11 + 1, 1, none⟩ = some (.int .i64 ov.p) ∧ W.cell? ⟨b11 + 1, 2, none⟩ = some (.int .i64 ov.l) ∧ W.cell? ⟨b14, 0, none⟩ = some (.bool true) ∧ W.cell? ⟨b14, 1, none⟩ = some (.slice kp5 m5 kc5) ∧ W.cell? ⟨b14, 2, none⟩ = some (.slice vp5 m5 vc5) ∧ W.cell? ⟨b14, 3, none⟩ = some (.slice none 0 0) ∧ W.cell? ⟨b14 + 1, 0, none⟩ = some (.string v.d) ∧ W.cell? ⟨b14 + 1, 1, none⟩ = some (.int .i64 v.p) ∧ W.cell? ⟨b14 + 1, 2, none⟩ = some (.int .i64 v.l) ∧ W.cell? ⟨b17, 0, none⟩ = some (.bool true) ∧ W.cell? ⟨b17, 1, none⟩ = some (.slice kp6 m6 kc6) ∧ W.cell? ⟨b17, 2, none⟩ = some (.slice vp6 m6 vc6) ∧ W.cell? ⟨b17, 3, none⟩ = some (.slice none 0 0)) := by
        intro W hW
        obtain ⟨z0, z1, z2, z3⟩ := (X6.kept hW).cs
        obtain ⟨y0, y1, y2, y3⟩ := (Y6.kept hW).cs
        obtain ⟨u0, u1, u2⟩ := (V6.kept hW).cs
        obtain ⟨q0, q1, q2⟩ := (Q6.kept hW).cs
        obtain ⟨r0, r1, r2, r3⟩ := (R6.kept hW).cs
        obtain ⟨s0, s1, s2⟩ := (S6.kept hW).cs
        obtain ⟨t0, t1, t2, t3⟩ := (T6.kept hW).cs
        exact ⟨z0, z1, z2, z3, y0, y1, y2, y3, u0, u1, u2, q0, q1, q2, r0, r1, r2, r3, s0, s1, s2, t0, t1, t2, t3⟩
      refine wp_region_held_drew (S := (fun W => W.cell? ⟨b5, 0, none⟩ = some (.bool true) ∧ W.cell? ⟨b5, 1, none⟩ = some (.slice kp m kc) ∧ W.cell? ⟨b5, 2, none⟩ = some (.slice vp m vc) ∧ W.cell? ⟨b5, 3, none⟩ = some (.slice none 0 0) ∧ W.cell? ⟨b6, 0, none⟩ = some (.bool true) ∧ W.cell? ⟨b6, 1, none⟩ = some (.slice kp2 m kc2) ∧ W.cell? ⟨b6, 2, none⟩ = some (.slice vp2 m vc2) ∧ W.cell? ⟨b6, 3, none⟩ = some (.slice ip2 0 ic2) ∧ W.cell? ⟨b8, 0, none⟩ = some (.string v.d) ∧ W.cell? ⟨b8, 1, none⟩ = some (.int .i64 v.p) ∧ W.cell? ⟨b8, 2, none⟩ = some (.int .i64 v.l) ∧ W.cell? ⟨b11 + 1, 0, none⟩ = some (.string ov.d) ∧ W.cell? ⟨b11 + 1, 1, none⟩ = some (.int .i64 ov.p) ∧ W.cell? ⟨b11 + 1, 2, none⟩ = some (.int .i64 ov.l) ∧ W.cell? ⟨b14, 0, none⟩ = some (.bool true) ∧ W.cell? ⟨b14, 1, none⟩ = some (.slice kp5 m5 kc5) ∧ W.cell? ⟨b14, 2, none⟩ = some (.slice vp5 m5 vc5) ∧ W.cell? ⟨b14, 3, none⟩ = some (.slice none 0 0) ∧ W.cell? ⟨b14 + 1, 0, none⟩ = some (.string v.d) ∧ W.cell? ⟨b14 + 1, 1, none⟩ = some (.int .i64 v.p) ∧ W.cell? ⟨b14 + 1, 2, none⟩ = some (.int .i64 v.l) ∧ W.cell? ⟨b17, 0, none⟩ = some (.bool true) ∧ W.cell? ⟨b17, 1, none⟩ = some (.slice kp6 m6 kc6) ∧ W.cell? ⟨b17, 2, none⟩ = some (.slice vp6 m6 vc6) ∧ W.cell? ⟨b17, 3, none⟩ = some (.slice none 0 0))) (by kernel_rfl) ?_ (fun hHeld => ?_)
      · exact HSA.out _ KD
      refine wpAnyH_ready (rs := [0]) (by kernel_rfl) (by simp) ?_
      refine AllReadyH.cons (o := { dst := some 67, op := Go.Op.call { callee := Go.Callee.value (Go.Operand.func 11), args := #[], argTypes := #[] }, type := 4, pos := "law.go:109", after := #[], guard := none }) rfl (fun KK hKK => ?_) ?_
      ·
        go_simp
        go_at_call 11
        (with_reducible refine (awake_walk _).mono ?_)
        rintro e y1 ⟨rfl, j1⟩
        have J1 := KD.trans j1
        go_wp2_with fail
        refine hKK.out _ _ ?_ (fun hHeld => ?_)
        · (try dsimp only)
          exact HSA.out _ (by assumption)
        clear hKK KK
        try simp only [Act.put, List.setIfInBounds_toArray, List.set_cons_zero, List.set_cons_succ]
        refine wpAnyH_take (i := 1) (oi := { dst := some 68, op := Go.Op.unOp Go.UnOp.not 4 (Go.Operand.tmp 67), type := 4, pos := "law.go:109", after := #[{ on := 0, ground := Go.Ground.data }], guard := none }) (v := ?_) rfl (by kernel_rfl) (by kernel_rfl) (by kernel_rfl) (fun _ _ _ h => h) (Or.inl ⟨by rfl, ?_⟩) (by assumption) ?_
        rotate_left
        · intro w hSw
          (try dsimp only at hSw)
          go_simp
          all_goals with_reducible rfl
        try simp only [Act.put, List.setIfInBounds_toArray, List.set_cons_zero, List.set_cons_succ]
        refine wpAnyH_take (i := 2) (oi := { dst := some 69, op := Go.Op.move (Go.Operand.tmp 68), type := 4, pos := "law.go:109", after := #[{ on := 1, ground := Go.Ground.data }, { on := 0, ground := Go.Ground.chain }], guard := none }) (v := ?_) rfl (by kernel_rfl) (by kernel_rfl) (by kernel_rfl) (fun _ _ _ h => h) (Or.inl ⟨by rfl, ?_⟩) (by assumption) ?_
        rotate_left
        · intro w hSw
          (try dsimp only at hSw)
          go_simp
          all_goals with_reducible rfl
        try simp only [Act.put, List.setIfInBounds_toArray, List.set_cons_zero, List.set_cons_succ]
        refine wpAnyH_take (i := 3) (oi := { dst := some 70, op := Go.Op.move (Go.Operand.tmp 13), type := 4, pos := "law.go:109", after := #[{ on := 2, ground := Go.Ground.guard }], guard := some (2, false) }) (v := ?_) rfl (by kernel_rfl) (by kernel_rfl) (by kernel_rfl) (fun _ _ _ h => h) (Or.inl ⟨by rfl, ?_⟩) (by assumption) ?_
        rotate_left
        · intro w hSw
          (try dsimp only at hSw)
          go_simp
          all_goals with_reducible rfl
        try simp only [Act.put, List.setIfInBounds_toArray, List.set_cons_zero, List.set_cons_succ]
        refine wpAnyH_take (i := 4) (oi := { dst := some 71, op := Go.Op.move (Go.Operand.tmp 10), type := 4, pos := "law.go:109", after := #[{ on := 2, ground := Go.Ground.guard }], guard := some (2, false) }) (v := ?_) rfl (by kernel_rfl) (by kernel_rfl) (by kernel_rfl) (fun _ _ _ h => h) (Or.inl ⟨by rfl, ?_⟩) (by assumption) ?_
        rotate_left
        · intro w hSw
          (try dsimp only at hSw)
          go_simp
          all_goals with_reducible rfl
        try simp only [Act.put, List.setIfInBounds_toArray, List.set_cons_zero, List.set_cons_succ]
        refine wpAnyH_take (i := 5) (oi := { dst := some 72, op := Go.Op.binOp Go.BinOp.neq 4 (Go.Operand.tmp 70) (Go.Operand.tmp 71) 4, type := 4, pos := "law.go:109", after := #[{ on := 3, ground := Go.Ground.data }, { on := 4, ground := Go.Ground.data }, { on := 2, ground := Go.Ground.guard }], guard := some (2, false) }) (v := ?_) rfl (by kernel_rfl) (by kernel_rfl) (by kernel_rfl) (fun _ _ _ h => h) (Or.inl ⟨by rfl, ?_⟩) (by assumption) ?_
        rotate_left
        · intro w hSw
          (try dsimp only at hSw)
          go_simp
          all_goals with_reducible rfl
        try simp only [Act.put, List.setIfInBounds_toArray, List.set_cons_zero, List.set_cons_succ]
        refine wpAnyH_take (i := 6) (oi := { dst := some 73, op := Go.Op.pick (Go.Operand.tmp 69) (Go.Operand.const (Go.Value.bool true)) (Go.Operand.tmp 72), type := 4, pos := "law.go:109", after := #[{ on := 2, ground := Go.Ground.data }, { on := 5, ground := Go.Ground.data }], guard := none }) (v := ?_) rfl (by kernel_rfl) (by kernel_rfl) (by kernel_rfl) (fun _ _ _ h => h) (Or.inl ⟨by rfl, ?_⟩) (by assumption) ?_
        rotate_left
        · intro w hSw
          (try dsimp only at hSw)
          go_simp
          all_goals with_reducible rfl
        try simp only [Act.put, List.setIfInBounds_toArray, List.set_cons_zero, List.set_cons_succ]
        refine wpAnyH_take (i := 7) (oi := { dst := some 74, op := Go.Op.move (Go.Operand.tmp 73), type := 4, pos := "law.go:109", after := #[{ on := 6, ground := Go.Ground.data }, { on := 2, ground := Go.Ground.chain }], guard := none }) (v := ?_) rfl (by kernel_rfl) (by kernel_rfl) (by kernel_rfl) (fun _ _ _ h => h) (Or.inl ⟨by rfl, ?_⟩) (by assumption) ?_
        rotate_left
        · intro w hSw
          (try dsimp only at hSw)
          go_simp
          all_goals with_reducible rfl
        try simp only [Act.put, List.setIfInBounds_toArray, List.set_cons_zero, List.set_cons_succ]
        refine wpAnyH_take (i := 8) (oi := { dst := some 75, op := Go.Op.move (Go.Operand.tmp 10), type := 4, pos := "law.go:109", after := #[{ on := 7, ground := Go.Ground.guard }], guard := some (7, false) }) (v := ?_) rfl (by kernel_rfl) (by kernel_rfl) (by kernel_rfl) (fun _ _ _ h => h) (Or.inl ⟨by rfl, ?_⟩) (by assumption) ?_
        rotate_left
        · intro w hSw
          (try dsimp only at hSw)
          go_simp
          all_goals with_reducible rfl
        try simp only [Act.put, List.setIfInBounds_toArray, List.set_cons_zero, List.set_cons_succ]
        refine wpAnyH_take (i := 9) (oi := { dst := some 76, op := Go.Op.move (Go.Operand.tmp 75), type := 4, pos := "law.go:109", after := #[{ on := 8, ground := Go.Ground.data }, { on := 7, ground := Go.Ground.chain }, { on := 7, ground := Go.Ground.guard }], guard := some (7, false) }) (v := ?_) rfl (by kernel_rfl) (by kernel_rfl) (by kernel_rfl) (fun _ _ _ h => h) (Or.inl ⟨by rfl, ?_⟩) (by assumption) ?_
        rotate_left
        · intro w hSw
          (try dsimp only at hSw)
          go_simp
          all_goals with_reducible rfl
        try simp only [Act.put, List.setIfInBounds_toArray, List.set_cons_zero, List.set_cons_succ]
        refine wpAnyH_take (i := 10) (oi := { dst := some 77, op := Go.Op.load 49 (Go.Operand.tmp 12), type := 49, pos := "law.go:109", after := #[{ on := 9, ground := Go.Ground.guard }], guard := some (9, true) }) (v := undef) rfl (by kernel_rfl) (by kernel_rfl) (by kernel_rfl) (fun _ _ _ h => h) (Or.inr ⟨by rfl, by rfl⟩) (by assumption) ?_
        try simp only [Act.put, List.setIfInBounds_toArray, List.set_cons_zero, List.set_cons_succ]
        refine wpAnyH_take (i := 11) (oi := { dst := some 78, op := Go.Op.fieldAddr 27 (Go.Operand.tmp 5) 2, type := 0, pos := "law.go:109", after := #[{ on := 9, ground := Go.Ground.guard }], guard := some (9, true) }) (v := undef) rfl (by kernel_rfl) (by kernel_rfl) (by kernel_rfl) (fun _ _ _ h => h) (Or.inr ⟨by rfl, by rfl⟩) (by assumption) ?_
        try simp only [Act.put, List.setIfInBounds_toArray, List.set_cons_zero, List.set_cons_succ]
        refine wpAnyH_take (i := 12) (oi := { dst := some 79, op := Go.Op.load 24 (Go.Operand.tmp 78), type := 24, pos := "law.go:109", after := #[{ on := 11, ground := Go.Ground.data }, { on := 9, ground := Go.Ground.guard }], guard := some (9, true) }) (v := undef) rfl (by kernel_rfl) (by kernel_rfl) (by kernel_rfl) (fun _ _ _ h => h) (Or.inr ⟨by rfl, by rfl⟩) (by assumption) ?_
        try simp only [Act.put, List.setIfInBounds_toArray, List.set_cons_zero, List.set_cons_succ]
        refine wpAnyH_take (i := 13) (oi := { dst := some 80, op := Go.Op.move (Go.Operand.tmp 9), type := 3, pos := "law.go:109", after := #[{ on := 9, ground := Go.Ground.guard }], guard := some (9, true) }) (v := undef) rfl (by kernel_rfl) (by kernel_rfl) (by kernel_rfl) (fun _ _ _ h => h) (Or.inr ⟨by rfl, by rfl⟩) (by assumption) ?_
        try simp only [Act.put, List.setIfInBounds_toArray, List.set_cons_zero, List.set_cons_succ]
        refine wpAnyH_take (i := 14) (oi := { dst := some 81, op := Go.Op.indexAddr 24 (Go.Operand.tmp 79) (Go.Operand.tmp 80), type := 0, pos := "law.go:109", after := #[{ on := 12, ground := Go.Ground.data }, { on := 13, ground := Go.Ground.data }, { on := 9, ground := Go.Ground.guard }], guard := some (9, true) }) (v := undef) rfl (by kernel_rfl) (by kernel_rfl) (by kernel_rfl) (fun _ _ _ h => h) (Or.inr ⟨by rfl, by rfl⟩) (by assumption) ?_
        try simp only [Act.put, List.setIfInBounds_toArray, List.set_cons_zero, List.set_cons_succ]
        refine wpAnyH_take (i := 15) (oi := { dst := some 82, op := Go.Op.load 49 (Go.Operand.tmp 81), type := 49, pos := "law.go:109", after := #[{ on := 14, ground := Go.Ground.data }, { on := 9, ground := Go.Ground.guard }], guard := some (9, true) }) (v := undef) rfl (by kernel_rfl) (by kernel_rfl) (by kernel_rfl) (fun _ _ _ h => h) (Or.inr ⟨by rfl, by rfl⟩) (by assumption) ?_
        try simp only [Act.put, List.setIfInBounds_toArray, List.set_cons_zero, List.set_cons_succ]
        refine wpAnyH_take (i := 16) (oi := { dst := some 83, op := Go.Op.binOp Go.BinOp.neq 49 (Go.Operand.tmp 77) (Go.Operand.tmp 82) 49, type := 4, pos := "law.go:109", after := #[{ on := 10, ground := Go.Ground.data }, { on := 15, ground := Go.Ground.data }, { on := 9, ground := Go.Ground.guard }], guard := some (9, true) }) (v := undef) rfl (by kernel_rfl) (by kernel_rfl) (by kernel_rfl) (fun _ _ _ h => h) (Or.inr ⟨by rfl, by rfl⟩) (by assumption) ?_
        try simp only [Act.put, List.setIfInBounds_toArray, List.set_cons_zero, List.set_cons_succ]
        refine wpAnyH_take (i := 17) (oi := { dst := some 84, op := Go.Op.pick (Go.Operand.tmp 76) (Go.Operand.tmp 83) (Go.Operand.const (Go.Value.bool false)), type := 4, pos := "law.go:109", after := #[{ on := 9, ground := Go.Ground.data }, { on := 16, ground := Go.Ground.data }, { on := 7, ground := Go.Ground.guard }], guard := some (7, false) }) (v := ?_) rfl (by kernel_rfl) (by kernel_rfl) (by kernel_rfl) (fun _ _ _ h => h) (Or.inl ⟨by rfl, ?_⟩) (by assumption) ?_
        rotate_left
        · intro w hSw
          (try dsimp only at hSw)
          go_simp
          all_goals with_reducible rfl
        try simp only [Act.put, List.setIfInBounds_toArray, List.set_cons_zero, List.set_cons_succ]
        refine wpAnyH_take (i := 18) (oi := { dst := some 85, op := Go.Op.pick (Go.Operand.tmp 74) (Go.Operand.const (Go.Value.bool true)) (Go.Operand.tmp 84), type := 4, pos := "law.go:109", after := #[{ on := 7, ground := Go.Ground.data }, { on := 17, ground := Go.Ground.data }], guard := none }) (v := ?_) rfl (by kernel_rfl) (by kernel_rfl) (by kernel_rfl) (fun _ _ _ h => h) (Or.inl ⟨by rfl, ?_⟩) (by assumption) ?_
        rotate_left
        · intro w hSw
          (try dsimp only at hSw)
          go_simp
          all_goals with_reducible rfl
        try simp only [Act.put, List.setIfInBounds_toArray, List.set_cons_zero, List.set_cons_succ]
        refine wpAnyH_take (i := 19) (oi := { dst := some 86, op := Go.Op.move (Go.Operand.tmp 85), type := 4, pos := "law.go:109", after := #[{ on := 18, ground := Go.Ground.data }, { on := 9, ground := Go.Ground.chain }], guard := none }) (v := ?_) rfl (by kernel_rfl) (by kernel_rfl) (by kernel_rfl) (fun _ _ _ h => h) (Or.inl ⟨by rfl, ?_⟩) (by assumption) ?_
        rotate_left
        · intro w hSw
          (try dsimp only at hSw)
          go_simp
          all_goals with_reducible rfl
        try simp only [Act.put, List.setIfInBounds_toArray, List.set_cons_zero, List.set_cons_succ]
        refine wpAnyH_take (i := 20) (oi := { dst := some 87, op := Go.Op.move (Go.Operand.tmp 10), type := 4, pos := "law.go:109", after := #[{ on := 19, ground := Go.Ground.guard }], guard := some (19, false) }) (v := ?_) rfl (by kernel_rfl) (by kernel_rfl) (by kernel_rfl) (fun _ _ _ h => h) (Or.inl ⟨by rfl, ?_⟩) (by assumption) ?_
        rotate_left
        · intro w hSw
          (try dsimp only at hSw)
          go_simp
          all_goals with_reducible rfl
        try simp only [Act.put, List.setIfInBounds_toArray, List.set_cons_zero, List.set_cons_succ]
        refine wpAnyH_take (i := 21) (oi := { dst := some 88, op := Go.Op.unOp Go.UnOp.not 4 (Go.Operand.tmp 87), type := 4, pos := "law.go:109", after := #[{ on := 20, ground := Go.Ground.data }, { on := 19, ground := Go.Ground.guard }], guard := some (19, false) }) (v := ?_) rfl (by kernel_rfl) (by kernel_rfl) (by kernel_rfl) (fun _ _ _ h => h) (Or.inl ⟨by rfl, ?_⟩) (by assumption) ?_
        rotate_left
        · intro w hSw
          (try dsimp only at hSw)
          go_simp
          all_goals with_reducible rfl
        try simp only [Act.put, List.setIfInBounds_toArray, List.set_cons_zero, List.set_cons_succ]
        refine wpAnyH_take (i := 22) (oi := { dst := some 89, op := Go.Op.move (Go.Operand.tmp 88), type := 4, pos := "law.go:109", after := #[{ on := 21, ground := Go.Ground.data }, { on := 19, ground := Go.Ground.chain }, { on := 19, ground := Go.Ground.guard }], guard := some (19, false) }) (v := ?_) rfl (by kernel_rfl) (by kernel_rfl) (by kernel_rfl) (fun _ _ _ h => h) (Or.inl ⟨by rfl, ?_⟩) (by assumption) ?_
        rotate_left
        · intro w hSw
          (try dsimp only at hSw)
          go_simp
          all_goals with_reducible rfl
        try simp only [Act.put, List.setIfInBounds_toArray, List.set_cons_zero, List.set_cons_succ]
        refine wpAnyH_take (i := 23) (oi := { dst := some 90, op := Go.Op.fieldAddr 49 (Go.Operand.tmp 12) 1, type := 0, pos := "law.go:109", after := #[{ on := 22, ground := Go.Ground.guard }], guard := some (22, true) }) (v := ?_) rfl (by kernel_rfl) (by kernel_rfl) (by kernel_rfl) (fun _ _ _ h => h) (Or.inl ⟨by rfl, ?_⟩) (by assumption) ?_
        rotate_left
        · intro w hSw
          (try dsimp only at hSw)
          go_simp
          all_goals with_reducible rfl
        try simp only [Act.put, List.setIfInBounds_toArray, List.set_cons_zero, List.set_cons_succ]
        refine wpAnyH_take (i := 24) (oi := { dst := some 91, op := Go.Op.load 3 (Go.Operand.tmp 90), type := 3, pos := "law.go:109", after := #[{ on := 23, ground := Go.Ground.data }, { on := 22, ground := Go.Ground.guard }], guard := some (22, true) }) (v := ?_) rfl (by kernel_rfl) (by kernel_rfl) (by kernel_rfl) (fun _ _ _ h => h) (Or.inl ⟨by rfl, ?_⟩) (by assumption) ?_
        rotate_left
        · intro w hSw
          (try dsimp only at hSw)
          go_simp
          all_goals with_reducible rfl
        try simp only [Act.put, List.setIfInBounds_toArray, List.set_cons_zero, List.set_cons_succ]
        refine wpAnyH_take (i := 25) (oi := { dst := some 92, op := Go.Op.binOp Go.BinOp.neq 3 (Go.Operand.tmp 91) (Go.Operand.const (Go.Value.int Go.IntKind.i64 (-1))) 3, type := 4, pos := "law.go:109", after := #[{ on := 24, ground := Go.Ground.data }, { on := 22, ground := Go.Ground.guard }], guard := some (22, true) }) (v := ?_) rfl (by kernel_rfl) (by kernel_rfl) (by kernel_rfl) (fun _ _ _ h => h) (Or.inl ⟨by rfl, ?_⟩) (by assumption) ?_
        rotate_left
        · intro w hSw
          (try dsimp only at hSw)
          go_simp
          all_goals with_reducible rfl
        try simp only [Act.put, List.setIfInBounds_toArray, List.set_cons_zero, List.set_cons_succ]
        refine wpAnyH_take (i := 26) (oi := { dst := some 93, op := Go.Op.pick (Go.Operand.tmp 89) (Go.Operand.tmp 92) (Go.Operand.const (Go.Value.bool false)), type := 4, pos := "law.go:109", after := #[{ on := 22, ground := Go.Ground.data }, { on := 25, ground := Go.Ground.data }, { on := 19, ground := Go.Ground.guard }], guard := some (19, false) }) (v := ?_) rfl (by kernel_rfl) (by kernel_rfl) (by kernel_rfl) (fun _ _ _ h => h) (Or.inl ⟨by rfl, ?_⟩) (by assumption) ?_
        rotate_left
        · intro w hSw
          (try dsimp only at hSw)
          go_simp
          all_goals with_reducible rfl
        try simp only [Act.put, List.setIfInBounds_toArray, List.set_cons_zero, List.set_cons_succ]
        refine wpAnyH_take (i := 27) (oi := { dst := some 94, op := Go.Op.pick (Go.Operand.tmp 86) (Go.Operand.const (Go.Value.bool true)) (Go.Operand.tmp 93), type := 4, pos := "law.go:109", after := #[{ on := 19, ground := Go.Ground.data }, { on := 26, ground := Go.Ground.data }], guard := none }) (v := ?_) rfl (by kernel_rfl) (by kernel_rfl) (by kernel_rfl) (fun _ _ _ h => h) (Or.inl ⟨by rfl, ?_⟩) (by assumption) ?_
        rotate_left
        · intro w hSw
          (try dsimp only at hSw)
          go_simp
          all_goals with_reducible rfl
        try simp only [Act.put, List.setIfInBounds_toArray, List.set_cons_zero, List.set_cons_succ]
        refine wpAnyH_take (i := 28) (oi := { dst := some 95, op := Go.Op.move (Go.Operand.tmp 94), type := 4, pos := "law.go:109", after := #[{ on := 27, ground := Go.Ground.data }, { on := 22, ground := Go.Ground.chain }], guard := none }) (v := ?_) rfl (by kernel_rfl) (by kernel_rfl) (by kernel_rfl) (fun _ _ _ h => h) (Or.inl ⟨by rfl, ?_⟩) (by assumption) ?_
        rotate_left
        · intro w hSw
          (try dsimp only at hSw)
          go_simp
          all_goals with_reducible rfl
        try simp only [Act.put, List.setIfInBounds_toArray, List.set_cons_zero, List.set_cons_succ]
        refine wpAnyH_take (i := 29) (oi := { dst := some 96, op := Go.Op.move (Go.Operand.tmp 16), type := 4, pos := "law.go:109", after := #[{ on := 28, ground := Go.Ground.guard }], guard := some (28, false) }) (v := ?_) rfl (by kernel_rfl) (by kernel_rfl) (by kernel_rfl) (fun _ _ _ h => h) (Or.inl ⟨by rfl, ?_⟩) (by assumption) ?_
        rotate_left
        · intro w hSw
          (try dsimp only at hSw)
          go_simp
          all_goals with_reducible rfl
        try simp only [Act.put, List.setIfInBounds_toArray, List.set_cons_zero, List.set_cons_succ]
        refine wpAnyH_take (i := 30) (oi := { dst := some 97, op := Go.Op.unOp Go.UnOp.not 4 (Go.Operand.tmp 96), type := 4, pos := "law.go:109", after := #[{ on := 29, ground := Go.Ground.data }, { on := 28, ground := Go.Ground.guard }], guard := some (28, false) }) (v := ?_) rfl (by kernel_rfl) (by kernel_rfl) (by kernel_rfl) (fun _ _ _ h => h) (Or.inl ⟨by rfl, ?_⟩) (by assumption) ?_
        rotate_left
        · intro w hSw
          (try dsimp only at hSw)
          go_simp
          all_goals with_reducible rfl
        try simp only [Act.put, List.setIfInBounds_toArray, List.set_cons_zero, List.set_cons_succ]
        refine wpAnyH_take (i := 31) (oi := { dst := some 98, op := Go.Op.pick (Go.Operand.tmp 95) (Go.Operand.const (Go.Value.bool true)) (Go.Operand.tmp 97), type := 4, pos := "law.go:109", after := #[{ on := 28, ground := Go.Ground.data }, { on := 30, ground := Go.Ground.data }], guard := none }) (v := ?_) rfl (by kernel_rfl) (by kernel_rfl) (by kernel_rfl) (fun _ _ _ h => h) (Or.inl ⟨by rfl, ?_⟩) (by assumption) ?_
        rotate_left
        · intro w hSw
          (try dsimp only at hSw)
          go_simp
          all_goals with_reducible rfl
        try simp only [Act.put, List.setIfInBounds_toArray, List.set_cons_zero, List.set_cons_succ]
        refine wpAnyH_take (i := 32) (oi := { dst := some 99, op := Go.Op.move (Go.Operand.tmp 98), type := 4, pos := "law.go:109", after := #[{ on := 31, ground := Go.Ground.data }, { on := 28, ground := Go.Ground.chain }], guard := none }) (v := ?_) rfl (by kernel_rfl) (by kernel_rfl) (by kernel_rfl) (fun _ _ _ h => h) (Or.inl ⟨by rfl, ?_⟩) (by assumption) ?_
        rotate_left
        · intro w hSw
          (try dsimp only at hSw)
          go_simp
          all_goals with_reducible rfl
        try simp only [Act.put, List.setIfInBounds_toArray, List.set_cons_zero, List.set_cons_succ]
        refine wpAnyH_take (i := 33) (oi := { dst := some 100, op := Go.Op.load 49 (Go.Operand.tmp 15), type := 49, pos := "law.go:109", after := #[{ on := 32, ground := Go.Ground.guard }], guard := some (32, false) }) (v := ?_) rfl (by kernel_rfl) (by kernel_rfl) (by kernel_rfl) (fun _ _ _ h => h) (Or.inl ⟨by rfl, ?_⟩) (by assumption) ?_
        rotate_left
        · intro w hSw
          (try dsimp only at hSw)
          go_simp
          all_goals with_reducible rfl
        try simp only [Act.put, List.setIfInBounds_toArray, List.set_cons_zero, List.set_cons_succ]
        refine wpAnyH_take (i := 34) (oi := { dst := some 101, op := Go.Op.load 49 (Go.Operand.tmp 8), type := 49, pos := "law.go:109", after := #[{ on := 32, ground := Go.Ground.guard }], guard := some (32, false) }) (v := ?_) rfl (by kernel_rfl) (by kernel_rfl) (by kernel_rfl) (fun _ _ _ h => h) (Or.inl ⟨by rfl, ?_⟩) (by assumption) ?_
        rotate_left
        · intro w hSw
          (try dsimp only at hSw)
          go_simp
          all_goals with_reducible rfl
        try simp only [Act.put, List.setIfInBounds_toArray, List.set_cons_zero, List.set_cons_succ]
        refine wpAnyH_take (i := 35) (oi := { dst := some 102, op := Go.Op.binOp Go.BinOp.neq 49 (Go.Operand.tmp 100) (Go.Operand.tmp 101) 49, type := 4, pos := "law.go:109", after := #[{ on := 33, ground := Go.Ground.data }, { on := 34, ground := Go.Ground.data }, { on := 32, ground := Go.Ground.guard }], guard := some (32, false) }) (v := ?_) rfl (by kernel_rfl) (by kernel_rfl) (by kernel_rfl) (fun _ _ _ h => h) (Or.inl ⟨by rfl, ?_⟩) (by assumption) ?_
        rotate_left
        · intro w hSw
          (try dsimp only at hSw)
          go_simp
          all_goals with_reducible rfl
        try simp only [Act.put, List.setIfInBounds_toArray, List.set_cons_zero, List.set_cons_succ]
        refine wpAnyH_take (i := 36) (oi := { dst := some 103, op := Go.Op.pick (Go.Operand.tmp 99) (Go.Operand.const (Go.Value.bool true)) (Go.Operand.tmp 102), type := 4, pos := "law.go:109", after := #[{ on := 32, ground := Go.Ground.data }, { on := 35, ground := Go.Ground.data }], guard := none }) (v := ?_) rfl (by kernel_rfl) (by kernel_rfl) (by kernel_rfl) (fun _ _ _ h => h) (Or.inl ⟨by rfl, ?_⟩) (by assumption) ?_
        rotate_left
        · intro w hSw
          (try dsimp only at hSw)
          go_simp
          all_goals with_reducible rfl
        try simp only [Act.put, List.setIfInBounds_toArray, List.set_cons_zero, List.set_cons_succ]
        refine wpAnyH_take (i := 37) (oi := { dst := some 104, op := Go.Op.move (Go.Operand.tmp 103), type := 4, pos := "law.go:109", after := #[{ on := 36, ground := Go.Ground.data }, { on := 32, ground := Go.Ground.chain }], guard := none }) (v := ?_) rfl (by kernel_rfl) (by kernel_rfl) (by kernel_rfl) (fun _ _ _ h => h) (Or.inl ⟨by rfl, ?_⟩) (by assumption) ?_
        rotate_left
        · intro w hSw
          (try dsimp only at hSw)
          go_simp
          all_goals with_reducible rfl
        try simp only [Act.put, List.setIfInBounds_toArray, List.set_cons_zero, List.set_cons_succ]
        refine wpAnyH_take (i := 38) (oi := { dst := some 105, op := Go.Op.move (Go.Operand.tmp 19), type := 4, pos := "law.go:109", after := #[{ on := 37, ground := Go.Ground.guard }], guard := some (37, false) }) (v := ?_) rfl (by kernel_rfl) (by kernel_rfl) (by kernel_rfl) (fun _ _ _ h => h) (Or.inl ⟨by rfl, ?_⟩) (by assumption) ?_
        rotate_left
        · intro w hSw
          (try dsimp only at hSw)
          go_simp
          all_goals with_reducible rfl
        try simp only [Act.put, List.setIfInBounds_toArray, List.set_cons_zero, List.set_cons_succ]
        refine wpAnyH_take (i := 39) (oi := { dst := some 106, op := Go.Op.pick (Go.Operand.tmp 104) (Go.Operand.const (Go.Value.bool true)) (Go.Operand.tmp 105), type := 4, pos := "law.go:109", after := #[{ on := 37, ground := Go.Ground.data }, { on := 38, ground := Go.Ground.data }], guard := none }) (v := ?_) rfl (by kernel_rfl) (by kernel_rfl) (by kernel_rfl) (fun _ _ _ h => h) (Or.inl ⟨by rfl, ?_⟩) (by assumption) ?_
        rotate_left
        · intro w hSw
          (try dsimp only at hSw)
          go_simp
          all_goals with_reducible rfl
        try simp only [Act.put, List.setIfInBounds_toArray, List.set_cons_zero, List.set_cons_succ]
        refine wpAnyH_take (i := 40) (oi := { dst := some 107, op := Go.Op.move (Go.Operand.tmp 106), type := 4, pos := "law.go:109", after := #[{ on := 39, ground := Go.Ground.data }, { on := 37, ground := Go.Ground.chain }], guard := none }) (v := ?_) rfl (by kernel_rfl) (by kernel_rfl) (by kernel_rfl) (fun _ _ _ h => h) (Or.inl ⟨by rfl, ?_⟩) (by assumption) ?_
        rotate_left
        · intro w hSw
          (try dsimp only at hSw)
          go_simp
          all_goals with_reducible rfl
        try simp only [Act.put, List.setIfInBounds_toArray, List.set_cons_zero, List.set_cons_succ]
        refine wpAnyH_take (i := 41) (oi := { dst := some 108, op := Go.Op.load 27 (Go.Operand.tmp 17), type := 27, pos := "law.go:109", after := #[{ on := 40, ground := Go.Ground.guard }], guard := some (40, false) }) (v := ?_) rfl (by kernel_rfl) (by kernel_rfl) (by kernel_rfl) (fun _ _ _ h => h) (Or.inl ⟨by rfl, ?_⟩) (by assumption) ?_
        rotate_left
        · intro w hSw
          (try dsimp only at hSw)
          go_simp
          all_goals with_reducible rfl
        try simp only [Act.put, List.setIfInBounds_toArray, List.set_cons_zero, List.set_cons_succ]
        refine wpAnyH_take (i := 43) (oi := { dst := some 110, op := Go.Op.load 27 (Go.Operand.tmp 14), type := 27, pos := "law.go:109", after := #[{ on := 40, ground := Go.Ground.guard }], guard := some (40, false) }) (v := ?_) rfl (by kernel_rfl) (by kernel_rfl) (by kernel_rfl) (fun _ _ _ h => h) (Or.inl ⟨by rfl, ?_⟩) (by assumption) ?_
        rotate_left
        · intro w hSw
          (try dsimp only at hSw)
          go_simp
          all_goals with_reducible rfl
        try simp only [Act.put, List.setIfInBounds_toArray, List.set_cons_zero, List.set_cons_succ]
        refine wpAnyH_ready (rs := [42]) (by kernel_rfl) (by simp) ?_
        refine AllReadyH.cons (o := { dst := some 109, op := Go.Op.call { callee := Go.Callee.value (Go.Operand.func 13), args := #[Go.Operand.tmp 108], argTypes := #[27] }, type := 37, pos := "law.go:109", after := #[{ on := 41, ground := Go.Ground.data }, { on := 40, ground := Go.Ground.chain }, { on := 40, ground := Go.Ground.guard }], guard := some (40, false) }) rfl (fun KK hKK => ?_) ?_
        ·
          go_simp
          go_at_call 13
          (with_reducible refine (HREF.out _ _ _ _ _ _ _ _ _ _ _ _ (M6.kept J1) h6).mono ?_)
          rintro e y2 ⟨vpa, vca, rfl, Da, j2⟩
          have J2 := J1.trans j2
          go_wp2_with fail
          refine hKK.out _ _ ?_ (fun hHeld => ?_)
          · (try dsimp only)
            exact HSA.out _ (by assumption)
          clear hKK KK
          try simp only [Act.put, List.setIfInBounds_toArray, List.set_cons_zero, List.set_cons_succ]
          refine wpAnyH_ready (rs := [44]) (by kernel_rfl) (by simp) ?_
          refine AllReadyH.cons (o := { dst := some 111, op := Go.Op.call { callee := Go.Callee.value (Go.Operand.func 13), args := #[Go.Operand.tmp 110], argTypes := #[27] }, type := 37, pos := "law.go:109", after := #[{ on := 43, ground := Go.Ground.data }, { on := 42, ground := Go.Ground.chain }, { on := 40, ground := Go.Ground.guard }], guard := some (40, false) }) rfl (fun KK hKK => ?_) ?_
          ·
            go_simp
            go_at_call 13
            (with_reducible refine (HREF.out _ _ _ _ _ _ _ _ _ _ _ _ (M56.kept J2) h5).mono ?_)
            rintro e y3 ⟨vpb, vcb, rfl, Db, j3⟩
            have J3 := J2.trans j3
            go_wp2_with fail
            refine hKK.out _ _ ?_ (fun hHeld => ?_)
            · (try dsimp only)
              exact HSA.out _ (by assumption)
            clear hKK KK
            try simp only [Act.put, List.setIfInBounds_toArray, List.set_cons_zero, List.set_cons_succ]
            refine wpAnyH_ready (rs := [45]) (by kernel_rfl) (by simp) ?_
            refine AllReadyH.cons (o := { dst := some 112, op := Go.Op.call { callee := Go.Callee.value (Go.Operand.func 14), args := #[Go.Operand.tmp 109, Go.Operand.tmp 111], argTypes := #[37, 37] }, type := 4, pos := "law.go:109", after := #[{ on := 42, ground := Go.Ground.data }, { on := 44, ground := Go.Ground.data }, { on := 44, ground := Go.Ground.chain }, { on := 40, ground := Go.Ground.guard }], guard := some (40, false) }) rfl (fun KK hKK => ?_) ?_
            ·
              go_simp
              go_at_call 14
              (with_reducible refine (same_true (Da.kept j3) Db h6 h6 (by omega)).mono ?_)
              rintro e y4 ⟨rfl, j4⟩
              have J4 := J3.trans j4
              go_wp2_with fail
              refine hKK.out _ _ ?_ (fun hHeld => ?_)
              · (try dsimp only)
                exact HSA.out _ (by assumption)
              clear hKK KK
              try simp only [Act.put, List.setIfInBounds_toArray, List.set_cons_zero, List.set_cons_succ]
              refine wpAnyH_take (i := 46) (oi := { dst := some 113, op := Go.Op.unOp Go.UnOp.not 4 (Go.Operand.tmp 112), type := 4, pos := "law.go:109", after := #[{ on := 45, ground := Go.Ground.data }, { on := 40, ground := Go.Ground.guard }], guard := some (40, false) }) (v := ?_) rfl (by kernel_rfl) (by kernel_rfl) (by kernel_rfl) (fun _ _ _ h => h) (Or.inl ⟨by rfl, ?_⟩) (by assumption) ?_
              rotate_left
              · intro w hSw
                (try dsimp only at hSw)
                go_simp
                all_goals with_reducible rfl
              try simp only [Act.put, List.setIfInBounds_toArray, List.set_cons_zero, List.set_cons_succ]
              refine wpAnyH_take (i := 47) (oi := { dst := some 114, op := Go.Op.pick (Go.Operand.tmp 107) (Go.Operand.const (Go.Value.bool true)) (Go.Operand.tmp 113), type := 4, pos := "law.go:109", after := #[{ on := 40, ground := Go.Ground.data }, { on := 46, ground := Go.Ground.data }], guard := none }) (v := ?_) rfl (by kernel_rfl) (by kernel_rfl) (by kernel_rfl) (fun _ _ _ h => h) (Or.inl ⟨by rfl, ?_⟩) (by assumption) ?_
              rotate_left
              · intro w hSw
                (try dsimp only at hSw)
                go_simp
                all_goals with_reducible rfl
              try simp only [Act.put, List.setIfInBounds_toArray, List.set_cons_zero, List.set_cons_succ]
              refine wpAnyH_take (i := 48) (oi := { dst := some 115, op := Go.Op.move (Go.Operand.tmp 114), type := 4, pos := "law.go:109", after := #[{ on := 47, ground := Go.Ground.data }, { on := 45, ground := Go.Ground.chain }], guard := none }) (v := ?_) rfl (by kernel_rfl) (by kernel_rfl) (by kernel_rfl) (fun _ _ _ h => h) (Or.inl ⟨by rfl, ?_⟩) (by assumption) ?_
              rotate_left
              · intro w hSw
                (try dsimp only at hSw)
                go_simp
                all_goals with_reducible rfl
              try simp only [Act.put, List.setIfInBounds_toArray, List.set_cons_zero, List.set_cons_succ]
              refine wpAnyH_take (i := 49) (oi := { dst := some 116, op := Go.Op.load 27 (Go.Operand.tmp 6), type := 27, pos := "law.go:109", after := #[{ on := 48, ground := Go.Ground.guard }], guard := some (48, false) }) (v := ?_) rfl (by kernel_rfl) (by kernel_rfl) (by kernel_rfl) (fun _ _ _ h => h) (Or.inl ⟨by rfl, ?_⟩) (by assumption) ?_
              rotate_left
              · intro w hSw
                (try dsimp only at hSw)
                go_simp
                all_goals with_reducible rfl
              try simp only [Act.put, List.setIfInBounds_toArray, List.set_cons_zero, List.set_cons_succ]
              refine wpAnyH_take (i := 51) (oi := { dst := some 118, op := Go.Op.load 27 (Go.Operand.tmp 5), type := 27, pos := "law.go:109", after := #[{ on := 48, ground := Go.Ground.guard }], guard := some (48, false) }) (v := ?_) rfl (by kernel_rfl) (by kernel_rfl) (by kernel_rfl) (fun _ _ _ h => h) (Or.inl ⟨by rfl, ?_⟩) (by assumption) ?_
              rotate_left
              · intro w hSw
                (try dsimp only at hSw)
                go_simp
                all_goals with_reducible rfl
              try simp only [Act.put, List.setIfInBounds_toArray, List.set_cons_zero, List.set_cons_succ]
              refine wpAnyH_ready (rs := [50]) (by kernel_rfl) (by simp) ?_
              refine AllReadyH.cons (o := { dst := some 117, op := Go.Op.call { callee := Go.Callee.value (Go.Operand.func 13), args := #[Go.Operand.tmp 116], argTypes := #[27] }, type := 37, pos := "law.go:109", after := #[{ on := 49, ground := Go.Ground.data }, { on := 48, ground := Go.Ground.chain }, { on := 48, ground := Go.Ground.guard }], guard := some (48, false) }) rfl (fun KK hKK => ?_) ?_
              ·
                go_simp
                go_at_call 13
                (with_reducible refine (HREF.out _ _ _ _ _ _ _ _ _ _ _ _ (C6_.kept J4) hmm).mono ?_)
                rintro e y5 ⟨vpc, vcc, rfl, Dc, j5⟩
                have J5 := J4.trans j5
                go_wp2_with fail
                refine hKK.out _ _ ?_ (fun hHeld => ?_)
                · (try dsimp only)
                  exact HSA.out _ (by assumption)
                clear hKK KK
                try simp only [Act.put, List.setIfInBounds_toArray, List.set_cons_zero, List.set_cons_succ]
                refine wpAnyH_ready (rs := [52]) (by kernel_rfl) (by simp) ?_
                refine AllReadyH.cons (o := { dst := some 119, op := Go.Op.call { callee := Go.Callee.value (Go.Operand.func 13), args := #[Go.Operand.tmp 118], argTypes := #[27] }, type := 37, pos := "law.go:109", after := #[{ on := 51, ground := Go.Ground.data }, { on := 50, ground := Go.Ground.chain }, { on := 48, ground := Go.Ground.guard }], guard := some (48, false) }) rfl (fun KK hKK => ?_) ?_
                ·
                  go_simp
                  go_at_call 13
                  (with_reducible refine (HREF.out _ _ _ _ _ _ _ _ _ _ _ _ (N6.kept J5) hmm).mono ?_)
                  rintro e y6 ⟨vpd, vcd, rfl, Dd, j6⟩
                  have J6 := J5.trans j6
                  go_wp2_with fail
                  refine hKK.out _ _ ?_ (fun hHeld => ?_)
                  · (try dsimp only)
                    exact HSA.out _ (by assumption)
                  clear hKK KK
                  try simp only [Act.put, List.setIfInBounds_toArray, List.set_cons_zero, List.set_cons_succ]
                  refine wpAnyH_ready (rs := [53]) (by kernel_rfl) (by simp) ?_
                  refine AllReadyH.cons (o := { dst := some 120, op := Go.Op.call { callee := Go.Callee.value (Go.Operand.func 14), args := #[Go.Operand.tmp 117, Go.Operand.tmp 119], argTypes := #[37, 37] }, type := 4, pos := "law.go:109", after := #[{ on := 50, ground := Go.Ground.data }, { on := 52, ground := Go.Ground.data }, { on := 52, ground := Go.Ground.chain }, { on := 48, ground := Go.Ground.guard }], guard := some (48, false) }) rfl (fun KK hKK => ?_) ?_
                  ·
                    go_simp
                    go_at_call 14
                    (with_reducible refine (same_true (Dc.kept j6) Dd hmm hmm (by omega)).mono ?_)
                    rintro e y7 ⟨rfl, j7⟩
                    have J7 := J6.trans j7
                    go_wp2_with fail
                    refine hKK.out _ _ ?_ (fun hHeld => ?_)
                    · (try dsimp only)
                      exact HSA.out _ (by assumption)
                    clear hKK KK
                    try simp only [Act.put, List.setIfInBounds_toArray, List.set_cons_zero, List.set_cons_succ]
                    refine wpAnyH_take (i := 54) (oi := { dst := some 121, op := Go.Op.unOp Go.UnOp.not 4 (Go.Operand.tmp 120), type := 4, pos := "law.go:109", after := #[{ on := 53, ground := Go.Ground.data }, { on := 48, ground := Go.Ground.guard }], guard := some (48, false) }) (v := ?_) rfl (by kernel_rfl) (by kernel_rfl) (by kernel_rfl) (fun _ _ _ h => h) (Or.inl ⟨by rfl, ?_⟩) (by assumption) ?_
                    rotate_left
                    · intro w hSw
                      (try dsimp only at hSw)
                      go_simp
                      all_goals with_reducible rfl
                    try simp only [Act.put, List.setIfInBounds_toArray, List.set_cons_zero, List.set_cons_succ]
                    refine wpAnyH_take (i := 55) (oi := { dst := some 122, op := Go.Op.pick (Go.Operand.tmp 115) (Go.Operand.const (Go.Value.bool true)) (Go.Operand.tmp 121), type := 4, pos := "law.go:109", after := #[{ on := 48, ground := Go.Ground.data }, { on := 54, ground := Go.Ground.data }], guard := none }) (v := ?_) rfl (by kernel_rfl) (by kernel_rfl) (by kernel_rfl) (fun _ _ _ h => h) (Or.inl ⟨by rfl, ?_⟩) (by assumption) ?_
                    rotate_left
                    · intro w hSw
                      (try dsimp only at hSw)
                      go_simp
                      all_goals with_reducible rfl
                    try simp only [Act.put, List.setIfInBounds_toArray, List.set_cons_zero, List.set_cons_succ]
                    refine wpAnyH_done (by kernel_rfl) ?_ _
                    have P7 := P6.kept J7
                    have R7 := R6.kept J7
                    have X7 := X6.kept J7
                    have V7 := V6.kept J7
                    have N7 := N6.kept J7
                    have M47 := M46.kept J7
                    have M57 := M56.kept J7
                    have K7 := K6.trans J7
                    clear HSA P6 R6 X6 V6 N6 M46 M56 K6 C6_ Y6 Q6 S6 T6 M6 Da Db Dc Dd j1 j2 j3 j4 j5 j6 j7 J1 J2 J3 J4 J5 J6 KD HREF HO HAT hHeld J7 hov h6
                    obtain ⟨q0, q1, q2, q3⟩ := P7.cs
                    have hm4 : ks1.length = m4 := M47.nk
                    have hm5 : ks2.length = m5 := M57.nk
                    have hmv : vs1.length = m4 := M47.nv
                    have hlt4 : at_ < m4 := by have := HPOS.out; omega
                    have hlt4' : (at_ : Int) < (m4 : Int) := by omega
                    have u45 : IntKind.i64.wrap ((m4 : Int) - 1) = (m5 : Int) := by rw [IntKind.wrap_i64]; have := HM5.out; have := HM4.out; omega
                    obtain ⟨mb, mo, rfl, hmc⟩ := M47.v.some (by omega)
                    obtain ⟨l0, l1, l2⟩ := vcl_at HE3.out
                    have n0 := hmc _ _ l0
                    have n1 := hmc _ _ l1
                    have n2 := hmc _ _ l2
                    rw [← Nat.add_assoc] at n1 n2
                    clear l0 l1 l2 hmc hm4 hmv
                    go_wp2_with (first
                      | (go_at_call 19
                         (with_reducible refine (HF2.out _ _ _ _ M47.k).mono ?_)
                         rintro e vz ⟨rfl, hz⟩
                         rw [hz]
                         clear hz))
                    have KD7 : Kept y7 y7.drew := (Kept.refl y7).drew
                    have HS7 : Hid (∀ W, Kept y7 W → W.cell? ⟨b11, 1, none⟩ = some (.slice kp4 m4 kc4) ∧ W.cell? ⟨b11, 2, none⟩ = some (.slice (some ⟨mb, mo, none⟩) m4 vc4) ∧ W.cell? ⟨b8, 0, none⟩ = some (.string v.d) ∧ W.cell? ⟨b8, 1, none⟩ = some (.int .i64 v.p) ∧ W.cell? ⟨b8, 2, none⟩ = some (.int .i64 v.l) ∧ W.cell? ⟨b14, 1, none⟩ = some (.slice kp5 m5 kc5) ∧ W.cell? ⟨mb, mo + at_ * 3, none⟩ = some (.string v.d) ∧ W.cell? ⟨mb, mo + at_ * 3 + 1, none⟩ = some (.int .i64 v.p) ∧ W.cell? ⟨mb, mo + at_ * 3 + 2, none⟩ = some (.int .i64 v.l)) := by
                      intro W hW
                      obtain ⟨_, z1, z2, _⟩ := (P7.kept hW).cs
                      obtain ⟨u0, u1, u2⟩ := (V7.kept hW).cs
                      obtain ⟨_, r1, _, _⟩ := (R7.kept hW).cs
                      exact ⟨z1, z2, u0, u1, u2, r1, hW.cell n0, hW.cell n1, hW.cell n2⟩
                    go_region_held3 (fun W => W.cell? ⟨b11, 1, none⟩ = some (.slice kp4 m4 kc4) ∧ W.cell? ⟨b11, 2, none⟩ = some (.slice (some ⟨mb, mo, none⟩) m4 vc4) ∧ W.cell? ⟨b8, 0, none⟩ = some (.string v.d) ∧ W.cell? ⟨b8, 1, none⟩ = some (.int .i64 v.p) ∧ W.cell? ⟨b8, 2, none⟩ = some (.int .i64 v.l) ∧ W.cell? ⟨b14, 1, none⟩ = some (.slice kp5 m5 kc5) ∧ W.cell? ⟨mb, mo + at_ * 3, none⟩ = some (.string v.d) ∧ W.cell? ⟨mb, mo + at_ * 3 + 1, none⟩ = some (.int .i64 v.p) ∧ W.cell? ⟨mb, mo + at_ * 3 + 2, none⟩ = some (.int .i64 v.l)) (exact HS7.out _ (by assumption)) (fail)
                    go_wp2
                    clear HS7 n0 n1 n2 q0 q1 q2 q3 P7 V7 M47 HF2 u45 HPOS HE3 KD7
                    go_loopg [22] m5 (fun gg vv wx => ∃ i : Nat, vv = .int .i64 (i : Nat) ∧ Hid (gg = m5 - i) ∧ i ≤ m5 ∧ Kept y7 wx)
                    case atStart => exact ⟨0, rfl, rfl, Nat.zero_le _, (Kept.refl y7).drew⟩
                    case round =>
                      obtain ⟨i, rfl, hg, hin, K⟩ := hrel
                      obtain ⟨r0, r1, r2, r3⟩ := (R7.kept K).cs
                      by_cases h1 : i < m5
                      · have h1' : (i : Int) < (m5 : Int) := by omega
                        obtain ⟨k, hk⟩ : ∃ k, ks2[i]? = some k := ⟨_, List.getElem?_eq_getElem (by rw [hm5]; exact h1)⟩
                        obtain ⟨hkne, hki, vv, hv2, hvn⟩ := HR.out.each i k hk
                        have hke : (k.toList == key.toList) = false := by rw [seq_iff]; simp [hkne]
                        have hfl : fnd k ks < m := by have := isk_lt hki; have a : ks.length = m := N7.nk; omega
                        have HFK : Hid (∀ (W : World), Kept y7 W → Calls Try.prog 19 #[.slice kp m kc, .string k] W fun e w' => e = .returned (.tuple #[.int .i64 (fnd k ks : Nat), .bool true]) ∧ w' = W) := fun W hW => by
                          have a := find_walk (hW.rw N7.k) (by omega) k
                          rwa [hki] at a
                        obtain ⟨ob_, oo, rfl, hoc⟩ := M57.k.some (by omega)
                        obtain ⟨pb, po, rfl, hpc⟩ := M57.v.some (by omega)
                        obtain ⟨nb, no, hvp, hnc⟩ := N7.v.some (by omega)
                        subst hvp
                        have s0 := hoc _ _ (kcl_at hk)
                        obtain ⟨l0, l1, l2⟩ := vcl_at hv2
                        have t0 := hpc _ _ l0
                        have t1 := hpc _ _ l1
                        have t2 := hpc _ _ l2
                        rw [← Nat.add_assoc] at t1 t2
                        obtain ⟨l0, l1, l2⟩ := vcl_at hvn
                        have z0 := hnc _ _ l0
                        have z1 := hnc _ _ l1
                        have z2 := hnc _ _ l2
                        rw [← Nat.add_assoc] at z1 z2
                        clear l0 l1 l2 hnc hpc hoc hk hv2 hvn hki hkne
                        generalize fnd k ks = y at *
                        have hfl' : (y : Int) < (m : Int) := by omega
                        obtain ⟨d, p, ln⟩ := vv
                        have KD : Kept y7 wr.drew := K.drew
                        have HSB : Hid (∀ W, Kept y7 W → W.cell? ⟨b5, 1, none⟩ = some (.slice kp m kc) ∧ W.cell? ⟨b5, 2, none⟩ = some (.slice (some ⟨nb, no, none⟩) m vc) ∧ W.cell? ⟨b14, 1, none⟩ = some (.slice (some ⟨ob_, oo, none⟩) m5 kc5) ∧ W.cell? ⟨b14, 2, none⟩ = some (.slice (some ⟨pb, po, none⟩) m5 vc5) ∧ W.cell? ⟨ob_, oo + i, none⟩ = some (.string k) ∧ W.cell? ⟨pb, po + i * 3, none⟩ = some (.string d) ∧ W.cell? ⟨pb, po + i * 3 + 1, none⟩ = some (.int .i64 p) ∧ W.cell? ⟨pb, po + i * 3 + 2, none⟩ = some (.int .i64 ln) ∧ W.cell? ⟨nb, no + y * 3, none⟩ = some (.string d) ∧ W.cell? ⟨nb, no + y * 3 + 1, none⟩ = some (.int .i64 p) ∧ W.cell? ⟨nb, no + y * 3 + 2, none⟩ = some (.int .i64 ln)) := by
                          intro W hW
                          obtain ⟨_, x1, x2, _⟩ := (X7.kept hW).cs
                          obtain ⟨_, o1, o2, _⟩ := (R7.kept hW).cs
                          exact ⟨x1, x2, o1, o2, hW.cell s0, hW.cell t0, hW.cell t1, hW.cell t2, hW.cell z0, hW.cell z1, hW.cell z2⟩
                        go_wp2_with fail
                        go_region_held3 (fun W => W.cell? ⟨b5, 1, none⟩ = some (.slice kp m kc) ∧ W.cell? ⟨b14, 1, none⟩ = some (.slice (some ⟨ob_, oo, none⟩) m5 kc5) ∧ W.cell? ⟨ob_, oo + i, none⟩ = some (.string k)) (exact ⟨(HSB.out _ (by assumption)).1, (HSB.out _ (by assumption)).2.2.1, (HSB.out _ (by assumption)).2.2.2.2.1⟩) (first
                          | (go_at_call 19
                             (with_reducible refine (HFK.out _ KD).mono ?_)
                             rintro e vq ⟨rfl, hq⟩
                             rw [hq]
                             clear hq))
                        go_wp2_with fail
                        have KDD : Kept y7 wr.drew.drew := KD.drew
                        go_region_held3 (fun W => W.cell? ⟨b5, 1, none⟩ = some (.slice kp m kc) ∧ W.cell? ⟨b5, 2, none⟩ = some (.slice (some ⟨nb, no, none⟩) m vc) ∧ W.cell? ⟨b14, 1, none⟩ = some (.slice (some ⟨ob_, oo, none⟩) m5 kc5) ∧ W.cell? ⟨b14, 2, none⟩ = some (.slice (some ⟨pb, po, none⟩) m5 vc5) ∧ W.cell? ⟨ob_, oo + i, none⟩ = some (.string k) ∧ W.cell? ⟨pb, po + i * 3, none⟩ = some (.string d) ∧ W.cell? ⟨pb, po + i * 3 + 1, none⟩ = some (.int .i64 p) ∧ W.cell? ⟨pb, po + i * 3 + 2, none⟩ = some (.int .i64 ln) ∧ W.cell? ⟨nb, no + y * 3, none⟩ = some (.string d) ∧ W.cell? ⟨nb, no + y * 3 + 1, none⟩ = some (.int .i64 p) ∧ W.cell? ⟨nb, no + y * 3 + 2, none⟩ = some (.int .i64 ln)) (exact HSB.out _ (by assumption)) (fail)
                        go_wp2
                        go_roundg (m5 - (i + 1))
                        case measure => rw [hg.out]; omega
                        case rel => exact ⟨i + 1, by go_num, rfl, by omega, K.drew.drew⟩
                      · obtain rfl : m5 = i := by omega
                        have h1' : ¬ ((m5 : Int) < (m5 : Int)) := by omega
                        go_wp2
                        go_ret
                        exact ⟨rfl, K7.trans K⟩
                  exact AllReadyH.nil
                exact AllReadyH.nil
              exact AllReadyH.nil
            exact AllReadyH.nil
          exact AllReadyH.nil
        exact AllReadyH.nil
      exact AllReadyH.nil
    | true =>
      have hov := HO.out.1 rfl
      have hat := HAT.out rfl
      have hat' : (at_ : Int) < (m : Int) := by omega
      obtain ⟨vb, vo, rfl, hvc⟩ := N6.v.some (by omega)
      obtain ⟨l0, l1, l2⟩ := vcl_at hov
      have n0 := hvc _ _ l0
      have n1 := hvc _ _ l1
      have n2 := hvc _ _ l2
      rw [← Nat.add_assoc] at n1 n2
      clear l0 l1 l2 hvc
      have HSA : Hid (∀ W, Kept W6 W → W.cell? ⟨b5, 0, none⟩ = some (.bool true) ∧ W.cell? ⟨b5, 1, none⟩ = some (.slice kp m kc) ∧ W.cell? ⟨b5, 2, none⟩ = some (.slice (some ⟨vb, vo, none⟩) m vc) ∧ W.cell? ⟨b5, 3, none⟩ = some (.slice none 0 0) ∧ W.cell? ⟨b6, 0, none⟩ = some (.bool true) ∧ W.cell? ⟨b6, 1, none⟩ = some (.slice kp2 m kc2) ∧ W.cell? ⟨b6, 2, none⟩ = some (.slice vp2 m vc2) ∧ W.cell? ⟨b6, 3, none⟩ = some (.slice ip2 0 ic2) ∧ W.cell? ⟨b8, 0, none⟩ = some (.string v.d) ∧ W.cell? ⟨b8, 1, none⟩ = some (.int .i64 v.p) ∧ W.cell? ⟨b8, 2, none⟩ = some (.int .i64 v.l) ∧ W.cell? ⟨b11 + 1, 0, none⟩ = some (.string ov.d) ∧ W.cell? ⟨b11 + 1, 1, none⟩ = some (.int .i64 ov.p) ∧ W.cell? ⟨b11 + 1, 2, none⟩ = some (.int .i64 ov.l) ∧ W.cell? ⟨b14, 0, none⟩ = some (.bool true) ∧ W.cell? ⟨b14, 1, none⟩ = some (.slice kp5 m5 kc5) ∧ W.cell? ⟨b14, 2, none⟩ = some (.slice vp5 m5 vc5) ∧ W.cell? ⟨b14, 3, none⟩ = some (.slice none 0 0) ∧ W.cell? ⟨b14 + 1, 0, none⟩ = some (.string v.d) ∧ W.cell? ⟨b14 + 1, 1, none⟩ = some (.int .i64 v.p) ∧ W.cell? ⟨b14 + 1, 2, none⟩ = some (.int .i64 v.l) ∧ W.cell? ⟨b17, 0, none⟩ = some (.bool true) ∧ W.cell? ⟨b17, 1, none⟩ = some (.slice kp6 m6 kc6) ∧ W.cell? ⟨b17, 2, none⟩ = some (.slice vp6 m6 vc6) ∧ W.cell? ⟨b17, 3, none⟩ = some (.slice none 0 0) ∧ W.cell? ⟨vb, vo + at_ * 3, none⟩ = some (.string ov.d) ∧ W.cell? ⟨vb, vo + at_ * 3 + 1, none⟩ = some (.int .i64 ov.p) ∧ W.cell? ⟨vb, vo + at_ * 3 + 2, none⟩ = some (.int .i64 ov.l)) := by
        intro W hW
        obtain ⟨z0, z1, z2, z3⟩ := (X6.kept hW).cs
        obtain ⟨y0, y1, y2, y3⟩ := (Y6.kept hW).cs
        obtain ⟨u0, u1, u2⟩ := (V6.kept hW).cs
        obtain ⟨q0, q1, q2⟩ := (Q6.kept hW).cs
        obtain ⟨r0, r1, r2, r3⟩ := (R6.kept hW).cs
        obtain ⟨s0, s1, s2⟩ := (S6.kept hW).cs
        obtain ⟨t0, t1, t2, t3⟩ := (T6.kept hW).cs
        exact ⟨z0, z1, z2, z3, y0, y1, y2, y3, u0, u1, u2, q0, q1, q2, r0, r1, r2, r3, s0, s1, s2, t0, t1, t2, t3, hW.cell n0, hW.cell n1, hW.cell n2⟩
      refine wp_region_held_drew (S := (fun W => W.cell? ⟨b5, 0, none⟩ = some (.bool true) ∧ W.cell? ⟨b5, 1, none⟩ = some (.slice kp m kc) ∧ W.cell? ⟨b5, 2, none⟩ = some (.slice (some ⟨vb, vo, none⟩) m vc) ∧ W.cell? ⟨b5, 3, none⟩ = some (.slice none 0 0) ∧ W.cell? ⟨b6, 0, none⟩ = some (.bool true) ∧ W.cell? ⟨b6, 1, none⟩ = some (.slice kp2 m kc2) ∧ W.cell? ⟨b6, 2, none⟩ = some (.slice vp2 m vc2) ∧ W.cell? ⟨b6, 3, none⟩ = some (.slice ip2 0 ic2) ∧ W.cell? ⟨b8, 0, none⟩ = some (.string v.d) ∧ W.cell? ⟨b8, 1, none⟩ = some (.int .i64 v.p) ∧ W.cell? ⟨b8, 2, none⟩ = some (.int .i64 v.l) ∧ W.cell? ⟨b11 + 1, 0, none⟩ = some (.string ov.d) ∧ W.cell? ⟨b11 + 1, 1, none⟩ = some (.int .i64 ov.p) ∧ W.cell? ⟨b11 + 1, 2, none⟩ = some (.int .i64 ov.l) ∧ W.cell? ⟨b14, 0, none⟩ = some (.bool true) ∧ W.cell? ⟨b14, 1, none⟩ = some (.slice kp5 m5 kc5) ∧ W.cell? ⟨b14, 2, none⟩ = some (.slice vp5 m5 vc5) ∧ W.cell? ⟨b14, 3, none⟩ = some (.slice none 0 0) ∧ W.cell? ⟨b14 + 1, 0, none⟩ = some (.string v.d) ∧ W.cell? ⟨b14 + 1, 1, none⟩ = some (.int .i64 v.p) ∧ W.cell? ⟨b14 + 1, 2, none⟩ = some (.int .i64 v.l) ∧ W.cell? ⟨b17, 0, none⟩ = some (.bool true) ∧ W.cell? ⟨b17, 1, none⟩ = some (.slice kp6 m6 kc6) ∧ W.cell? ⟨b17, 2, none⟩ = some (.slice vp6 m6 vc6) ∧ W.cell? ⟨b17, 3, none⟩ = some (.slice none 0 0) ∧ W.cell? ⟨vb, vo + at_ * 3, none⟩ = some (.string ov.d) ∧ W.cell? ⟨vb, vo + at_ * 3 + 1, none⟩ = some (.int .i64 ov.p) ∧ W.cell? ⟨vb, vo + at_ * 3 + 2, none⟩ = some (.int .i64 ov.l))) (by kernel_rfl) ?_ (fun hHeld => ?_)
      · exact HSA.out _ KD
      refine wpAnyH_ready (rs := [0]) (by kernel_rfl) (by simp) ?_
      refine AllReadyH.cons (o := { dst := some 67, op := Go.Op.call { callee := Go.Callee.value (Go.Operand.func 11), args := #[], argTypes := #[] }, type := 4, pos := "law.go:109", after := #[], guard := none }) rfl (fun KK hKK => ?_) ?_
      ·
        go_simp
        go_at_call 11
        (with_reducible refine (awake_walk _).mono ?_)
        rintro e y1 ⟨rfl, j1⟩
        have J1 := KD.trans j1
        go_wp2_with fail
        refine hKK.out _ _ ?_ (fun hHeld => ?_)
        · (try dsimp only)
          exact HSA.out _ (by assumption)
        clear hKK KK
        try simp only [Act.put, List.setIfInBounds_toArray, List.set_cons_zero, List.set_cons_succ]
        refine wpAnyH_take (i := 1) (oi := { dst := some 68, op := Go.Op.unOp Go.UnOp.not 4 (Go.Operand.tmp 67), type := 4, pos := "law.go:109", after := #[{ on := 0, ground := Go.Ground.data }], guard := none }) (v := ?_) rfl (by kernel_rfl) (by kernel_rfl) (by kernel_rfl) (fun _ _ _ h => h) (Or.inl ⟨by rfl, ?_⟩) (by assumption) ?_
        rotate_left
        · intro w hSw
          (try dsimp only at hSw)
          go_simp
          all_goals with_reducible rfl
        try simp only [Act.put, List.setIfInBounds_toArray, List.set_cons_zero, List.set_cons_succ]
        refine wpAnyH_take (i := 2) (oi := { dst := some 69, op := Go.Op.move (Go.Operand.tmp 68), type := 4, pos := "law.go:109", after := #[{ on := 1, ground := Go.Ground.data }, { on := 0, ground := Go.Ground.chain }], guard := none }) (v := ?_) rfl (by kernel_rfl) (by kernel_rfl) (by kernel_rfl) (fun _ _ _ h => h) (Or.inl ⟨by rfl, ?_⟩) (by assumption) ?_
        rotate_left
        · intro w hSw
          (try dsimp only at hSw)
          go_simp
          all_goals with_reducible rfl
        try simp only [Act.put, List.setIfInBounds_toArray, List.set_cons_zero, List.set_cons_succ]
        refine wpAnyH_take (i := 3) (oi := { dst := some 70, op := Go.Op.move (Go.Operand.tmp 13), type := 4, pos := "law.go:109", after := #[{ on := 2, ground := Go.Ground.guard }], guard := some (2, false) }) (v := ?_) rfl (by kernel_rfl) (by kernel_rfl) (by kernel_rfl) (fun _ _ _ h => h) (Or.inl ⟨by rfl, ?_⟩) (by assumption) ?_
        rotate_left
        · intro w hSw
          (try dsimp only at hSw)
          go_simp
          all_goals with_reducible rfl
        try simp only [Act.put, List.setIfInBounds_toArray, List.set_cons_zero, List.set_cons_succ]
        refine wpAnyH_take (i := 4) (oi := { dst := some 71, op := Go.Op.move (Go.Operand.tmp 10), type := 4, pos := "law.go:109", after := #[{ on := 2, ground := Go.Ground.guard }], guard := some (2, false) }) (v := ?_) rfl (by kernel_rfl) (by kernel_rfl) (by kernel_rfl) (fun _ _ _ h => h) (Or.inl ⟨by rfl, ?_⟩) (by assumption) ?_
        rotate_left
        · intro w hSw
          (try dsimp only at hSw)
          go_simp
          all_goals with_reducible rfl
        try simp only [Act.put, List.setIfInBounds_toArray, List.set_cons_zero, List.set_cons_succ]
        refine wpAnyH_take (i := 5) (oi := { dst := some 72, op := Go.Op.binOp Go.BinOp.neq 4 (Go.Operand.tmp 70) (Go.Operand.tmp 71) 4, type := 4, pos := "law.go:109", after := #[{ on := 3, ground := Go.Ground.data }, { on := 4, ground := Go.Ground.data }, { on := 2, ground := Go.Ground.guard }], guard := some (2, false) }) (v := ?_) rfl (by kernel_rfl) (by kernel_rfl) (by kernel_rfl) (fun _ _ _ h => h) (Or.inl ⟨by rfl, ?_⟩) (by assumption) ?_
        rotate_left
        · intro w hSw
          (try dsimp only at hSw)
          go_simp
          all_goals with_reducible rfl
        try simp only [Act.put, List.setIfInBounds_toArray, List.set_cons_zero, List.set_cons_succ]
        refine wpAnyH_take (i := 6) (oi := { dst := some 73, op := Go.Op.pick (Go.Operand.tmp 69) (Go.Operand.const (Go.Value.bool true)) (Go.Operand.tmp 72), type := 4, pos := "law.go:109", after := #[{ on := 2, ground := Go.Ground.data }, { on := 5, ground := Go.Ground.data }], guard := none }) (v := ?_) rfl (by kernel_rfl) (by kernel_rfl) (by kernel_rfl) (fun _ _ _ h => h) (Or.inl ⟨by rfl, ?_⟩) (by assumption) ?_
        rotate_left
        · intro w hSw
          (try dsimp only at hSw)
          go_simp
          all_goals with_reducible rfl
        try simp only [Act.put, List.setIfInBounds_toArray, List.set_cons_zero, List.set_cons_succ]
        refine wpAnyH_take (i := 7) (oi := { dst := some 74, op := Go.Op.move (Go.Operand.tmp 73), type := 4, pos := "law.go:109", after := #[{ on := 6, ground := Go.Ground.data }, { on := 2, ground := Go.Ground.chain }], guard := none }) (v := ?_) rfl (by kernel_rfl) (by kernel_rfl) (by kernel_rfl) (fun _ _ _ h => h) (Or.inl ⟨by rfl, ?_⟩) (by assumption) ?_
        rotate_left
        · intro w hSw
          (try dsimp only at hSw)
          go_simp
          all_goals with_reducible rfl
        try simp only [Act.put, List.setIfInBounds_toArray, List.set_cons_zero, List.set_cons_succ]
        refine wpAnyH_take (i := 8) (oi := { dst := some 75, op := Go.Op.move (Go.Operand.tmp 10), type := 4, pos := "law.go:109", after := #[{ on := 7, ground := Go.Ground.guard }], guard := some (7, false) }) (v := ?_) rfl (by kernel_rfl) (by kernel_rfl) (by kernel_rfl) (fun _ _ _ h => h) (Or.inl ⟨by rfl, ?_⟩) (by assumption) ?_
        rotate_left
        · intro w hSw
          (try dsimp only at hSw)
          go_simp
          all_goals with_reducible rfl
        try simp only [Act.put, List.setIfInBounds_toArray, List.set_cons_zero, List.set_cons_succ]
        refine wpAnyH_take (i := 9) (oi := { dst := some 76, op := Go.Op.move (Go.Operand.tmp 75), type := 4, pos := "law.go:109", after := #[{ on := 8, ground := Go.Ground.data }, { on := 7, ground := Go.Ground.chain }, { on := 7, ground := Go.Ground.guard }], guard := some (7, false) }) (v := ?_) rfl (by kernel_rfl) (by kernel_rfl) (by kernel_rfl) (fun _ _ _ h => h) (Or.inl ⟨by rfl, ?_⟩) (by assumption) ?_
        rotate_left
        · intro w hSw
          (try dsimp only at hSw)
          go_simp
          all_goals with_reducible rfl
        try simp only [Act.put, List.setIfInBounds_toArray, List.set_cons_zero, List.set_cons_succ]
        refine wpAnyH_take (i := 10) (oi := { dst := some 77, op := Go.Op.load 49 (Go.Operand.tmp 12), type := 49, pos := "law.go:109", after := #[{ on := 9, ground := Go.Ground.guard }], guard := some (9, true) }) (v := ?_) rfl (by kernel_rfl) (by kernel_rfl) (by kernel_rfl) (fun _ _ _ h => h) (Or.inl ⟨by rfl, ?_⟩) (by assumption) ?_
        rotate_left
        · intro w hSw
          (try dsimp only at hSw)
          go_simp
          all_goals with_reducible rfl
        try simp only [Act.put, List.setIfInBounds_toArray, List.set_cons_zero, List.set_cons_succ]
        refine wpAnyH_take (i := 11) (oi := { dst := some 78, op := Go.Op.fieldAddr 27 (Go.Operand.tmp 5) 2, type := 0, pos := "law.go:109", after := #[{ on := 9, ground := Go.Ground.guard }], guard := some (9, true) }) (v := ?_) rfl (by kernel_rfl) (by kernel_rfl) (by kernel_rfl) (fun _ _ _ h => h) (Or.inl ⟨by rfl, ?_⟩) (by assumption) ?_
        rotate_left
        · intro w hSw
          (try dsimp only at hSw)
          go_simp
          all_goals with_reducible rfl
        try simp only [Act.put, List.setIfInBounds_toArray, List.set_cons_zero, List.set_cons_succ]
        refine wpAnyH_take (i := 12) (oi := { dst := some 79, op := Go.Op.load 24 (Go.Operand.tmp 78), type := 24, pos := "law.go:109", after := #[{ on := 11, ground := Go.Ground.data }, { on := 9, ground := Go.Ground.guard }], guard := some (9, true) }) (v := ?_) rfl (by kernel_rfl) (by kernel_rfl) (by kernel_rfl) (fun _ _ _ h => h) (Or.inl ⟨by rfl, ?_⟩) (by assumption) ?_
        rotate_left
        · intro w hSw
          (try dsimp only at hSw)
          go_simp
          all_goals with_reducible rfl
        try simp only [Act.put, List.setIfInBounds_toArray, List.set_cons_zero, List.set_cons_succ]
        refine wpAnyH_take (i := 13) (oi := { dst := some 80, op := Go.Op.move (Go.Operand.tmp 9), type := 3, pos := "law.go:109", after := #[{ on := 9, ground := Go.Ground.guard }], guard := some (9, true) }) (v := ?_) rfl (by kernel_rfl) (by kernel_rfl) (by kernel_rfl) (fun _ _ _ h => h) (Or.inl ⟨by rfl, ?_⟩) (by assumption) ?_
        rotate_left
        · intro w hSw
          (try dsimp only at hSw)
          go_simp
          all_goals with_reducible rfl
        try simp only [Act.put, List.setIfInBounds_toArray, List.set_cons_zero, List.set_cons_succ]
        refine wpAnyH_take (i := 14) (oi := { dst := some 81, op := Go.Op.indexAddr 24 (Go.Operand.tmp 79) (Go.Operand.tmp 80), type := 0, pos := "law.go:109", after := #[{ on := 12, ground := Go.Ground.data }, { on := 13, ground := Go.Ground.data }, { on := 9, ground := Go.Ground.guard }], guard := some (9, true) }) (v := ?_) rfl (by kernel_rfl) (by kernel_rfl) (by kernel_rfl) (fun _ _ _ h => h) (Or.inl ⟨by rfl, ?_⟩) (by assumption) ?_
        rotate_left
        · intro w hSw
          (try dsimp only at hSw)
          go_simp
          all_goals with_reducible rfl
        try simp only [Act.put, List.setIfInBounds_toArray, List.set_cons_zero, List.set_cons_succ]
        refine wpAnyH_take (i := 15) (oi := { dst := some 82, op := Go.Op.load 49 (Go.Operand.tmp 81), type := 49, pos := "law.go:109", after := #[{ on := 14, ground := Go.Ground.data }, { on := 9, ground := Go.Ground.guard }], guard := some (9, true) }) (v := ?_) rfl (by kernel_rfl) (by kernel_rfl) (by kernel_rfl) (fun _ _ _ h => h) (Or.inl ⟨by rfl, ?_⟩) (by assumption) ?_
        rotate_left
        · intro w hSw
          (try dsimp only at hSw)
          go_simp
          all_goals with_reducible rfl
        try simp only [Act.put, List.setIfInBounds_toArray, List.set_cons_zero, List.set_cons_succ]
        refine wpAnyH_take (i := 16) (oi := { dst := some 83, op := Go.Op.binOp Go.BinOp.neq 49 (Go.Operand.tmp 77) (Go.Operand.tmp 82) 49, type := 4, pos := "law.go:109", after := #[{ on := 10, ground := Go.Ground.data }, { on := 15, ground := Go.Ground.data }, { on := 9, ground := Go.Ground.guard }], guard := some (9, true) }) (v := ?_) rfl (by kernel_rfl) (by kernel_rfl) (by kernel_rfl) (fun _ _ _ h => h) (Or.inl ⟨by rfl, ?_⟩) (by assumption) ?_
        rotate_left
        · intro w hSw
          (try dsimp only at hSw)
          go_simp
          all_goals with_reducible rfl
        try simp only [Act.put, List.setIfInBounds_toArray, List.set_cons_zero, List.set_cons_succ]
        refine wpAnyH_take (i := 17) (oi := { dst := some 84, op := Go.Op.pick (Go.Operand.tmp 76) (Go.Operand.tmp 83) (Go.Operand.const (Go.Value.bool false)), type := 4, pos := "law.go:109", after := #[{ on := 9, ground := Go.Ground.data }, { on := 16, ground := Go.Ground.data }, { on := 7, ground := Go.Ground.guard }], guard := some (7, false) }) (v := ?_) rfl (by kernel_rfl) (by kernel_rfl) (by kernel_rfl) (fun _ _ _ h => h) (Or.inl ⟨by rfl, ?_⟩) (by assumption) ?_
        rotate_left
        · intro w hSw
          (try dsimp only at hSw)
          go_simp
          all_goals with_reducible rfl
        try simp only [Act.put, List.setIfInBounds_toArray, List.set_cons_zero, List.set_cons_succ]
        refine wpAnyH_take (i := 18) (oi := { dst := some 85, op := Go.Op.pick (Go.Operand.tmp 74) (Go.Operand.const (Go.Value.bool true)) (Go.Operand.tmp 84), type := 4, pos := "law.go:109", after := #[{ on := 7, ground := Go.Ground.data }, { on := 17, ground := Go.Ground.data }], guard := none }) (v := ?_) rfl (by kernel_rfl) (by kernel_rfl) (by kernel_rfl) (fun _ _ _ h => h) (Or.inl ⟨by rfl, ?_⟩) (by assumption) ?_
        rotate_left
        · intro w hSw
          (try dsimp only at hSw)
          go_simp
          all_goals with_reducible rfl
        try simp only [Act.put, List.setIfInBounds_toArray, List.set_cons_zero, List.set_cons_succ]
        refine wpAnyH_take (i := 19) (oi := { dst := some 86, op := Go.Op.move (Go.Operand.tmp 85), type := 4, pos := "law.go:109", after := #[{ on := 18, ground := Go.Ground.data }, { on := 9, ground := Go.Ground.chain }], guard := none }) (v := ?_) rfl (by kernel_rfl) (by kernel_rfl) (by kernel_rfl) (fun _ _ _ h => h) (Or.inl ⟨by rfl, ?_⟩) (by assumption) ?_
        rotate_left
        · intro w hSw
          (try dsimp only at hSw)
          go_simp
          all_goals with_reducible rfl
        try simp only [Act.put, List.setIfInBounds_toArray, List.set_cons_zero, List.set_cons_succ]
        refine wpAnyH_take (i := 20) (oi := { dst := some 87, op := Go.Op.move (Go.Operand.tmp 10), type := 4, pos := "law.go:109", after := #[{ on := 19, ground := Go.Ground.guard }], guard := some (19, false) }) (v := ?_) rfl (by kernel_rfl) (by kernel_rfl) (by kernel_rfl) (fun _ _ _ h => h) (Or.inl ⟨by rfl, ?_⟩) (by assumption) ?_
        rotate_left
        · intro w hSw
          (try dsimp only at hSw)
          go_simp
          all_goals with_reducible rfl
        try simp only [Act.put, List.setIfInBounds_toArray, List.set_cons_zero, List.set_cons_succ]
        refine wpAnyH_take (i := 21) (oi := { dst := some 88, op := Go.Op.unOp Go.UnOp.not 4 (Go.Operand.tmp 87), type := 4, pos := "law.go:109", after := #[{ on := 20, ground := Go.Ground.data }, { on := 19, ground := Go.Ground.guard }], guard := some (19, false) }) (v := ?_) rfl (by kernel_rfl) (by kernel_rfl) (by kernel_rfl) (fun _ _ _ h => h) (Or.inl ⟨by rfl, ?_⟩) (by assumption) ?_
        rotate_left
        · intro w hSw
          (try dsimp only at hSw)
          go_simp
          all_goals with_reducible rfl
        try simp only [Act.put, List.setIfInBounds_toArray, List.set_cons_zero, List.set_cons_succ]
        refine wpAnyH_take (i := 22) (oi := { dst := some 89, op := Go.Op.move (Go.Operand.tmp 88), type := 4, pos := "law.go:109", after := #[{ on := 21, ground := Go.Ground.data }, { on := 19, ground := Go.Ground.chain }, { on := 19, ground := Go.Ground.guard }], guard := some (19, false) }) (v := ?_) rfl (by kernel_rfl) (by kernel_rfl) (by kernel_rfl) (fun _ _ _ h => h) (Or.inl ⟨by rfl, ?_⟩) (by assumption) ?_
        rotate_left
        · intro w hSw
          (try dsimp only at hSw)
          go_simp
          all_goals with_reducible rfl
        try simp only [Act.put, List.setIfInBounds_toArray, List.set_cons_zero, List.set_cons_succ]
        refine wpAnyH_take (i := 23) (oi := { dst := some 90, op := Go.Op.fieldAddr 49 (Go.Operand.tmp 12) 1, type := 0, pos := "law.go:109", after := #[{ on := 22, ground := Go.Ground.guard }], guard := some (22, true) }) (v := undef) rfl (by kernel_rfl) (by kernel_rfl) (by kernel_rfl) (fun _ _ _ h => h) (Or.inr ⟨by rfl, by rfl⟩) (by assumption) ?_
        try simp only [Act.put, List.setIfInBounds_toArray, List.set_cons_zero, List.set_cons_succ]
        refine wpAnyH_take (i := 24) (oi := { dst := some 91, op := Go.Op.load 3 (Go.Operand.tmp 90), type := 3, pos := "law.go:109", after := #[{ on := 23, ground := Go.Ground.data }, { on := 22, ground := Go.Ground.guard }], guard := some (22, true) }) (v := undef) rfl (by kernel_rfl) (by kernel_rfl) (by kernel_rfl) (fun _ _ _ h => h) (Or.inr ⟨by rfl, by rfl⟩) (by assumption) ?_
        try simp only [Act.put, List.setIfInBounds_toArray, List.set_cons_zero, List.set_cons_succ]
        refine wpAnyH_take (i := 25) (oi := { dst := some 92, op := Go.Op.binOp Go.BinOp.neq 3 (Go.Operand.tmp 91) (Go.Operand.const (Go.Value.int Go.IntKind.i64 (-1))) 3, type := 4, pos := "law.go:109", after := #[{ on := 24, ground := Go.Ground.data }, { on := 22, ground := Go.Ground.guard }], guard := some (22, true) }) (v := undef) rfl (by kernel_rfl) (by kernel_rfl) (by kernel_rfl) (fun _ _ _ h => h) (Or.inr ⟨by rfl, by rfl⟩) (by assumption) ?_
        try simp only [Act.put, List.setIfInBounds_toArray, List.set_cons_zero, List.set_cons_succ]
        refine wpAnyH_take (i := 26) (oi := { dst := some 93, op := Go.Op.pick (Go.Operand.tmp 89) (Go.Operand.tmp 92) (Go.Operand.const (Go.Value.bool false)), type := 4, pos := "law.go:109", after := #[{ on := 22, ground := Go.Ground.data }, { on := 25, ground := Go.Ground.data }, { on := 19, ground := Go.Ground.guard }], guard := some (19, false) }) (v := ?_) rfl (by kernel_rfl) (by kernel_rfl) (by kernel_rfl) (fun _ _ _ h => h) (Or.inl ⟨by rfl, ?_⟩) (by assumption) ?_
        rotate_left
        · intro w hSw
          (try dsimp only at hSw)
          go_simp
          all_goals with_reducible rfl
        try simp only [Act.put, List.setIfInBounds_toArray, List.set_cons_zero, List.set_cons_succ]
        refine wpAnyH_take (i := 27) (oi := { dst := some 94, op := Go.Op.pick (Go.Operand.tmp 86) (Go.Operand.const (Go.Value.bool true)) (Go.Operand.tmp 93), type := 4, pos := "law.go:109", after := #[{ on := 19, ground := Go.Ground.data }, { on := 26, ground := Go.Ground.data }], guard := none }) (v := ?_) rfl (by kernel_rfl) (by kernel_rfl) (by kernel_rfl) (fun _ _ _ h => h) (Or.inl ⟨by rfl, ?_⟩) (by assumption) ?_
        rotate_left
        · intro w hSw
          (try dsimp only at hSw)
          go_simp
          all_goals with_reducible rfl
        try simp only [Act.put, List.setIfInBounds_toArray, List.set_cons_zero, List.set_cons_succ]
        refine wpAnyH_take (i := 28) (oi := { dst := some 95, op := Go.Op.move (Go.Operand.tmp 94), type := 4, pos := "law.go:109", after := #[{ on := 27, ground := Go.Ground.data }, { on := 22, ground := Go.Ground.chain }], guard := none }) (v := ?_) rfl (by kernel_rfl) (by kernel_rfl) (by kernel_rfl) (fun _ _ _ h => h) (Or.inl ⟨by rfl, ?_⟩) (by assumption) ?_
        rotate_left
        · intro w hSw
          (try dsimp only at hSw)
          go_simp
          all_goals with_reducible rfl
        try simp only [Act.put, List.setIfInBounds_toArray, List.set_cons_zero, List.set_cons_succ]
        refine wpAnyH_take (i := 29) (oi := { dst := some 96, op := Go.Op.move (Go.Operand.tmp 16), type := 4, pos := "law.go:109", after := #[{ on := 28, ground := Go.Ground.guard }], guard := some (28, false) }) (v := ?_) rfl (by kernel_rfl) (by kernel_rfl) (by kernel_rfl) (fun _ _ _ h => h) (Or.inl ⟨by rfl, ?_⟩) (by assumption) ?_
        rotate_left
        · intro w hSw
          (try dsimp only at hSw)
          go_simp
          all_goals with_reducible rfl
        try simp only [Act.put, List.setIfInBounds_toArray, List.set_cons_zero, List.set_cons_succ]
        refine wpAnyH_take (i := 30) (oi := { dst := some 97, op := Go.Op.unOp Go.UnOp.not 4 (Go.Operand.tmp 96), type := 4, pos := "law.go:109", after := #[{ on := 29, ground := Go.Ground.data }, { on := 28, ground := Go.Ground.guard }], guard := some (28, false) }) (v := ?_) rfl (by kernel_rfl) (by kernel_rfl) (by kernel_rfl) (fun _ _ _ h => h) (Or.inl ⟨by rfl, ?_⟩) (by assumption) ?_
        rotate_left
        · intro w hSw
          (try dsimp only at hSw)
          go_simp
          all_goals with_reducible rfl
        try simp only [Act.put, List.setIfInBounds_toArray, List.set_cons_zero, List.set_cons_succ]
        refine wpAnyH_take (i := 31) (oi := { dst := some 98, op := Go.Op.pick (Go.Operand.tmp 95) (Go.Operand.const (Go.Value.bool true)) (Go.Operand.tmp 97), type := 4, pos := "law.go:109", after := #[{ on := 28, ground := Go.Ground.data }, { on := 30, ground := Go.Ground.data }], guard := none }) (v := ?_) rfl (by kernel_rfl) (by kernel_rfl) (by kernel_rfl) (fun _ _ _ h => h) (Or.inl ⟨by rfl, ?_⟩) (by assumption) ?_
        rotate_left
        · intro w hSw
          (try dsimp only at hSw)
          go_simp
          all_goals with_reducible rfl
        try simp only [Act.put, List.setIfInBounds_toArray, List.set_cons_zero, List.set_cons_succ]
        refine wpAnyH_take (i := 32) (oi := { dst := some 99, op := Go.Op.move (Go.Operand.tmp 98), type := 4, pos := "law.go:109", after := #[{ on := 31, ground := Go.Ground.data }, { on := 28, ground := Go.Ground.chain }], guard := none }) (v := ?_) rfl (by kernel_rfl) (by kernel_rfl) (by kernel_rfl) (fun _ _ _ h => h) (Or.inl ⟨by rfl, ?_⟩) (by assumption) ?_
        rotate_left
        · intro w hSw
          (try dsimp only at hSw)
          go_simp
          all_goals with_reducible rfl
        try simp only [Act.put, List.setIfInBounds_toArray, List.set_cons_zero, List.set_cons_succ]
        refine wpAnyH_take (i := 33) (oi := { dst := some 100, op := Go.Op.load 49 (Go.Operand.tmp 15), type := 49, pos := "law.go:109", after := #[{ on := 32, ground := Go.Ground.guard }], guard := some (32, false) }) (v := ?_) rfl (by kernel_rfl) (by kernel_rfl) (by kernel_rfl) (fun _ _ _ h => h) (Or.inl ⟨by rfl, ?_⟩) (by assumption) ?_
        rotate_left
        · intro w hSw
          (try dsimp only at hSw)
          go_simp
          all_goals with_reducible rfl
        try simp only [Act.put, List.setIfInBounds_toArray, List.set_cons_zero, List.set_cons_succ]
        refine wpAnyH_take (i := 34) (oi := { dst := some 101, op := Go.Op.load 49 (Go.Operand.tmp 8), type := 49, pos := "law.go:109", after := #[{ on := 32, ground := Go.Ground.guard }], guard := some (32, false) }) (v := ?_) rfl (by kernel_rfl) (by kernel_rfl) (by kernel_rfl) (fun _ _ _ h => h) (Or.inl ⟨by rfl, ?_⟩) (by assumption) ?_
        rotate_left
        · intro w hSw
          (try dsimp only at hSw)
          go_simp
          all_goals with_reducible rfl
        try simp only [Act.put, List.setIfInBounds_toArray, List.set_cons_zero, List.set_cons_succ]
        refine wpAnyH_take (i := 35) (oi := { dst := some 102, op := Go.Op.binOp Go.BinOp.neq 49 (Go.Operand.tmp 100) (Go.Operand.tmp 101) 49, type := 4, pos := "law.go:109", after := #[{ on := 33, ground := Go.Ground.data }, { on := 34, ground := Go.Ground.data }, { on := 32, ground := Go.Ground.guard }], guard := some (32, false) }) (v := ?_) rfl (by kernel_rfl) (by kernel_rfl) (by kernel_rfl) (fun _ _ _ h => h) (Or.inl ⟨by rfl, ?_⟩) (by assumption) ?_
        rotate_left
        · intro w hSw
          (try dsimp only at hSw)
          go_simp
          all_goals with_reducible rfl
        try simp only [Act.put, List.setIfInBounds_toArray, List.set_cons_zero, List.set_cons_succ]
        refine wpAnyH_take (i := 36) (oi := { dst := some 103, op := Go.Op.pick (Go.Operand.tmp 99) (Go.Operand.const (Go.Value.bool true)) (Go.Operand.tmp 102), type := 4, pos := "law.go:109", after := #[{ on := 32, ground := Go.Ground.data }, { on := 35, ground := Go.Ground.data }], guard := none }) (v := ?_) rfl (by kernel_rfl) (by kernel_rfl) (by kernel_rfl) (fun _ _ _ h => h) (Or.inl ⟨by rfl, ?_⟩) (by assumption) ?_
        rotate_left
        · intro w hSw
          (try dsimp only at hSw)
          go_simp
          all_goals with_reducible rfl
        try simp only [Act.put, List.setIfInBounds_toArray, List.set_cons_zero, List.set_cons_succ]
        refine wpAnyH_take (i := 37) (oi := { dst := some 104, op := Go.Op.move (Go.Operand.tmp 103), type := 4, pos := "law.go:109", after := #[{ on := 36, ground := Go.Ground.data }, { on := 32, ground := Go.Ground.chain }], guard := none }) (v := ?_) rfl (by kernel_rfl) (by kernel_rfl) (by kernel_rfl) (fun _ _ _ h => h) (Or.inl ⟨by rfl, ?_⟩) (by assumption) ?_
        rotate_left
        · intro w hSw
          (try dsimp only at hSw)
          go_simp
          all_goals with_reducible rfl
        try simp only [Act.put, List.setIfInBounds_toArray, List.set_cons_zero, List.set_cons_succ]
        refine wpAnyH_take (i := 38) (oi := { dst := some 105, op := Go.Op.move (Go.Operand.tmp 19), type := 4, pos := "law.go:109", after := #[{ on := 37, ground := Go.Ground.guard }], guard := some (37, false) }) (v := ?_) rfl (by kernel_rfl) (by kernel_rfl) (by kernel_rfl) (fun _ _ _ h => h) (Or.inl ⟨by rfl, ?_⟩) (by assumption) ?_
        rotate_left
        · intro w hSw
          (try dsimp only at hSw)
          go_simp
          all_goals with_reducible rfl
        try simp only [Act.put, List.setIfInBounds_toArray, List.set_cons_zero, List.set_cons_succ]
        refine wpAnyH_take (i := 39) (oi := { dst := some 106, op := Go.Op.pick (Go.Operand.tmp 104) (Go.Operand.const (Go.Value.bool true)) (Go.Operand.tmp 105), type := 4, pos := "law.go:109", after := #[{ on := 37, ground := Go.Ground.data }, { on := 38, ground := Go.Ground.data }], guard := none }) (v := ?_) rfl (by kernel_rfl) (by kernel_rfl) (by kernel_rfl) (fun _ _ _ h => h) (Or.inl ⟨by rfl, ?_⟩) (by assumption) ?_
        rotate_left
        · intro w hSw
          (try dsimp only at hSw)
          go_simp
          all_goals with_reducible rfl
        try simp only [Act.put, List.setIfInBounds_toArray, List.set_cons_zero, List.set_cons_succ]
        refine wpAnyH_take (i := 40) (oi := { dst := some 107, op := Go.Op.move (Go.Operand.tmp 106), type := 4, pos := "law.go:109", after := #[{ on := 39, ground := Go.Ground.data }, { on := 37, ground := Go.Ground.chain }], guard := none }) (v := ?_) rfl (by kernel_rfl) (by kernel_rfl) (by kernel_rfl) (fun _ _ _ h => h) (Or.inl ⟨by rfl, ?_⟩) (by assumption) ?_
        rotate_left
        · intro w hSw
          (try dsimp only at hSw)
          go_simp
          all_goals with_reducible rfl
        try simp only [Act.put, List.setIfInBounds_toArray, List.set_cons_zero, List.set_cons_succ]
        refine wpAnyH_take (i := 41) (oi := { dst := some 108, op := Go.Op.load 27 (Go.Operand.tmp 17), type := 27, pos := "law.go:109", after := #[{ on := 40, ground := Go.Ground.guard }], guard := some (40, false) }) (v := ?_) rfl (by kernel_rfl) (by kernel_rfl) (by kernel_rfl) (fun _ _ _ h => h) (Or.inl ⟨by rfl, ?_⟩) (by assumption) ?_
        rotate_left
        · intro w hSw
          (try dsimp only at hSw)
          go_simp
          all_goals with_reducible rfl
        try simp only [Act.put, List.setIfInBounds_toArray, List.set_cons_zero, List.set_cons_succ]
        refine wpAnyH_take (i := 43) (oi := { dst := some 110, op := Go.Op.load 27 (Go.Operand.tmp 14), type := 27, pos := "law.go:109", after := #[{ on := 40, ground := Go.Ground.guard }], guard := some (40, false) }) (v := ?_) rfl (by kernel_rfl) (by kernel_rfl) (by kernel_rfl) (fun _ _ _ h => h) (Or.inl ⟨by rfl, ?_⟩) (by assumption) ?_
        rotate_left
        · intro w hSw
          (try dsimp only at hSw)
          go_simp
          all_goals with_reducible rfl
        try simp only [Act.put, List.setIfInBounds_toArray, List.set_cons_zero, List.set_cons_succ]
        refine wpAnyH_ready (rs := [42]) (by kernel_rfl) (by simp) ?_
        refine AllReadyH.cons (o := { dst := some 109, op := Go.Op.call { callee := Go.Callee.value (Go.Operand.func 13), args := #[Go.Operand.tmp 108], argTypes := #[27] }, type := 37, pos := "law.go:109", after := #[{ on := 41, ground := Go.Ground.data }, { on := 40, ground := Go.Ground.chain }, { on := 40, ground := Go.Ground.guard }], guard := some (40, false) }) rfl (fun KK hKK => ?_) ?_
        ·
          go_simp
          go_at_call 13
          (with_reducible refine (HREF.out _ _ _ _ _ _ _ _ _ _ _ _ (M6.kept J1) h6).mono ?_)
          rintro e y2 ⟨vpa, vca, rfl, Da, j2⟩
          have J2 := J1.trans j2
          go_wp2_with fail
          refine hKK.out _ _ ?_ (fun hHeld => ?_)
          · (try dsimp only)
            exact HSA.out _ (by assumption)
          clear hKK KK
          try simp only [Act.put, List.setIfInBounds_toArray, List.set_cons_zero, List.set_cons_succ]
          refine wpAnyH_ready (rs := [44]) (by kernel_rfl) (by simp) ?_
          refine AllReadyH.cons (o := { dst := some 111, op := Go.Op.call { callee := Go.Callee.value (Go.Operand.func 13), args := #[Go.Operand.tmp 110], argTypes := #[27] }, type := 37, pos := "law.go:109", after := #[{ on := 43, ground := Go.Ground.data }, { on := 42, ground := Go.Ground.chain }, { on := 40, ground := Go.Ground.guard }], guard := some (40, false) }) rfl (fun KK hKK => ?_) ?_
          ·
            go_simp
            go_at_call 13
            (with_reducible refine (HREF.out _ _ _ _ _ _ _ _ _ _ _ _ (M56.kept J2) h5).mono ?_)
            rintro e y3 ⟨vpb, vcb, rfl, Db, j3⟩
            have J3 := J2.trans j3
            go_wp2_with fail
            refine hKK.out _ _ ?_ (fun hHeld => ?_)
            · (try dsimp only)
              exact HSA.out _ (by assumption)
            clear hKK KK
            try simp only [Act.put, List.setIfInBounds_toArray, List.set_cons_zero, List.set_cons_succ]
            refine wpAnyH_ready (rs := [45]) (by kernel_rfl) (by simp) ?_
            refine AllReadyH.cons (o := { dst := some 112, op := Go.Op.call { callee := Go.Callee.value (Go.Operand.func 14), args := #[Go.Operand.tmp 109, Go.Operand.tmp 111], argTypes := #[37, 37] }, type := 4, pos := "law.go:109", after := #[{ on := 42, ground := Go.Ground.data }, { on := 44, ground := Go.Ground.data }, { on := 44, ground := Go.Ground.chain }, { on := 40, ground := Go.Ground.guard }], guard := some (40, false) }) rfl (fun KK hKK => ?_) ?_
            ·
              go_simp
              go_at_call 14
              (with_reducible refine (same_true (Da.kept j3) Db h6 h6 (by omega)).mono ?_)
              rintro e y4 ⟨rfl, j4⟩
              have J4 := J3.trans j4
              go_wp2_with fail
              refine hKK.out _ _ ?_ (fun hHeld => ?_)
              · (try dsimp only)
                exact HSA.out _ (by assumption)
              clear hKK KK
              try simp only [Act.put, List.setIfInBounds_toArray, List.set_cons_zero, List.set_cons_succ]
              refine wpAnyH_take (i := 46) (oi := { dst := some 113, op := Go.Op.unOp Go.UnOp.not 4 (Go.Operand.tmp 112), type := 4, pos := "law.go:109", after := #[{ on := 45, ground := Go.Ground.data }, { on := 40, ground := Go.Ground.guard }], guard := some (40, false) }) (v := ?_) rfl (by kernel_rfl) (by kernel_rfl) (by kernel_rfl) (fun _ _ _ h => h) (Or.inl ⟨by rfl, ?_⟩) (by assumption) ?_
              rotate_left
              · intro w hSw
                (try dsimp only at hSw)
                go_simp
                all_goals with_reducible rfl
              try simp only [Act.put, List.setIfInBounds_toArray, List.set_cons_zero, List.set_cons_succ]
              refine wpAnyH_take (i := 47) (oi := { dst := some 114, op := Go.Op.pick (Go.Operand.tmp 107) (Go.Operand.const (Go.Value.bool true)) (Go.Operand.tmp 113), type := 4, pos := "law.go:109", after := #[{ on := 40, ground := Go.Ground.data }, { on := 46, ground := Go.Ground.data }], guard := none }) (v := ?_) rfl (by kernel_rfl) (by kernel_rfl) (by kernel_rfl) (fun _ _ _ h => h) (Or.inl ⟨by rfl, ?_⟩) (by assumption) ?_
              rotate_left
              · intro w hSw
                (try dsimp only at hSw)
                go_simp
                all_goals with_reducible rfl
              try simp only [Act.put, List.setIfInBounds_toArray, List.set_cons_zero, List.set_cons_succ]
              refine wpAnyH_take (i := 48) (oi := { dst := some 115, op := Go.Op.move (Go.Operand.tmp 114), type := 4, pos := "law.go:109", after := #[{ on := 47, ground := Go.Ground.data }, { on := 45, ground := Go.Ground.chain }], guard := none }) (v := ?_) rfl (by kernel_rfl) (by kernel_rfl) (by kernel_rfl) (fun _ _ _ h => h) (Or.inl ⟨by rfl, ?_⟩) (by assumption) ?_
              rotate_left
              · intro w hSw
                (try dsimp only at hSw)
                go_simp
                all_goals with_reducible rfl
              try simp only [Act.put, List.setIfInBounds_toArray, List.set_cons_zero, List.set_cons_succ]
              refine wpAnyH_take (i := 49) (oi := { dst := some 116, op := Go.Op.load 27 (Go.Operand.tmp 6), type := 27, pos := "law.go:109", after := #[{ on := 48, ground := Go.Ground.guard }], guard := some (48, false) }) (v := ?_) rfl (by kernel_rfl) (by kernel_rfl) (by kernel_rfl) (fun _ _ _ h => h) (Or.inl ⟨by rfl, ?_⟩) (by assumption) ?_
              rotate_left
              · intro w hSw
                (try dsimp only at hSw)
                go_simp
                all_goals with_reducible rfl
              try simp only [Act.put, List.setIfInBounds_toArray, List.set_cons_zero, List.set_cons_succ]
              refine wpAnyH_take (i := 51) (oi := { dst := some 118, op := Go.Op.load 27 (Go.Operand.tmp 5), type := 27, pos := "law.go:109", after := #[{ on := 48, ground := Go.Ground.guard }], guard := some (48, false) }) (v := ?_) rfl (by kernel_rfl) (by kernel_rfl) (by kernel_rfl) (fun _ _ _ h => h) (Or.inl ⟨by rfl, ?_⟩) (by assumption) ?_
              rotate_left
              · intro w hSw
                (try dsimp only at hSw)
                go_simp
                all_goals with_reducible rfl
              try simp only [Act.put, List.setIfInBounds_toArray, List.set_cons_zero, List.set_cons_succ]
              refine wpAnyH_ready (rs := [50]) (by kernel_rfl) (by simp) ?_
              refine AllReadyH.cons (o := { dst := some 117, op := Go.Op.call { callee := Go.Callee.value (Go.Operand.func 13), args := #[Go.Operand.tmp 116], argTypes := #[27] }, type := 37, pos := "law.go:109", after := #[{ on := 49, ground := Go.Ground.data }, { on := 48, ground := Go.Ground.chain }, { on := 48, ground := Go.Ground.guard }], guard := some (48, false) }) rfl (fun KK hKK => ?_) ?_
              ·
                go_simp
                go_at_call 13
                (with_reducible refine (HREF.out _ _ _ _ _ _ _ _ _ _ _ _ (C6_.kept J4) hmm).mono ?_)
                rintro e y5 ⟨vpc, vcc, rfl, Dc, j5⟩
                have J5 := J4.trans j5
                go_wp2_with fail
                refine hKK.out _ _ ?_ (fun hHeld => ?_)
                · (try dsimp only)
                  exact HSA.out _ (by assumption)
                clear hKK KK
                try simp only [Act.put, List.setIfInBounds_toArray, List.set_cons_zero, List.set_cons_succ]
                refine wpAnyH_ready (rs := [52]) (by kernel_rfl) (by simp) ?_
                refine AllReadyH.cons (o := { dst := some 119, op := Go.Op.call { callee := Go.Callee.value (Go.Operand.func 13), args := #[Go.Operand.tmp 118], argTypes := #[27] }, type := 37, pos := "law.go:109", after := #[{ on := 51, ground := Go.Ground.data }, { on := 50, ground := Go.Ground.chain }, { on := 48, ground := Go.Ground.guard }], guard := some (48, false) }) rfl (fun KK hKK => ?_) ?_
                ·
                  go_simp
                  go_at_call 13
                  (with_reducible refine (HREF.out _ _ _ _ _ _ _ _ _ _ _ _ (N6.kept J5) hmm).mono ?_)
                  rintro e y6 ⟨vpd, vcd, rfl, Dd, j6⟩
                  have J6 := J5.trans j6
                  go_wp2_with fail
                  refine hKK.out _ _ ?_ (fun hHeld => ?_)
                  · (try dsimp only)
                    exact HSA.out _ (by assumption)
                  clear hKK KK
                  try simp only [Act.put, List.setIfInBounds_toArray, List.set_cons_zero, List.set_cons_succ]
                  refine wpAnyH_ready (rs := [53]) (by kernel_rfl) (by simp) ?_
                  refine AllReadyH.cons (o := { dst := some 120, op := Go.Op.call { callee := Go.Callee.value (Go.Operand.func 14), args := #[Go.Operand.tmp 117, Go.Operand.tmp 119], argTypes := #[37, 37] }, type := 4, pos := "law.go:109", after := #[{ on := 50, ground := Go.Ground.data }, { on := 52, ground := Go.Ground.data }, { on := 52, ground := Go.Ground.chain }, { on := 48, ground := Go.Ground.guard }], guard := some (48, false) }) rfl (fun KK hKK => ?_) ?_
                  ·
                    go_simp
                    go_at_call 14
                    (with_reducible refine (same_true (Dc.kept j6) Dd hmm hmm (by omega)).mono ?_)
                    rintro e y7 ⟨rfl, j7⟩
                    have J7 := J6.trans j7
                    go_wp2_with fail
                    refine hKK.out _ _ ?_ (fun hHeld => ?_)
                    · (try dsimp only)
                      exact HSA.out _ (by assumption)
                    clear hKK KK
                    try simp only [Act.put, List.setIfInBounds_toArray, List.set_cons_zero, List.set_cons_succ]
                    refine wpAnyH_take (i := 54) (oi := { dst := some 121, op := Go.Op.unOp Go.UnOp.not 4 (Go.Operand.tmp 120), type := 4, pos := "law.go:109", after := #[{ on := 53, ground := Go.Ground.data }, { on := 48, ground := Go.Ground.guard }], guard := some (48, false) }) (v := ?_) rfl (by kernel_rfl) (by kernel_rfl) (by kernel_rfl) (fun _ _ _ h => h) (Or.inl ⟨by rfl, ?_⟩) (by assumption) ?_
                    rotate_left
                    · intro w hSw
                      (try dsimp only at hSw)
                      go_simp
                      all_goals with_reducible rfl
                    try simp only [Act.put, List.setIfInBounds_toArray, List.set_cons_zero, List.set_cons_succ]
                    refine wpAnyH_take (i := 55) (oi := { dst := some 122, op := Go.Op.pick (Go.Operand.tmp 115) (Go.Operand.const (Go.Value.bool true)) (Go.Operand.tmp 121), type := 4, pos := "law.go:109", after := #[{ on := 48, ground := Go.Ground.data }, { on := 54, ground := Go.Ground.data }], guard := none }) (v := ?_) rfl (by kernel_rfl) (by kernel_rfl) (by kernel_rfl) (fun _ _ _ h => h) (Or.inl ⟨by rfl, ?_⟩) (by assumption) ?_
                    rotate_left
                    · intro w hSw
                      (try dsimp only at hSw)
                      go_simp
                      all_goals with_reducible rfl
                    try simp only [Act.put, List.setIfInBounds_toArray, List.set_cons_zero, List.set_cons_succ]
                    refine wpAnyH_done (by kernel_rfl) ?_ _
                    have P7 := P6.kept J7
                    have R7 := R6.kept J7
                    have X7 := X6.kept J7
                    have V7 := V6.kept J7
                    have N7 := N6.kept J7
                    have M47 := M46.kept J7
                    have M57 := M56.kept J7
                    have K7 := K6.trans J7
                    clear HSA P6 R6 X6 V6 N6 M46 M56 K6 C6_ Y6 Q6 S6 T6 M6 Da Db Dc Dd j1 j2 j3 j4 j5 j6 j7 J1 J2 J3 J4 J5 J6 KD HREF HO HAT hHeld J7 hov h6
                    obtain ⟨q0, q1, q2, q3⟩ := P7.cs
                    have hm4 : ks1.length = m4 := M47.nk
                    have hm5 : ks2.length = m5 := M57.nk
                    have hmv : vs1.length = m4 := M47.nv
                    have hlt4 : at_ < m4 := by have := HPOS.out; omega
                    have hlt4' : (at_ : Int) < (m4 : Int) := by omega
                    have u45 : IntKind.i64.wrap ((m4 : Int) - 1) = (m5 : Int) := by rw [IntKind.wrap_i64]; have := HM5.out; have := HM4.out; omega
                    obtain ⟨mb, mo, rfl, hmc⟩ := M47.v.some (by omega)
                    obtain ⟨l0, l1, l2⟩ := vcl_at HE3.out
                    have n0 := hmc _ _ l0
                    have n1 := hmc _ _ l1
                    have n2 := hmc _ _ l2
                    rw [← Nat.add_assoc] at n1 n2
                    clear l0 l1 l2 hmc hm4 hmv
                    go_wp2_with (first
                      | (go_at_call 19
                         (with_reducible refine (HF2.out _ _ _ _ M47.k).mono ?_)
                         rintro e vz ⟨rfl, hz⟩
                         rw [hz]
                         clear hz))
                    have KD7 : Kept y7 y7.drew := (Kept.refl y7).drew
                    have HS7 : Hid (∀ W, Kept y7 W → W.cell? ⟨b11, 1, none⟩ = some (.slice kp4 m4 kc4) ∧ W.cell? ⟨b11, 2, none⟩ = some (.slice (some ⟨mb, mo, none⟩) m4 vc4) ∧ W.cell? ⟨b8, 0, none⟩ = some (.string v.d) ∧ W.cell? ⟨b8, 1, none⟩ = some (.int .i64 v.p) ∧ W.cell? ⟨b8, 2, none⟩ = some (.int .i64 v.l) ∧ W.cell? ⟨b14, 1, none⟩ = some (.slice kp5 m5 kc5) ∧ W.cell? ⟨mb, mo + at_ * 3, none⟩ = some (.string v.d) ∧ W.cell? ⟨mb, mo + at_ * 3 + 1, none⟩ = some (.int .i64 v.p) ∧ W.cell? ⟨mb, mo + at_ * 3 + 2, none⟩ = some (.int .i64 v.l)) := by
                      intro W hW
                      obtain ⟨_, z1, z2, _⟩ := (P7.kept hW).cs
                      obtain ⟨u0, u1, u2⟩ := (V7.kept hW).cs
                      obtain ⟨_, r1, _, _⟩ := (R7.kept hW).cs
                      exact ⟨z1, z2, u0, u1, u2, r1, hW.cell n0, hW.cell n1, hW.cell n2⟩
                    go_region_held3 (fun W => W.cell? ⟨b11, 1, none⟩ = some (.slice kp4 m4 kc4) ∧ W.cell? ⟨b11, 2, none⟩ = some (.slice (some ⟨mb, mo, none⟩) m4 vc4) ∧ W.cell? ⟨b8, 0, none⟩ = some (.string v.d) ∧ W.cell? ⟨b8, 1, none⟩ = some (.int .i64 v.p) ∧ W.cell? ⟨b8, 2, none⟩ = some (.int .i64 v.l) ∧ W.cell? ⟨b14, 1, none⟩ = some (.slice kp5 m5 kc5) ∧ W.cell? ⟨mb, mo + at_ * 3, none⟩ = some (.string v.d) ∧ W.cell? ⟨mb, mo + at_ * 3 + 1, none⟩ = some (.int .i64 v.p) ∧ W.cell? ⟨mb, mo + at_ * 3 + 2, none⟩ = some (.int .i64 v.l)) (exact HS7.out _ (by assumption)) (fail)
                    go_wp2
                    clear HS7 n0 n1 n2 q0 q1 q2 q3 P7 V7 M47 HF2 u45 HPOS HE3 KD7
                    go_loopg [22] m5 (fun gg vv wx => ∃ i : Nat, vv = .int .i64 (i : Nat) ∧ Hid (gg = m5 - i) ∧ i ≤ m5 ∧ Kept y7 wx)
                    case atStart => exact ⟨0, rfl, rfl, Nat.zero_le _, (Kept.refl y7).drew⟩
                    case round =>
                      obtain ⟨i, rfl, hg, hin, K⟩ := hrel
                      obtain ⟨r0, r1, r2, r3⟩ := (R7.kept K).cs
                      by_cases h1 : i < m5
                      · have h1' : (i : Int) < (m5 : Int) := by omega
                        obtain ⟨k, hk⟩ : ∃ k, ks2[i]? = some k := ⟨_, List.getElem?_eq_getElem (by rw [hm5]; exact h1)⟩
                        obtain ⟨hkne, hki, vv, hv2, hvn⟩ := HR.out.each i k hk
                        have hke : (k.toList == key.toList) = false := by rw [seq_iff]; simp [hkne]
                        have hfl : fnd k ks < m := by have := isk_lt hki; have a : ks.length = m := N7.nk; omega
                        have HFK : Hid (∀ (W : World), Kept y7 W → Calls Try.prog 19 #[.slice kp m kc, .string k] W fun e w' => e = .returned (.tuple #[.int .i64 (fnd k ks : Nat), .bool true]) ∧ w' = W) := fun W hW => by
                          have a := find_walk (hW.rw N7.k) (by omega) k
                          rwa [hki] at a
                        obtain ⟨ob_, oo, rfl, hoc⟩ := M57.k.some (by omega)
                        obtain ⟨pb, po, rfl, hpc⟩ := M57.v.some (by omega)
                        obtain ⟨nb, no, hvp, hnc⟩ := N7.v.some (by omega)
                        injection hvp with hvp; injection hvp with e1 e2; subst e1; subst e2
                        have s0 := hoc _ _ (kcl_at hk)
                        obtain ⟨l0, l1, l2⟩ := vcl_at hv2
                        have t0 := hpc _ _ l0
                        have t1 := hpc _ _ l1
                        have t2 := hpc _ _ l2
                        rw [← Nat.add_assoc] at t1 t2
                        obtain ⟨l0, l1, l2⟩ := vcl_at hvn
                        have z0 := hnc _ _ l0
                        have z1 := hnc _ _ l1
                        have z2 := hnc _ _ l2
                        rw [← Nat.add_assoc] at z1 z2
                        clear l0 l1 l2 hnc hpc hoc hk hv2 hvn hki hkne
                        generalize fnd k ks = y at *
                        have hfl' : (y : Int) < (m : Int) := by omega
                        obtain ⟨d, p, ln⟩ := vv
                        have KD : Kept y7 wr.drew := K.drew
                        have HSB : Hid (∀ W, Kept y7 W → W.cell? ⟨b5, 1, none⟩ = some (.slice kp m kc) ∧ W.cell? ⟨b5, 2, none⟩ = some (.slice (some ⟨vb, vo, none⟩) m vc) ∧ W.cell? ⟨b14, 1, none⟩ = some (.slice (some ⟨ob_, oo, none⟩) m5 kc5) ∧ W.cell? ⟨b14, 2, none⟩ = some (.slice (some ⟨pb, po, none⟩) m5 vc5) ∧ W.cell? ⟨ob_, oo + i, none⟩ = some (.string k) ∧ W.cell? ⟨pb, po + i * 3, none⟩ = some (.string d) ∧ W.cell? ⟨pb, po + i * 3 + 1, none⟩ = some (.int .i64 p) ∧ W.cell? ⟨pb, po + i * 3 + 2, none⟩ = some (.int .i64 ln) ∧ W.cell? ⟨vb, vo + y * 3, none⟩ = some (.string d) ∧ W.cell? ⟨vb, vo + y * 3 + 1, none⟩ = some (.int .i64 p) ∧ W.cell? ⟨vb, vo + y * 3 + 2, none⟩ = some (.int .i64 ln)) := by
                          intro W hW
                          obtain ⟨_, x1, x2, _⟩ := (X7.kept hW).cs
                          obtain ⟨_, o1, o2, _⟩ := (R7.kept hW).cs
                          exact ⟨x1, x2, o1, o2, hW.cell s0, hW.cell t0, hW.cell t1, hW.cell t2, hW.cell z0, hW.cell z1, hW.cell z2⟩
                        go_wp2_with fail
                        go_region_held3 (fun W => W.cell? ⟨b5, 1, none⟩ = some (.slice kp m kc) ∧ W.cell? ⟨b14, 1, none⟩ = some (.slice (some ⟨ob_, oo, none⟩) m5 kc5) ∧ W.cell? ⟨ob_, oo + i, none⟩ = some (.string k)) (exact ⟨(HSB.out _ (by assumption)).1, (HSB.out _ (by assumption)).2.2.1, (HSB.out _ (by assumption)).2.2.2.2.1⟩) (first
                          | (go_at_call 19
                             (with_reducible refine (HFK.out _ KD).mono ?_)
                             rintro e vq ⟨rfl, hq⟩
                             rw [hq]
                             clear hq))
                        go_wp2_with fail
                        have KDD : Kept y7 wr.drew.drew := KD.drew
                        go_region_held3 (fun W => W.cell? ⟨b5, 1, none⟩ = some (.slice kp m kc) ∧ W.cell? ⟨b5, 2, none⟩ = some (.slice (some ⟨vb, vo, none⟩) m vc) ∧ W.cell? ⟨b14, 1, none⟩ = some (.slice (some ⟨ob_, oo, none⟩) m5 kc5) ∧ W.cell? ⟨b14, 2, none⟩ = some (.slice (some ⟨pb, po, none⟩) m5 vc5) ∧ W.cell? ⟨ob_, oo + i, none⟩ = some (.string k) ∧ W.cell? ⟨pb, po + i * 3, none⟩ = some (.string d) ∧ W.cell? ⟨pb, po + i * 3 + 1, none⟩ = some (.int .i64 p) ∧ W.cell? ⟨pb, po + i * 3 + 2, none⟩ = some (.int .i64 ln) ∧ W.cell? ⟨vb, vo + y * 3, none⟩ = some (.string d) ∧ W.cell? ⟨vb, vo + y * 3 + 1, none⟩ = some (.int .i64 p) ∧ W.cell? ⟨vb, vo + y * 3 + 2, none⟩ = some (.int .i64 ln)) (exact HSB.out _ (by assumption)) (fail)
                        go_wp2
                        go_roundg (m5 - (i + 1))
                        case measure => rw [hg.out]; omega
                        case rel => exact ⟨i + 1, by go_num, rfl, by omega, K.drew.drew⟩
                      · obtain rfl : m5 = i := by omega
                        have h1' : ¬ ((m5 : Int) < (m5 : Int)) := by omega
                        go_wp2
                        go_ret
                        exact ⟨rfl, K7.trans K⟩
                  exact AllReadyH.nil
                exact AllReadyH.nil
              exact AllReadyH.nil
            exact AllReadyH.nil
          exact AllReadyH.nil
        exact AllReadyH.nil
      exact AllReadyH.nil
end Go.Proofs.Ytgcfollelefmcaa
