/- The walk of the law on Part, where the node is too great. Conditions: the list is in memory. -/
import Derived.Test.YtgcfollelefmcaaPG
import Derived.Deep.CutRange
namespace Go.Proofs.Ytgcfollelefmcaa
open Go.ChangeShapes Go.WideShapes Go.ChangeAt Go.RowKit

theorem fst_kind (x : Nd) (m : Nat) : (x.fst m).leaf = x.leaf := by
  unfold Nd.fst
  cases h : x.leaf <;> rfl
theorem fst_many {x : Nd} {m : Nat} (hm : m < x.ks.length) : (x.fst m).ks.length = m := by
  cases hl : x.leaf with
  | true => rw [fst_leaf hl]; show (x.ks.take m).length = m; rw [List.length_take]; omega
  | false => rw [fst_inner hl]; show (x.ks.take m).length = m; rw [List.length_take]; omega
theorem snd_many_leaf {x : Nd} {m : Nat} (hl : x.leaf = true) : (x.snd m).ks.length = x.ks.length - m := by
  rw [snd_leaf hl]; exact List.length_drop
theorem snd_many_inner {x : Nd} {m : Nat} (hl : x.leaf = false) : (x.snd m).ks.length = x.ks.length - (m + 1) := by
  rw [snd_inner hl]; exact List.length_drop
theorem join_back {w : World} {l : Bool} {kpA : Option Addr} {nkA kcA : Nat} {vpA : Option Addr} {nvA vcA : Nat} {ipA : Option Addr} {niA icA : Nat} {kpB : Option Addr} {nkB kcB : Nat} {vpB : Option Addr} {nvB vcB : Nat} {ipB : Option Addr} {niB icB : Nat} {x : Nd} {m : Nat} {key : ByteArray} (ha : NZ w l kpA nkA kcA vpA nvA vcA ipA niA icA (x.fst m)) (hb : NZ w l kpB nkB kcB vpB nvB vcB ipB niB icB (x.snd m)) (g : Good x) (hm : m < x.ks.length) (hk : x.ks[m]? = some key) :
    Calls Try.prog 24 #[.agg #[.bool l, .slice kpA nkA kcA, .slice vpA nvA vcA, .slice ipA niA icA], .string key, .agg #[.bool l, .slice kpB nkB kcB, .slice vpB nvB vcB, .slice ipB niB icB]] w fun e w' => ∃ kp nk kc vp nv vc ip ni ic, e = .returned (.agg #[.bool l, .slice kp nk kc, .slice vp nv vc, .slice ip ni ic]) ∧ NV w' l kp nk kc vp nv vc ip ni ic x ∧ Kept w w' := by
  have fa := ha.nv.few (fst_good g hm)
  have fb := hb.nv.few (snd_good g hm)
  have hl := ha.nv.hl
  rw [fst_kind] at hl
  cases l with
  | true =>
    refine (join_true ha hb key fa.1 fb.1 fa.2.1 fb.2.1).mono ?_
    rintro e w' ⟨kp, nk, kc, vp, nv, vc, ip, ni, ic, rfl, N, k⟩
    rw [back_leaf g hl m] at N
    exact ⟨_, _, _, _, _, _, _, _, _, rfl, N, k⟩
  | false =>
    refine (join_false ha hb key fa.1 fb.1 fa.2.2 fb.2.2).mono ?_
    rintro e w' ⟨kp, nk, kc, vp, nv, vc, ip, ni, ic, rfl, N, k⟩
    rw [back_inner g hl hk] at N
    exact ⟨_, _, _, _, _, _, _, _, _, rfl, N, k⟩
theorem Rw.apart {W W' : World} {b : Nat} {t : TypeId} {x0 : Bool} {q1 q2 q3 : Option Addr} {n1 c1 n2 c2 n3 c3 : Nat} (X : C4 W b t (.bool x0) (.slice q1 n1 c1) (.slice q2 n2 c2) (.slice q3 n3 c3)) (ho : ∀ k, k ≠ b → W'.heap[k]? = W.heap[k]?) {sz : Nat} {p : Option Addr} {n c : Nat} {cs : List Value} (h : Rw W sz p n c cs) (hcs : ∀ u ∈ cs, (∃ s, u = .string s) ∨ ∃ k i, u = .int k i) : Rw W' sz p n c cs := by
  refine ⟨h.len, h.le, h.cap, ?_⟩
  rcases h.out with h0 | ⟨pb, off, e, f⟩
  · exact .inl h0
  · refine .inr ⟨pb, off, e, fun j u hu => ?_⟩
    have hc := f j u hu
    have hne : pb ≠ b := by
      intro e
      subst e
      rw [cell_of_row W pb _ _ _ _ X.out] at hc
      have hm := Array.mem_of_getElem? hc
      simp at hm
      rcases hcs u (List.mem_of_getElem? hu) with ⟨s, rfl⟩ | ⟨k, i, rfl⟩
      · simp at hm
      · simp at hm
    rw [← hc]
    exact World.cell?_of_block (ho pb hne)
theorem NV.apart {W W' : World} {b : Nat} {t : TypeId} {x0 : Bool} {q1 q2 q3 : Option Addr} {n1 c1 n2 c2 n3 c3 : Nat} (X : C4 W b t (.bool x0) (.slice q1 n1 c1) (.slice q2 n2 c2) (.slice q3 n3 c3)) (ho : ∀ k, k ≠ b → W'.heap[k]? = W.heap[k]?) {l : Bool} {kp : Option Addr} {nk kc : Nat} {vp : Option Addr} {nv vc : Nat} {ip : Option Addr} {ni ic : Nat} {x : Nd} (h : NV W l kp nk kc vp nv vc ip ni ic x) : NV W' l kp nk kc vp nv vc ip ni ic x := by
  refine ⟨h.hl, h.k.apart X ho ?_, h.v.apart X ho ?_, h.i.apart X ho ?_⟩
  · intro u hu; unfold kcl at hu; obtain ⟨s, _, rfl⟩ := List.mem_map.1 hu; exact .inl ⟨s, rfl⟩
  · intro u hu
    unfold vcl at hu
    obtain ⟨v, _, hm⟩ := List.mem_flatMap.1 hu
    simp [Vl.cells] at hm
    rcases hm with rfl | rfl | rfl
    · exact .inl ⟨_, rfl⟩
    · exact .inr ⟨_, _, rfl⟩
    · exact .inr ⟨_, _, rfl⟩
  · intro u hu; unfold icl at hu; obtain ⟨s, _, rfl⟩ := List.mem_map.1 hu; exact .inr ⟨_, s, rfl⟩

theorem st4_apart (W : World) {b k : Nat} (h : k ≠ b) (v0 v1 v2 v3 : Value) : ((((W.setCell ⟨b, 0, none⟩ v0).setCell ⟨b, 1, none⟩ v1).setCell ⟨b, 2, none⟩ v2).setCell ⟨b, 3, none⟩ v3).heap[k]? = W.heap[k]? := by
  rw [heap_setCell_other _ ⟨b, 3, none⟩ k _ h, heap_setCell_other _ ⟨b, 2, none⟩ k _ h, heap_setCell_other _ ⟨b, 1, none⟩ k _ h, heap_setCell_other _ ⟨b, 0, none⟩ k _ h]
theorem cells8 {W : World} {b : Nat} {c0 c1 c2 c3 c4 c5 c6 c7 : Value} {t : TypeId} (h : W.heap[b]? = some (.cells #[c0, c1, c2, c3, c4, c5, c6, c7] t)) :
    W.cell? ⟨b, 0, none⟩ = some c0 ∧ W.cell? ⟨b, 1, none⟩ = some c1 ∧ W.cell? ⟨b, 2, none⟩ = some c2 ∧ W.cell? ⟨b, 3, none⟩ = some c3 ∧ W.cell? ⟨b, 4, none⟩ = some c4 ∧ W.cell? ⟨b, 5, none⟩ = some c5 ∧ W.cell? ⟨b, 6, none⟩ = some c6 ∧ W.cell? ⟨b, 7, none⟩ = some c7 :=
  ⟨by rw [cell_of_row _ b 0 _ _ _ h]; rfl, by rw [cell_of_row _ b 1 _ _ _ h]; rfl, by rw [cell_of_row _ b 2 _ _ _ h]; rfl, by rw [cell_of_row _ b 3 _ _ _ h]; rfl, by rw [cell_of_row _ b 4 _ _ _ h]; rfl, by rw [cell_of_row _ b 5 _ _ _ h]; rfl, by rw [cell_of_row _ b 6 _ _ _ h]; rfl, by rw [cell_of_row _ b 7 _ _ _ h]; rfl⟩

set_option maxHeartbeats 4000000 in
set_option maxRecDepth 100000 in
theorem parts_great_true {w : World} {p : Option Addr} {n c : Nat} {L : List Ki} (h : Gw w p n c L) (hbig : 237 < (eitherP L true).put.length) :
    Calls Try.prog 6 #[.slice p n c, .bool true] w fun e w' => e = .returned (.bool true) ∧ Kept w w' := by
  have HE := either_gw h true
  have g := eitherP_good L true
  have HL : Hid ((eitherP L true).leaf = true) := eitherP_kind L true
  generalize eitherP L true = x at *
  have HREF : Hid (∀ (W : World) (kp : Option Addr) (nk kc : Nat) (vp : Option Addr) (nv vc : Nat) (ip : Option Addr) (ni ic : Nat), NV W true kp nk kc vp nv vc ip ni ic x → Calls Try.prog 13 #[.agg #[.bool true, .slice kp nk kc, .slice vp nv vc, .slice ip ni ic]] W fun e w' => ∃ vp' vc', e = .returned (.agg #[.bool true, .slice kp nk kc, .slice vp' nv vc', .slice ip ni ic]) ∧ NV w' true kp nk kc vp' nv vc' ip ni ic x ∧ Kept W w') := fun W kp nk kc vp nv vc ip ni ic h => ref_walk h (h.few g).2.1
  have HSM : Hid (∀ (W : World) (kp : Option Addr) (nk kc : Nat) (vp : Option Addr) (nv vc : Nat) (ip : Option Addr) (ni ic : Nat) (kp2 : Option Addr) (nk2 kc2 : Nat) (vp2 : Option Addr) (nv2 vc2 : Nat) (ip2 : Option Addr) (ni2 ic2 : Nat), NV W true kp nk kc vp nv vc ip ni ic x → NV W true kp2 nk2 kc2 vp2 nv2 vc2 ip2 ni2 ic2 x → Calls Try.prog 14 #[.agg #[.bool true, .slice kp nk kc, .slice vp nv vc, .slice ip ni ic], .agg #[.bool true, .slice kp2 nk2 kc2, .slice vp2 nv2 vc2, .slice ip2 ni2 ic2]] W fun e w' => e = .returned (.bool true) ∧ Kept W w') := fun W kp nk kc vp nv vc ip ni ic kp2 nk2 kc2 vp2 nv2 vc2 ip2 ni2 ic2 h h2 => same_true h h2 (h.few g).1 (h.few g).2.1 (h.few g).2.2
  have HRP : Hid (∀ (W : World) (kp : Option Addr) (nk kc : Nat) (vp : Option Addr) (nv vc : Nat) (ip : Option Addr) (ni ic : Nat), NV W true kp nk kc vp nv vc ip ni ic x → Calls Try.prog 22 #[.agg #[.bool true, .slice kp nk kc, .slice vp nv vc, .slice ip ni ic]] W fun e w' => ∃ m : Nat, e = .returned (.int .i64 (m : Nat)) ∧ Mid x 1 m ∧ Kept W w') := fun W kp nk kc vp nv vc ip ni ic h => refpart_walk h g hbig
  have HPT : Hid (∀ (W : World) (kp : Option Addr) (nk kc : Nat) (vp : Option Addr) (nv vc : Nat) (ip : Option Addr) (ni ic : Nat), NV W true kp nk kc vp nv vc ip ni ic x → Calls Try.prog 23 #[.agg #[.bool true, .slice kp nk kc, .slice vp nv vc, .slice ip ni ic]] W fun e w' => ∃ (g m : Nat) (key : ByteArray) (kpA : Option Addr) (nkA kcA : Nat) (vpA : Option Addr) (nvA vcA : Nat) (ipA : Option Addr) (niA icA : Nat) (kpB : Option Addr) (nkB kcB : Nat) (vpB : Option Addr) (nvB vcB : Nat) (ipB : Option Addr) (niB icB : Nat), e = .returned (.tuple #[.slice (some ⟨g, 0, none⟩) 2 2, .string key]) ∧ x.ks[m]? = some key ∧ Mid x 0 m ∧ w'.heap[g]? = some (.cells #[.bool true, .slice kpA nkA kcA, .slice vpA nvA vcA, .slice ipA niA icA, .bool true, .slice kpB nkB kcB, .slice vpB nvB vcB, .slice ipB niB icB] 27) ∧ NZ w' true kpA nkA kcA vpA nvA vcA ipA niA icA (x.fst m) ∧ NZ w' true kpB nkB kcB vpB nvB vcB ipB niB icB (x.snd m) ∧ Kept W w') := fun W kp nk kc vp nv vc ip ni ic h => part_walk h g hbig
  have HJ : Hid (∀ (W : World) (kpA : Option Addr) (nkA kcA : Nat) (vpA : Option Addr) (nvA vcA : Nat) (ipA : Option Addr) (niA icA : Nat) (kpB : Option Addr) (nkB kcB : Nat) (vpB : Option Addr) (nvB vcB : Nat) (ipB : Option Addr) (niB icB : Nat) (m : Nat) (key : ByteArray), NZ W true kpA nkA kcA vpA nvA vcA ipA niA icA (x.fst m) → NZ W true kpB nkB kcB vpB nvB vcB ipB niB icB (x.snd m) → m < x.ks.length → x.ks[m]? = some key → Calls Try.prog 24 #[.agg #[.bool true, .slice kpA nkA kcA, .slice vpA nvA vcA, .slice ipA niA icA], .string key, .agg #[.bool true, .slice kpB nkB kcB, .slice vpB nvB vcB, .slice ipB niB icB]] W fun e w' => ∃ kp nk kc vp nv vc ip ni ic, e = .returned (.agg #[.bool true, .slice kp nk kc, .slice vp nv vc, .slice ip ni ic]) ∧ NV w' true kp nk kc vp nv vc ip ni ic x ∧ Kept W w') := fun W kpA nkA kcA vpA nvA vcA ipA niA icA kpB nkB kcB vpB nvB vcB ipB niB icB m key ha hb hm hk => join_back ha hb g hm hk
  have HUP : Hid (∀ m, Mid x 0 m → Mid x 1 m) := fun m hm => hm.up g hbig
  have G : Hid (Good x) := g
  clear g h hbig
  go_enter Try.func6, Try.ntmps6
  go_upto_region 8 with (first
    | (go_at_call 8
       (with_reducible refine HE.mono ?_)
       rintro e v1 ⟨kp, nk, kc, vp, nv, vc, ip, ni, ic, rfl, N1, k1⟩
       have k1a := (Kept.refl v1).alloc (.cells #[.bool true, .slice kp nk kc, .slice vp nv vc, .slice ip ni ic] 27)
       have X1 := C4.alloc v1 27 (.bool true) (.slice kp nk kc) (.slice vp nv vc) (.slice ip ni ic)
       have N1 := N1.kept k1a
       have K1 := k1.trans k1a
       clear HE k1 k1a)
    | (go_at_call 13
       (with_reducible refine (HREF.out _ _ _ _ _ _ _ _ _ _ N1).mono ?_)
       rintro e v2 ⟨vpq, vcq, rfl, Dq, k2⟩
       have X2 := X1.kept k2
       have N2 := N1.kept k2
       have K2 := K1.trans k2
       clear X1 N1 K1 k2)
    | (go_at_call 22
       (with_reducible refine (HRP.out _ _ _ _ _ _ _ _ _ _ Dq).mono ?_)
       rintro e v3 ⟨m, rfl, HM, k3⟩
       have HM : Hid (Mid x 1 m) := HM
       have X3 := X2.kept k3
       have N3 := N2.kept k3
       have K3 := K2.trans k3
       have q0 : ¬ ((m : Int) < 0) := (by omega)
       obtain ⟨a0, a1, a2, a3⟩ := X3.cs
       clear X2 N2 K2 k3 HRP Dq)
    | (go_at_call 23
       (with_reducible refine (HPT.out _ _ _ _ _ _ _ _ _ _ N3).mono ?_)
       rintro e v4 ⟨g, m2, key, kpA, nkA, kcA, vpA, nvA, vcA, ipA, niA, icA, kpB, nkB, kcB, vpB, nvB, vcB, ipB, niB, icB, rfl, hky, HM2, hg, ZA, ZB, k4⟩
       obtain rfl : m = m2 := HM.out.one (HUP.out _ HM2)
       have X4 := X3.kept k4
       have N4 := N3.kept k4
       have K4 := K3.trans k4
       have hml := HM2.lt
       have f1 := (N4.few G.out).1
       have hmk : m < nk := (by have := N4.nk; omega)
       have hmk' : (m : Int) < (nk : Int) := (by omega)
       have hA : nkA = m := (by have h1 := ZA.nv.nk; rw [fst_many HM2.lt] at h1; omega)
       subst hA
       have hB : nkB = nk - nkA := (by have h1 := ZB.nv.nk; rw [snd_many_leaf HL.out] at h1; have h2 := N4.nk; omega)
       have QB : Hid ((nk : Int) - (nkA : Int) = (nkB : Int)) := (by show _ = _; omega)
       clear hB
       obtain ⟨kb, ko, rfl, hkc⟩ := N4.k.some (by omega)
       have hkc' := hkc nkA _ (kcl_at hky)
       have HKY : Hid (x.ks[nkA]? = some key) := hky
       have HML : Hid (nkA < x.ks.length) := hml
       have HKC : Hid (v4.cell? ⟨kb, ko + nkA, none⟩ = some (.string key)) := hkc'
       have HG : Hid (v4.heap[g]? = some (.cells #[.bool true, .slice kpA nkA kcA, .slice vpA nvA vcA, .slice ipA niA icA, .bool true, .slice kpB nkB kcB, .slice vpB nvB vcB, .slice ipB niB icB] 27)) := hg
       clear X3 N3 K3 k4 HPT a0 a1 a2 a3 hkc hkc' hky hg HM2 hml HM HUP)
    | (go_at_call 11
       (with_reducible refine (awake_walk _).mono ?_)
       rintro e v5 ⟨rfl, k5⟩
       have X5 := X4.kept k5
       have N5 := N4.kept k5
       have K5 := K4.trans k5
       have YA := ZA.kept k5
       have YB := ZB.kept k5
       have hkey := k5.cell HKC.out
       have HG5 : Hid (v5.heap[g]? = some (.cells #[.bool true, .slice kpA nkA kcA, .slice vpA nvA vcA, .slice ipA niA icA, .bool true, .slice kpB nkB kcB, .slice vpB nvB vcB, .slice ipB niB icB] 27)) := k5.block HG.out
       obtain ⟨b0, b1, b2, b3⟩ := X5.cs
       obtain ⟨d0, d1, d2, d3, d4, d5, d6, d7⟩ := cells8 HG5.out
       clear X4 N4 K4 ZA ZB HKC HG k5))
  generalize v1.heap.size = b5 at *
  have e0 := fun o => cells8 ((Kept.refl v5).alloc o |>.block HG5.out)
  clear d0 d1 d2 d3 d4 d5 d6 d7 b0 b1 b2 b3 hkey
  have S0 : Hid (∀ W, Kept v5 W → W.cell? ⟨g, 0, none⟩ = some (.bool true) ∧ W.cell? ⟨g, 1, none⟩ = some (.slice kpA nkA kcA) ∧ W.cell? ⟨g, 2, none⟩ = some (.slice vpA nvA vcA) ∧ W.cell? ⟨g, 3, none⟩ = some (.slice ipA niA icA) ∧ W.cell? ⟨g, 4, none⟩ = some (.bool true) ∧ W.cell? ⟨g, 5, none⟩ = some (.slice kpB nkB kcB) ∧ W.cell? ⟨g, 6, none⟩ = some (.slice vpB nvB vcB) ∧ W.cell? ⟨g, 7, none⟩ = some (.slice ipB niB icB)) := fun W hW => cells8 (hW.block HG5.out)
  clear e0
  have KD : Kept v5 v5.drew := (Kept.refl v5).drew
  have KE : Kept v5 (v5.alloc (.cells #[.bool false, .slice none 0 0, .slice none 0 0, .slice none 0 0] 27)).drew := ((Kept.refl v5).alloc _).drew
  go_cut [9] from 67 to 74 (fun pv wx => ∃ (b9 : Nat) (kp9 : Option Addr) (nk9 kc9 : Nat) (vp9 : Option Addr) (nv9 vc9 : Nat) (ip9 : Option Addr) (ni9 ic9 : Nat), pv = .pointer (some ⟨b9, 0, none⟩) ∧ C4 wx b9 27 (.bool true) (.slice kp9 nk9 kc9) (.slice vp9 nv9 vc9) (.slice ip9 ni9 ic9) ∧ NV wx true kp9 nk9 kc9 vp9 nv9 vc9 ip9 ni9 ic9 x ∧ Kept v5 wx)
  case first =>
    go_region_held3 (fun W => W.cell? ⟨g, 0, none⟩ = some (.bool true) ∧ W.cell? ⟨g, 1, none⟩ = some (.slice kpA nkA kcA) ∧ W.cell? ⟨g, 2, none⟩ = some (.slice vpA nvA vcA) ∧ W.cell? ⟨g, 3, none⟩ = some (.slice ipA niA icA) ∧ W.cell? ⟨g, 4, none⟩ = some (.bool true) ∧ W.cell? ⟨g, 5, none⟩ = some (.slice kpB nkB kcB) ∧ W.cell? ⟨g, 6, none⟩ = some (.slice vpB nvB vcB) ∧ W.cell? ⟨g, 7, none⟩ = some (.slice ipB niB icB)) (exact S0.out _ (by first | assumption | exact Kept.alloc (by assumption) _ | exact (Kept.refl _).alloc _)) (first
      | (go_at_call 24
         (with_reducible refine (HJ.out _ _ _ _ _ _ _ _ _ _ _ _ _ _ _ _ _ _ _ _ _ (YA.kept KD) (YB.kept KD) HML.out HKY.out).mono ?_)
         rintro e v6 ⟨kp9, nk9, kc9, vp9, nv9, vc9, ip9, ni9, ic9, rfl, N6, k6⟩
         have J6 := KD.trans k6
         have F6 := C4.alloc v6 27 (.bool true) (.slice kp9 nk9 kc9) (.slice vp9 nv9 vc9) (.slice ip9 ni9 ic9)
         have N7 := N6.kept ((Kept.refl v6).alloc (.cells #[.bool true, .slice kp9 nk9 kc9, .slice vp9 nv9 vc9, .slice ip9 ni9 ic9] 27))
         have E6 := J6.trans ((Kept.refl v6).alloc (.cells #[.bool true, .slice kp9 nk9 kc9, .slice vp9 nv9 vc9, .slice ip9 ni9 ic9] 27)))
      | (go_at_call 24
         (with_reducible refine (HJ.out _ _ _ _ _ _ _ _ _ _ _ _ _ _ _ _ _ _ _ _ _ (YA.kept KE) (YB.kept KE) HML.out HKY.out).mono ?_)
         rintro e v6 ⟨kp9, nk9, kc9, vp9, nv9, vc9, ip9, ni9, ic9, rfl, N6, k6⟩
         have Z6 := ((C4.alloc v5 27 (.bool false) (.slice none 0 0) (.slice none 0 0) (.slice none 0 0)).drew).kept k6
         have J6 := KE.trans k6
         obtain ⟨⟨g0, f0⟩, ⟨g1, f1'⟩, ⟨g2, f2⟩, ⟨g3, f3⟩, hfin⟩ := ready4 Z6.out (.bool true) (.slice kp9 nk9 kc9) (.slice vp9 nv9 vc9) (.slice ip9 ni9 ic9)
         have F6 : C4 _ v5.heap.size 27 (.bool true) (.slice kp9 nk9 kc9) (.slice vp9 nv9 vc9) (.slice ip9 ni9 ic9) := ⟨hfin⟩
         have N7 := N6.apart Z6 (fun k hk => st4_apart v6 hk (.bool true) (.slice kp9 nk9 kc9) (.slice vp9 nv9 vc9) (.slice ip9 ni9 ic9))
         have E6 := J6.st4 (Nat.le_refl _) (.bool true) (.slice kp9 nk9 kc9) (.slice vp9 nv9 vc9) (.slice ip9 ni9 ic9)))
    all_goals (go_wp2_with fail)
    all_goals go_meet
    all_goals exact ⟨_, _, _, _, _, _, _, _, _, _, rfl, F6, N7, E6⟩
  case rest =>
    obtain ⟨b9, kp9, nk9, kc9, vp9, nv9, vc9, ip9, ni9, ic9, rfl, X9, N9, k9⟩ := hcut
    have W5 := X5.kept k9
    have W9 := N5.kept k9
    have K9 := K5.trans k9
    have HSA : Hid (∀ W, Kept wc W → W.cell? ⟨b5, 0, none⟩ = some (.bool true) ∧ W.cell? ⟨b5, 1, none⟩ = some (.slice (some ⟨kb, ko, none⟩) nk kc) ∧ W.cell? ⟨b5, 2, none⟩ = some (.slice vp nv vc) ∧ W.cell? ⟨b5, 3, none⟩ = some (.slice ip ni ic) ∧ W.cell? ⟨b9, 0, none⟩ = some (.bool true) ∧ W.cell? ⟨b9, 1, none⟩ = some (.slice kp9 nk9 kc9) ∧ W.cell? ⟨b9, 2, none⟩ = some (.slice vp9 nv9 vc9) ∧ W.cell? ⟨b9, 3, none⟩ = some (.slice ip9 ni9 ic9) ∧ W.cell? ⟨g, 5, none⟩ = some (.slice kpB nkB kcB)) := by
      intro W hW
      obtain ⟨z0, z1, z2, z3⟩ := (W5.kept hW).cs
      obtain ⟨y0, y1, y2, y3⟩ := (X9.kept hW).cs
      exact ⟨z0, z1, z2, z3, y0, y1, y2, y3, (S0.out _ (k9.trans hW)).2.2.2.2.2.1⟩
    have u1 : IntKind.i64.wrap ((nk : Int) - (nkA : Int)) = (nkB : Int) := by have qB := QB.out; rw [IntKind.wrap_i64]; omega
    have u2 : IntKind.i64.wrap ((nkB : Int) + 1 - 1) = (nkB : Int) := by have qB := QB.out; rw [IntKind.wrap_i64]; omega
    have u3 : IntKind.i64.wrap (nkB : Int) = (nkB : Int) := by have qB := QB.out; rw [IntKind.wrap_i64]; omega
    clear QB
    have KDx : Kept wc wc.drew := (Kept.refl wc).drew
    clear X5 N5 K5 X9 W5 S0 HG5 HJ YA YB KD KE k9 HKY HML
    go_wp2_with fail
    refine wp_region_held_drew (S := (fun W => W.cell? ⟨b5, 0, none⟩ = some (.bool true) ∧ W.cell? ⟨b5, 1, none⟩ = some (.slice (some ⟨kb, ko, none⟩) nk kc) ∧ W.cell? ⟨b5, 2, none⟩ = some (.slice vp nv vc) ∧ W.cell? ⟨b5, 3, none⟩ = some (.slice ip ni ic) ∧ W.cell? ⟨b9, 0, none⟩ = some (.bool true) ∧ W.cell? ⟨b9, 1, none⟩ = some (.slice kp9 nk9 kc9) ∧ W.cell? ⟨b9, 2, none⟩ = some (.slice vp9 nv9 vc9) ∧ W.cell? ⟨b9, 3, none⟩ = some (.slice ip9 ni9 ic9) ∧ W.cell? ⟨g, 5, none⟩ = some (.slice kpB nkB kcB))) (by kernel_rfl) ?_ (fun hHeld => ?_)
    · exact HSA.out _ KDx
    refine wpAnyH_take (i := 0) (oi := { dst := some 75, op := Go.Op.load 27 (Go.Operand.tmp 9), type := 27, pos := "law.go:137", after := #[], guard := none }) (v := ?_) rfl (by kernel_rfl) (by kernel_rfl) (by kernel_rfl) (fun _ _ _ h => h) (Or.inl ⟨by rfl, ?_⟩) (by assumption) ?_
    rotate_left
    · intro w hSw
      (try dsimp only at hSw)
      go_simp
      all_goals with_reducible rfl
    try simp only [Act.put, List.setIfInBounds_toArray, List.set_cons_zero, List.set_cons_succ]
    refine wpAnyH_take (i := 2) (oi := { dst := some 77, op := Go.Op.load 27 (Go.Operand.tmp 5), type := 27, pos := "law.go:137", after := #[], guard := none }) (v := ?_) rfl (by kernel_rfl) (by kernel_rfl) (by kernel_rfl) (fun _ _ _ h => h) (Or.inl ⟨by rfl, ?_⟩) (by assumption) ?_
    rotate_left
    · intro w hSw
      (try dsimp only at hSw)
      go_simp
      all_goals with_reducible rfl
    try simp only [Act.put, List.setIfInBounds_toArray, List.set_cons_zero, List.set_cons_succ]
    refine wpAnyH_ready (rs := [1]) (by kernel_rfl) (by simp) ?_
    refine AllReadyH.cons (o := { dst := some 76, op := Go.Op.call { callee := Go.Callee.value (Go.Operand.func 13), args := #[Go.Operand.tmp 75], argTypes := #[27] }, type := 37, pos := "law.go:137", after := #[{ on := 0, ground := Go.Ground.data }], guard := none }) rfl (fun KK hKK => ?_) ?_
    ·
      go_simp
      go_at_call 13
      (with_reducible refine (HREF.out _ _ _ _ _ _ _ _ _ _ (N9.kept KDx)).mono ?_)
      rintro e y2 ⟨vpa, vca, rfl, Da, j2⟩
      have J2 := KDx.trans j2
      go_wp2_with fail
      refine hKK.out _ _ ?_ (fun hHeld => ?_)
      · (try dsimp only)
        exact HSA.out _ (by assumption)
      clear hKK KK
      try simp only [Act.put, List.setIfInBounds_toArray, List.set_cons_zero, List.set_cons_succ]
      refine wpAnyH_ready (rs := [3]) (by kernel_rfl) (by simp) ?_
      refine AllReadyH.cons (o := { dst := some 78, op := Go.Op.call { callee := Go.Callee.value (Go.Operand.func 13), args := #[Go.Operand.tmp 77], argTypes := #[27] }, type := 37, pos := "law.go:137", after := #[{ on := 2, ground := Go.Ground.data }, { on := 1, ground := Go.Ground.chain }], guard := none }) rfl (fun KK hKK => ?_) ?_
      ·
        go_simp
        go_at_call 13
        (with_reducible refine (HREF.out _ _ _ _ _ _ _ _ _ _ (W9.kept J2)).mono ?_)
        rintro e y3 ⟨vpb, vcb, rfl, Db, j3⟩
        have J3 := J2.trans j3
        have Da3 := Da.kept j3
        go_wp2_with fail
        refine hKK.out _ _ ?_ (fun hHeld => ?_)
        · (try dsimp only)
          exact HSA.out _ (by assumption)
        clear hKK KK
        try simp only [Act.put, List.setIfInBounds_toArray, List.set_cons_zero, List.set_cons_succ]
        refine wpAnyH_ready (rs := [4]) (by kernel_rfl) (by simp) ?_
        refine AllReadyH.cons (o := { dst := some 79, op := Go.Op.call { callee := Go.Callee.value (Go.Operand.func 14), args := #[Go.Operand.tmp 76, Go.Operand.tmp 78], argTypes := #[37, 37] }, type := 4, pos := "law.go:137", after := #[{ on := 1, ground := Go.Ground.data }, { on := 3, ground := Go.Ground.data }, { on := 3, ground := Go.Ground.chain }], guard := none }) rfl (fun KK hKK => ?_) ?_
        ·
          go_simp
          go_at_call 14
          (with_reducible refine (HSM.out _ _ _ _ _ _ _ _ _ _ _ _ _ _ _ _ _ _ _ Da3 Db).mono ?_)
          rintro e y4 ⟨rfl, j4⟩
          have J4 := J3.trans j4
          go_wp2_with fail
          refine hKK.out _ _ ?_ (fun hHeld => ?_)
          · (try dsimp only)
            exact HSA.out _ (by assumption)
          clear hKK KK
          try simp only [Act.put, List.setIfInBounds_toArray, List.set_cons_zero, List.set_cons_succ]
          refine wpAnyH_take (i := 5) (oi := { dst := some 80, op := Go.Op.move (Go.Operand.tmp 79), type := 4, pos := "law.go:137", after := #[{ on := 4, ground := Go.Ground.data }, { on := 4, ground := Go.Ground.chain }], guard := none }) (v := ?_) rfl (by kernel_rfl) (by kernel_rfl) (by kernel_rfl) (fun _ _ _ h => h) (Or.inl ⟨by rfl, ?_⟩) (by assumption) ?_
          rotate_left
          · intro w hSw
            (try dsimp only at hSw)
            go_simp
            all_goals with_reducible rfl
          try simp only [Act.put, List.setIfInBounds_toArray, List.set_cons_zero, List.set_cons_succ]
          refine wpAnyH_take (i := 6) (oi := { dst := some 81, op := Go.Op.move (Go.Operand.tmp 1), type := 4, pos := "law.go:137", after := #[{ on := 5, ground := Go.Ground.guard }], guard := some (5, true) }) (v := ?_) rfl (by kernel_rfl) (by kernel_rfl) (by kernel_rfl) (fun _ _ _ h => h) (Or.inl ⟨by rfl, ?_⟩) (by assumption) ?_
          rotate_left
          · intro w hSw
            (try dsimp only at hSw)
            go_simp
            all_goals with_reducible rfl
          try simp only [Act.put, List.setIfInBounds_toArray, List.set_cons_zero, List.set_cons_succ]
          refine wpAnyH_take (i := 7) (oi := { dst := some 82, op := Go.Op.move (Go.Operand.tmp 81), type := 4, pos := "law.go:137", after := #[{ on := 6, ground := Go.Ground.data }, { on := 5, ground := Go.Ground.chain }, { on := 5, ground := Go.Ground.guard }], guard := some (5, true) }) (v := ?_) rfl (by kernel_rfl) (by kernel_rfl) (by kernel_rfl) (fun _ _ _ h => h) (Or.inl ⟨by rfl, ?_⟩) (by assumption) ?_
          rotate_left
          · intro w hSw
            (try dsimp only at hSw)
            go_simp
            all_goals with_reducible rfl
          try simp only [Act.put, List.setIfInBounds_toArray, List.set_cons_zero, List.set_cons_succ]
          refine wpAnyH_take (i := 8) (oi := { dst := some 83, op := Go.Op.move (Go.Operand.tmp 7), type := 58, pos := "law.go:137", after := #[{ on := 7, ground := Go.Ground.guard }], guard := some (7, true) }) (v := ?_) rfl (by kernel_rfl) (by kernel_rfl) (by kernel_rfl) (fun _ _ _ h => h) (Or.inl ⟨by rfl, ?_⟩) (by assumption) ?_
          rotate_left
          · intro w hSw
            (try dsimp only at hSw)
            go_simp
            all_goals with_reducible rfl
          try simp only [Act.put, List.setIfInBounds_toArray, List.set_cons_zero, List.set_cons_succ]
          refine wpAnyH_take (i := 9) (oi := { dst := some 84, op := Go.Op.indexAddr 58 (Go.Operand.tmp 83) (Go.Operand.const (Go.Value.int Go.IntKind.i64 1)), type := 0, pos := "law.go:137", after := #[{ on := 8, ground := Go.Ground.data }, { on := 7, ground := Go.Ground.guard }], guard := some (7, true) }) (v := ?_) rfl (by kernel_rfl) (by kernel_rfl) (by kernel_rfl) (fun _ _ _ h => h) (Or.inl ⟨by rfl, ?_⟩) (by assumption) ?_
          rotate_left
          · intro w hSw
            (try dsimp only at hSw)
            go_simp
            all_goals with_reducible rfl
          try simp only [Act.put, List.setIfInBounds_toArray, List.set_cons_zero, List.set_cons_succ]
          refine wpAnyH_take (i := 10) (oi := { dst := some 85, op := Go.Op.fieldAddr 27 (Go.Operand.tmp 84) 1, type := 0, pos := "law.go:137", after := #[{ on := 9, ground := Go.Ground.data }, { on := 7, ground := Go.Ground.guard }], guard := some (7, true) }) (v := ?_) rfl (by kernel_rfl) (by kernel_rfl) (by kernel_rfl) (fun _ _ _ h => h) (Or.inl ⟨by rfl, ?_⟩) (by assumption) ?_
          rotate_left
          · intro w hSw
            (try dsimp only at hSw)
            go_simp
            all_goals with_reducible rfl
          try simp only [Act.put, List.setIfInBounds_toArray, List.set_cons_zero, List.set_cons_succ]
          refine wpAnyH_take (i := 11) (oi := { dst := some 86, op := Go.Op.load 23 (Go.Operand.tmp 85), type := 23, pos := "law.go:137", after := #[{ on := 10, ground := Go.Ground.data }, { on := 7, ground := Go.Ground.guard }], guard := some (7, true) }) (v := ?_) rfl (by kernel_rfl) (by kernel_rfl) (by kernel_rfl) (fun _ _ _ h => h) (Or.inl ⟨by rfl, ?_⟩) (by assumption) ?_
          rotate_left
          · intro w hSw
            (try dsimp only at hSw)
            go_simp
            all_goals with_reducible rfl
          try simp only [Act.put, List.setIfInBounds_toArray, List.set_cons_zero, List.set_cons_succ]
          refine wpAnyH_take (i := 12) (oi := { dst := some 87, op := Go.Op.call { callee := Go.Callee.builtin Go.Builtin.len, args := #[Go.Operand.tmp 86], argTypes := #[23] }, type := 3, pos := "law.go:137", after := #[{ on := 11, ground := Go.Ground.data }, { on := 7, ground := Go.Ground.guard }], guard := some (7, true) }) (v := ?_) rfl (by kernel_rfl) (by kernel_rfl) (by kernel_rfl) (fun _ _ _ h => h) (Or.inl ⟨by rfl, ?_⟩) (by assumption) ?_
          rotate_left
          · intro w hSw
            (try dsimp only at hSw)
            go_simp
            all_goals with_reducible rfl
          try simp only [Act.put, List.setIfInBounds_toArray, List.set_cons_zero, List.set_cons_succ]
          refine wpAnyH_take (i := 13) (oi := { dst := some 88, op := Go.Op.fieldAddr 27 (Go.Operand.tmp 5) 1, type := 0, pos := "law.go:137", after := #[{ on := 7, ground := Go.Ground.guard }], guard := some (7, true) }) (v := ?_) rfl (by kernel_rfl) (by kernel_rfl) (by kernel_rfl) (fun _ _ _ h => h) (Or.inl ⟨by rfl, ?_⟩) (by assumption) ?_
          rotate_left
          · intro w hSw
            (try dsimp only at hSw)
            go_simp
            all_goals with_reducible rfl
          try simp only [Act.put, List.setIfInBounds_toArray, List.set_cons_zero, List.set_cons_succ]
          refine wpAnyH_take (i := 14) (oi := { dst := some 89, op := Go.Op.load 23 (Go.Operand.tmp 88), type := 23, pos := "law.go:137", after := #[{ on := 13, ground := Go.Ground.data }, { on := 7, ground := Go.Ground.guard }], guard := some (7, true) }) (v := ?_) rfl (by kernel_rfl) (by kernel_rfl) (by kernel_rfl) (fun _ _ _ h => h) (Or.inl ⟨by rfl, ?_⟩) (by assumption) ?_
          rotate_left
          · intro w hSw
            (try dsimp only at hSw)
            go_simp
            all_goals with_reducible rfl
          try simp only [Act.put, List.setIfInBounds_toArray, List.set_cons_zero, List.set_cons_succ]
          refine wpAnyH_take (i := 15) (oi := { dst := some 90, op := Go.Op.call { callee := Go.Callee.builtin Go.Builtin.len, args := #[Go.Operand.tmp 89], argTypes := #[23] }, type := 3, pos := "law.go:137", after := #[{ on := 14, ground := Go.Ground.data }, { on := 7, ground := Go.Ground.guard }], guard := some (7, true) }) (v := ?_) rfl (by kernel_rfl) (by kernel_rfl) (by kernel_rfl) (fun _ _ _ h => h) (Or.inl ⟨by rfl, ?_⟩) (by assumption) ?_
          rotate_left
          · intro w hSw
            (try dsimp only at hSw)
            go_simp
            all_goals with_reducible rfl
          try simp only [Act.put, List.setIfInBounds_toArray, List.set_cons_zero, List.set_cons_succ]
          refine wpAnyH_take (i := 16) (oi := { dst := some 91, op := Go.Op.move (Go.Operand.tmp 6), type := 3, pos := "law.go:137", after := #[{ on := 7, ground := Go.Ground.guard }], guard := some (7, true) }) (v := ?_) rfl (by kernel_rfl) (by kernel_rfl) (by kernel_rfl) (fun _ _ _ h => h) (Or.inl ⟨by rfl, ?_⟩) (by assumption) ?_
          rotate_left
          · intro w hSw
            (try dsimp only at hSw)
            go_simp
            all_goals with_reducible rfl
          try simp only [Act.put, List.setIfInBounds_toArray, List.set_cons_zero, List.set_cons_succ]
          refine wpAnyH_take (i := 17) (oi := { dst := some 92, op := Go.Op.binOp Go.BinOp.sub 3 (Go.Operand.tmp 90) (Go.Operand.tmp 91) 3, type := 3, pos := "law.go:137", after := #[{ on := 15, ground := Go.Ground.data }, { on := 16, ground := Go.Ground.data }, { on := 7, ground := Go.Ground.guard }], guard := some (7, true) }) (v := ?_) rfl (by kernel_rfl) (by kernel_rfl) (by kernel_rfl) (fun _ _ _ h => h) (Or.inl ⟨by rfl, ?_⟩) (by assumption) ?_
          rotate_left
          · intro w hSw
            (try dsimp only at hSw)
            go_simp
            all_goals with_reducible rfl
          try simp only [Act.put, List.setIfInBounds_toArray, List.set_cons_zero, List.set_cons_succ]
          refine wpAnyH_take (i := 18) (oi := { dst := some 93, op := Go.Op.binOp Go.BinOp.eql 3 (Go.Operand.tmp 87) (Go.Operand.tmp 92) 3, type := 4, pos := "law.go:137", after := #[{ on := 12, ground := Go.Ground.data }, { on := 17, ground := Go.Ground.data }, { on := 7, ground := Go.Ground.guard }], guard := some (7, true) }) (v := ?_) rfl (by kernel_rfl) (by kernel_rfl) (by kernel_rfl) (fun _ _ _ h => h) (Or.inl ⟨by rfl, ?_⟩) (by assumption) ?_
          rotate_left
          · intro w hSw
            (try dsimp only at hSw)
            go_simp
            all_goals with_reducible rfl
          try simp only [Act.put, List.setIfInBounds_toArray, List.set_cons_zero, List.set_cons_succ]
          refine wpAnyH_take (i := 19) (oi := { dst := some 94, op := Go.Op.pick (Go.Operand.tmp 82) (Go.Operand.tmp 93) (Go.Operand.const (Go.Value.bool false)), type := 4, pos := "law.go:137", after := #[{ on := 7, ground := Go.Ground.data }, { on := 18, ground := Go.Ground.data }, { on := 5, ground := Go.Ground.guard }], guard := some (5, true) }) (v := ?_) rfl (by kernel_rfl) (by kernel_rfl) (by kernel_rfl) (fun _ _ _ h => h) (Or.inl ⟨by rfl, ?_⟩) (by assumption) ?_
          rotate_left
          · intro w hSw
            (try dsimp only at hSw)
            go_simp
            all_goals with_reducible rfl
          try simp only [Act.put, List.setIfInBounds_toArray, List.set_cons_zero, List.set_cons_succ]
          refine wpAnyH_take (i := 20) (oi := { dst := some 95, op := Go.Op.move (Go.Operand.tmp 94), type := 4, pos := "law.go:137", after := #[{ on := 19, ground := Go.Ground.data }, { on := 7, ground := Go.Ground.chain }, { on := 5, ground := Go.Ground.guard }], guard := some (5, true) }) (v := ?_) rfl (by kernel_rfl) (by kernel_rfl) (by kernel_rfl) (fun _ _ _ h => h) (Or.inl ⟨by rfl, ?_⟩) (by assumption) ?_
          rotate_left
          · intro w hSw
            (try dsimp only at hSw)
            go_simp
            all_goals with_reducible rfl
          try simp only [Act.put, List.setIfInBounds_toArray, List.set_cons_zero, List.set_cons_succ]
          refine wpAnyH_take (i := 21) (oi := { dst := some 96, op := Go.Op.move (Go.Operand.tmp 1), type := 4, pos := "law.go:137", after := #[{ on := 20, ground := Go.Ground.guard }], guard := some (20, false) }) (v := undef) rfl (by kernel_rfl) (by kernel_rfl) (by kernel_rfl) (fun _ _ _ h => h) (Or.inr ⟨by rfl, by rfl⟩) (by assumption) ?_
          try simp only [Act.put, List.setIfInBounds_toArray, List.set_cons_zero, List.set_cons_succ]
          refine wpAnyH_take (i := 22) (oi := { dst := some 97, op := Go.Op.unOp Go.UnOp.not 4 (Go.Operand.tmp 96), type := 4, pos := "law.go:137", after := #[{ on := 21, ground := Go.Ground.data }, { on := 20, ground := Go.Ground.guard }], guard := some (20, false) }) (v := undef) rfl (by kernel_rfl) (by kernel_rfl) (by kernel_rfl) (fun _ _ _ h => h) (Or.inr ⟨by rfl, by rfl⟩) (by assumption) ?_
          try simp only [Act.put, List.setIfInBounds_toArray, List.set_cons_zero, List.set_cons_succ]
          refine wpAnyH_take (i := 23) (oi := { dst := some 98, op := Go.Op.move (Go.Operand.tmp 97), type := 4, pos := "law.go:137", after := #[{ on := 22, ground := Go.Ground.data }, { on := 20, ground := Go.Ground.chain }, { on := 20, ground := Go.Ground.guard }], guard := some (20, false) }) (v := undef) rfl (by kernel_rfl) (by kernel_rfl) (by kernel_rfl) (fun _ _ _ h => h) (Or.inr ⟨by rfl, by rfl⟩) (by assumption) ?_
          try simp only [Act.put, List.setIfInBounds_toArray, List.set_cons_zero, List.set_cons_succ]
          refine wpAnyH_take (i := 24) (oi := { dst := some 99, op := Go.Op.move (Go.Operand.tmp 7), type := 58, pos := "law.go:137", after := #[{ on := 23, ground := Go.Ground.guard }], guard := some (23, true) }) (v := undef) rfl (by kernel_rfl) (by kernel_rfl) (by kernel_rfl) (fun _ _ _ h => h) (Or.inr ⟨by rfl, by rfl⟩) (by assumption) ?_
          try simp only [Act.put, List.setIfInBounds_toArray, List.set_cons_zero, List.set_cons_succ]
          refine wpAnyH_take (i := 25) (oi := { dst := some 100, op := Go.Op.indexAddr 58 (Go.Operand.tmp 99) (Go.Operand.const (Go.Value.int Go.IntKind.i64 1)), type := 0, pos := "law.go:137", after := #[{ on := 24, ground := Go.Ground.data }, { on := 23, ground := Go.Ground.guard }], guard := some (23, true) }) (v := undef) rfl (by kernel_rfl) (by kernel_rfl) (by kernel_rfl) (fun _ _ _ h => h) (Or.inr ⟨by rfl, by rfl⟩) (by assumption) ?_
          try simp only [Act.put, List.setIfInBounds_toArray, List.set_cons_zero, List.set_cons_succ]
          refine wpAnyH_take (i := 26) (oi := { dst := some 101, op := Go.Op.fieldAddr 27 (Go.Operand.tmp 100) 1, type := 0, pos := "law.go:137", after := #[{ on := 25, ground := Go.Ground.data }, { on := 23, ground := Go.Ground.guard }], guard := some (23, true) }) (v := undef) rfl (by kernel_rfl) (by kernel_rfl) (by kernel_rfl) (fun _ _ _ h => h) (Or.inr ⟨by rfl, by rfl⟩) (by assumption) ?_
          try simp only [Act.put, List.setIfInBounds_toArray, List.set_cons_zero, List.set_cons_succ]
          refine wpAnyH_take (i := 27) (oi := { dst := some 102, op := Go.Op.load 23 (Go.Operand.tmp 101), type := 23, pos := "law.go:137", after := #[{ on := 26, ground := Go.Ground.data }, { on := 23, ground := Go.Ground.guard }], guard := some (23, true) }) (v := undef) rfl (by kernel_rfl) (by kernel_rfl) (by kernel_rfl) (fun _ _ _ h => h) (Or.inr ⟨by rfl, by rfl⟩) (by assumption) ?_
          try simp only [Act.put, List.setIfInBounds_toArray, List.set_cons_zero, List.set_cons_succ]
          refine wpAnyH_take (i := 28) (oi := { dst := some 103, op := Go.Op.call { callee := Go.Callee.builtin Go.Builtin.len, args := #[Go.Operand.tmp 102], argTypes := #[23] }, type := 3, pos := "law.go:137", after := #[{ on := 27, ground := Go.Ground.data }, { on := 23, ground := Go.Ground.guard }], guard := some (23, true) }) (v := undef) rfl (by kernel_rfl) (by kernel_rfl) (by kernel_rfl) (fun _ _ _ h => h) (Or.inr ⟨by rfl, by rfl⟩) (by assumption) ?_
          try simp only [Act.put, List.setIfInBounds_toArray, List.set_cons_zero, List.set_cons_succ]
          refine wpAnyH_take (i := 29) (oi := { dst := some 104, op := Go.Op.fieldAddr 27 (Go.Operand.tmp 5) 1, type := 0, pos := "law.go:137", after := #[{ on := 23, ground := Go.Ground.guard }], guard := some (23, true) }) (v := undef) rfl (by kernel_rfl) (by kernel_rfl) (by kernel_rfl) (fun _ _ _ h => h) (Or.inr ⟨by rfl, by rfl⟩) (by assumption) ?_
          try simp only [Act.put, List.setIfInBounds_toArray, List.set_cons_zero, List.set_cons_succ]
          refine wpAnyH_take (i := 30) (oi := { dst := some 105, op := Go.Op.load 23 (Go.Operand.tmp 104), type := 23, pos := "law.go:137", after := #[{ on := 29, ground := Go.Ground.data }, { on := 23, ground := Go.Ground.guard }], guard := some (23, true) }) (v := undef) rfl (by kernel_rfl) (by kernel_rfl) (by kernel_rfl) (fun _ _ _ h => h) (Or.inr ⟨by rfl, by rfl⟩) (by assumption) ?_
          try simp only [Act.put, List.setIfInBounds_toArray, List.set_cons_zero, List.set_cons_succ]
          refine wpAnyH_take (i := 31) (oi := { dst := some 106, op := Go.Op.call { callee := Go.Callee.builtin Go.Builtin.len, args := #[Go.Operand.tmp 105], argTypes := #[23] }, type := 3, pos := "law.go:137", after := #[{ on := 30, ground := Go.Ground.data }, { on := 23, ground := Go.Ground.guard }], guard := some (23, true) }) (v := undef) rfl (by kernel_rfl) (by kernel_rfl) (by kernel_rfl) (fun _ _ _ h => h) (Or.inr ⟨by rfl, by rfl⟩) (by assumption) ?_
          try simp only [Act.put, List.setIfInBounds_toArray, List.set_cons_zero, List.set_cons_succ]
          refine wpAnyH_take (i := 32) (oi := { dst := some 107, op := Go.Op.move (Go.Operand.tmp 6), type := 3, pos := "law.go:137", after := #[{ on := 23, ground := Go.Ground.guard }], guard := some (23, true) }) (v := undef) rfl (by kernel_rfl) (by kernel_rfl) (by kernel_rfl) (fun _ _ _ h => h) (Or.inr ⟨by rfl, by rfl⟩) (by assumption) ?_
          try simp only [Act.put, List.setIfInBounds_toArray, List.set_cons_zero, List.set_cons_succ]
          refine wpAnyH_take (i := 33) (oi := { dst := some 108, op := Go.Op.binOp Go.BinOp.sub 3 (Go.Operand.tmp 106) (Go.Operand.tmp 107) 3, type := 3, pos := "law.go:137", after := #[{ on := 31, ground := Go.Ground.data }, { on := 32, ground := Go.Ground.data }, { on := 23, ground := Go.Ground.guard }], guard := some (23, true) }) (v := undef) rfl (by kernel_rfl) (by kernel_rfl) (by kernel_rfl) (fun _ _ _ h => h) (Or.inr ⟨by rfl, by rfl⟩) (by assumption) ?_
          try simp only [Act.put, List.setIfInBounds_toArray, List.set_cons_zero, List.set_cons_succ]
          refine wpAnyH_take (i := 34) (oi := { dst := some 109, op := Go.Op.binOp Go.BinOp.sub 3 (Go.Operand.tmp 108) (Go.Operand.const (Go.Value.int Go.IntKind.i64 1)) 3, type := 3, pos := "law.go:137", after := #[{ on := 33, ground := Go.Ground.data }, { on := 23, ground := Go.Ground.guard }], guard := some (23, true) }) (v := undef) rfl (by kernel_rfl) (by kernel_rfl) (by kernel_rfl) (fun _ _ _ h => h) (Or.inr ⟨by rfl, by rfl⟩) (by assumption) ?_
          try simp only [Act.put, List.setIfInBounds_toArray, List.set_cons_zero, List.set_cons_succ]
          refine wpAnyH_take (i := 35) (oi := { dst := some 110, op := Go.Op.binOp Go.BinOp.eql 3 (Go.Operand.tmp 103) (Go.Operand.tmp 109) 3, type := 4, pos := "law.go:137", after := #[{ on := 28, ground := Go.Ground.data }, { on := 34, ground := Go.Ground.data }, { on := 23, ground := Go.Ground.guard }], guard := some (23, true) }) (v := undef) rfl (by kernel_rfl) (by kernel_rfl) (by kernel_rfl) (fun _ _ _ h => h) (Or.inr ⟨by rfl, by rfl⟩) (by assumption) ?_
          try simp only [Act.put, List.setIfInBounds_toArray, List.set_cons_zero, List.set_cons_succ]
          refine wpAnyH_take (i := 36) (oi := { dst := some 111, op := Go.Op.pick (Go.Operand.tmp 98) (Go.Operand.tmp 110) (Go.Operand.const (Go.Value.bool false)), type := 4, pos := "law.go:137", after := #[{ on := 23, ground := Go.Ground.data }, { on := 35, ground := Go.Ground.data }, { on := 20, ground := Go.Ground.guard }], guard := some (20, false) }) (v := undef) rfl (by kernel_rfl) (by kernel_rfl) (by kernel_rfl) (fun _ _ _ h => h) (Or.inr ⟨by rfl, by rfl⟩) (by assumption) ?_
          try simp only [Act.put, List.setIfInBounds_toArray, List.set_cons_zero, List.set_cons_succ]
          refine wpAnyH_take (i := 37) (oi := { dst := some 112, op := Go.Op.pick (Go.Operand.tmp 95) (Go.Operand.const (Go.Value.bool true)) (Go.Operand.tmp 111), type := 4, pos := "law.go:137", after := #[{ on := 20, ground := Go.Ground.data }, { on := 36, ground := Go.Ground.data }, { on := 5, ground := Go.Ground.guard }], guard := some (5, true) }) (v := ?_) rfl (by kernel_rfl) (by kernel_rfl) (by kernel_rfl) (fun _ _ _ h => h) (Or.inl ⟨by rfl, ?_⟩) (by assumption) ?_
          rotate_left
          · intro w hSw
            (try dsimp only at hSw)
            go_simp
            all_goals with_reducible rfl
          try simp only [Act.put, List.setIfInBounds_toArray, List.set_cons_zero, List.set_cons_succ]
          refine wpAnyH_take (i := 38) (oi := { dst := some 113, op := Go.Op.pick (Go.Operand.tmp 80) (Go.Operand.tmp 112) (Go.Operand.const (Go.Value.bool false)), type := 4, pos := "law.go:137", after := #[{ on := 5, ground := Go.Ground.data }, { on := 37, ground := Go.Ground.data }], guard := none }) (v := ?_) rfl (by kernel_rfl) (by kernel_rfl) (by kernel_rfl) (fun _ _ _ h => h) (Or.inl ⟨by rfl, ?_⟩) (by assumption) ?_
          rotate_left
          · intro w hSw
            (try dsimp only at hSw)
            go_simp
            all_goals with_reducible rfl
          try simp only [Act.put, List.setIfInBounds_toArray, List.set_cons_zero, List.set_cons_succ]
          refine wpAnyH_take (i := 39) (oi := { dst := some 4, op := Go.Op.assign (Go.Operand.tmp 113), type := 4, pos := "law.go:137", after := #[{ on := 38, ground := Go.Ground.data }, { on := 23, ground := Go.Ground.chain }, { on := 0, ground := Go.Ground.phase }, { on := 1, ground := Go.Ground.phase }, { on := 2, ground := Go.Ground.phase }, { on := 3, ground := Go.Ground.phase }, { on := 4, ground := Go.Ground.phase }, { on := 5, ground := Go.Ground.phase }, { on := 6, ground := Go.Ground.phase }, { on := 7, ground := Go.Ground.phase }, { on := 8, ground := Go.Ground.phase }, { on := 9, ground := Go.Ground.phase }, { on := 10, ground := Go.Ground.phase }, { on := 11, ground := Go.Ground.phase }, { on := 12, ground := Go.Ground.phase }, { on := 13, ground := Go.Ground.phase }, { on := 14, ground := Go.Ground.phase }, { on := 15, ground := Go.Ground.phase }, { on := 16, ground := Go.Ground.phase }, { on := 17, ground := Go.Ground.phase }, { on := 18, ground := Go.Ground.phase }, { on := 19, ground := Go.Ground.phase }, { on := 20, ground := Go.Ground.phase }, { on := 21, ground := Go.Ground.phase }, { on := 22, ground := Go.Ground.phase }, { on := 23, ground := Go.Ground.phase }, { on := 24, ground := Go.Ground.phase }, { on := 25, ground := Go.Ground.phase }, { on := 26, ground := Go.Ground.phase }, { on := 27, ground := Go.Ground.phase }, { on := 28, ground := Go.Ground.phase }, { on := 29, ground := Go.Ground.phase }, { on := 30, ground := Go.Ground.phase }, { on := 31, ground := Go.Ground.phase }, { on := 32, ground := Go.Ground.phase }, { on := 33, ground := Go.Ground.phase }, { on := 34, ground := Go.Ground.phase }, { on := 35, ground := Go.Ground.phase }, { on := 36, ground := Go.Ground.phase }, { on := 37, ground := Go.Ground.phase }, { on := 38, ground := Go.Ground.phase }], guard := none }) (v := ?_) rfl (by kernel_rfl) (by kernel_rfl) (by kernel_rfl) (fun _ _ _ h => h) (Or.inl ⟨by rfl, ?_⟩) (by assumption) ?_
          rotate_left
          · intro w hSw
            (try dsimp only at hSw)
            go_simp
            all_goals with_reducible rfl
          try simp only [Act.put, List.setIfInBounds_toArray, List.set_cons_zero, List.set_cons_succ]
          refine wpAnyH_done (by kernel_rfl) ?_ _
          go_wp2
          go_ret
          exact ⟨rfl, K9.trans J4⟩
        exact AllReadyH.nil
      exact AllReadyH.nil
    exact AllReadyH.nil

set_option maxHeartbeats 4000000 in
set_option maxRecDepth 100000 in
theorem parts_great_false {w : World} {p : Option Addr} {n c : Nat} {L : List Ki} (h : Gw w p n c L) (hbig : 237 < (eitherP L false).put.length) :
    Calls Try.prog 6 #[.slice p n c, .bool false] w fun e w' => e = .returned (.bool true) ∧ Kept w w' := by
  have HE := either_gw h false
  have g := eitherP_good L false
  have HL : Hid ((eitherP L false).leaf = false) := eitherP_kind L false
  generalize eitherP L false = x at *
  have HREF : Hid (∀ (W : World) (kp : Option Addr) (nk kc : Nat) (vp : Option Addr) (nv vc : Nat) (ip : Option Addr) (ni ic : Nat), NV W false kp nk kc vp nv vc ip ni ic x → Calls Try.prog 13 #[.agg #[.bool false, .slice kp nk kc, .slice vp nv vc, .slice ip ni ic]] W fun e w' => ∃ vp' vc', e = .returned (.agg #[.bool false, .slice kp nk kc, .slice vp' nv vc', .slice ip ni ic]) ∧ NV w' false kp nk kc vp' nv vc' ip ni ic x ∧ Kept W w') := fun W kp nk kc vp nv vc ip ni ic h => ref_walk h (h.few g).2.1
  have HSM : Hid (∀ (W : World) (kp : Option Addr) (nk kc : Nat) (vp : Option Addr) (nv vc : Nat) (ip : Option Addr) (ni ic : Nat) (kp2 : Option Addr) (nk2 kc2 : Nat) (vp2 : Option Addr) (nv2 vc2 : Nat) (ip2 : Option Addr) (ni2 ic2 : Nat), NV W false kp nk kc vp nv vc ip ni ic x → NV W false kp2 nk2 kc2 vp2 nv2 vc2 ip2 ni2 ic2 x → Calls Try.prog 14 #[.agg #[.bool false, .slice kp nk kc, .slice vp nv vc, .slice ip ni ic], .agg #[.bool false, .slice kp2 nk2 kc2, .slice vp2 nv2 vc2, .slice ip2 ni2 ic2]] W fun e w' => e = .returned (.bool true) ∧ Kept W w') := fun W kp nk kc vp nv vc ip ni ic kp2 nk2 kc2 vp2 nv2 vc2 ip2 ni2 ic2 h h2 => same_true h h2 (h.few g).1 (h.few g).2.1 (h.few g).2.2
  have HRP : Hid (∀ (W : World) (kp : Option Addr) (nk kc : Nat) (vp : Option Addr) (nv vc : Nat) (ip : Option Addr) (ni ic : Nat), NV W false kp nk kc vp nv vc ip ni ic x → Calls Try.prog 22 #[.agg #[.bool false, .slice kp nk kc, .slice vp nv vc, .slice ip ni ic]] W fun e w' => ∃ m : Nat, e = .returned (.int .i64 (m : Nat)) ∧ Mid x 1 m ∧ Kept W w') := fun W kp nk kc vp nv vc ip ni ic h => refpart_walk h g hbig
  have HPT : Hid (∀ (W : World) (kp : Option Addr) (nk kc : Nat) (vp : Option Addr) (nv vc : Nat) (ip : Option Addr) (ni ic : Nat), NV W false kp nk kc vp nv vc ip ni ic x → Calls Try.prog 23 #[.agg #[.bool false, .slice kp nk kc, .slice vp nv vc, .slice ip ni ic]] W fun e w' => ∃ (g m : Nat) (key : ByteArray) (kpA : Option Addr) (nkA kcA : Nat) (vpA : Option Addr) (nvA vcA : Nat) (ipA : Option Addr) (niA icA : Nat) (kpB : Option Addr) (nkB kcB : Nat) (vpB : Option Addr) (nvB vcB : Nat) (ipB : Option Addr) (niB icB : Nat), e = .returned (.tuple #[.slice (some ⟨g, 0, none⟩) 2 2, .string key]) ∧ x.ks[m]? = some key ∧ Mid x 0 m ∧ w'.heap[g]? = some (.cells #[.bool false, .slice kpA nkA kcA, .slice vpA nvA vcA, .slice ipA niA icA, .bool false, .slice kpB nkB kcB, .slice vpB nvB vcB, .slice ipB niB icB] 27) ∧ NZ w' false kpA nkA kcA vpA nvA vcA ipA niA icA (x.fst m) ∧ NZ w' false kpB nkB kcB vpB nvB vcB ipB niB icB (x.snd m) ∧ Kept W w') := fun W kp nk kc vp nv vc ip ni ic h => part_walk h g hbig
  have HJ : Hid (∀ (W : World) (kpA : Option Addr) (nkA kcA : Nat) (vpA : Option Addr) (nvA vcA : Nat) (ipA : Option Addr) (niA icA : Nat) (kpB : Option Addr) (nkB kcB : Nat) (vpB : Option Addr) (nvB vcB : Nat) (ipB : Option Addr) (niB icB : Nat) (m : Nat) (key : ByteArray), NZ W false kpA nkA kcA vpA nvA vcA ipA niA icA (x.fst m) → NZ W false kpB nkB kcB vpB nvB vcB ipB niB icB (x.snd m) → m < x.ks.length → x.ks[m]? = some key → Calls Try.prog 24 #[.agg #[.bool false, .slice kpA nkA kcA, .slice vpA nvA vcA, .slice ipA niA icA], .string key, .agg #[.bool false, .slice kpB nkB kcB, .slice vpB nvB vcB, .slice ipB niB icB]] W fun e w' => ∃ kp nk kc vp nv vc ip ni ic, e = .returned (.agg #[.bool false, .slice kp nk kc, .slice vp nv vc, .slice ip ni ic]) ∧ NV w' false kp nk kc vp nv vc ip ni ic x ∧ Kept W w') := fun W kpA nkA kcA vpA nvA vcA ipA niA icA kpB nkB kcB vpB nvB vcB ipB niB icB m key ha hb hm hk => join_back ha hb g hm hk
  have HUP : Hid (∀ m, Mid x 0 m → Mid x 1 m) := fun m hm => hm.up g hbig
  have G : Hid (Good x) := g
  clear g h hbig
  go_enter Try.func6, Try.ntmps6
  go_upto_region 8 with (first
    | (go_at_call 8
       (with_reducible refine HE.mono ?_)
       rintro e v1 ⟨kp, nk, kc, vp, nv, vc, ip, ni, ic, rfl, N1, k1⟩
       have k1a := (Kept.refl v1).alloc (.cells #[.bool false, .slice kp nk kc, .slice vp nv vc, .slice ip ni ic] 27)
       have X1 := C4.alloc v1 27 (.bool false) (.slice kp nk kc) (.slice vp nv vc) (.slice ip ni ic)
       have N1 := N1.kept k1a
       have K1 := k1.trans k1a
       clear HE k1 k1a)
    | (go_at_call 13
       (with_reducible refine (HREF.out _ _ _ _ _ _ _ _ _ _ N1).mono ?_)
       rintro e v2 ⟨vpq, vcq, rfl, Dq, k2⟩
       have X2 := X1.kept k2
       have N2 := N1.kept k2
       have K2 := K1.trans k2
       clear X1 N1 K1 k2)
    | (go_at_call 22
       (with_reducible refine (HRP.out _ _ _ _ _ _ _ _ _ _ Dq).mono ?_)
       rintro e v3 ⟨m, rfl, HM, k3⟩
       have HM : Hid (Mid x 1 m) := HM
       have X3 := X2.kept k3
       have N3 := N2.kept k3
       have K3 := K2.trans k3
       have q0 : ¬ ((m : Int) < 0) := (by omega)
       obtain ⟨a0, a1, a2, a3⟩ := X3.cs
       clear X2 N2 K2 k3 HRP Dq)
    | (go_at_call 23
       (with_reducible refine (HPT.out _ _ _ _ _ _ _ _ _ _ N3).mono ?_)
       rintro e v4 ⟨g, m2, key, kpA, nkA, kcA, vpA, nvA, vcA, ipA, niA, icA, kpB, nkB, kcB, vpB, nvB, vcB, ipB, niB, icB, rfl, hky, HM2, hg, ZA, ZB, k4⟩
       obtain rfl : m = m2 := HM.out.one (HUP.out _ HM2)
       have X4 := X3.kept k4
       have N4 := N3.kept k4
       have K4 := K3.trans k4
       have hml := HM2.lt
       have f1 := (N4.few G.out).1
       have hmk : m < nk := (by have := N4.nk; omega)
       have hmk' : (m : Int) < (nk : Int) := (by omega)
       have hA : nkA = m := (by have h1 := ZA.nv.nk; rw [fst_many HM2.lt] at h1; omega)
       subst hA
       have hB : nkB + 1 = nk - nkA := (by have h1 := ZB.nv.nk; rw [snd_many_inner HL.out] at h1; have h2 := N4.nk; omega)
       have QB : Hid ((nk : Int) - (nkA : Int) = (nkB : Int) + 1) := (by show _ = _; omega)
       clear hB
       obtain ⟨kb, ko, rfl, hkc⟩ := N4.k.some (by omega)
       have hkc' := hkc nkA _ (kcl_at hky)
       have HKY : Hid (x.ks[nkA]? = some key) := hky
       have HML : Hid (nkA < x.ks.length) := hml
       have HKC : Hid (v4.cell? ⟨kb, ko + nkA, none⟩ = some (.string key)) := hkc'
       have HG : Hid (v4.heap[g]? = some (.cells #[.bool false, .slice kpA nkA kcA, .slice vpA nvA vcA, .slice ipA niA icA, .bool false, .slice kpB nkB kcB, .slice vpB nvB vcB, .slice ipB niB icB] 27)) := hg
       clear X3 N3 K3 k4 HPT a0 a1 a2 a3 hkc hkc' hky hg HM2 hml HM HUP)
    | (go_at_call 11
       (with_reducible refine (awake_walk _).mono ?_)
       rintro e v5 ⟨rfl, k5⟩
       have X5 := X4.kept k5
       have N5 := N4.kept k5
       have K5 := K4.trans k5
       have YA := ZA.kept k5
       have YB := ZB.kept k5
       have hkey := k5.cell HKC.out
       have HG5 : Hid (v5.heap[g]? = some (.cells #[.bool false, .slice kpA nkA kcA, .slice vpA nvA vcA, .slice ipA niA icA, .bool false, .slice kpB nkB kcB, .slice vpB nvB vcB, .slice ipB niB icB] 27)) := k5.block HG.out
       obtain ⟨b0, b1, b2, b3⟩ := X5.cs
       obtain ⟨d0, d1, d2, d3, d4, d5, d6, d7⟩ := cells8 HG5.out
       clear X4 N4 K4 ZA ZB HKC HG k5))
  generalize v1.heap.size = b5 at *
  have e0 := fun o => cells8 ((Kept.refl v5).alloc o |>.block HG5.out)
  clear d0 d1 d2 d3 d4 d5 d6 d7 b0 b1 b2 b3 hkey
  have S0 : Hid (∀ W, Kept v5 W → W.cell? ⟨g, 0, none⟩ = some (.bool false) ∧ W.cell? ⟨g, 1, none⟩ = some (.slice kpA nkA kcA) ∧ W.cell? ⟨g, 2, none⟩ = some (.slice vpA nvA vcA) ∧ W.cell? ⟨g, 3, none⟩ = some (.slice ipA niA icA) ∧ W.cell? ⟨g, 4, none⟩ = some (.bool false) ∧ W.cell? ⟨g, 5, none⟩ = some (.slice kpB nkB kcB) ∧ W.cell? ⟨g, 6, none⟩ = some (.slice vpB nvB vcB) ∧ W.cell? ⟨g, 7, none⟩ = some (.slice ipB niB icB)) := fun W hW => cells8 (hW.block HG5.out)
  clear e0
  have KD : Kept v5 v5.drew := (Kept.refl v5).drew
  have KE : Kept v5 (v5.alloc (.cells #[.bool false, .slice none 0 0, .slice none 0 0, .slice none 0 0] 27)).drew := ((Kept.refl v5).alloc _).drew
  go_cut [9] from 67 to 74 (fun pv wx => ∃ (b9 : Nat) (kp9 : Option Addr) (nk9 kc9 : Nat) (vp9 : Option Addr) (nv9 vc9 : Nat) (ip9 : Option Addr) (ni9 ic9 : Nat), pv = .pointer (some ⟨b9, 0, none⟩) ∧ C4 wx b9 27 (.bool false) (.slice kp9 nk9 kc9) (.slice vp9 nv9 vc9) (.slice ip9 ni9 ic9) ∧ NV wx false kp9 nk9 kc9 vp9 nv9 vc9 ip9 ni9 ic9 x ∧ Kept v5 wx)
  case first =>
    go_region_held3 (fun W => W.cell? ⟨g, 0, none⟩ = some (.bool false) ∧ W.cell? ⟨g, 1, none⟩ = some (.slice kpA nkA kcA) ∧ W.cell? ⟨g, 2, none⟩ = some (.slice vpA nvA vcA) ∧ W.cell? ⟨g, 3, none⟩ = some (.slice ipA niA icA) ∧ W.cell? ⟨g, 4, none⟩ = some (.bool false) ∧ W.cell? ⟨g, 5, none⟩ = some (.slice kpB nkB kcB) ∧ W.cell? ⟨g, 6, none⟩ = some (.slice vpB nvB vcB) ∧ W.cell? ⟨g, 7, none⟩ = some (.slice ipB niB icB)) (exact S0.out _ (by first | assumption | exact Kept.alloc (by assumption) _ | exact (Kept.refl _).alloc _)) (first
      | (go_at_call 24
         (with_reducible refine (HJ.out _ _ _ _ _ _ _ _ _ _ _ _ _ _ _ _ _ _ _ _ _ (YA.kept KD) (YB.kept KD) HML.out HKY.out).mono ?_)
         rintro e v6 ⟨kp9, nk9, kc9, vp9, nv9, vc9, ip9, ni9, ic9, rfl, N6, k6⟩
         have J6 := KD.trans k6
         have F6 := C4.alloc v6 27 (.bool false) (.slice kp9 nk9 kc9) (.slice vp9 nv9 vc9) (.slice ip9 ni9 ic9)
         have N7 := N6.kept ((Kept.refl v6).alloc (.cells #[.bool false, .slice kp9 nk9 kc9, .slice vp9 nv9 vc9, .slice ip9 ni9 ic9] 27))
         have E6 := J6.trans ((Kept.refl v6).alloc (.cells #[.bool false, .slice kp9 nk9 kc9, .slice vp9 nv9 vc9, .slice ip9 ni9 ic9] 27)))
      | (go_at_call 24
         (with_reducible refine (HJ.out _ _ _ _ _ _ _ _ _ _ _ _ _ _ _ _ _ _ _ _ _ (YA.kept KE) (YB.kept KE) HML.out HKY.out).mono ?_)
         rintro e v6 ⟨kp9, nk9, kc9, vp9, nv9, vc9, ip9, ni9, ic9, rfl, N6, k6⟩
         have Z6 := ((C4.alloc v5 27 (.bool false) (.slice none 0 0) (.slice none 0 0) (.slice none 0 0)).drew).kept k6
         have J6 := KE.trans k6
         obtain ⟨⟨g0, f0⟩, ⟨g1, f1'⟩, ⟨g2, f2⟩, ⟨g3, f3⟩, hfin⟩ := ready4 Z6.out (.bool false) (.slice kp9 nk9 kc9) (.slice vp9 nv9 vc9) (.slice ip9 ni9 ic9)
         have F6 : C4 _ v5.heap.size 27 (.bool false) (.slice kp9 nk9 kc9) (.slice vp9 nv9 vc9) (.slice ip9 ni9 ic9) := ⟨hfin⟩
         have N7 := N6.apart Z6 (fun k hk => st4_apart v6 hk (.bool false) (.slice kp9 nk9 kc9) (.slice vp9 nv9 vc9) (.slice ip9 ni9 ic9))
         have E6 := J6.st4 (Nat.le_refl _) (.bool false) (.slice kp9 nk9 kc9) (.slice vp9 nv9 vc9) (.slice ip9 ni9 ic9)))
    all_goals (go_wp2_with fail)
    all_goals go_meet
    all_goals exact ⟨_, _, _, _, _, _, _, _, _, _, rfl, F6, N7, E6⟩
  case rest =>
    obtain ⟨b9, kp9, nk9, kc9, vp9, nv9, vc9, ip9, ni9, ic9, rfl, X9, N9, k9⟩ := hcut
    have W5 := X5.kept k9
    have W9 := N5.kept k9
    have K9 := K5.trans k9
    have HSA : Hid (∀ W, Kept wc W → W.cell? ⟨b5, 0, none⟩ = some (.bool false) ∧ W.cell? ⟨b5, 1, none⟩ = some (.slice (some ⟨kb, ko, none⟩) nk kc) ∧ W.cell? ⟨b5, 2, none⟩ = some (.slice vp nv vc) ∧ W.cell? ⟨b5, 3, none⟩ = some (.slice ip ni ic) ∧ W.cell? ⟨b9, 0, none⟩ = some (.bool false) ∧ W.cell? ⟨b9, 1, none⟩ = some (.slice kp9 nk9 kc9) ∧ W.cell? ⟨b9, 2, none⟩ = some (.slice vp9 nv9 vc9) ∧ W.cell? ⟨b9, 3, none⟩ = some (.slice ip9 ni9 ic9) ∧ W.cell? ⟨g, 5, none⟩ = some (.slice kpB nkB kcB)) := by
      intro W hW
      obtain ⟨z0, z1, z2, z3⟩ := (W5.kept hW).cs
      obtain ⟨y0, y1, y2, y3⟩ := (X9.kept hW).cs
      exact ⟨z0, z1, z2, z3, y0, y1, y2, y3, (S0.out _ (k9.trans hW)).2.2.2.2.2.1⟩
    have u1 : IntKind.i64.wrap ((nk : Int) - (nkA : Int)) = (nkB : Int) + 1 := by have qB := QB.out; rw [IntKind.wrap_i64]; omega
    have u2 : IntKind.i64.wrap ((nkB : Int) + 1 - 1) = (nkB : Int) := by have qB := QB.out; rw [IntKind.wrap_i64]; omega
    have u3 : IntKind.i64.wrap (nkB : Int) = (nkB : Int) := by have qB := QB.out; rw [IntKind.wrap_i64]; omega
    clear QB
    have KDx : Kept wc wc.drew := (Kept.refl wc).drew
    clear X5 N5 K5 X9 W5 S0 HG5 HJ YA YB KD KE k9 HKY HML
    go_wp2_with fail
    refine wp_region_held_drew (S := (fun W => W.cell? ⟨b5, 0, none⟩ = some (.bool false) ∧ W.cell? ⟨b5, 1, none⟩ = some (.slice (some ⟨kb, ko, none⟩) nk kc) ∧ W.cell? ⟨b5, 2, none⟩ = some (.slice vp nv vc) ∧ W.cell? ⟨b5, 3, none⟩ = some (.slice ip ni ic) ∧ W.cell? ⟨b9, 0, none⟩ = some (.bool false) ∧ W.cell? ⟨b9, 1, none⟩ = some (.slice kp9 nk9 kc9) ∧ W.cell? ⟨b9, 2, none⟩ = some (.slice vp9 nv9 vc9) ∧ W.cell? ⟨b9, 3, none⟩ = some (.slice ip9 ni9 ic9) ∧ W.cell? ⟨g, 5, none⟩ = some (.slice kpB nkB kcB))) (by kernel_rfl) ?_ (fun hHeld => ?_)
    · exact HSA.out _ KDx
    refine wpAnyH_take (i := 0) (oi := { dst := some 75, op := Go.Op.load 27 (Go.Operand.tmp 9), type := 27, pos := "law.go:137", after := #[], guard := none }) (v := ?_) rfl (by kernel_rfl) (by kernel_rfl) (by kernel_rfl) (fun _ _ _ h => h) (Or.inl ⟨by rfl, ?_⟩) (by assumption) ?_
    rotate_left
    · intro w hSw
      (try dsimp only at hSw)
      go_simp
      all_goals with_reducible rfl
    try simp only [Act.put, List.setIfInBounds_toArray, List.set_cons_zero, List.set_cons_succ]
    refine wpAnyH_take (i := 2) (oi := { dst := some 77, op := Go.Op.load 27 (Go.Operand.tmp 5), type := 27, pos := "law.go:137", after := #[], guard := none }) (v := ?_) rfl (by kernel_rfl) (by kernel_rfl) (by kernel_rfl) (fun _ _ _ h => h) (Or.inl ⟨by rfl, ?_⟩) (by assumption) ?_
    rotate_left
    · intro w hSw
      (try dsimp only at hSw)
      go_simp
      all_goals with_reducible rfl
    try simp only [Act.put, List.setIfInBounds_toArray, List.set_cons_zero, List.set_cons_succ]
    refine wpAnyH_ready (rs := [1]) (by kernel_rfl) (by simp) ?_
    refine AllReadyH.cons (o := { dst := some 76, op := Go.Op.call { callee := Go.Callee.value (Go.Operand.func 13), args := #[Go.Operand.tmp 75], argTypes := #[27] }, type := 37, pos := "law.go:137", after := #[{ on := 0, ground := Go.Ground.data }], guard := none }) rfl (fun KK hKK => ?_) ?_
    ·
      go_simp
      go_at_call 13
      (with_reducible refine (HREF.out _ _ _ _ _ _ _ _ _ _ (N9.kept KDx)).mono ?_)
      rintro e y2 ⟨vpa, vca, rfl, Da, j2⟩
      have J2 := KDx.trans j2
      go_wp2_with fail
      refine hKK.out _ _ ?_ (fun hHeld => ?_)
      · (try dsimp only)
        exact HSA.out _ (by assumption)
      clear hKK KK
      try simp only [Act.put, List.setIfInBounds_toArray, List.set_cons_zero, List.set_cons_succ]
      refine wpAnyH_ready (rs := [3]) (by kernel_rfl) (by simp) ?_
      refine AllReadyH.cons (o := { dst := some 78, op := Go.Op.call { callee := Go.Callee.value (Go.Operand.func 13), args := #[Go.Operand.tmp 77], argTypes := #[27] }, type := 37, pos := "law.go:137", after := #[{ on := 2, ground := Go.Ground.data }, { on := 1, ground := Go.Ground.chain }], guard := none }) rfl (fun KK hKK => ?_) ?_
      ·
        go_simp
        go_at_call 13
        (with_reducible refine (HREF.out _ _ _ _ _ _ _ _ _ _ (W9.kept J2)).mono ?_)
        rintro e y3 ⟨vpb, vcb, rfl, Db, j3⟩
        have J3 := J2.trans j3
        have Da3 := Da.kept j3
        go_wp2_with fail
        refine hKK.out _ _ ?_ (fun hHeld => ?_)
        · (try dsimp only)
          exact HSA.out _ (by assumption)
        clear hKK KK
        try simp only [Act.put, List.setIfInBounds_toArray, List.set_cons_zero, List.set_cons_succ]
        refine wpAnyH_ready (rs := [4]) (by kernel_rfl) (by simp) ?_
        refine AllReadyH.cons (o := { dst := some 79, op := Go.Op.call { callee := Go.Callee.value (Go.Operand.func 14), args := #[Go.Operand.tmp 76, Go.Operand.tmp 78], argTypes := #[37, 37] }, type := 4, pos := "law.go:137", after := #[{ on := 1, ground := Go.Ground.data }, { on := 3, ground := Go.Ground.data }, { on := 3, ground := Go.Ground.chain }], guard := none }) rfl (fun KK hKK => ?_) ?_
        ·
          go_simp
          go_at_call 14
          (with_reducible refine (HSM.out _ _ _ _ _ _ _ _ _ _ _ _ _ _ _ _ _ _ _ Da3 Db).mono ?_)
          rintro e y4 ⟨rfl, j4⟩
          have J4 := J3.trans j4
          go_wp2_with fail
          refine hKK.out _ _ ?_ (fun hHeld => ?_)
          · (try dsimp only)
            exact HSA.out _ (by assumption)
          clear hKK KK
          try simp only [Act.put, List.setIfInBounds_toArray, List.set_cons_zero, List.set_cons_succ]
          refine wpAnyH_take (i := 5) (oi := { dst := some 80, op := Go.Op.move (Go.Operand.tmp 79), type := 4, pos := "law.go:137", after := #[{ on := 4, ground := Go.Ground.data }, { on := 4, ground := Go.Ground.chain }], guard := none }) (v := ?_) rfl (by kernel_rfl) (by kernel_rfl) (by kernel_rfl) (fun _ _ _ h => h) (Or.inl ⟨by rfl, ?_⟩) (by assumption) ?_
          rotate_left
          · intro w hSw
            (try dsimp only at hSw)
            go_simp
            all_goals with_reducible rfl
          try simp only [Act.put, List.setIfInBounds_toArray, List.set_cons_zero, List.set_cons_succ]
          refine wpAnyH_take (i := 6) (oi := { dst := some 81, op := Go.Op.move (Go.Operand.tmp 1), type := 4, pos := "law.go:137", after := #[{ on := 5, ground := Go.Ground.guard }], guard := some (5, true) }) (v := ?_) rfl (by kernel_rfl) (by kernel_rfl) (by kernel_rfl) (fun _ _ _ h => h) (Or.inl ⟨by rfl, ?_⟩) (by assumption) ?_
          rotate_left
          · intro w hSw
            (try dsimp only at hSw)
            go_simp
            all_goals with_reducible rfl
          try simp only [Act.put, List.setIfInBounds_toArray, List.set_cons_zero, List.set_cons_succ]
          refine wpAnyH_take (i := 7) (oi := { dst := some 82, op := Go.Op.move (Go.Operand.tmp 81), type := 4, pos := "law.go:137", after := #[{ on := 6, ground := Go.Ground.data }, { on := 5, ground := Go.Ground.chain }, { on := 5, ground := Go.Ground.guard }], guard := some (5, true) }) (v := ?_) rfl (by kernel_rfl) (by kernel_rfl) (by kernel_rfl) (fun _ _ _ h => h) (Or.inl ⟨by rfl, ?_⟩) (by assumption) ?_
          rotate_left
          · intro w hSw
            (try dsimp only at hSw)
            go_simp
            all_goals with_reducible rfl
          try simp only [Act.put, List.setIfInBounds_toArray, List.set_cons_zero, List.set_cons_succ]
          refine wpAnyH_take (i := 8) (oi := { dst := some 83, op := Go.Op.move (Go.Operand.tmp 7), type := 58, pos := "law.go:137", after := #[{ on := 7, ground := Go.Ground.guard }], guard := some (7, true) }) (v := undef) rfl (by kernel_rfl) (by kernel_rfl) (by kernel_rfl) (fun _ _ _ h => h) (Or.inr ⟨by rfl, by rfl⟩) (by assumption) ?_
          try simp only [Act.put, List.setIfInBounds_toArray, List.set_cons_zero, List.set_cons_succ]
          refine wpAnyH_take (i := 9) (oi := { dst := some 84, op := Go.Op.indexAddr 58 (Go.Operand.tmp 83) (Go.Operand.const (Go.Value.int Go.IntKind.i64 1)), type := 0, pos := "law.go:137", after := #[{ on := 8, ground := Go.Ground.data }, { on := 7, ground := Go.Ground.guard }], guard := some (7, true) }) (v := undef) rfl (by kernel_rfl) (by kernel_rfl) (by kernel_rfl) (fun _ _ _ h => h) (Or.inr ⟨by rfl, by rfl⟩) (by assumption) ?_
          try simp only [Act.put, List.setIfInBounds_toArray, List.set_cons_zero, List.set_cons_succ]
          refine wpAnyH_take (i := 10) (oi := { dst := some 85, op := Go.Op.fieldAddr 27 (Go.Operand.tmp 84) 1, type := 0, pos := "law.go:137", after := #[{ on := 9, ground := Go.Ground.data }, { on := 7, ground := Go.Ground.guard }], guard := some (7, true) }) (v := undef) rfl (by kernel_rfl) (by kernel_rfl) (by kernel_rfl) (fun _ _ _ h => h) (Or.inr ⟨by rfl, by rfl⟩) (by assumption) ?_
          try simp only [Act.put, List.setIfInBounds_toArray, List.set_cons_zero, List.set_cons_succ]
          refine wpAnyH_take (i := 11) (oi := { dst := some 86, op := Go.Op.load 23 (Go.Operand.tmp 85), type := 23, pos := "law.go:137", after := #[{ on := 10, ground := Go.Ground.data }, { on := 7, ground := Go.Ground.guard }], guard := some (7, true) }) (v := undef) rfl (by kernel_rfl) (by kernel_rfl) (by kernel_rfl) (fun _ _ _ h => h) (Or.inr ⟨by rfl, by rfl⟩) (by assumption) ?_
          try simp only [Act.put, List.setIfInBounds_toArray, List.set_cons_zero, List.set_cons_succ]
          refine wpAnyH_take (i := 12) (oi := { dst := some 87, op := Go.Op.call { callee := Go.Callee.builtin Go.Builtin.len, args := #[Go.Operand.tmp 86], argTypes := #[23] }, type := 3, pos := "law.go:137", after := #[{ on := 11, ground := Go.Ground.data }, { on := 7, ground := Go.Ground.guard }], guard := some (7, true) }) (v := undef) rfl (by kernel_rfl) (by kernel_rfl) (by kernel_rfl) (fun _ _ _ h => h) (Or.inr ⟨by rfl, by rfl⟩) (by assumption) ?_
          try simp only [Act.put, List.setIfInBounds_toArray, List.set_cons_zero, List.set_cons_succ]
          refine wpAnyH_take (i := 13) (oi := { dst := some 88, op := Go.Op.fieldAddr 27 (Go.Operand.tmp 5) 1, type := 0, pos := "law.go:137", after := #[{ on := 7, ground := Go.Ground.guard }], guard := some (7, true) }) (v := undef) rfl (by kernel_rfl) (by kernel_rfl) (by kernel_rfl) (fun _ _ _ h => h) (Or.inr ⟨by rfl, by rfl⟩) (by assumption) ?_
          try simp only [Act.put, List.setIfInBounds_toArray, List.set_cons_zero, List.set_cons_succ]
          refine wpAnyH_take (i := 14) (oi := { dst := some 89, op := Go.Op.load 23 (Go.Operand.tmp 88), type := 23, pos := "law.go:137", after := #[{ on := 13, ground := Go.Ground.data }, { on := 7, ground := Go.Ground.guard }], guard := some (7, true) }) (v := undef) rfl (by kernel_rfl) (by kernel_rfl) (by kernel_rfl) (fun _ _ _ h => h) (Or.inr ⟨by rfl, by rfl⟩) (by assumption) ?_
          try simp only [Act.put, List.setIfInBounds_toArray, List.set_cons_zero, List.set_cons_succ]
          refine wpAnyH_take (i := 15) (oi := { dst := some 90, op := Go.Op.call { callee := Go.Callee.builtin Go.Builtin.len, args := #[Go.Operand.tmp 89], argTypes := #[23] }, type := 3, pos := "law.go:137", after := #[{ on := 14, ground := Go.Ground.data }, { on := 7, ground := Go.Ground.guard }], guard := some (7, true) }) (v := undef) rfl (by kernel_rfl) (by kernel_rfl) (by kernel_rfl) (fun _ _ _ h => h) (Or.inr ⟨by rfl, by rfl⟩) (by assumption) ?_
          try simp only [Act.put, List.setIfInBounds_toArray, List.set_cons_zero, List.set_cons_succ]
          refine wpAnyH_take (i := 16) (oi := { dst := some 91, op := Go.Op.move (Go.Operand.tmp 6), type := 3, pos := "law.go:137", after := #[{ on := 7, ground := Go.Ground.guard }], guard := some (7, true) }) (v := undef) rfl (by kernel_rfl) (by kernel_rfl) (by kernel_rfl) (fun _ _ _ h => h) (Or.inr ⟨by rfl, by rfl⟩) (by assumption) ?_
          try simp only [Act.put, List.setIfInBounds_toArray, List.set_cons_zero, List.set_cons_succ]
          refine wpAnyH_take (i := 17) (oi := { dst := some 92, op := Go.Op.binOp Go.BinOp.sub 3 (Go.Operand.tmp 90) (Go.Operand.tmp 91) 3, type := 3, pos := "law.go:137", after := #[{ on := 15, ground := Go.Ground.data }, { on := 16, ground := Go.Ground.data }, { on := 7, ground := Go.Ground.guard }], guard := some (7, true) }) (v := undef) rfl (by kernel_rfl) (by kernel_rfl) (by kernel_rfl) (fun _ _ _ h => h) (Or.inr ⟨by rfl, by rfl⟩) (by assumption) ?_
          try simp only [Act.put, List.setIfInBounds_toArray, List.set_cons_zero, List.set_cons_succ]
          refine wpAnyH_take (i := 18) (oi := { dst := some 93, op := Go.Op.binOp Go.BinOp.eql 3 (Go.Operand.tmp 87) (Go.Operand.tmp 92) 3, type := 4, pos := "law.go:137", after := #[{ on := 12, ground := Go.Ground.data }, { on := 17, ground := Go.Ground.data }, { on := 7, ground := Go.Ground.guard }], guard := some (7, true) }) (v := undef) rfl (by kernel_rfl) (by kernel_rfl) (by kernel_rfl) (fun _ _ _ h => h) (Or.inr ⟨by rfl, by rfl⟩) (by assumption) ?_
          try simp only [Act.put, List.setIfInBounds_toArray, List.set_cons_zero, List.set_cons_succ]
          refine wpAnyH_take (i := 19) (oi := { dst := some 94, op := Go.Op.pick (Go.Operand.tmp 82) (Go.Operand.tmp 93) (Go.Operand.const (Go.Value.bool false)), type := 4, pos := "law.go:137", after := #[{ on := 7, ground := Go.Ground.data }, { on := 18, ground := Go.Ground.data }, { on := 5, ground := Go.Ground.guard }], guard := some (5, true) }) (v := ?_) rfl (by kernel_rfl) (by kernel_rfl) (by kernel_rfl) (fun _ _ _ h => h) (Or.inl ⟨by rfl, ?_⟩) (by assumption) ?_
          rotate_left
          · intro w hSw
            (try dsimp only at hSw)
            go_simp
            all_goals with_reducible rfl
          try simp only [Act.put, List.setIfInBounds_toArray, List.set_cons_zero, List.set_cons_succ]
          refine wpAnyH_take (i := 20) (oi := { dst := some 95, op := Go.Op.move (Go.Operand.tmp 94), type := 4, pos := "law.go:137", after := #[{ on := 19, ground := Go.Ground.data }, { on := 7, ground := Go.Ground.chain }, { on := 5, ground := Go.Ground.guard }], guard := some (5, true) }) (v := ?_) rfl (by kernel_rfl) (by kernel_rfl) (by kernel_rfl) (fun _ _ _ h => h) (Or.inl ⟨by rfl, ?_⟩) (by assumption) ?_
          rotate_left
          · intro w hSw
            (try dsimp only at hSw)
            go_simp
            all_goals with_reducible rfl
          try simp only [Act.put, List.setIfInBounds_toArray, List.set_cons_zero, List.set_cons_succ]
          refine wpAnyH_take (i := 21) (oi := { dst := some 96, op := Go.Op.move (Go.Operand.tmp 1), type := 4, pos := "law.go:137", after := #[{ on := 20, ground := Go.Ground.guard }], guard := some (20, false) }) (v := ?_) rfl (by kernel_rfl) (by kernel_rfl) (by kernel_rfl) (fun _ _ _ h => h) (Or.inl ⟨by rfl, ?_⟩) (by assumption) ?_
          rotate_left
          · intro w hSw
            (try dsimp only at hSw)
            go_simp
            all_goals with_reducible rfl
          try simp only [Act.put, List.setIfInBounds_toArray, List.set_cons_zero, List.set_cons_succ]
          refine wpAnyH_take (i := 22) (oi := { dst := some 97, op := Go.Op.unOp Go.UnOp.not 4 (Go.Operand.tmp 96), type := 4, pos := "law.go:137", after := #[{ on := 21, ground := Go.Ground.data }, { on := 20, ground := Go.Ground.guard }], guard := some (20, false) }) (v := ?_) rfl (by kernel_rfl) (by kernel_rfl) (by kernel_rfl) (fun _ _ _ h => h) (Or.inl ⟨by rfl, ?_⟩) (by assumption) ?_
          rotate_left
          · intro w hSw
            (try dsimp only at hSw)
            go_simp
            all_goals with_reducible rfl
          try simp only [Act.put, List.setIfInBounds_toArray, List.set_cons_zero, List.set_cons_succ]
          refine wpAnyH_take (i := 23) (oi := { dst := some 98, op := Go.Op.move (Go.Operand.tmp 97), type := 4, pos := "law.go:137", after := #[{ on := 22, ground := Go.Ground.data }, { on := 20, ground := Go.Ground.chain }, { on := 20, ground := Go.Ground.guard }], guard := some (20, false) }) (v := ?_) rfl (by kernel_rfl) (by kernel_rfl) (by kernel_rfl) (fun _ _ _ h => h) (Or.inl ⟨by rfl, ?_⟩) (by assumption) ?_
          rotate_left
          · intro w hSw
            (try dsimp only at hSw)
            go_simp
            all_goals with_reducible rfl
          try simp only [Act.put, List.setIfInBounds_toArray, List.set_cons_zero, List.set_cons_succ]
          refine wpAnyH_take (i := 24) (oi := { dst := some 99, op := Go.Op.move (Go.Operand.tmp 7), type := 58, pos := "law.go:137", after := #[{ on := 23, ground := Go.Ground.guard }], guard := some (23, true) }) (v := ?_) rfl (by kernel_rfl) (by kernel_rfl) (by kernel_rfl) (fun _ _ _ h => h) (Or.inl ⟨by rfl, ?_⟩) (by assumption) ?_
          rotate_left
          · intro w hSw
            (try dsimp only at hSw)
            go_simp
            all_goals with_reducible rfl
          try simp only [Act.put, List.setIfInBounds_toArray, List.set_cons_zero, List.set_cons_succ]
          refine wpAnyH_take (i := 25) (oi := { dst := some 100, op := Go.Op.indexAddr 58 (Go.Operand.tmp 99) (Go.Operand.const (Go.Value.int Go.IntKind.i64 1)), type := 0, pos := "law.go:137", after := #[{ on := 24, ground := Go.Ground.data }, { on := 23, ground := Go.Ground.guard }], guard := some (23, true) }) (v := ?_) rfl (by kernel_rfl) (by kernel_rfl) (by kernel_rfl) (fun _ _ _ h => h) (Or.inl ⟨by rfl, ?_⟩) (by assumption) ?_
          rotate_left
          · intro w hSw
            (try dsimp only at hSw)
            go_simp
            all_goals with_reducible rfl
          try simp only [Act.put, List.setIfInBounds_toArray, List.set_cons_zero, List.set_cons_succ]
          refine wpAnyH_take (i := 26) (oi := { dst := some 101, op := Go.Op.fieldAddr 27 (Go.Operand.tmp 100) 1, type := 0, pos := "law.go:137", after := #[{ on := 25, ground := Go.Ground.data }, { on := 23, ground := Go.Ground.guard }], guard := some (23, true) }) (v := ?_) rfl (by kernel_rfl) (by kernel_rfl) (by kernel_rfl) (fun _ _ _ h => h) (Or.inl ⟨by rfl, ?_⟩) (by assumption) ?_
          rotate_left
          · intro w hSw
            (try dsimp only at hSw)
            go_simp
            all_goals with_reducible rfl
          try simp only [Act.put, List.setIfInBounds_toArray, List.set_cons_zero, List.set_cons_succ]
          refine wpAnyH_take (i := 27) (oi := { dst := some 102, op := Go.Op.load 23 (Go.Operand.tmp 101), type := 23, pos := "law.go:137", after := #[{ on := 26, ground := Go.Ground.data }, { on := 23, ground := Go.Ground.guard }], guard := some (23, true) }) (v := ?_) rfl (by kernel_rfl) (by kernel_rfl) (by kernel_rfl) (fun _ _ _ h => h) (Or.inl ⟨by rfl, ?_⟩) (by assumption) ?_
          rotate_left
          · intro w hSw
            (try dsimp only at hSw)
            go_simp
            all_goals with_reducible rfl
          try simp only [Act.put, List.setIfInBounds_toArray, List.set_cons_zero, List.set_cons_succ]
          refine wpAnyH_take (i := 28) (oi := { dst := some 103, op := Go.Op.call { callee := Go.Callee.builtin Go.Builtin.len, args := #[Go.Operand.tmp 102], argTypes := #[23] }, type := 3, pos := "law.go:137", after := #[{ on := 27, ground := Go.Ground.data }, { on := 23, ground := Go.Ground.guard }], guard := some (23, true) }) (v := ?_) rfl (by kernel_rfl) (by kernel_rfl) (by kernel_rfl) (fun _ _ _ h => h) (Or.inl ⟨by rfl, ?_⟩) (by assumption) ?_
          rotate_left
          · intro w hSw
            (try dsimp only at hSw)
            go_simp
            all_goals with_reducible rfl
          try simp only [Act.put, List.setIfInBounds_toArray, List.set_cons_zero, List.set_cons_succ]
          refine wpAnyH_take (i := 29) (oi := { dst := some 104, op := Go.Op.fieldAddr 27 (Go.Operand.tmp 5) 1, type := 0, pos := "law.go:137", after := #[{ on := 23, ground := Go.Ground.guard }], guard := some (23, true) }) (v := ?_) rfl (by kernel_rfl) (by kernel_rfl) (by kernel_rfl) (fun _ _ _ h => h) (Or.inl ⟨by rfl, ?_⟩) (by assumption) ?_
          rotate_left
          · intro w hSw
            (try dsimp only at hSw)
            go_simp
            all_goals with_reducible rfl
          try simp only [Act.put, List.setIfInBounds_toArray, List.set_cons_zero, List.set_cons_succ]
          refine wpAnyH_take (i := 30) (oi := { dst := some 105, op := Go.Op.load 23 (Go.Operand.tmp 104), type := 23, pos := "law.go:137", after := #[{ on := 29, ground := Go.Ground.data }, { on := 23, ground := Go.Ground.guard }], guard := some (23, true) }) (v := ?_) rfl (by kernel_rfl) (by kernel_rfl) (by kernel_rfl) (fun _ _ _ h => h) (Or.inl ⟨by rfl, ?_⟩) (by assumption) ?_
          rotate_left
          · intro w hSw
            (try dsimp only at hSw)
            go_simp
            all_goals with_reducible rfl
          try simp only [Act.put, List.setIfInBounds_toArray, List.set_cons_zero, List.set_cons_succ]
          refine wpAnyH_take (i := 31) (oi := { dst := some 106, op := Go.Op.call { callee := Go.Callee.builtin Go.Builtin.len, args := #[Go.Operand.tmp 105], argTypes := #[23] }, type := 3, pos := "law.go:137", after := #[{ on := 30, ground := Go.Ground.data }, { on := 23, ground := Go.Ground.guard }], guard := some (23, true) }) (v := ?_) rfl (by kernel_rfl) (by kernel_rfl) (by kernel_rfl) (fun _ _ _ h => h) (Or.inl ⟨by rfl, ?_⟩) (by assumption) ?_
          rotate_left
          · intro w hSw
            (try dsimp only at hSw)
            go_simp
            all_goals with_reducible rfl
          try simp only [Act.put, List.setIfInBounds_toArray, List.set_cons_zero, List.set_cons_succ]
          refine wpAnyH_take (i := 32) (oi := { dst := some 107, op := Go.Op.move (Go.Operand.tmp 6), type := 3, pos := "law.go:137", after := #[{ on := 23, ground := Go.Ground.guard }], guard := some (23, true) }) (v := ?_) rfl (by kernel_rfl) (by kernel_rfl) (by kernel_rfl) (fun _ _ _ h => h) (Or.inl ⟨by rfl, ?_⟩) (by assumption) ?_
          rotate_left
          · intro w hSw
            (try dsimp only at hSw)
            go_simp
            all_goals with_reducible rfl
          try simp only [Act.put, List.setIfInBounds_toArray, List.set_cons_zero, List.set_cons_succ]
          refine wpAnyH_take (i := 33) (oi := { dst := some 108, op := Go.Op.binOp Go.BinOp.sub 3 (Go.Operand.tmp 106) (Go.Operand.tmp 107) 3, type := 3, pos := "law.go:137", after := #[{ on := 31, ground := Go.Ground.data }, { on := 32, ground := Go.Ground.data }, { on := 23, ground := Go.Ground.guard }], guard := some (23, true) }) (v := ?_) rfl (by kernel_rfl) (by kernel_rfl) (by kernel_rfl) (fun _ _ _ h => h) (Or.inl ⟨by rfl, ?_⟩) (by assumption) ?_
          rotate_left
          · intro w hSw
            (try dsimp only at hSw)
            go_simp
            all_goals with_reducible rfl
          try simp only [Act.put, List.setIfInBounds_toArray, List.set_cons_zero, List.set_cons_succ]
          refine wpAnyH_take (i := 34) (oi := { dst := some 109, op := Go.Op.binOp Go.BinOp.sub 3 (Go.Operand.tmp 108) (Go.Operand.const (Go.Value.int Go.IntKind.i64 1)) 3, type := 3, pos := "law.go:137", after := #[{ on := 33, ground := Go.Ground.data }, { on := 23, ground := Go.Ground.guard }], guard := some (23, true) }) (v := ?_) rfl (by kernel_rfl) (by kernel_rfl) (by kernel_rfl) (fun _ _ _ h => h) (Or.inl ⟨by rfl, ?_⟩) (by assumption) ?_
          rotate_left
          · intro w hSw
            (try dsimp only at hSw)
            go_simp
            all_goals with_reducible rfl
          try simp only [Act.put, List.setIfInBounds_toArray, List.set_cons_zero, List.set_cons_succ]
          refine wpAnyH_take (i := 35) (oi := { dst := some 110, op := Go.Op.binOp Go.BinOp.eql 3 (Go.Operand.tmp 103) (Go.Operand.tmp 109) 3, type := 4, pos := "law.go:137", after := #[{ on := 28, ground := Go.Ground.data }, { on := 34, ground := Go.Ground.data }, { on := 23, ground := Go.Ground.guard }], guard := some (23, true) }) (v := ?_) rfl (by kernel_rfl) (by kernel_rfl) (by kernel_rfl) (fun _ _ _ h => h) (Or.inl ⟨by rfl, ?_⟩) (by assumption) ?_
          rotate_left
          · intro w hSw
            (try dsimp only at hSw)
            go_simp
            all_goals with_reducible rfl
          try simp only [Act.put, List.setIfInBounds_toArray, List.set_cons_zero, List.set_cons_succ]
          refine wpAnyH_take (i := 36) (oi := { dst := some 111, op := Go.Op.pick (Go.Operand.tmp 98) (Go.Operand.tmp 110) (Go.Operand.const (Go.Value.bool false)), type := 4, pos := "law.go:137", after := #[{ on := 23, ground := Go.Ground.data }, { on := 35, ground := Go.Ground.data }, { on := 20, ground := Go.Ground.guard }], guard := some (20, false) }) (v := ?_) rfl (by kernel_rfl) (by kernel_rfl) (by kernel_rfl) (fun _ _ _ h => h) (Or.inl ⟨by rfl, ?_⟩) (by assumption) ?_
          rotate_left
          · intro w hSw
            (try dsimp only at hSw)
            go_simp
            all_goals with_reducible rfl
          try simp only [Act.put, List.setIfInBounds_toArray, List.set_cons_zero, List.set_cons_succ]
          refine wpAnyH_take (i := 37) (oi := { dst := some 112, op := Go.Op.pick (Go.Operand.tmp 95) (Go.Operand.const (Go.Value.bool true)) (Go.Operand.tmp 111), type := 4, pos := "law.go:137", after := #[{ on := 20, ground := Go.Ground.data }, { on := 36, ground := Go.Ground.data }, { on := 5, ground := Go.Ground.guard }], guard := some (5, true) }) (v := ?_) rfl (by kernel_rfl) (by kernel_rfl) (by kernel_rfl) (fun _ _ _ h => h) (Or.inl ⟨by rfl, ?_⟩) (by assumption) ?_
          rotate_left
          · intro w hSw
            (try dsimp only at hSw)
            go_simp
            all_goals with_reducible rfl
          try simp only [Act.put, List.setIfInBounds_toArray, List.set_cons_zero, List.set_cons_succ]
          refine wpAnyH_take (i := 38) (oi := { dst := some 113, op := Go.Op.pick (Go.Operand.tmp 80) (Go.Operand.tmp 112) (Go.Operand.const (Go.Value.bool false)), type := 4, pos := "law.go:137", after := #[{ on := 5, ground := Go.Ground.data }, { on := 37, ground := Go.Ground.data }], guard := none }) (v := ?_) rfl (by kernel_rfl) (by kernel_rfl) (by kernel_rfl) (fun _ _ _ h => h) (Or.inl ⟨by rfl, ?_⟩) (by assumption) ?_
          rotate_left
          · intro w hSw
            (try dsimp only at hSw)
            go_simp
            all_goals with_reducible rfl
          try simp only [Act.put, List.setIfInBounds_toArray, List.set_cons_zero, List.set_cons_succ]
          refine wpAnyH_take (i := 39) (oi := { dst := some 4, op := Go.Op.assign (Go.Operand.tmp 113), type := 4, pos := "law.go:137", after := #[{ on := 38, ground := Go.Ground.data }, { on := 23, ground := Go.Ground.chain }, { on := 0, ground := Go.Ground.phase }, { on := 1, ground := Go.Ground.phase }, { on := 2, ground := Go.Ground.phase }, { on := 3, ground := Go.Ground.phase }, { on := 4, ground := Go.Ground.phase }, { on := 5, ground := Go.Ground.phase }, { on := 6, ground := Go.Ground.phase }, { on := 7, ground := Go.Ground.phase }, { on := 8, ground := Go.Ground.phase }, { on := 9, ground := Go.Ground.phase }, { on := 10, ground := Go.Ground.phase }, { on := 11, ground := Go.Ground.phase }, { on := 12, ground := Go.Ground.phase }, { on := 13, ground := Go.Ground.phase }, { on := 14, ground := Go.Ground.phase }, { on := 15, ground := Go.Ground.phase }, { on := 16, ground := Go.Ground.phase }, { on := 17, ground := Go.Ground.phase }, { on := 18, ground := Go.Ground.phase }, { on := 19, ground := Go.Ground.phase }, { on := 20, ground := Go.Ground.phase }, { on := 21, ground := Go.Ground.phase }, { on := 22, ground := Go.Ground.phase }, { on := 23, ground := Go.Ground.phase }, { on := 24, ground := Go.Ground.phase }, { on := 25, ground := Go.Ground.phase }, { on := 26, ground := Go.Ground.phase }, { on := 27, ground := Go.Ground.phase }, { on := 28, ground := Go.Ground.phase }, { on := 29, ground := Go.Ground.phase }, { on := 30, ground := Go.Ground.phase }, { on := 31, ground := Go.Ground.phase }, { on := 32, ground := Go.Ground.phase }, { on := 33, ground := Go.Ground.phase }, { on := 34, ground := Go.Ground.phase }, { on := 35, ground := Go.Ground.phase }, { on := 36, ground := Go.Ground.phase }, { on := 37, ground := Go.Ground.phase }, { on := 38, ground := Go.Ground.phase }], guard := none }) (v := ?_) rfl (by kernel_rfl) (by kernel_rfl) (by kernel_rfl) (fun _ _ _ h => h) (Or.inl ⟨by rfl, ?_⟩) (by assumption) ?_
          rotate_left
          · intro w hSw
            (try dsimp only at hSw)
            go_simp
            all_goals with_reducible rfl
          try simp only [Act.put, List.setIfInBounds_toArray, List.set_cons_zero, List.set_cons_succ]
          refine wpAnyH_done (by kernel_rfl) ?_ _
          go_wp2
          go_ret
          exact ⟨rfl, K9.trans J4⟩
        exact AllReadyH.nil
      exact AllReadyH.nil
    exact AllReadyH.nil

theorem parts_walk {w : World} {p : Option Addr} {n c : Nat} {L : List Ki} (h : Gw w p n c L) (l : Bool) :
    Calls Try.prog 6 #[.slice p n c, .bool l] w fun e w' => e = .returned (.bool true) ∧ Kept w w' := by
  by_cases hs : (eitherP L l).put.length ≤ 237
  · exact parts_small h l hs
  · cases l with
    | true => exact parts_great_true h (by omega)
    | false => exact parts_great_false h (by omega)
end Go.Proofs.Ytgcfollelefmcaa
