/- The walk of the document's Same, of two nodes that are the same. Conditions: both are in memory. -/
import Derived.Test.YtgcfollelefmcaaNO
namespace Go.Proofs.Ytgcfollelefmcaa
open Go.ChangeShapes Go.WideShapes Go.ChangeAt Go.RowKit

set_option maxHeartbeats 4000000 in
set_option maxRecDepth 100000 in
theorem same_true {w : World} {l : Bool} {kp : Option Addr} {nk kc : Nat} {vp : Option Addr} {nv vc : Nat} {ip : Option Addr} {ni ic : Nat} {l2 : Bool} {kp2 : Option Addr} {nk2 kc2 : Nat} {vp2 : Option Addr} {nv2 vc2 : Nat} {ip2 : Option Addr} {ni2 ic2 : Nat} {x : Nd} (h : NV w l kp nk kc vp nv vc ip ni ic x) (h2 : NV w l2 kp2 nk2 kc2 vp2 nv2 vc2 ip2 ni2 ic2 x) (hb : nk ≤ 1000) (hb2 : nv ≤ 1000) (hb3 : ni ≤ 1000) :
    Calls Try.prog 14 #[.agg #[.bool l, .slice kp nk kc, .slice vp nv vc, .slice ip ni ic], .agg #[.bool l2, .slice kp2 nk2 kc2, .slice vp2 nv2 vc2, .slice ip2 ni2 ic2]] w fun e w' => e = .returned (.bool true) ∧ Kept w w' := by
  obtain rfl : l2 = l := by rw [← h.hl, ← h2.hl]
  obtain rfl : nk2 = nk := by rw [← h.nk, ← h2.nk]
  obtain rfl : nv2 = nv := by rw [← h.nv, ← h2.nv]
  obtain rfl : ni2 = ni := by rw [← h.ni, ← h2.ni]
  have H1 : Hid (NV w l2 kp nk2 kc vp nv2 vc ip ni2 ic x) := h
  have H2 : Hid (NV w l2 kp2 nk2 kc2 vp2 nv2 vc2 ip2 ni2 ic2 x) := h2
  have HK : Hid (x.ks.length = nk2) := h.nk
  have HV : Hid (x.vs.length = nv2) := h.nv
  have HI : Hid (x.is.length = ni2) := h.ni
  obtain ⟨oA, hoA⟩ : ∃ o : Obj, o = .cells #[.bool l2, .slice kp nk2 kc, .slice vp nv2 vc, .slice ip ni2 ic] 37 := ⟨_, rfl⟩
  obtain ⟨oB, hoB⟩ : ∃ o : Obj, o = .cells #[.bool l2, .slice kp2 nk2 kc2, .slice vp2 nv2 vc2, .slice ip2 ni2 ic2] 37 := ⟨_, rfl⟩
  have K0 : Kept w ((w.alloc oA).alloc oB) := ((Kept.refl w).alloc _).alloc _
  have A0 : C4 ((w.alloc oA).alloc oB) w.heap.size 37 (.bool l2) (.slice kp nk2 kc) (.slice vp nv2 vc) (.slice ip ni2 ic) := by subst hoA; exact (C4.alloc w 37 _ _ _ _).kept ((Kept.refl _).alloc _)
  have B0 : C4 ((w.alloc oA).alloc oB) (w.heap.size + 1) 37 (.bool l2) (.slice kp2 nk2 kc2) (.slice vp2 nv2 vc2) (.slice ip2 ni2 ic2) := by subst hoB; rw [← size_alloc w oA]; exact C4.alloc _ 37 _ _ _ _
  subst hoA; subst hoB
  clear h h2
  go_enter Try.func14, Try.ntmps14
  go_wp2
  go_loopg [5] nk2 (fun gg v wx => ∃ i : Nat, v = .int .i64 (i : Nat) ∧ Hid (gg = nk2 - i) ∧ i ≤ nk2 ∧ C4 wx w.heap.size 37 (.bool l2) (.slice kp nk2 kc) (.slice vp nv2 vc) (.slice ip ni2 ic) ∧ C4 wx (w.heap.size + 1) 37 (.bool l2) (.slice kp2 nk2 kc2) (.slice vp2 nv2 vc2) (.slice ip2 ni2 ic2) ∧ Kept w wx)
  case atStart => exact ⟨0, rfl, rfl, Nat.zero_le _, A0, B0, K0⟩
  case round =>
   obtain ⟨i, rfl, hg, hin, A, B, K⟩ := hrel
   clear A0 B0 K0
   obtain ⟨a0, a1, a2, a3⟩ := A.cs
   obtain ⟨b0, b1, b2, b3⟩ := B.cs
   by_cases h1 : i < nk2
   · have h1' : (i : Int) < (nk2 : Int) := by omega
     obtain ⟨v, hv⟩ : ∃ v, x.ks[i]? = some v := ⟨_, List.getElem?_eq_getElem (by rw [HK.out]; exact h1)⟩
     obtain ⟨pb, po, rfl, hpc⟩ := H1.out.k.some (by omega)
     obtain ⟨qb, qo, rfl, hqc⟩ := H2.out.k.some (by omega)
     have s0 := (K.drew).cell (hpc _ _ (kcl_at hv))
     have s1 := (K.drew).cell (hqc _ _ (kcl_at hv))
     clear hv hpc hqc
     obtain ⟨d0, d1, d2, d3⟩ := A.drew.cs
     obtain ⟨e0, e1, e2, e3⟩ := B.drew.cs
     go_wp2_with fail
     go_region_held3 (fun W => W.cell? ⟨w.heap.size, 1, none⟩ = some (.slice (some ⟨pb, po, none⟩) nk2 kc) ∧ W.cell? ⟨w.heap.size + 1, 1, none⟩ = some (.slice (some ⟨qb, qo, none⟩) nk2 kc2) ∧ W.cell? ⟨pb, po + i, none⟩ = some (.string v) ∧ W.cell? ⟨qb, qo + i, none⟩ = some (.string v)) (go_keep) (fail)
     go_wp2
     go_roundg (nk2 - (i + 1))
     case measure => rw [hg.out]; omega
     case rel => exact ⟨i + 1, by go_num, rfl, by omega, A.drew, B.drew, K.drew⟩
   · obtain rfl : nk2 = i := by omega
     have h1' : ¬ ((nk2 : Int) < (nk2 : Int)) := by omega
     clear h1 hg
     go_wp2
     have A0 := A
     have B0 := B
     have K0 := K
     clear A B K a0 a1 a2 a3 b0 b1 b2 b3 hin h1'
     go_loopg [6] nv2 (fun gg v wx => ∃ i : Nat, v = .int .i64 (i : Nat) ∧ Hid (gg = nv2 - i) ∧ i ≤ nv2 ∧ C4 wx w.heap.size 37 (.bool l2) (.slice kp nk2 kc) (.slice vp nv2 vc) (.slice ip ni2 ic) ∧ C4 wx (w.heap.size + 1) 37 (.bool l2) (.slice kp2 nk2 kc2) (.slice vp2 nv2 vc2) (.slice ip2 ni2 ic2) ∧ Kept w wx)
     case atStart => exact ⟨0, rfl, rfl, Nat.zero_le _, A0, B0, K0⟩
     case round =>
      obtain ⟨i, rfl, hg, hin, A, B, K⟩ := hrel
      clear A0 B0 K0
      obtain ⟨a0, a1, a2, a3⟩ := A.cs
      obtain ⟨b0, b1, b2, b3⟩ := B.cs
      by_cases h1 : i < nv2
      · have h1' : (i : Int) < (nv2 : Int) := by omega
        obtain ⟨v, hv⟩ : ∃ v, x.vs[i]? = some v := ⟨_, List.getElem?_eq_getElem (by rw [HV.out]; exact h1)⟩
        obtain ⟨pb, po, rfl, hpc⟩ := H1.out.v.some (by omega)
        obtain ⟨qb, qo, rfl, hqc⟩ := H2.out.v.some (by omega)
        obtain ⟨t0, t1, t2⟩ := vcl_at hv
        have s0 := (K.drew).cell (hpc _ _ t0)
        have s1 := (K.drew).cell (hpc _ _ t1)
        have s2 := (K.drew).cell (hpc _ _ t2)
        have r0 := (K.drew).cell (hqc _ _ t0)
        have r1 := (K.drew).cell (hqc _ _ t1)
        have r2 := (K.drew).cell (hqc _ _ t2)
        rw [← Nat.add_assoc] at s1 s2 r1 r2
        obtain ⟨d, p, ln⟩ := v
        clear hv hpc hqc t0 t1 t2
        obtain ⟨d0, d1, d2, d3⟩ := A.drew.cs
        obtain ⟨e0, e1, e2, e3⟩ := B.drew.cs
        go_wp2_with fail
        go_region_held3 (fun W => W.cell? ⟨w.heap.size, 2, none⟩ = some (.slice (some ⟨pb, po, none⟩) nv2 vc) ∧ W.cell? ⟨w.heap.size + 1, 2, none⟩ = some (.slice (some ⟨qb, qo, none⟩) nv2 vc2) ∧ W.cell? ⟨pb, po + i * 3, none⟩ = some (.string d) ∧ W.cell? ⟨pb, po + i * 3 + 1, none⟩ = some (.int .i64 p) ∧ W.cell? ⟨pb, po + i * 3 + 2, none⟩ = some (.int .i64 ln) ∧ W.cell? ⟨qb, qo + i * 3, none⟩ = some (.string d) ∧ W.cell? ⟨qb, qo + i * 3 + 1, none⟩ = some (.int .i64 p) ∧ W.cell? ⟨qb, qo + i * 3 + 2, none⟩ = some (.int .i64 ln)) (go_keep) (fail)
        go_wp2
        go_roundg (nv2 - (i + 1))
        case measure => rw [hg.out]; omega
        case rel => exact ⟨i + 1, by go_num, rfl, by omega, A.drew, B.drew, K.drew⟩
      · obtain rfl : nv2 = i := by omega
        have h1' : ¬ ((nv2 : Int) < (nv2 : Int)) := by omega
        clear h1 hg
        go_wp2
        have A0 := A
        have B0 := B
        have K0 := K
        clear A B K a0 a1 a2 a3 b0 b1 b2 b3 hin h1'
        go_loopg [7] ni2 (fun gg v wx => ∃ i : Nat, v = .int .i64 (i : Nat) ∧ Hid (gg = ni2 - i) ∧ i ≤ ni2 ∧ C4 wx w.heap.size 37 (.bool l2) (.slice kp nk2 kc) (.slice vp nv2 vc) (.slice ip ni2 ic) ∧ C4 wx (w.heap.size + 1) 37 (.bool l2) (.slice kp2 nk2 kc2) (.slice vp2 nv2 vc2) (.slice ip2 ni2 ic2) ∧ Kept w wx)
        case atStart => exact ⟨0, rfl, rfl, Nat.zero_le _, A0, B0, K0⟩
        case round =>
         obtain ⟨i, rfl, hg, hin, A, B, K⟩ := hrel
         clear A0 B0 K0
         obtain ⟨a0, a1, a2, a3⟩ := A.cs
         obtain ⟨b0, b1, b2, b3⟩ := B.cs
         by_cases h1 : i < ni2
         · have h1' : (i : Int) < (ni2 : Int) := by omega
           obtain ⟨v, hv⟩ : ∃ v, x.is[i]? = some v := ⟨_, List.getElem?_eq_getElem (by rw [HI.out]; exact h1)⟩
           obtain ⟨pb, po, rfl, hpc⟩ := H1.out.i.some (by omega)
           obtain ⟨qb, qo, rfl, hqc⟩ := H2.out.i.some (by omega)
           have s0 := (K.drew).cell (hpc _ _ (icl_at hv))
           have s1 := (K.drew).cell (hqc _ _ (icl_at hv))
           clear hv hpc hqc
           obtain ⟨d0, d1, d2, d3⟩ := A.drew.cs
           obtain ⟨e0, e1, e2, e3⟩ := B.drew.cs
           go_wp2_with fail
           go_region_held3 (fun W => W.cell? ⟨w.heap.size, 3, none⟩ = some (.slice (some ⟨pb, po, none⟩) ni2 ic) ∧ W.cell? ⟨w.heap.size + 1, 3, none⟩ = some (.slice (some ⟨qb, qo, none⟩) ni2 ic2) ∧ W.cell? ⟨pb, po + i, none⟩ = some (.int .i64 v) ∧ W.cell? ⟨qb, qo + i, none⟩ = some (.int .i64 v)) (go_keep) (fail)
           go_wp2
           go_roundg (ni2 - (i + 1))
           case measure => rw [hg.out]; omega
           case rel => exact ⟨i + 1, by go_num, rfl, by omega, A.drew, B.drew, K.drew⟩
         · obtain rfl : ni2 = i := by omega
           have h1' : ¬ ((ni2 : Int) < (ni2 : Int)) := by omega
           clear h1 hg
           go_wp2
           go_ret
           exact ⟨rfl, K⟩
end Go.Proofs.Ytgcfollelefmcaa
