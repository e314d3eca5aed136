/- The walks of node.right and node.Get over a node's bytes: the node. Conditions: the node may be, its keys rise. -/
import Derived.Test.YtgcfollelefmcaaNW
import Derived.Test.YtgcfollelefmcaaNQ
namespace Go.Proofs.Ytgcfollelefmcaa
open Go.ChangeShapes Go.WideShapes Go.ChangeAt Go.RowKit

set_option maxHeartbeats 2000000 in
set_option maxRecDepth 100000 in
theorem right_walk {w : World} {l : Bool} {kp : Option Addr} {nk kc : Nat} {vp : Option Addr} {nv vc : Nat} {ip : Option Addr} {ni ic : Nat} {x : Nd} (h : NV w l kp nk kc vp nv vc ip ni ic x) (hu : Up x.ks) (hok : ∀ v ∈ x.vs, Okv v) (hb : nk ≤ 1000) (hb2 : nv ≤ 1000) :
    Calls Try.prog 34 #[.agg #[.bool l, .slice kp nk kc, .slice vp nv vc, .slice ip ni ic]] w fun e w' => e = .returned (.bool true) ∧ Kept w w' := by
  have HV : Hid (NV w l kp nk kc vp nv vc ip ni ic x) := h
  have HU : Hid (Up x.ks) := hu
  have HO : Hid (∀ v ∈ x.vs, Okv v) := hok
  have K0 : Kept w (w.alloc (.cells #[.bool l, .slice kp nk kc, .slice vp nv vc, .slice ip ni ic] 27)) := (Kept.refl w).alloc _
  have A0 := C4.alloc w 27 (.bool l) (.slice kp nk kc) (.slice vp nv vc) (.slice ip ni ic)
  clear h hu hok
  go_enter Try.func34, Try.ntmps34
  go_wp2
  go_loopg [3] nk (fun gg v wx => ∃ i : Nat, v = .int .i64 (i : Nat) ∧ Hid (gg = nk + 1 - i) ∧ 1 ≤ i ∧ i ≤ nk + 1 ∧ C4 wx w.heap.size 27 (.bool l) (.slice kp nk kc) (.slice vp nv vc) (.slice ip ni ic) ∧ Kept w wx)
  case atStart => exact ⟨1, rfl, rfl, Nat.le_refl _, by omega, A0, K0⟩
  case round =>
   obtain ⟨i, rfl, hg, hi1, hin, A, K⟩ := hrel
   clear A0 K0
   obtain ⟨a0, a1, a2, a3⟩ := A.cs
   by_cases h1 : i < nk
   · have h1' : (i : Int) < (nk : Int) := by omega
     obtain ⟨p, hp⟩ : ∃ p : Nat, i = p + 1 := ⟨i - 1, by omega⟩
     obtain ⟨k, hk⟩ : ∃ k, x.ks[i]? = some k := ⟨_, List.getElem?_eq_getElem (by rw [HV.out.nk]; exact h1)⟩
     obtain ⟨j, hj⟩ : ∃ j, x.ks[p]? = some j := ⟨_, List.getElem?_eq_getElem (by rw [HV.out.nk]; omega)⟩
     have hless : Op.bytesLess j.toList k.toList = true := up_at HU.out (by omega) hj hk
     obtain ⟨pb, po, rfl, hpc⟩ := HV.out.k.some (by omega)
     have s0 := (K.drew).cell (hpc _ _ (kcl_at hk))
     have s1 := (K.drew).cell (hpc _ _ (kcl_at hj))
     have u1 : IntKind.i64.wrap ((i : Int) - 1) = (p : Int) := by rw [IntKind.wrap_i64]; omega
     have hpn : (p : Int) < (nk : Int) := by omega
     have HP : Hid (i = p + 1) := hp
     obtain ⟨d0, d1, d2, d3⟩ := A.drew.cs
     clear hk hj hpc hp
     go_wp2_with fail
     go_region_held3 (fun W => W.cell? ⟨w.heap.size, 1, none⟩ = some (.slice (some ⟨pb, po, none⟩) nk kc) ∧ W.cell? ⟨pb, po + p, none⟩ = some (.string j) ∧ W.cell? ⟨pb, po + i, none⟩ = some (.string k)) (go_keep) (fail)
     go_wp2
     go_roundg (nk + 1 - (i + 1))
     case measure => rw [hg.out]; omega
     case rel => exact ⟨i + 1, by go_num, rfl, by omega, by omega, A.drew, K.drew⟩
   · have h1' : ¬ ((i : Int) < (nk : Int)) := by omega
     clear hg
     go_wp2
     go_loopg [28] nv (fun gg v wx => ∃ i : Nat, v = .int .i64 (i : Nat) ∧ Hid (gg = nv - i) ∧ i ≤ nv ∧ Kept w wx)
     case atStart => exact ⟨0, rfl, rfl, Nat.zero_le _, K⟩
     case round =>
      clear K A a0 a1 a2 a3 hin h1 h1' hi1
      obtain ⟨i, rfl, hg, hin, K⟩ := hrel
      by_cases h1 : i < nv
      · have h1' : (i : Int) < (nv : Int) := by omega
        obtain ⟨v, hv⟩ : ∃ v, x.vs[i]? = some v := ⟨_, List.getElem?_eq_getElem (by rw [HV.out.nv]; exact h1)⟩
        have hov := HO.out v (List.mem_of_getElem? hv)
        obtain ⟨pb, po, rfl, hpc⟩ := HV.out.v.some (by omega)
        obtain ⟨t0, t1, t2⟩ := vcl_at hv
        have s0 := K.cell (hpc _ _ t0)
        have s1 := K.cell (hpc _ _ t1)
        have s2 := K.cell (hpc _ _ t2)
        rw [← Nat.add_assoc] at s1 s2
        obtain ⟨d, p, ln⟩ := v
        clear hv hpc t0 t1 t2
        rcases hov with ⟨e1, e2, e3⟩ | ⟨e1, p', l', e2, e3, e4, e5, e6⟩
        · simp only at e1 e2
          subst e1; subst e2
          go_wp2
          go_roundg (nv - (i + 1))
          case measure => rw [hg.out]; omega
          case rel => exact ⟨i + 1, by go_num, rfl, by omega, K.alloc _⟩
        · simp only at e2 e4
          subst e2; subst e4
          have y1 : (0 : Int) ≤ (p' : Int) := by omega
          have y2 : ¬ ((l' : Int) ≤ 48) := by omega
          go_wp2
          go_roundg (nv - (i + 1))
          case measure => rw [hg.out]; omega
          case rel => exact ⟨i + 1, by go_num, rfl, by omega, K.alloc _⟩
      · obtain rfl : nv = i := by omega
        have h1' : ¬ ((nv : Int) < (nv : Int)) := by omega
        go_wp2
        go_ret
        exact ⟨rfl, K⟩

theorem Rw.other {W W' : World} {b : Nat} {t : TypeId} {x0 : Bool} {q1 q2 q3 : Option Addr} {n1 c1 n2 c2 n3 c3 : Nat} (X : C4 W b t (.bool x0) (.slice q1 n1 c1) (.slice q2 n2 c2) (.slice q3 n3 c3)) (ho : ∀ k, k ≠ b → W'.heap[k]? = W.heap[k]?) {sz : Nat} {p : Option Addr} {n c : Nat} {cs : List Value} (h : Rw W sz p n c cs) (hcs : ∀ u ∈ cs, (∃ s, u = .string s) ∨ ∃ k i, u = .int k i) : Rw W' sz p n c cs := by
  refine ⟨h.len, h.le, h.cap, ?_⟩
  rcases h.out with h0 | ⟨pb, off, e, f⟩
  · exact .inl h0
  · refine .inr ⟨pb, off, e, fun j u hu => ?_⟩
    have hc := f j u hu
    have hne : pb ≠ b := by
      intro e
      subst e
      rw [cell_of_row W pb _ _ _ _ X.out] at hc
      have hm := Array.mem_of_getElem? hc
      simp at hm
      rcases hcs u (List.mem_of_getElem? hu) with ⟨s, rfl⟩ | ⟨k, i, rfl⟩
      · simp at hm
      · simp at hm
    rw [← hc]
    exact World.cell?_of_block (ho pb hne)
theorem NV.other {W W' : World} {b : Nat} {t : TypeId} {x0 : Bool} {q1 q2 q3 : Option Addr} {n1 c1 n2 c2 n3 c3 : Nat} (X : C4 W b t (.bool x0) (.slice q1 n1 c1) (.slice q2 n2 c2) (.slice q3 n3 c3)) (ho : ∀ k, k ≠ b → W'.heap[k]? = W.heap[k]?) {l : Bool} {kp : Option Addr} {nk kc : Nat} {vp : Option Addr} {nv vc : Nat} {ip : Option Addr} {ni ic : Nat} {x : Nd} (h : NV W l kp nk kc vp nv vc ip ni ic x) : NV W' l kp nk kc vp nv vc ip ni ic x := by
  refine ⟨h.hl, h.k.other X ho ?_, h.v.other X ho ?_, h.i.other X ho ?_⟩
  · intro u hu; unfold kcl at hu; obtain ⟨s, _, rfl⟩ := List.mem_map.1 hu; exact .inl ⟨s, rfl⟩
  · intro u hu
    unfold vcl at hu
    obtain ⟨v, _, hm⟩ := List.mem_flatMap.1 hu
    simp [Vl.cells] at hm
    rcases hm with rfl | rfl | rfl
    · exact .inl ⟨_, rfl⟩
    · exact .inr ⟨_, _, rfl⟩
    · exact .inr ⟨_, _, rfl⟩
  · intro u hu; unfold icl at hu; obtain ⟨s, _, rfl⟩ := List.mem_map.1 hu; exact .inr ⟨_, s, rfl⟩

set_option maxHeartbeats 2000000 in
set_option maxRecDepth 100000 in
theorem get_walk {w : World} {x : Nd} (g : Good x) (h60 : x.ks.length ≤ 60) (hu : Up x.ks) (l : Bool) (hl : x.leaf = l) :
    Calls Try.prog 10 #[.string (bs x.put), .bool l] w fun e w' => ∃ kp nk kc vp nv vc ip ni ic, e = .returned (.tuple #[.agg #[.bool l, .slice kp nk kc, .slice vp nv vc, .slice ip ni ic], .int .i64 0]) ∧ NV w' l kp nk kc vp nv vc ip ni ic x ∧ Kept w w' := by
  have HN : Hid (∀ W, Calls Try.prog 33 #[.string (bs x.put)] W fun e w' => e = .returned (.pointer (some ⟨W.heap.size, 0, none⟩)) ∧ Rd w' W.heap.size (bs x.put) 0 ∧ Kept W w') := fun W => new_walk _ W
  have HR : Hid (∀ W b, Rd W b (bs x.put) 0 → Calls Try.prog 32 #[.pointer (some ⟨b, 0, none⟩), .bool l] W fun e w' => ∃ kp nk kc vp nv vc ip ni ic, e = .returned (.tuple #[.agg #[.bool l, .slice kp nk kc, .slice vp nv vc, .slice ip ni ic], .int .i64 0]) ∧ NV w' l kp nk kc vp nv vc ip ni ic x ∧ Og b W w') := fun W b h => read_walk h g h60 l hl
  have HT : Hid (∀ (W : World) (kp : Option Addr) (nk kc : Nat) (vp : Option Addr) (nv vc : Nat) (ip : Option Addr) (ni ic : Nat), NV W l kp nk kc vp nv vc ip ni ic x → Calls Try.prog 34 #[.agg #[.bool l, .slice kp nk kc, .slice vp nv vc, .slice ip ni ic]] W fun e w' => e = .returned (.bool true) ∧ Kept W w') := fun W kp nk kc vp nv vc ip ni ic h => right_walk h hu g.ok (by have := h.nk; omega) (by
    have a := h.nv
    cases hx : x.leaf with
    | true => have := (g.lv hx).1; omega
    | false => rw [(g.li hx).2] at a; simp at a; omega)
  have K0 : Kept w (w.alloc (.cells #[.bool false, .slice none 0 0, .slice none 0 0, .slice none 0 0] 27)) := (Kept.refl w).alloc _
  have R0 := C4.alloc w 27 (.bool false) (.slice none 0 0) (.slice none 0 0) (.slice none 0 0)
  have S0 := size_alloc w (.cells #[.bool false, .slice none 0 0, .slice none 0 0, .slice none 0 0] 27)
  generalize bs x.put = s at *
  clear g hu hl h60
  go_enter Try.func10, Try.ntmps10
  go_wp2_with (first
    | (go_at_call 33
       (with_reducible refine (HN.out _).mono ?_)
       rintro e v1 ⟨rfl, r1, k1⟩
       rw [S0] at r1
       have R1 := R0.kept k1
       have K1 := K0.trans k1
       clear HN R0 K0 k1)
    | (go_at_call 32
       (with_reducible refine (HR.out _ _ r1).mono ?_)
       rintro e v2 ⟨kp, nk, kc, vp, nv, vc, ip, ni, ic, rfl, N2, o2⟩
       have R2 := R1.og o2 (by omega)
       have K2 := o2.kept K1 (by omega)
       have k3 := (Kept.refl v2).alloc (.cells #[.bool l, .slice kp nk kc, .slice vp nv vc, .slice ip ni ic] 27)
       have X3 := C4.alloc v2 27 (.bool l) (.slice kp nk kc) (.slice vp nv vc) (.slice ip ni ic)
       have N3 := N2.kept k3
       have R3 := R2.kept k3
       have K3 := K2.trans k3
       have z3 := R2.lt
       clear HR r1 R1 K1 o2 R2 K2 k3 N2)
    | (go_at_call 34
       (with_reducible refine (HT.out _ _ _ _ _ _ _ _ _ _ N3).mono ?_)
       rintro e v4 ⟨rfl, k4⟩
       have N4 := N3.kept k4
       have R4 := R3.kept k4
       have X4 := X3.kept k4
       have K4 := K3.trans k4
       obtain ⟨c0, c1, c2, c3⟩ := X4.cs
       obtain ⟨⟨g0, f0⟩, ⟨g1, f1⟩, ⟨g2, f2⟩, ⟨g3, f3⟩, hfin⟩ := ready4 R4.out (.bool l) (.slice kp nk kc) (.slice vp nv vc) (.slice ip ni ic)))
  have q1 : NV ((((v4.setCell ⟨w.heap.size, 0, none⟩ (.bool l)).setCell ⟨w.heap.size, 1, none⟩ (.slice kp nk kc)).setCell ⟨w.heap.size, 2, none⟩ (.slice vp nv vc)).setCell ⟨w.heap.size, 3, none⟩ (.slice ip ni ic)) l kp nk kc vp nv vc ip ni ic x := N4.other R4 (fun k hk => others4 v4 hk _ _ _ _)
  have q2 := K4.st4 (b := w.heap.size) (Nat.le_refl _) (.bool l) (.slice kp nk kc) (.slice vp nv vc) (.slice ip ni ic)
  generalize hW : ((((v4.setCell ⟨w.heap.size, 0, none⟩ (.bool l)).setCell ⟨w.heap.size, 1, none⟩ (.slice kp nk kc)).setCell ⟨w.heap.size, 2, none⟩ (.slice vp nv vc)).setCell ⟨w.heap.size, 3, none⟩ (.slice ip ni ic)) = WF at hfin q1 q2 ⊢
  refine bodyPost_ret (v := .tuple #[.agg #[.bool l, .slice kp nk kc, .slice vp nv vc, .slice ip ni ic], .int .i64 0]) ?_ rfl ⟨_, _, _, _, _, _, _, _, _, rfl, q1, q2⟩
  exact results_two (p := 4) (u := 5) (ty := 27) rfl _ _ w.heap.size 27 #[.bool l, .slice kp nk kc, .slice vp nv vc, .slice ip ni ic] (0, 0) _ rfl hfin Try.underlying27 rfl size27
end Go.Proofs.Ytgcfollelefmcaa
