/- The walk of the statement's ref: a node as the document's. Conditions: 1000 values at most. -/
import Derived.Test.YtgcfollelefmcaaNN
namespace Go.Proofs.Ytgcfollelefmcaa
open Go.ChangeShapes Go.WideShapes Go.ChangeAt Go.RowKit

theorem info80 : (Try.prog.info? 80).map (fun i => (i.zero, i.size, i.bytes)) = some (some (.agg #[.string ⟨#[]⟩, .int .i64 0, .int .i64 0]), 3, 32) := by kernel_rfl
theorem vcl_more {vs : List Vl} {i : Nat} {v : Vl} (h : vs[i]? = some v) : vcl (vs.take (i + 1)) = vcl (vs.take i) ++ [.string v.d, .int .i64 v.p, .int .i64 v.l] := by
  rw [List.take_add_one, h, vcl_append]
  simp [vcl, Vl.cells]
theorem three_cells (w : World) (a b c : Value) (t : TypeId) : ∀ (j : Nat) (v : Value), [a, b, c][j]? = some v → (w.alloc (.cells #[a, b, c] t)).drew.cell? ((⟨w.heap.size, 0, none⟩ : Addr).add j) = some v := by
  intro j v hj
  rw [Addr.add_lit, Nat.zero_add]
  show (w.alloc (.cells #[a, b, c] t)).cell? ⟨w.heap.size, j, none⟩ = some v
  rw [World.cell?_alloc_at _ _ _ _ rfl]
  simpa using hj

set_option maxHeartbeats 4000000 in
set_option maxRecDepth 100000 in
theorem ref_walk {w : World} {l : Bool} {kp : Option Addr} {nk kc : Nat} {vp : Option Addr} {nv vc : Nat} {ip : Option Addr} {ni ic : Nat} {x : Nd} (h : NV w l kp nk kc vp nv vc ip ni ic x) (hnv : nv ≤ 1000) :
    Calls Try.prog 13 #[.agg #[.bool l, .slice kp nk kc, .slice vp nv vc, .slice ip ni ic]] w fun e w' => ∃ vp' vc', e = .returned (.agg #[.bool l, .slice kp nk kc, .slice vp' nv vc', .slice ip ni ic]) ∧ NV w' l kp nk kc vp' nv vc' ip ni ic x ∧ Kept w w' := by
  obtain ⟨i0, hi, hz0, hz1, hz2⟩ := info_parts info80
  have HV : Hid (NV w l kp nk kc vp nv vc ip ni ic x) := h
  obtain ⟨oA, hoA⟩ : ∃ o : Obj, o = .cells #[.bool l, .slice kp nk kc, .slice vp nv vc, .slice ip ni ic] 27 := ⟨_, rfl⟩
  obtain ⟨oB, hoB⟩ : ∃ o : Obj, o = .cells #[.bool false, .slice none 0 0, .slice none 0 0, .slice none 0 0] 37 := ⟨_, rfl⟩
  obtain ⟨oC, hoC⟩ : ∃ o : Obj, o = .cells #[.bool l, .slice kp nk kc, .slice none 0 0, .slice ip ni ic] 37 := ⟨_, rfl⟩
  have K0 : Kept w (((w.alloc oA).alloc oB).alloc oC) := (((Kept.refl w).alloc _).alloc _).alloc _
  have A0 : C4 (((w.alloc oA).alloc oB).alloc oC) w.heap.size 27 (.bool l) (.slice kp nk kc) (.slice vp nv vc) (.slice ip ni ic) := by subst hoA; exact (C4.alloc w 27 _ _ _ _).kept (((Kept.refl _).alloc _).alloc _)
  have B0 : C4 (((w.alloc oA).alloc oB).alloc oC) (w.heap.size + 1) 37 (.bool false) (.slice none 0 0) (.slice none 0 0) (.slice none 0 0) := by subst hoB; rw [← size_alloc w oA]; exact (C4.alloc _ 37 _ _ _ _).kept ((Kept.refl _).alloc _)
  have C0 : C4 (((w.alloc oA).alloc oB).alloc oC) (w.heap.size + 1 + 1) 37 (.bool l) (.slice kp nk kc) (.slice none 0 0) (.slice ip ni ic) := by subst hoC; rw [show w.heap.size + 1 + 1 = ((w.alloc oA).alloc oB).heap.size by rw [size_alloc, size_alloc]]; exact C4.alloc _ 37 _ _ _ _
  subst hoA; subst hoB; subst hoC
  clear h
  go_enter Try.func13, Try.ntmps13
  go_wp2
  go_loopg [4] nv (fun gg v wx => ∃ (i : Nat) (vp' : Option Addr) (vc' : Nat), v = .int .i64 (i : Nat) ∧ Hid (gg = nv - i) ∧ i ≤ nv ∧ C4 wx w.heap.size 27 (.bool l) (.slice kp nk kc) (.slice vp nv vc) (.slice ip ni ic) ∧ C4 wx (w.heap.size + 1) 37 (.bool false) (.slice none 0 0) (.slice none 0 0) (.slice none 0 0) ∧ C4 wx (w.heap.size + 1 + 1) 37 (.bool l) (.slice kp nk kc) (.slice vp' i vc') (.slice ip ni ic) ∧ Own wx (w.heap.size + 1 + 1 + 1) 80 3 vp' i vc' (vcl (x.vs.take i)) ∧ Kept w wx)
  case atStart => exact ⟨0, none, 0, rfl, rfl, Nat.zero_le _, A0, B0, C0, ⟨World.ownsRow_nil _ _ _ _⟩, K0⟩
  case round =>
    obtain ⟨i, vp', vc', rfl, hg, hin, A, B, C, O, K⟩ := hrel
    clear A0 B0 C0 K0
    obtain ⟨a0, a1, a2, a3⟩ := A.cs
    obtain ⟨c0, c1, c2, c3⟩ := C.cs
    by_cases h1 : i < nv
    · have h1' : (i : Int) < (nv : Int) := by omega
      obtain ⟨v, hv⟩ : ∃ v, x.vs[i]? = some v := ⟨_, List.getElem?_eq_getElem (by rw [HV.out.nv]; exact h1)⟩
      have HX : Hid (x.vs[i]? = some v) := hv
      obtain ⟨vb, vo, rfl, hvc⟩ := HV.out.v.some (by omega)
      obtain ⟨t0, t1, t2⟩ := vcl_at hv
      have s0 := K.cell (hvc _ _ t0)
      have s1 := K.cell (hvc _ _ t1)
      have s2 := K.cell (hvc _ _ t2)
      rw [← Nat.add_assoc] at s1 s2
      obtain ⟨d, p, ln⟩ := v
      clear t0 t1 t2 hvc hv
      have OW : Hid (Own (wr.alloc (.cells #[.string d, .int .i64 p, .int .i64 ln] 80)).drew (w.heap.size + 1 + 1 + 1) 80 3 vp' i vc' (vcl (x.vs.take i))) := O.kept ((Kept.refl wr).alloc _).drew
      have AW := A.kept ((Kept.refl wr).alloc (.cells #[.string d, .int .i64 p, .int .i64 ln] 80)).drew
      have BW := B.kept ((Kept.refl wr).alloc (.cells #[.string d, .int .i64 p, .int .i64 ln] 80)).drew
      have CW := C.kept ((Kept.refl wr).alloc (.cells #[.string d, .int .i64 p, .int .i64 ln] 80)).drew
      have KW := K.trans ((Kept.refl wr).alloc (.cells #[.string d, .int .i64 p, .int .i64 ln] 80)).drew
      have hnews := three_cells wr (.string d) (.int .i64 p) (.int .i64 ln) 80
      have h1one : ∀ u ∈ [Value.string d, Value.int .i64 p, Value.int .i64 ln], u.oneCell' = true := Vl.one ⟨d, p, ln⟩
      have hBE : w.heap.size + 1 + 1 + 1 ≤ (wr.alloc (.cells #[.string d, .int .i64 p, .int .i64 ln] 80)).drew.heap.size := by
        have := CW.lt; omega
      have al : ∀ o, Kept wr (wr.alloc o) := fun o => (Kept.refl wr).alloc o
      have s0' : ∀ o, (wr.alloc o).cell? ⟨vb, vo + i * 3, none⟩ = some (.string d) := fun o => (al o).cell s0
      have c2' : ∀ o, (wr.alloc o).cell? ⟨w.heap.size + 1 + 1, 2, none⟩ = some (.slice vp' i vc') := fun o => (al o).cell c2
      have h63 : i + 1 ≤ maxLen := by unfold maxLen; omega
      have hbytes : (i + 1) * 32 ≤ 140737488355328 := by omega
      have Hal : Hid (∀ o, Kept wr (wr.alloc o)) := al
      clear al
      go_wp2_with fail
      go_region_law (refine step_append_lies _ (by rfl) _ _ _ (by rfl) (w.heap.size + 1 + 1 + 1) 80 i0 _ 3 32 Try.underlying35 hi hz0 hz1 hz2 (by rfl) (by decide) (.slice vp' i vc') i (vcl (x.vs.take i)) (by rfl) OW.out.out ⟨wr.heap.size, 0, none⟩ 1 1 [.string d, .int .i64 p, .int .i64 ln] (by rfl) (by rfl) hnews h1one (by omega) h63 hbytes hBE _ rfl ?_; intro g3 cap3 w3 ho3 hg3 _ _; rw [ob] at hg3; have A3 := AW.grown hg3 (AW.own_ne OW.out (by decide)); have B3 := BW.grown hg3 (BW.own_ne OW.out (by decide)); have C3' := CW.grown hg3 (CW.own_ne OW.out (by decide)); have c33 := C3'.cs.2.2.1; have f33 := C3'.fz 2)
      all_goals
        have o3 : Own w3 (w.heap.size + 1 + 1 + 1) 80 3 (some ⟨g3, 0, none⟩) (i + 1) cap3 (vcl (x.vs.take (i + 1))) := ⟨by rw [vcl_more HX.out]; exact ho3⟩
        have K3 := grown_from KW OW.out (by omega) hg3
        have C4' := C3'.set2 (.slice (some ⟨g3, 0, none⟩) (i + 1) cap3)
        have A4 := A3.far ⟨w.heap.size + 1 + 1, 2, none⟩ (.slice (some ⟨g3, 0, none⟩) (i + 1) cap3) (by show w.heap.size ≠ w.heap.size + 1 + 1; omega)
        have B4 := B3.far ⟨w.heap.size + 1 + 1, 2, none⟩ (.slice (some ⟨g3, 0, none⟩) (i + 1) cap3) (by show w.heap.size + 1 ≠ w.heap.size + 1 + 1; omega)
        have O4 := o3.farT ⟨w.heap.size + 1 + 1, 2, none⟩ (.slice (some ⟨g3, 0, none⟩) (i + 1) cap3) (C3'.own_ne o3 (by decide))
        have K4 := K3.set (a := ⟨w.heap.size + 1 + 1, 2, none⟩) (by show w.heap.size ≤ w.heap.size + 1 + 1; omega) (.slice (some ⟨g3, 0, none⟩) (i + 1) cap3)
        generalize hWF : w3.setCell ⟨w.heap.size + 1 + 1, 2, none⟩ (.slice (some ⟨g3, 0, none⟩) (i + 1) cap3) = WF at C4' A4 B4 O4 K4 ⊢
        clear hWF o3 K3 A3 B3 C3' c33 f33 hg3 ho3 OW AW BW CW KW hnews
        go_wp2
        go_roundg (nv - (i + 1))
        case measure => rw [hg.out]; omega
        case rel => exact ⟨i + 1, _, cap3, by go_num, rfl, by omega, A4, B4, C4', O4, K4⟩
    · obtain rfl : i = nv := by omega
      have h1' : ¬ ((i : Int) < (i : Int)) := by omega
      obtain ⟨⟨g0, f0⟩, ⟨g1, f1⟩, ⟨g2, f2⟩, ⟨g3, f3⟩, hfin⟩ := ready4 B.out (.bool l) (.slice kp nk kc) (.slice vp' i vc') (.slice ip ni ic)
      have q2 := O.st4 (b := w.heap.size + 1) (by omega) (.bool l) (.slice kp nk kc) (.slice vp' i vc') (.slice ip ni ic)
      have q3 := K.st4 (b := w.heap.size + 1) (by omega) (.bool l) (.slice kp nk kc) (.slice vp' i vc') (.slice ip ni ic)
      rw [List.take_of_length_le (by rw [HV.out.nv]; exact Nat.le_refl _)] at q2
      go_wp2
      generalize hW : ((((wr.setCell ⟨(w.heap.size + 1), 0, none⟩ (.bool l)).setCell ⟨(w.heap.size + 1), 1, none⟩ (.slice kp nk kc)).setCell ⟨(w.heap.size + 1), 2, none⟩ (.slice vp' i vc')).setCell ⟨(w.heap.size + 1), 3, none⟩ (.slice ip ni ic)) = WF at hfin q2 q3 ⊢
      refine bodyPost_ret (v := .agg #[.bool l, .slice kp nk kc, .slice vp' i vc', .slice ip ni ic]) ?_ rfl ⟨_, _, rfl, ⟨HV.out.hl, q3.rw HV.out.k, q2.rw, q3.rw HV.out.i⟩, q3⟩
      exact results_cell_row (p := 2) rfl _ _ (w.heap.size + 1) 37 #[.bool l, .slice kp nk kc, .slice vp' i vc', .slice ip ni ic] (0, 0) _ rfl hfin Try.underlying37 rfl size37
end Go.Proofs.Ytgcfollelefmcaa
