/- The walk of the reference's act in which the power fails. Conditions: Rok (sectors that there are, numbers below 100000). -/
import Derived.Test.YtfnfdngenohhhaaWalkU
namespace Go.Proofs.Ytfnfdngenohhhaa
open Go.ChangeShapes Go.WideShapes Go.ChangeAt Go.RowKit

theorem AM.start {B : Nat} {w : World} {q : R} {c : Ct} {vf vS vT vW vC : Value} (hr : RAt B w vS vT vW vC q) (hf : FatesR B w vf c.fates) (hB : B ≤ w.heap.size) :
    AM B w q.begin c vf (((w.alloc (.cells (q.begin.cells vS vT vW vC) 33)).alloc (.cells Z8 33)).alloc (.cells #[.int .i64 c.at_, vf] 65)) := by
  have k : Kept w (((w.alloc (.cells (q.begin.cells vS vT vW vC) 33)).alloc (.cells Z8 33)).alloc (.cells #[.int .i64 c.at_, vf] 65)) := (((Kept.refl w).alloc _).alloc _).alloc _
  have h := hr.og (k.og hB)
  exact ⟨⟨vS, vT, vW, vC, (((Kept.refl _).alloc _).alloc _).block (heap_alloc_new w _), ⟨h.S, h.T, h.W, h.C⟩⟩, ((Kept.refl _).alloc _).block (two_new w _ _), three_new w _ _ _, hf.og (k.og hB), k⟩

set_option maxHeartbeats 2000000 in
set_option maxRecDepth 100000 in
theorem ract_cut {B : Nat} {w : World} {v : Value} {q : R} (h : RVal B w v q) (hB : B ≤ w.heap.size) (ok : Rok q) (c : Ct) (r : List Ct) (hc : q.cuts = c :: r) (hlt : ¬ (q.acts : Int) < c.at_) :
    Calls Try.prog 27 #[v] w fun e w' => ∃ v', e = .returned (.tuple #[v', .bool true]) ∧ RVal B w' v' (q.begin.fail c r) ∧ Kept w w' := by
  obtain ⟨vS, vT, vW, vC, rfl, hr⟩ := h.out
  obtain ⟨pS, cS, e1, _⟩ := hr.S.out
  obtain ⟨pT, cT, e2, _⟩ := hr.T.out
  obtain ⟨pW, cW, e3, _⟩ := hr.W.out
  obtain ⟨pC, cC, e4, _, _, hcu⟩ := hr.C.out
  subst e1 e2 e3 e4
  obtain ⟨bC, oC, vf, rfl, hsC, x0, x1, hf⟩ := hcu 0 (by rw [hc]; simp)
  have h1 := ok.acts
  have h2 := ok.all
  have l0 : q.cuts.length = r.length + 1 := by rw [hc]; rfl
  have hx0 : w.cell? ⟨bC, oC, none⟩ = some (.int .i64 c.at_) := by
    rw [Nat.zero_mul, Nat.add_zero] at x0
    rw [x0]; simp [hc]
  have hx1 : w.cell? ⟨bC, oC + 1, none⟩ = some vf := by
    rw [Nat.zero_mul, Nat.add_zero] at x1
    exact x1
  have hf0 : FatesR B w vf c.fates := by
    have e : q.cuts[0]'(by rw [hc]; simp) = c := by simp [hc]
    rw [e] at hf
    exact hf
  obtain ⟨pf, cf, rfl, hfc⟩ := hf0.out
  have hxA : ∀ o p, ((w.alloc o).alloc p).cell? ⟨bC, oC, none⟩ = some (.int .i64 c.at_) := fun o p => Lib.cell?_alloc_some _ (Lib.cell?_alloc_some _ hx0)
  have hxB : ∀ o p, ((w.alloc o).alloc p).cell? ⟨bC, oC + 1, none⟩ = some (.slice pf c.fates.length cf) := fun o p => Lib.cell?_alloc_some _ (Lib.cell?_alloc_some _ hx1)
  have A0 := AM.start (c := c) hr hf0 hB
  rw [l0] at A0
  have HA : Hid _ := A0
  unfold R.cells
  rw [l0]
  have HOK : Hid (Rok q) := ok
  have HC : Hid (q.cuts = c :: r) := hc
  clear A0 hr h ok hc hcu x0 x1 hf hsC hfc hf0
  go_enter Try.func27, Try.ntmps27
  go_wp2
  go_loopg [6, 7] q.wait.length (fun g iv _ wx => ∃ k, k + g = q.wait.length ∧ iv = .int .i64 (k : Nat) ∧ AM B w (R.settled q.begin q.wait (fateOf c) k) c (.slice pf c.fates.length cf) wx)
  case atStart => exact ⟨0, by omega, rfl, HA.out⟩
  case round =>
    obtain ⟨k, hk, rfl, ham⟩ := hrel
    clear HA
    obtain ⟨t1, t2, t3, t4, t5, t6, t7, t8⟩ := rsettled_len q.begin q.wait (fateOf c) k
    cases gk with
    | zero =>
      obtain rfl : k = q.wait.length := by omega
      obtain ⟨q1, hq1⟩ : ∃ q1, R.settled q.begin q.wait (fateOf c) q.wait.length = q1 := ⟨_, rfl⟩
      rw [hq1] at t3 t4 t7 ham
      have t3' : q1.wait = q.wait := t3
      have t4' : q1.cuts = c :: r := t4.trans HC.out
      have t7' : q1.fails = q.fails := t7
      have hfb : q1.fails ≤ 100000 := by rw [t7']; exact HOK.out.fails
      have hfail : q.begin.fail c r = { q1 with wait := [], cuts := r, dead := true, fails := q1.fails + 1 } := by rw [t7', ← hq1]; rfl
      clear t1 t2 t3 t4 t5 t6 t7 t8 hq1 hk
      obtain ⟨uS, uT, uW, uC, m0, hr1⟩ := ham.qb.out
      obtain ⟨pS1, cS1, e1, _⟩ := hr1.S.out
      obtain ⟨pT1, cT1, e2, _⟩ := hr1.T.out
      obtain ⟨pW1, cW1, e3, _⟩ := hr1.W.out
      obtain ⟨pC1, cC1, e4, hcc, hcm, hcu⟩ := hr1.C.out
      subst e1 e2 e3 e4
      have hwl : q1.wait.length = q.wait.length := by rw [t3']
      have hcl : q1.cuts.length = r.length + 1 := by rw [t4']; rfl
      obtain ⟨bC1, oC1, vf1, rfl, _, _, _, _⟩ := hcu 0 (by rw [hcl]; omega)
      unfold R.cells at m0
      rw [hwl, hcl] at m0
      obtain ⟨c0, c1, c2, c3, c4, c5, c6, c7⟩ := cells8 m0
      have f2 := frozen_of_row _ w.heap.size 2 _ _ m0
      have f3 := frozen_of_row _ w.heap.size 3 _ _ m0
      have f6 := frozen_of_row _ w.heap.size 6 _ _ m0
      have f7 := frozen_of_row _ w.heap.size 7 _ _ m0
      obtain ⟨z0, z1, z2, z3, z4, z5, z6, z7⟩ := cells8 ham.z
      have y0 := frozen_of_row _ (w.heap.size + 1) 0 _ _ ham.z
      have y1 := frozen_of_row _ (w.heap.size + 1) 1 _ _ ham.z
      have y2 := frozen_of_row _ (w.heap.size + 1) 2 _ _ ham.z
      have y3 := frozen_of_row _ (w.heap.size + 1) 3 _ _ ham.z
      have y4 := frozen_of_row _ (w.heap.size + 1) 4 _ _ ham.z
      have y5 := frozen_of_row _ (w.heap.size + 1) 5 _ _ ham.z
      have y6 := frozen_of_row _ (w.heap.size + 1) 6 _ _ ham.z
      have y7 := frozen_of_row _ (w.heap.size + 1) 7 _ _ ham.z
      obtain ⟨pV, hV, ev⟩ : ∃ pV : Option Addr, CutsR B wr (.slice pV r.length (cC1 - 1)) r ∧ pV = (if cC1 = 1 then some ⟨bC1, oC1, none⟩ else some ⟨bC1, oC1 + 2, none⟩) := by
        refine ⟨_, ⟨_, _, rfl, by rw [hcl] at hcc; omega, by omega, fun j hj => ?_⟩, rfl⟩
        rw [hcl] at hcc
        rw [if_neg (by omega)]
        obtain ⟨b', off', vf', e', hs', y0, y1, hf'⟩ := hcu (j + 1) (by rw [hcl]; omega)
        injection e' with e'
        injection e' with e1 e2
        subst e1 e2
        have hel : q1.cuts[j + 1]'(by rw [hcl]; omega) = r[j] := by simp [t4']
        rw [hel] at y0 hf'
        refine ⟨bC1, oC1 + 2, vf', rfl, hs', ?_, ?_, hf'⟩
        · rw [show oC1 + 2 + j * 2 = oC1 + (j + 1) * 2 by omega]; exact y0
        · rw [show oC1 + 2 + j * 2 + 1 = oC1 + (j + 1) * 2 + 1 by omega]; exact y1
      have i1 : (1 : Int) ≤ (r.length : Int) + 1 := by omega
      have og4 : Og B wr ((((wr.setCell ⟨w.heap.size, 2, none⟩ (.slice none 0 0)).setCell ⟨w.heap.size, 3, none⟩ (.slice pV r.length (cC1 - 1))).setCell ⟨w.heap.size, 7, none⟩ (.bool true)).setCell ⟨w.heap.size, 6, none⟩ (.int .i64 ((q1.fails : Int) + 1))) :=
        Og.one m0 (((((Below.refl B wr).setCell hB _).setCell hB _).setCell hB _).setCell hB _) (fun k hk => by
          rw [heap_setCell_other _ ⟨w.heap.size, 6, none⟩ k _ hk, heap_setCell_other _ ⟨w.heap.size, 7, none⟩ k _ hk, heap_setCell_other _ ⟨w.heap.size, 3, none⟩ k _ hk, heap_setCell_other _ ⟨w.heap.size, 2, none⟩ k _ hk])
      have k4 : Kept w ((((wr.setCell ⟨w.heap.size, 2, none⟩ (.slice none 0 0)).setCell ⟨w.heap.size, 3, none⟩ (.slice pV r.length (cC1 - 1))).setCell ⟨w.heap.size, 7, none⟩ (.bool true)).setCell ⟨w.heap.size, 6, none⟩ (.int .i64 ((q1.fails : Int) + 1))) :=
        (((ham.k.setCell (Nat.le_refl _) _).setCell (Nat.le_refl _) _).setCell (Nat.le_refl _) _).setCell (Nat.le_refl _) _
      have zz4 : ((((wr.setCell ⟨w.heap.size, 2, none⟩ (.slice none 0 0)).setCell ⟨w.heap.size, 3, none⟩ (.slice pV r.length (cC1 - 1))).setCell ⟨w.heap.size, 7, none⟩ (.bool true)).setCell ⟨w.heap.size, 6, none⟩ (.int .i64 ((q1.fails : Int) + 1))).heap[w.heap.size + 1]? = some (.cells Z8 33) := by
        have hk : w.heap.size + 1 ≠ w.heap.size := by omega
        rw [heap_setCell_other _ ⟨w.heap.size, 6, none⟩ _ _ hk, heap_setCell_other _ ⟨w.heap.size, 7, none⟩ _ _ hk, heap_setCell_other _ ⟨w.heap.size, 3, none⟩ _ _ hk, heap_setCell_other _ ⟨w.heap.size, 2, none⟩ _ _ hk]
        exact ham.z
      have og8 := eight_og (B := B) zz4 (by omega) (.slice pS1 q1.S.length cS1) (.slice pT1 q1.torn.length cT1) (.slice none 0 0) (.slice pV r.length (cC1 - 1)) (.int .i64 (q1.acts : Nat)) (.int .i64 (q1.all : Nat)) (.int .i64 ((q1.fails : Int) + 1)) (.bool true)
      obtain ⟨_, _, _, _, _, _, _, _, hfin⟩ := ready8 zz4 (.slice pS1 q1.S.length cS1) (.slice pT1 q1.torn.length cT1) (.slice none 0 0) (.slice pV r.length (cC1 - 1)) (.int .i64 (q1.acts : Nat)) (.int .i64 (q1.all : Nat)) (.int .i64 ((q1.fails : Int) + 1)) (.bool true)
      have k8 := eight_kept k4 (b := w.heap.size + 1) (by omega) (.slice pS1 q1.S.length cS1) (.slice pT1 q1.torn.length cT1) (.slice none 0 0) (.slice pV r.length (cC1 - 1)) (.int .i64 (q1.acts : Nat)) (.int .i64 (q1.all : Nat)) (.int .i64 ((q1.fails : Int) + 1)) (.bool true)
      have rS := hr1.S.og (og4.trans og8).drew
      have rT := hr1.T.og (og4.trans og8).drew
      have rC := hV.og (og4.trans og8).drew
      have HALL : Hid (_ ∧ _ ∧ _ ∧ _ ∧ _) := ⟨rS, rT, rC, hfin, k8.drew⟩
      have HFAIL : Hid (q.begin.fail c r = { q1 with wait := [], cuts := r, dead := true, fails := q1.fails + 1 }) := hfail
      clear hcu hr1 ham m0 hV hcc hcm og4 k4 zz4 og8 hfin k8 rS rT rC hfail t7'
      go_wp2
      go_region
      rw [← ev]
      clear ev
      go_wp2
      obtain ⟨rS, rT, rC, hfin, k8⟩ := HALL.out
      clear HALL
      rw [HFAIL.out]
      generalize ((((((((((((wr.setCell ⟨w.heap.size, 2, none⟩ (.slice none 0 0)).setCell ⟨w.heap.size, 3, none⟩ (.slice pV r.length (cC1 - 1))).setCell ⟨w.heap.size, 7, none⟩ (.bool true)).setCell ⟨w.heap.size, 6, none⟩ (.int .i64 ((q1.fails : Int) + 1))).setCell ⟨w.heap.size + 1, 0, none⟩ (.slice pS1 q1.S.length cS1)).setCell ⟨w.heap.size + 1, 1, none⟩ (.slice pT1 q1.torn.length cT1)).setCell ⟨w.heap.size + 1, 2, none⟩ (.slice none 0 0)).setCell ⟨w.heap.size + 1, 3, none⟩ (.slice pV r.length (cC1 - 1))).setCell ⟨w.heap.size + 1, 4, none⟩ (.int .i64 (q1.acts : Nat))).setCell ⟨w.heap.size + 1, 5, none⟩ (.int .i64 (q1.all : Nat))).setCell ⟨w.heap.size + 1, 6, none⟩ (.int .i64 ((q1.fails : Int) + 1))).setCell ⟨w.heap.size + 1, 7, none⟩ (.bool true)) = WF at *
      have hfin : WF.drew.heap[w.heap.size + 1]? = _ := hfin
      refine bodyPost_ret (v := .tuple #[.agg (R.cells { q1 with wait := [], cuts := r, dead := true, fails := q1.fails + 1 } (.slice pS1 q1.S.length cS1) (.slice pT1 q1.torn.length cT1) (.slice none 0 0) (.slice pV r.length (cC1 - 1))), .bool true]) ?_ rfl ?_
      · exact results_two (p := 2) (u := 3) (ty := 33) rfl _ _ (w.heap.size + 1) 33 _ (0, 0) _ rfl hfin Try.underlying33 rfl size33
      · exact ⟨_, rfl, ⟨_, _, _, _, rfl, rS, rT, ⟨none, 0, rfl, Nat.le_refl _, Nat.zero_le _, rfl, fun h => absurd h (by simp)⟩, rC⟩, k8⟩
    | succ g =>
      have hkl : k < q.wait.length := by omega
      obtain ⟨q1, hq1⟩ : ∃ q1, R.settled q.begin q.wait (fateOf c) k = q1 := ⟨_, rfl⟩
      have hstep : R.settled q.begin q.wait (fateOf c) (k + 1) = q1.settle q.wait[k] (fateOf c k) := by
        rw [R.settled, List.getElem?_eq_getElem hkl, hq1]
      rw [hq1] at t1 t2 t3 ham
      clear t4 t5 t6 t7 t8 hq1
      obtain ⟨x, hx⟩ : ∃ x, q.wait[k] = x := ⟨_, rfl⟩
      rw [hx] at hstep
      have hsec : x.sec < q1.S.length := by rw [t1, ← hx]; exact HOK.out.secs _ (List.getElem_mem hkl)
      obtain ⟨F, hF⟩ : ∃ F, fateOf c k = F := ⟨_, rfl⟩
      have hF2 : F ≤ 2 := by rw [← hF]; exact fateOf_le c k
      rw [hF] at hstep
      obtain ⟨q2, hq2⟩ : ∃ q2, q1.settle x F = q2 := ⟨_, rfl⟩
      obtain ⟨uS, uT, uW, uC, m0, hr1⟩ := ham.qb.out
      obtain ⟨pS1, cS1, e1, _⟩ := hr1.S.out
      obtain ⟨pT1, cT1, e2, _⟩ := hr1.T.out
      obtain ⟨pW1, cW1, e3, _, _, _, hw1⟩ := hr1.W.out
      obtain ⟨pC1, cC1, e4, _⟩ := hr1.C.out
      subst e1 e2 e3 e4
      have t3' : q1.wait = q.wait := t3
      obtain ⟨bW, oW, rfl, hsW, hcW⟩ := hw1 (by rw [t3']; omega)
      obtain ⟨g0, g1⟩ := wrCells_get q.wait k hkl
      rw [hx] at g0 g1
      rw [t3'] at hcW
      have y0 := hcW _ _ g0
      have y1 := hcW _ _ g1
      rw [← Nat.add_assoc] at y1
      have hwl : q1.wait.length = q.wait.length := by rw [t3']
      have am0 := ham.kept (Kept.refl wr).drew hB
      have m0d := (Kept.refl wr).drew.block m0
      have rv : RVal B wr.drew (.agg (q1.cells (.slice pS1 q1.S.length cS1) (.slice pT1 q1.torn.length cT1) (.slice (some ⟨bW, oW, none⟩) q1.wait.length cW1) (.slice pC1 q1.cuts.length cC1))) q1 := ⟨_, _, _, _, rfl, hr1.on ((Kept.refl wr).drew.on (Nat.le_trans hB ham.k.size))⟩
      have hset := rsettle rv (Nat.le_trans hB am0.k.size) x hsec (by rw [t1, t2]; exact HOK.out.torn) (by rw [t1]; exact HOK.out.many) F hF2
      rw [hq2] at hset hstep
      unfold R.cells Wr.val at hset
      unfold R.cells at m0 m0d
      rw [hwl] at hset m0 m0d
      obtain ⟨c0, c1, c2, c3, c4, c5, c6, c7⟩ := cells8 m0
      obtain ⟨f0, f1⟩ := cells2 ham.cb
      have i1 : (0 : Int) ≤ (k : Int) := by omega
      have i2 : (k : Int) < (q.wait.length : Int) := by omega
      have hwb := HOK.out.waits
      have HST : Hid (R.settled q.begin q.wait (fateOf c) (k + 1) = q2) := hstep
      have HKG : Hid (k + (g + 1) = q.wait.length) := hk
      have HAM : Hid (AM B w q1 c (.slice pf c.fates.length cf) wr.drew) := am0
      have HFA := ham.f.out
      clear hstep hk am0 rv hr1 hcW hsW hw1 g0 g1 t1 t2 t3 t3' hq2 hwl ham
      by_cases hfl : k < c.fates.length
      · obtain ⟨p', c', ev, hfc⟩ := HFA
        injection ev with e1 _ e3
        subst e1 e3
        obtain ⟨bf, ofs, rfl, _, hX⟩ := hfc k hfl
        obtain ⟨X, hXe⟩ : ∃ X, c.fates.getD k 0 = X := ⟨_, rfl⟩
        rw [hXe] at hX
        have w1 : -3 < X.tmod 3 ∧ X.tmod 3 < 3 := ⟨by have := Int.lt_tmod_of_pos X (b := 3) (by decide); omega, Int.tmod_lt_of_pos X (by decide)⟩
        have ef : (X.tmod 3 + 3) % 3 = (F : Int) := by
          have h3 := rem3 X
          rw [Int.tmod_eq_emod_of_nonneg (a := X.tmod 3 + 3) (by omega)] at h3
          rw [h3, ← hF]; unfold fateOf; rw [if_pos hfl, hXe]; omega
        have j2 : (k : Int) < (c.fates.length : Int) := by omega
        have hdd : decide ((k : Int) < (c.fates.length : Int)) = true := by simpa using hfl
        clear hfc hF hXe hfl
        go_wp2
        go_region_with (first
          | (go_at_call 31; (with_reducible refine hset.mono ?_); rintro e v1 ⟨v', rfl, hv', kv⟩; obtain ⟨a1, b1, c1', d1, rfl, hr2⟩ := hv'.out; obtain ⟨pS2, cS2, pT2, cT2, pW2, cW2, pC2, cC2, rfl, rfl, rfl, rfl⟩ := hr2.slices; unfold R.cells; obtain ⟨⟨z0, n0⟩, ⟨z1, n1⟩, ⟨z2, n2⟩, ⟨z3, n3⟩, ⟨z4, n4⟩, ⟨z5, n5⟩, ⟨z6, n6⟩, ⟨z7, n7⟩, _⟩ := ready8 (kv.block m0d) (.slice pS2 q2.S.length cS2) (.slice pT2 q2.torn.length cT2) (.slice pW2 q2.wait.length cW2) (.slice pC2 q2.cuts.length cC2) (.int .i64 (q2.acts : Nat)) (.int .i64 (q2.all : Nat)) (.int .i64 (q2.fails : Nat)) (.bool q2.dead); have AN : Hid _ := (HAM.out.kept kv hB).store hB hr2))
        all_goals
          go_wp2
          go_roundg g
          case measure => omega
          case rel => exact ⟨k + 1, by have := HKG.out; omega, by go_num, by rw [HST.out]; exact AN.out⟩
      · have hdd : decide ((k : Int) < (c.fates.length : Int)) = false := by simpa using hfl
        have hF0 : F = 0 := by rw [← hF]; unfold fateOf; rw [if_neg hfl]
        rw [hF0] at hset
        have hset : Calls Try.prog 31 #[_, _, .int .i64 0] wr.drew _ := hset
        clear HFA hF hF0
        go_wp2
        go_region_with (first
          | (go_at_call 31; (with_reducible refine hset.mono ?_); rintro e v1 ⟨v', rfl, hv', kv⟩; obtain ⟨a1, b1, c1', d1, rfl, hr2⟩ := hv'.out; obtain ⟨pS2, cS2, pT2, cT2, pW2, cW2, pC2, cC2, rfl, rfl, rfl, rfl⟩ := hr2.slices; unfold R.cells; obtain ⟨⟨z0, n0⟩, ⟨z1, n1⟩, ⟨z2, n2⟩, ⟨z3, n3⟩, ⟨z4, n4⟩, ⟨z5, n5⟩, ⟨z6, n6⟩, ⟨z7, n7⟩, _⟩ := ready8 (kv.block m0d) (.slice pS2 q2.S.length cS2) (.slice pT2 q2.torn.length cT2) (.slice pW2 q2.wait.length cW2) (.slice pC2 q2.cuts.length cC2) (.int .i64 (q2.acts : Nat)) (.int .i64 (q2.all : Nat)) (.int .i64 (q2.fails : Nat)) (.bool q2.dead); have AN : Hid _ := (HAM.out.kept kv hB).store hB hr2))
        all_goals
          go_wp2
          go_roundg g
          case measure => omega
          case rel => exact ⟨k + 1, by have := HKG.out; omega, by go_num, by rw [HST.out]; exact AN.out⟩

/-- The reference's act. -/
theorem ract_walk {B : Nat} {w : World} {v : Value} {q : R} (h : RVal B w v q) (hB : B ≤ w.heap.size) (ok : Rok q) :
    Calls Try.prog 27 #[v] w fun e w' => ∃ v', e = .returned (.tuple #[v', .bool q.act.2]) ∧ RVal B w' v' q.act.1 ∧ Kept w w' := by
  cases hc : q.cuts with
  | nil =>
    have e : q.act = (q.begin, false) := by unfold R.act; rw [hc]
    rw [e]
    exact ract_none h hB ok hc
  | cons c r =>
    by_cases hlt : (q.acts : Int) < c.at_
    · have e : q.act = (q.begin, false) := by unfold R.act; rw [hc]; exact if_pos hlt
      rw [e]
      exact ract_later h hB ok c r hc hlt
    · have e : q.act = (q.begin.fail c r, true) := by unfold R.act; rw [hc]; exact if_neg hlt
      rw [e]
      exact ract_cut h hB ok c r hc hlt
end Go.Proofs.Ytfnfdngenohhhaa
