/- The walk of the reference's Flush. Conditions: Rok (sectors that there are, numbers below 100000). -/
import Derived.Test.YtfnfdngenohhhaaWalkW
namespace Go.Proofs.Ytfnfdngenohhhaa
open Go.ChangeShapes Go.WideShapes Go.ChangeAt Go.RowKit

set_option maxHeartbeats 2000000 in
set_option maxRecDepth 100000 in
theorem rflush_fail {B : Nat} {w : World} {v : Value} {q : R} (h : RVal B w v q) (hB : B ≤ w.heap.size) (ok : Rok q) (hd : q.dead = false) (ha : q.act.2 = true) :
    Calls Try.prog 16 #[v] w fun e w' => ∃ v', e = .returned (.tuple #[v', .int .i64 40]) ∧ RVal B w' v' q.act.1 ∧ Kept w w' := by
  obtain ⟨vS, vT, vW, vC, rfl, hr⟩ := h.out
  obtain ⟨pS, cS, pT, cT, pW, cW, pC, cC, rfl, rfl, rfl, rfl⟩ := hr.slices
  have F0 := FM.start hr hB
  have hact := ract_walk (v := .agg (q.cells (.slice pS q.S.length cS) (.slice pT q.torn.length cT) (.slice pW q.wait.length cW) (.slice pC q.cuts.length cC))) ⟨_, _, _, _, rfl, hr.og (F0.k.og hB)⟩ (Nat.le_trans hB F0.k.size) ok
  obtain ⟨q2, hq2⟩ : ∃ q2, q.act.1 = q2 := ⟨_, rfl⟩
  rw [hq2] at hact
  rw [ha] at hact
  rw [hq2]
  unfold R.cells at hact F0 ⊢
  rw [hd] at hact F0 ⊢
  clear hr h ok ha hq2
  go_enter Try.func16, Try.ntmps16
  go_wp2_with (go_at_call 27; (with_reducible refine hact.mono ?_); rintro e v1 ⟨v', rfl, hv', kv⟩; obtain ⟨a1, b1, c1', d1, rfl, hr2⟩ := hv'.out; obtain ⟨pS2, cS2, pT2, cT2, pW2, cW2, pC2, cC2, rfl, rfl, rfl, rfl⟩ := hr2.slices; unfold R.cells; have F1 := F0.kept kv hB; obtain ⟨_, _, _, _, _, _, _, _, m1, _⟩ := F1.facts; obtain ⟨e0, e1, e2, e3, e4, e5, e6, e7⟩ := cells8 m1; obtain ⟨f0, f1, f2, f3, f4, f5, f6, f7⟩ := frozen8 m1; obtain ⟨z0, z1, z2, z3, z4, z5, z6, z7⟩ := cells8 F1.z; obtain ⟨y0, y1, y2, y3, y4, y5, y6, y7⟩ := frozen8 F1.z; have HB : Hid (_ ∧ _ ∧ _ ∧ _) := ⟨(both m1 F1.z hB F1.k (.slice pS2 q2.S.length cS2) (.slice pT2 q2.torn.length cT2) (.slice pW2 q2.wait.length cW2) (.slice pC2 q2.cuts.length cC2) (.int .i64 (q2.acts : Nat)) (.int .i64 (q2.all : Nat)) (.int .i64 (q2.fails : Nat)) (.bool q2.dead)).1, (both m1 F1.z hB F1.k (.slice pS2 q2.S.length cS2) (.slice pT2 q2.torn.length cT2) (.slice pW2 q2.wait.length cW2) (.slice pC2 q2.cuts.length cC2) (.int .i64 (q2.acts : Nat)) (.int .i64 (q2.all : Nat)) (.int .i64 (q2.fails : Nat)) (.bool q2.dead)).2.1, (both m1 F1.z hB F1.k (.slice pS2 q2.S.length cS2) (.slice pT2 q2.torn.length cT2) (.slice pW2 q2.wait.length cW2) (.slice pC2 q2.cuts.length cC2) (.int .i64 (q2.acts : Nat)) (.int .i64 (q2.all : Nat)) (.int .i64 (q2.fails : Nat)) (.bool q2.dead)).2.2, hr2⟩; clear F1 m1 hr2)
  obtain ⟨hfin, og, k2, hr2⟩ := HB.out
  clear HB
  have hr3 := hr2.og og
  generalize ((((((((((((((((v1.setCell ⟨w.heap.size, 0, none⟩ (.slice pS2 q2.S.length cS2)).setCell ⟨w.heap.size, 1, none⟩ (.slice pT2 q2.torn.length cT2)).setCell ⟨w.heap.size, 2, none⟩ (.slice pW2 q2.wait.length cW2)).setCell ⟨w.heap.size, 3, none⟩ (.slice pC2 q2.cuts.length cC2)).setCell ⟨w.heap.size, 4, none⟩ (.int .i64 (q2.acts : Nat))).setCell ⟨w.heap.size, 5, none⟩ (.int .i64 (q2.all : Nat))).setCell ⟨w.heap.size, 6, none⟩ (.int .i64 (q2.fails : Nat))).setCell ⟨w.heap.size, 7, none⟩ (.bool q2.dead)).setCell ⟨w.heap.size + 1, 0, none⟩ (.slice pS2 q2.S.length cS2)).setCell ⟨w.heap.size + 1, 1, none⟩ (.slice pT2 q2.torn.length cT2)).setCell ⟨w.heap.size + 1, 2, none⟩ (.slice pW2 q2.wait.length cW2)).setCell ⟨w.heap.size + 1, 3, none⟩ (.slice pC2 q2.cuts.length cC2)).setCell ⟨w.heap.size + 1, 4, none⟩ (.int .i64 (q2.acts : Nat))).setCell ⟨w.heap.size + 1, 5, none⟩ (.int .i64 (q2.all : Nat))).setCell ⟨w.heap.size + 1, 6, none⟩ (.int .i64 (q2.fails : Nat))).setCell ⟨w.heap.size + 1, 7, none⟩ (.bool q2.dead)) = WF at *
  refine bodyPost_ret (v := .tuple #[.agg (R.cells q2 (.slice pS2 q2.S.length cS2) (.slice pT2 q2.torn.length cT2) (.slice pW2 q2.wait.length cW2) (.slice pC2 q2.cuts.length cC2)), .int .i64 40]) ?_ rfl ⟨_, rfl, ⟨_, _, _, _, rfl, hr3⟩, k2⟩
  exact results_two (p := 2) (u := 3) (ty := 33) rfl _ _ (w.heap.size + 1) 33 _ (0, 0) _ rfl hfin Try.underlying33 rfl size33

theorem act_false {q : R} (h : q.act.2 = false) : q.act.1 = q.begin := by
  unfold R.act at h ⊢
  cases hc : q.cuts with
  | nil => rfl
  | cons c r =>
    rw [hc] at h
    by_cases hlt : (q.acts : Int) < c.at_
    · simp [hlt]
    · simp [hlt] at h

set_option maxHeartbeats 2000000 in
set_option maxRecDepth 100000 in
theorem rflush_good {B : Nat} {w : World} {v : Value} {q : R} (h : RVal B w v q) (hB : B ≤ w.heap.size) (ok : Rok q) (hd : q.dead = false) (ha : q.act.2 = false) :
    Calls Try.prog 16 #[v] w fun e w' => ∃ v', e = .returned (.tuple #[v', .int .i64 0]) ∧ RVal B w' v' q.act.1.good ∧ Kept w w' := by
  obtain ⟨vS, vT, vW, vC, rfl, hr⟩ := h.out
  obtain ⟨pS, cS, pT, cT, pW, cW, pC, cC, rfl, rfl, rfl, rfl⟩ := hr.slices
  have F0 := FM.start hr hB
  have hact := ract_walk (v := .agg (q.cells (.slice pS q.S.length cS) (.slice pT q.torn.length cT) (.slice pW q.wait.length cW) (.slice pC q.cuts.length cC))) ⟨_, _, _, _, rfl, hr.og (F0.k.og hB)⟩ (Nat.le_trans hB F0.k.size) ok
  obtain ⟨q2, hq2⟩ : ∃ q2, q.act.1 = q2 := ⟨_, rfl⟩
  rw [hq2] at hact
  rw [ha] at hact
  rw [hq2]
  have hbg := act_false ha
  rw [hq2] at hbg
  have hS2 : q2.S = q.S := by rw [hbg]; rfl
  have hT2 : q2.torn = q.torn := by rw [hbg]; rfl
  have hW2 : q2.wait = q.wait := by rw [hbg]; rfl
  have ok2 : q2.torn.length = q2.S.length ∧ q2.S.length ≤ 1000 ∧ (∀ x ∈ q2.wait, x.sec < q2.S.length) ∧ q2.wait.length ≤ 1000 := by
    rw [hS2, hT2, hW2]; exact ⟨ok.torn, ok.many, ok.secs, ok.waits⟩
  have HOK : Hid _ := ok2
  have hwb := ok2.2.2.2
  unfold R.cells at hact F0 ⊢
  rw [hd] at hact F0 ⊢
  clear hr h ok ha hq2 hbg hS2 hT2 hW2 ok2
  go_enter Try.func16, Try.ntmps16
  go_wp2_with (go_at_call 27; (with_reducible refine hact.mono ?_); rintro e v1 ⟨v', rfl, hv', kv⟩; obtain ⟨a1, b1, c1', d1, rfl, hr2⟩ := hv'.out; obtain ⟨pS2, cS2, pT2, cT2, pW2, cW2, pC2, cC2, rfl, rfl, rfl, rfl⟩ := hr2.slices; unfold R.cells; have F1 := F0.kept kv hB; obtain ⟨_, _, _, _, _, _, _, _, m1, _⟩ := F1.facts; obtain ⟨e0, e1, e2, e3, e4, e5, e6, e7⟩ := cells8 m1; obtain ⟨f0, f1, f2, f3, f4, f5, f6, f7⟩ := frozen8 m1; obtain ⟨z0, z1, z2, z3, z4, z5, z6, z7⟩ := cells8 F1.z; obtain ⟨y0, y1, y2, y3, y4, y5, y6, y7⟩ := frozen8 F1.z; have F2 : Hid _ := F1.store hB hr2; clear F1 m1 hr2)
  go_loopg [5] q2.wait.length (fun g iv wx => ∃ k, k + g = q2.wait.length ∧ iv = .int .i64 (k : Nat) ∧ FM B w (R.settled q2 q2.wait (fun _ => 1) k) wx)
  case atStart => exact ⟨0, by omega, rfl, F2.out⟩
  case round =>
    obtain ⟨k, hk, rfl, ham⟩ := hrel
    clear F2 e0 e1 e2 e3 e4 e5 e6 e7 f0 f1 f2 f3 f4 f5 f6 f7 z0 z1 z2 z3 z4 z5 z6 z7 y0 y1 y2 y3 y4 y5 y6 y7
    obtain ⟨t1, t2, t3, t4, t5, t6, t7, t8⟩ := rsettled_len q2 q2.wait (fun _ => 1) k
    cases gk with
    | zero =>
      obtain rfl : k = q2.wait.length := by omega
      obtain ⟨q1, hq1⟩ : ∃ q1, R.settled q2 q2.wait (fun _ => 1) q2.wait.length = q1 := ⟨_, rfl⟩
      have hgood : q2.good = { q1 with wait := [] } := by rw [← hq1]; rfl
      rw [hq1] at t3 ham
      have hwl : q1.wait.length = q2.wait.length := by rw [t3]
      clear t1 t2 t3 t4 t5 t6 t7 t8 hq1 hk
      obtain ⟨pS1, cS1, pT1, cT1, pW1, cW1, pC1, cC1, m0, hr1⟩ := ham.facts
      have og1 : Og B wr (wr.setCell ⟨w.heap.size, 2, none⟩ (.slice none 0 0)) := Og.one m0 ((Below.refl B wr).setCell hB _) (fun k hk => heap_setCell_other _ ⟨w.heap.size, 2, none⟩ k _ hk)
      have zz1 : (wr.setCell ⟨w.heap.size, 2, none⟩ (.slice none 0 0)).heap[w.heap.size + 1]? = some (.cells Z8 33) := (heap_setCell_other _ ⟨w.heap.size, 2, none⟩ _ _ (by show w.heap.size + 1 ≠ w.heap.size; omega)).trans ham.z
      obtain ⟨hfin, og2, k2⟩ := copied_to zz1 hB (ham.k.setCell (Nat.le_refl _) _) (.slice pS1 q1.S.length cS1) (.slice pT1 q1.torn.length cT1) (.slice none 0 0) (.slice pC1 q1.cuts.length cC1) (.int .i64 (q1.acts : Nat)) (.int .i64 (q1.all : Nat)) (.int .i64 (q1.fails : Nat)) (.bool q1.dead)
      have rS := hr1.S.og (og1.trans og2)
      have rT := hr1.T.og (og1.trans og2)
      have rC := hr1.C.og (og1.trans og2)
      rw [hwl] at m0
      obtain ⟨c0, c1, c2, c3, c4, c5, c6, c7⟩ := cells8 m0
      obtain ⟨f0, f1, f2, f3, f4, f5, f6, f7⟩ := frozen8 m0
      obtain ⟨z0, z1, z2, z3, z4, z5, z6, z7⟩ := cells8 ham.z
      obtain ⟨y0, y1, y2, y3, y4, y5, y6, y7⟩ := frozen8 ham.z
      have HALL : Hid (_ ∧ _ ∧ _ ∧ _ ∧ _) := ⟨rS, rT, rC, hfin, k2⟩
      have HG : Hid (q2.good = { q1 with wait := [] }) := hgood
      clear rS rT rC hfin og2 k2 og1 zz1 hr1 ham m0 hgood
      go_wp2
      obtain ⟨rS, rT, rC, hfin, k2⟩ := HALL.out
      clear HALL
      rw [HG.out]
      generalize (((((((((wr.setCell ⟨w.heap.size, 2, none⟩ (.slice none 0 0)).setCell ⟨w.heap.size + 1, 0, none⟩ (.slice pS1 q1.S.length cS1)).setCell ⟨w.heap.size + 1, 1, none⟩ (.slice pT1 q1.torn.length cT1)).setCell ⟨w.heap.size + 1, 2, none⟩ (.slice none 0 0)).setCell ⟨w.heap.size + 1, 3, none⟩ (.slice pC1 q1.cuts.length cC1)).setCell ⟨w.heap.size + 1, 4, none⟩ (.int .i64 (q1.acts : Nat))).setCell ⟨w.heap.size + 1, 5, none⟩ (.int .i64 (q1.all : Nat))).setCell ⟨w.heap.size + 1, 6, none⟩ (.int .i64 (q1.fails : Nat))).setCell ⟨w.heap.size + 1, 7, none⟩ (.bool q1.dead)) = WF at *
      refine bodyPost_ret (v := .tuple #[.agg (R.cells { q1 with wait := [] } (.slice pS1 q1.S.length cS1) (.slice pT1 q1.torn.length cT1) (.slice none 0 0) (.slice pC1 q1.cuts.length cC1)), .int .i64 0]) ?_ rfl ?_
      · exact results_two (p := 2) (u := 3) (ty := 33) rfl _ _ (w.heap.size + 1) 33 _ (0, 0) _ rfl hfin Try.underlying33 rfl size33
      · exact ⟨_, rfl, ⟨_, _, _, _, rfl, rS, rT, ⟨none, 0, rfl, Nat.le_refl _, Nat.zero_le _, rfl, fun h => absurd h (by simp)⟩, rC⟩, k2⟩
    | succ g =>
      have hkl : k < q2.wait.length := by omega
      obtain ⟨q1, hq1⟩ : ∃ q1, R.settled q2 q2.wait (fun _ => 1) k = q1 := ⟨_, rfl⟩
      have hstep : R.settled q2 q2.wait (fun _ => 1) (k + 1) = q1.settle q2.wait[k] 1 := by
        rw [R.settled, List.getElem?_eq_getElem hkl, hq1]
      rw [hq1] at t1 t2 t3 ham
      clear t4 t5 t6 t7 t8 hq1
      obtain ⟨x, hx⟩ : ∃ x, q2.wait[k] = x := ⟨_, rfl⟩
      rw [hx] at hstep
      have hsec : x.sec < q1.S.length := by rw [t1, ← hx]; exact HOK.out.2.2.1 _ (List.getElem_mem hkl)
      obtain ⟨q3, hq3⟩ : ∃ q3, q1.settle x 1 = q3 := ⟨_, rfl⟩
      obtain ⟨pS1, cS1, pT1, cT1, pW1, cW1, pC1, cC1, m0, hr1⟩ := ham.facts
      obtain ⟨_, _, e3, _, _, _, hw1⟩ := hr1.W.out
      injection e3 with e3 _ e4
      subst e3 e4
      obtain ⟨bW, oW, rfl, hsW, hcW⟩ := hw1 (by rw [t3]; omega)
      obtain ⟨g0, g1⟩ := wrCells_get q2.wait k hkl
      rw [hx] at g0 g1
      rw [t3] at hcW
      have y0 := hcW _ _ g0
      have y1 := hcW _ _ g1
      rw [← Nat.add_assoc] at y1
      have hwl : q1.wait.length = q2.wait.length := by rw [t3]
      have am0 := ham.kept (Kept.refl wr).drew hB
      have m0d := (Kept.refl wr).drew.block m0
      have rv : RVal B wr.drew (.agg (q1.cells (.slice pS1 q1.S.length cS1) (.slice pT1 q1.torn.length cT1) (.slice (some ⟨bW, oW, none⟩) q1.wait.length cW1) (.slice pC1 q1.cuts.length cC1))) q1 := ⟨_, _, _, _, rfl, hr1.on ((Kept.refl wr).drew.on (Nat.le_trans hB ham.k.size))⟩
      have hset := rsettle rv (Nat.le_trans hB am0.k.size) x hsec (by rw [t1, t2]; exact HOK.out.1) (by rw [t1]; exact HOK.out.2.1) 1 (by omega)
      rw [hq3] at hset hstep
      unfold R.cells Wr.val at hset
      rw [hwl] at hset m0 m0d
      have hset : Calls Try.prog 31 #[_, _, .int .i64 1] wr.drew _ := hset
      obtain ⟨c0, c1, c2, c3, c4, c5, c6, c7⟩ := cells8 m0
      have i1 : (0 : Int) ≤ (k : Int) := by omega
      have i2 : (k : Int) < (q2.wait.length : Int) := by omega
      have HST : Hid (R.settled q2 q2.wait (fun _ => 1) (k + 1) = q3) := hstep
      have HKG : Hid (k + (g + 1) = q2.wait.length) := hk
      have HAM : Hid (FM B w q1 wr.drew) := am0
      clear hstep hk am0 rv hr1 hcW hsW hw1 g0 g1 t1 t2 t3 hq3 hwl ham
      go_wp2
      go_region_with (first
        | (go_at_call 31; (with_reducible refine hset.mono ?_); rintro e v1 ⟨v', rfl, hv', kv⟩; obtain ⟨a1, b1, c1', d1, rfl, hr2⟩ := hv'.out; obtain ⟨pS2, cS2, pT2, cT2, pW2, cW2, pC2, cC2, rfl, rfl, rfl, rfl⟩ := hr2.slices; unfold R.cells; obtain ⟨⟨z0, n0⟩, ⟨z1, n1⟩, ⟨z2, n2⟩, ⟨z3, n3⟩, ⟨z4, n4⟩, ⟨z5, n5⟩, ⟨z6, n6⟩, ⟨z7, n7⟩, _⟩ := ready8 (kv.block m0d) (.slice pS2 q3.S.length cS2) (.slice pT2 q3.torn.length cT2) (.slice pW2 q3.wait.length cW2) (.slice pC2 q3.cuts.length cC2) (.int .i64 (q3.acts : Nat)) (.int .i64 (q3.all : Nat)) (.int .i64 (q3.fails : Nat)) (.bool q3.dead); have AN : Hid _ := (HAM.out.kept kv hB).store hB hr2))
      all_goals
        go_wp2
        go_roundg g
        case measure => omega
        case rel => exact ⟨k + 1, by have := HKG.out; omega, by go_num, by rw [HST.out]; exact AN.out⟩

/-- The reference's Flush. -/
theorem rflush_walk {B : Nat} {w : World} {v : Value} {q : R} (h : RVal B w v q) (hB : B ≤ w.heap.size) (ok : Rok q) :
    Calls Try.prog 16 #[v] w fun e w' => ∃ v', e = .returned (.tuple #[v', .int .i64 q.flush.2]) ∧ RVal B w' v' q.flush.1 ∧ Kept w w' := by
  unfold R.flush
  cases hd : q.dead with
  | true => exact rflush_dead h hB hd
  | false =>
    cases ha : q.act.2 with
    | true => exact rflush_fail h hB ok hd ha
    | false => exact rflush_good h hB ok hd ha
end Go.Proofs.Ytfnfdngenohhhaa
