/- The walk of the reference's Read. Conditions: Rok. -/
import Derived.Test.YtfnfdngenohhhaaWalkAA
namespace Go.Proofs.Ytfnfdngenohhhaa
open Go.ChangeShapes Go.WideShapes Go.ChangeAt Go.RowKit

set_option maxHeartbeats 1000000 in
set_option maxRecDepth 100000 in
theorem rread_good {B : Nat} {w : World} {v : Value} {q : R} (h : RVal B w v q) (hB : B ≤ w.heap.size) (ok : Rok q) (k : Nat) (hd : q.dead = false) (hk : k < q.S.length) (ha : q.act.2 = false) :
    Calls Try.prog 12 #[v, .int .i64 (k : Nat)] w fun e w' => ∃ v', e = .returned (.tuple #[v', .string (q.act.1.says k).1, .int .i64 (q.act.1.says k).2]) ∧ RVal B w' v' q.act.1 ∧ Kept w w' := by
  obtain ⟨vS, vT, vW, vC, rfl, hr⟩ := h.out
  obtain ⟨pS, cS, pT, cT, pW, cW, pC, cC, rfl, rfl, rfl, rfl⟩ := hr.slices
  have F0 := FM.start hr hB
  have hact := ract_walk (v := .agg (q.cells (.slice pS q.S.length cS) (.slice pT q.torn.length cT) (.slice pW q.wait.length cW) (.slice pC q.cuts.length cC))) ⟨_, _, _, _, rfl, hr.og (F0.k.og hB)⟩ (Nat.le_trans hB F0.k.size) ok
  obtain ⟨q2, hq2⟩ : ∃ q2, q.act.1 = q2 := ⟨_, rfl⟩
  rw [hq2] at hact
  rw [ha] at hact
  rw [hq2]
  have hbg := act_false ha
  rw [hq2] at hbg
  have hS2 : q2.S = q.S := by rw [hbg]; rfl
  have hT2 : q2.torn = q.torn := by rw [hbg]; rfl
  have hW2 : q2.wait = q.wait := by rw [hbg]; rfl
  have ok2 : q2.torn.length = q2.S.length ∧ q2.S.length ≤ 1000 ∧ q2.wait.length ≤ 1000 ∧ k < q2.S.length := by
    rw [hS2, hT2, hW2]; exact ⟨ok.torn, ok.many, ok.waits, hk⟩
  have OK2 : Hid (q2.torn.length = q2.S.length ∧ q2.S.length ≤ 1000 ∧ q2.wait.length ≤ 1000 ∧ k < q2.S.length) := ok2
  have ow : q2.wait.length ≤ 1000 := ok2.2.2.1
  clear ok2
  have n1 : ¬ ((k : Int) < 0) := by omega
  have hb : decide ((q.S.length : Int) ≤ (k : Int)) = false := by simp; omega
  have hbn : ¬ q.S.length ≤ k := by omega
  unfold R.cells at hact F0 ⊢
  rw [hd] at hact F0 ⊢
  clear hr h ok ha hq2 hbg hS2 hT2 hW2 hk
  go_enter Try.func12, Try.ntmps12
  go_wp2_with (go_at_call 27; (with_reducible refine hact.mono ?_); rintro e v1 ⟨v', rfl, hv', kv⟩; obtain ⟨a1, b1, c1', d1, rfl, hr2⟩ := hv'.out; obtain ⟨pS2, cS2, pT2, cT2, pW2, cW2, pC2, cC2, rfl, rfl, rfl, rfl⟩ := hr2.slices; unfold R.cells; have F1 := F0.kept kv hB; obtain ⟨_, _, _, _, _, _, _, _, m1, _⟩ := F1.facts; obtain ⟨e0, e1, e2, e3, e4, e5, e6, e7⟩ := cells8 m1; obtain ⟨f0, f1, f2, f3, f4, f5, f6, f7⟩ := frozen8 m1; obtain ⟨z0, z1, z2, z3, z4, z5, z6, z7⟩ := cells8 F1.z; obtain ⟨y0, y1, y2, y3, y4, y5, y6, y7⟩ := frozen8 F1.z; have F2 := F1.store hB hr2; clear F1 m1 hr2)
  clear e0 e1 e2 e3 e4 e5 e6 e7 f0 f1 f2 f3 f4 f5 f6 f7 z0 z1 z2 z3 z4 z5 z6 z7 y0 y1 y2 y3 y4 y5 y6 y7
  generalize ((((((((v1.setCell ⟨w.heap.size, 0, none⟩ (.slice pS2 q2.S.length cS2)).setCell ⟨w.heap.size, 1, none⟩ (.slice pT2 q2.torn.length cT2)).setCell ⟨w.heap.size, 2, none⟩ (.slice pW2 q2.wait.length cW2)).setCell ⟨w.heap.size, 3, none⟩ (.slice pC2 q2.cuts.length cC2)).setCell ⟨w.heap.size, 4, none⟩ (.int .i64 (q2.acts : Nat))).setCell ⟨w.heap.size, 5, none⟩ (.int .i64 (q2.all : Nat))).setCell ⟨w.heap.size, 6, none⟩ (.int .i64 (q2.fails : Nat))).setCell ⟨w.heap.size, 7, none⟩ (.bool q2.dead)) = V at *
  obtain ⟨pS3, cS3, pT3, cT3, pW3, cW3, pC3, cC3, m0, r0⟩ := F2.facts
  obtain ⟨c0, c1, c2, c3, c4, c5, c6, c7⟩ := cells8 m0
  obtain ⟨z0, z1, z2, z3, z4, z5, z6, z7⟩ := cells8 F2.z
  obtain ⟨y0, y1, y2, y3, y4, y5, y6, y7⟩ := frozen8 F2.z
  have HR : Hid (RAt B V (.slice pS3 q2.S.length cS3) (.slice pT3 q2.torn.length cT3) (.slice pW3 q2.wait.length cW3) (.slice pC3 q2.cuts.length cC3) q2) := r0
  have HF : Hid (FM B w q2 V) := F2
  have HM : Hid _ := (Kept.refl V).drew.block m0
  clear r0 F2 m0
  go_loopg [8] q2.wait.length (fun g iv wx => g ≤ q2.wait.length ∧ iv = .int .i64 ((g : Int) - 1) ∧ lastOf (q2.wait.drop g) k = none ∧ wx = V)
  case atStart => exact ⟨Nat.le_refl _, rfl, by rw [List.drop_of_length_le (Nat.le_refl _)]; rfl, rfl⟩
  case round =>
    obtain ⟨hg, rfl, hlast, rfl⟩ := hrel
    cases gk with
    | zero =>
      obtain ⟨o1, o2, o3, o4⟩ := OK2.out
      obtain ⟨pT', cT', e3, _, _, _, hw⟩ := HR.out.T.out
      injection e3 with e3 _ e5
      subst e3 e5
      obtain ⟨bT, oT, rfl, hsT, hcT⟩ := hw (by omega)
      have xT := hcT k (.bool (q2.torn[k]'(by omega))) (by simp [List.getElem?_eq_getElem (show k < q2.torn.length by omega)])
      obtain ⟨pS', cS', e3, _, _, _, hw⟩ := HR.out.S.out
      injection e3 with e3 _ e5
      subst e3 e5
      obtain ⟨bS, oS, rfl, hsS, hcS⟩ := hw (by omega)
      have xS := hcS k (.string (q2.S[k]'o4)) (by simp [List.getElem?_eq_getElem o4])
      obtain ⟨tk, htk⟩ : ∃ tk, q2.torn[k]'(by omega) = tk := ⟨_, rfl⟩
      obtain ⟨sk, hsk⟩ : ∃ sk, q2.S[k]'o4 = sk := ⟨_, rfl⟩
      have hno : lastOf q2.wait k = none := by rw [List.drop_zero] at hlast; exact hlast
      have hsays : q2.says k = if tk then (⟨#[]⟩, 41) else (norm sk, 0) := by
        unfold R.says
        rw [hno]
        simp only [List.getD, List.getElem?_eq_getElem (show k < q2.torn.length by omega), List.getElem?_eq_getElem o4, Option.getD_some, htk, hsk]
      rw [htk] at xT
      rw [hsk] at xS
      have i1 : (0 : Int) ≤ (k : Int) := by omega
      have i2 : (k : Int) < (q2.torn.length : Int) := by omega
      have i3 : (k : Int) < (q2.S.length : Int) := by omega
      have nb : ∀ b', Sr B wr b' → ¬ b' = w.heap.size + 1 := by
        intro b' hs e
        rcases hs with h1 | ⟨cs, t, fr, h1, _, h2⟩
        · omega
        · rw [e, HF.out.z] at h1
          injection h1 with h1
          injection h1 with _ h3 _
          exact h2 h3.symm
      have nS := nb bS hsS
      have nS' : ¬ w.heap.size + 1 = bS := fun e => nS e.symm
      clear hlast hno htk hsk hcT hcS hsS hsT hw nb o1
      cases tk with
      | true =>
        have HSAYS : Hid (q2.says k = (⟨#[]⟩, 41)) := by rw [hsays]; rfl
        clear hsays
        obtain ⟨hfin, og, k2⟩ := copied_to HF.out.z hB HF.out.k (.slice (some ⟨bS, oS, none⟩) q2.S.length cS3) (.slice (some ⟨bT, oT, none⟩) q2.torn.length cT3) (.slice pW3 q2.wait.length cW3) (.slice pC3 q2.cuts.length cC3) (.int .i64 (q2.acts : Nat)) (.int .i64 (q2.all : Nat)) (.int .i64 (q2.fails : Nat)) (.bool q2.dead)
        have HALL : Hid (_ ∧ _ ∧ _) := ⟨hfin, HR.out.og og, k2⟩
        clear hfin og k2
        go_wp2
        obtain ⟨hfin, hr4, k2⟩ := HALL.out
        clear HALL
        rw [HSAYS.out]
        generalize ((((((((wr.setCell ⟨w.heap.size + 1, 0, none⟩ (.slice (some ⟨bS, oS, none⟩) q2.S.length cS3)).setCell ⟨w.heap.size + 1, 1, none⟩ (.slice (some ⟨bT, oT, none⟩) q2.torn.length cT3)).setCell ⟨w.heap.size + 1, 2, none⟩ (.slice pW3 q2.wait.length cW3)).setCell ⟨w.heap.size + 1, 3, none⟩ (.slice pC3 q2.cuts.length cC3)).setCell ⟨w.heap.size + 1, 4, none⟩ (.int .i64 (q2.acts : Nat))).setCell ⟨w.heap.size + 1, 5, none⟩ (.int .i64 (q2.all : Nat))).setCell ⟨w.heap.size + 1, 6, none⟩ (.int .i64 (q2.fails : Nat))).setCell ⟨w.heap.size + 1, 7, none⟩ (.bool q2.dead)) = WF at *
        have hfin : WF.heap[w.heap.size + 1]? = _ := hfin
        refine bodyPost_ret (v := .tuple #[.agg (R.cells q2 (.slice (some ⟨bS, oS, none⟩) q2.S.length cS3) (.slice (some ⟨bT, oT, none⟩) q2.torn.length cT3) (.slice pW3 q2.wait.length cW3) (.slice pC3 q2.cuts.length cC3)), .string ⟨#[]⟩, .int .i64 41]) ?_ rfl ⟨_, rfl, ⟨_, _, _, _, rfl, hr4⟩, k2⟩
        exact results_three (p := 4) (u := 5) (t' := 6) (ty := 33) rfl _ _ (w.heap.size + 1) 33 _ (0, 0) _ rfl hfin Try.underlying33 rfl size33
      | false =>
        by_cases hz : sk.size = 0
        · have hse : sk = ⟨#[]⟩ := by
            cases sk with
            | mk d => congr 1; exact Array.eq_empty_of_size_eq_zero hz
          subst hse
          have HSAYS : Hid (q2.says k = (noughts 256, 0)) := by rw [hsays, noughts_all]; rfl
          clear hsays
          have h28 : ∀ W, Calls Try.prog 28 #[.int .i64 256] W fun e w' => e = .returned (.string (noughts 256)) ∧ Kept W w' := fun W => zeros_walk 256 (by omega) W
          generalize noughts 256 = NZ at *
          go_wp2
          go_region_held3 (fun W => W.cell? ⟨w.heap.size, 0, none⟩ = some (.slice (some ⟨bS, oS, none⟩) q2.S.length cS3) ∧ W.cell? ⟨w.heap.size, 1, none⟩ = some (.slice (some ⟨bT, oT, none⟩) q2.torn.length cT3) ∧ W.cell? ⟨w.heap.size, 2, none⟩ = some (.slice pW3 q2.wait.length cW3) ∧ W.cell? ⟨w.heap.size, 3, none⟩ = some (.slice pC3 q2.cuts.length cC3) ∧ W.cell? ⟨w.heap.size, 4, none⟩ = some (.int .i64 (q2.acts : Nat)) ∧ W.cell? ⟨w.heap.size, 5, none⟩ = some (.int .i64 (q2.all : Nat)) ∧ W.cell? ⟨w.heap.size, 6, none⟩ = some (.int .i64 (q2.fails : Nat)) ∧ W.cell? ⟨w.heap.size, 7, none⟩ = some (.bool q2.dead)) (go_keep) (first
            | (go_at_call 28; (with_reducible refine (h28 _).mono ?_); rintro e v2 ⟨rfl, kv⟩; have F5 := (HF.out.kept (Kept.refl wr).drew hB).kept kv hB; have m5 := kv.block HM.out; obtain ⟨d0, d1, d2, d3, d4, d5, d6, d7⟩ := cells8 m5; obtain ⟨zz0, zz1, zz2, zz3, zz4, zz5, zz6, zz7⟩ := cells8 F5.z; obtain ⟨yy0, yy1, yy2, yy3, yy4, yy5, yy6, yy7⟩ := frozen8 F5.z; obtain ⟨hfin, og, k2⟩ := copied_to F5.z hB F5.k (.slice (some ⟨bS, oS, none⟩) q2.S.length cS3) (.slice (some ⟨bT, oT, none⟩) q2.torn.length cT3) (.slice pW3 q2.wait.length cW3) (.slice pC3 q2.cuts.length cC3) (.int .i64 (q2.acts : Nat)) (.int .i64 (q2.all : Nat)) (.int .i64 (q2.fails : Nat)) (.bool q2.dead); have HALL : Hid (_ ∧ _ ∧ _) := ⟨hfin, (HR.out.og (((Kept.refl wr).drew.trans kv).og (Nat.le_trans hB HF.out.k.size))).og og, k2⟩; clear hfin og k2 F5 m5))
          go_wp2
          obtain ⟨hfin, hr4, k2⟩ := HALL.out
          clear HALL
          rw [HSAYS.out]
          generalize ((((((((v2.setCell ⟨w.heap.size + 1, 0, none⟩ (.slice (some ⟨bS, oS, none⟩) q2.S.length cS3)).setCell ⟨w.heap.size + 1, 1, none⟩ (.slice (some ⟨bT, oT, none⟩) q2.torn.length cT3)).setCell ⟨w.heap.size + 1, 2, none⟩ (.slice pW3 q2.wait.length cW3)).setCell ⟨w.heap.size + 1, 3, none⟩ (.slice pC3 q2.cuts.length cC3)).setCell ⟨w.heap.size + 1, 4, none⟩ (.int .i64 (q2.acts : Nat))).setCell ⟨w.heap.size + 1, 5, none⟩ (.int .i64 (q2.all : Nat))).setCell ⟨w.heap.size + 1, 6, none⟩ (.int .i64 (q2.fails : Nat))).setCell ⟨w.heap.size + 1, 7, none⟩ (.bool q2.dead)) = WF at *
          refine bodyPost_ret (v := .tuple #[.agg (R.cells q2 (.slice (some ⟨bS, oS, none⟩) q2.S.length cS3) (.slice (some ⟨bT, oT, none⟩) q2.torn.length cT3) (.slice pW3 q2.wait.length cW3) (.slice pC3 q2.cuts.length cC3)), .string NZ, .int .i64 0]) ?_ rfl ⟨_, rfl, ⟨_, _, _, _, rfl, hr4⟩, k2⟩
          exact results_three (p := 4) (u := 5) (t' := 6) (ty := 33) rfl _ _ (w.heap.size + 1) 33 _ (0, 0) _ rfl hfin Try.underlying33 rfl size33
        · have HSAYS : Hid (q2.says k = (sk, 0)) := by rw [hsays]; unfold norm; rw [if_neg hz]; rfl
          have hse : sk.toList.isEmpty = false := by
            cases hl : sk.toList with
            | nil =>
              exfalso
              apply hz
              have h9 : sk.toList.length = sk.size := by rw [ByteArray.toList_eq]; rfl
              rw [hl] at h9
              exact h9.symm
            | cons a t => rfl
          clear hsays
          obtain ⟨hfin, og, k2⟩ := copied_to HF.out.z hB HF.out.k (.slice (some ⟨bS, oS, none⟩) q2.S.length cS3) (.slice (some ⟨bT, oT, none⟩) q2.torn.length cT3) (.slice pW3 q2.wait.length cW3) (.slice pC3 q2.cuts.length cC3) (.int .i64 (q2.acts : Nat)) (.int .i64 (q2.all : Nat)) (.int .i64 (q2.fails : Nat)) (.bool q2.dead)
          have HALL : Hid (_ ∧ _ ∧ _) := ⟨hfin, HR.out.og og.drew, k2.drew⟩
          clear hfin og k2
          go_wp2
          go_region_held3 (fun W => W.cell? ⟨w.heap.size, 0, none⟩ = some (.slice (some ⟨bS, oS, none⟩) q2.S.length cS3) ∧ W.cell? ⟨w.heap.size, 1, none⟩ = some (.slice (some ⟨bT, oT, none⟩) q2.torn.length cT3) ∧ W.cell? ⟨w.heap.size, 2, none⟩ = some (.slice pW3 q2.wait.length cW3) ∧ W.cell? ⟨w.heap.size, 3, none⟩ = some (.slice pC3 q2.cuts.length cC3) ∧ W.cell? ⟨w.heap.size, 4, none⟩ = some (.int .i64 (q2.acts : Nat)) ∧ W.cell? ⟨w.heap.size, 5, none⟩ = some (.int .i64 (q2.all : Nat)) ∧ W.cell? ⟨w.heap.size, 6, none⟩ = some (.int .i64 (q2.fails : Nat)) ∧ W.cell? ⟨w.heap.size, 7, none⟩ = some (.bool q2.dead) ∧ W.cell? ⟨bS, oS + k, none⟩ = some (.string sk)) (go_keep) (fail)
          go_wp2
          obtain ⟨hfin, hr4, k2⟩ := HALL.out
          clear HALL
          rw [HSAYS.out]
          generalize ((((((((wr.setCell ⟨w.heap.size + 1, 0, none⟩ (.slice (some ⟨bS, oS, none⟩) q2.S.length cS3)).setCell ⟨w.heap.size + 1, 1, none⟩ (.slice (some ⟨bT, oT, none⟩) q2.torn.length cT3)).setCell ⟨w.heap.size + 1, 2, none⟩ (.slice pW3 q2.wait.length cW3)).setCell ⟨w.heap.size + 1, 3, none⟩ (.slice pC3 q2.cuts.length cC3)).setCell ⟨w.heap.size + 1, 4, none⟩ (.int .i64 (q2.acts : Nat))).setCell ⟨w.heap.size + 1, 5, none⟩ (.int .i64 (q2.all : Nat))).setCell ⟨w.heap.size + 1, 6, none⟩ (.int .i64 (q2.fails : Nat))).setCell ⟨w.heap.size + 1, 7, none⟩ (.bool q2.dead)) = WF at *
          have hfin : WF.drew.heap[w.heap.size + 1]? = _ := hfin
          refine bodyPost_ret (v := .tuple #[.agg (R.cells q2 (.slice (some ⟨bS, oS, none⟩) q2.S.length cS3) (.slice (some ⟨bT, oT, none⟩) q2.torn.length cT3) (.slice pW3 q2.wait.length cW3) (.slice pC3 q2.cuts.length cC3)), .string sk, .int .i64 0]) ?_ rfl ⟨_, rfl, ⟨_, _, _, _, rfl, hr4⟩, k2⟩
          exact results_three (p := 4) (u := 5) (t' := 6) (ty := 33) rfl _ _ (w.heap.size + 1) 33 _ (0, 0) _ rfl hfin Try.underlying33 rfl size33
    | succ g =>
      obtain ⟨pW', cW', e3, _, _, _, hw⟩ := HR.out.W.out
      injection e3 with e3 _ e5
      subst e3 e5
      obtain ⟨bW, oW, rfl, hsW, hcW⟩ := hw (by omega)
      obtain ⟨g0, g1⟩ := wrCells_get q2.wait g (by omega)
      have x0 := hcW _ _ g0
      have x1 := hcW _ _ g1
      rw [← Nat.add_assoc] at x1
      obtain ⟨x, hx⟩ : ∃ x, q2.wait[g]'(by omega) = x := ⟨_, rfl⟩
      rw [hx] at x0 x1
      have i1 : (0 : Int) ≤ (g : Int) := by omega
      have i2 : (g : Int) < (q2.wait.length : Int) := by omega
      have nb : ¬ bW = w.heap.size + 1 := by
        intro e
        rcases hsW with h1 | ⟨cs, t, fr, h1, _, h2⟩
        · omega
        · rw [e, HF.out.z] at h1
          injection h1 with h1
          injection h1 with _ h3 _
          exact h2 h3.symm
      have nb' : ¬ w.heap.size + 1 = bW := fun e => nb e.symm
      have HLAST : Hid (lastOf (q2.wait.drop (g + 1)) k = none) := hlast
      have HX : Hid (q2.wait[g]'(by omega) = x) := hx
      clear hlast hx hcW hsW hw g0 g1
      by_cases he : x.sec = k
      · have heb : ((x.sec : Int) == (k : Int)) = true := by rw [he]; simp
        have hsays : q2.says k = (x.bytes, 0) := by
          unfold R.says
          have := lastOf_at k q2.wait g (by omega) HLAST.out (by rw [HX.out]; exact he)
          rw [this, HX.out]
        have HSAYS : Hid (q2.says k = (x.bytes, 0)) := hsays
        clear hsays
        obtain ⟨hfin, og, k2⟩ := copied_to HF.out.z hB HF.out.k (.slice pS3 q2.S.length cS3) (.slice pT3 q2.torn.length cT3) (.slice (some ⟨bW, oW, none⟩) q2.wait.length cW3) (.slice pC3 q2.cuts.length cC3) (.int .i64 (q2.acts : Nat)) (.int .i64 (q2.all : Nat)) (.int .i64 (q2.fails : Nat)) (.bool q2.dead)
        have HALL : Hid (_ ∧ _ ∧ _) := ⟨hfin, HR.out.og og.drew, k2.drew⟩
        clear hfin og k2
        go_wp2
        go_region_held3 (fun W => W.cell? ⟨w.heap.size, 0, none⟩ = some (.slice pS3 q2.S.length cS3) ∧ W.cell? ⟨w.heap.size, 1, none⟩ = some (.slice pT3 q2.torn.length cT3) ∧ W.cell? ⟨w.heap.size, 2, none⟩ = some (.slice (some ⟨bW, oW, none⟩) q2.wait.length cW3) ∧ W.cell? ⟨w.heap.size, 3, none⟩ = some (.slice pC3 q2.cuts.length cC3) ∧ W.cell? ⟨w.heap.size, 4, none⟩ = some (.int .i64 (q2.acts : Nat)) ∧ W.cell? ⟨w.heap.size, 5, none⟩ = some (.int .i64 (q2.all : Nat)) ∧ W.cell? ⟨w.heap.size, 6, none⟩ = some (.int .i64 (q2.fails : Nat)) ∧ W.cell? ⟨w.heap.size, 7, none⟩ = some (.bool q2.dead) ∧ W.cell? ⟨bW, oW + g * 2 + 1, none⟩ = some (.string x.bytes)) (go_keep) (fail)
        go_wp2
        obtain ⟨hfin, hr4, k2⟩ := HALL.out
        clear HALL
        rw [HSAYS.out]
        generalize ((((((((wr.setCell ⟨w.heap.size + 1, 0, none⟩ (.slice pS3 q2.S.length cS3)).setCell ⟨w.heap.size + 1, 1, none⟩ (.slice pT3 q2.torn.length cT3)).setCell ⟨w.heap.size + 1, 2, none⟩ (.slice (some ⟨bW, oW, none⟩) q2.wait.length cW3)).setCell ⟨w.heap.size + 1, 3, none⟩ (.slice pC3 q2.cuts.length cC3)).setCell ⟨w.heap.size + 1, 4, none⟩ (.int .i64 (q2.acts : Nat))).setCell ⟨w.heap.size + 1, 5, none⟩ (.int .i64 (q2.all : Nat))).setCell ⟨w.heap.size + 1, 6, none⟩ (.int .i64 (q2.fails : Nat))).setCell ⟨w.heap.size + 1, 7, none⟩ (.bool q2.dead)) = WF at *
        have hfin : WF.drew.heap[w.heap.size + 1]? = _ := hfin
        refine bodyPost_ret (v := .tuple #[.agg (R.cells q2 (.slice pS3 q2.S.length cS3) (.slice pT3 q2.torn.length cT3) (.slice (some ⟨bW, oW, none⟩) q2.wait.length cW3) (.slice pC3 q2.cuts.length cC3)), .string x.bytes, .int .i64 0]) ?_ rfl ⟨_, rfl, ⟨_, _, _, _, rfl, hr4⟩, k2⟩
        exact results_three (p := 4) (u := 5) (t' := 6) (ty := 33) rfl _ _ (w.heap.size + 1) 33 _ (0, 0) _ rfl hfin Try.underlying33 rfl size33
      · have heb : ((x.sec : Int) == (k : Int)) = false := by simp; omega
        go_wp2
        go_roundg g
        case measure => omega
        case rel =>
          refine ⟨by omega, by go_num, ?_, rfl⟩
          rw [List.drop_eq_getElem_cons (by omega)]
          simp only [lastOf]
          rw [HLAST.out, HX.out]
          simp [he]

/-- The reference's Read. -/
theorem rread_walk {B : Nat} {w : World} {v : Value} {q : R} (h : RVal B w v q) (hB : B ≤ w.heap.size) (ok : Rok q) (n : Int) :
    Calls Try.prog 12 #[v, .int .i64 n] w fun e w' => ∃ v', e = .returned (.tuple #[v', .string (q.read n).2.1, .int .i64 (q.read n).2.2]) ∧ RVal B w' v' (q.read n).1 ∧ Kept w w' := by
  unfold R.read
  cases hd : q.dead with
  | true => exact rread_dead h hB n hd
  | false =>
    simp only [Bool.false_eq_true, if_false]
    by_cases hn : n < 0
    · rw [if_pos (by omega)]
      exact rread_neg h hB n hd hn
    by_cases ho : n < (q.S.length : Int)
    · rw [if_neg (by omega)]
      cases ha : q.act.2 with
      | true => exact rread_fail h hB ok n hd hn ho ha
      | false =>
        obtain ⟨k, rfl⟩ : ∃ k : Nat, n = (k : Int) := ⟨n.toNat, by omega⟩
        exact rread_good h hB ok k hd (by omega) ha
    · rw [if_pos (by omega)]
      exact rread_over h hB n hd hn ho
end Go.Proofs.Ytfnfdngenohhhaa
