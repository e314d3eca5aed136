/- The walk of the reference's Read where nothing is read. Conditions: Rok. -/
import Derived.Test.YtfnfdngenohhhaaWalkZ
namespace Go.Proofs.Ytfnfdngenohhhaa
open Go.ChangeShapes Go.WideShapes Go.ChangeAt Go.RowKit

theorem results_three {P : Program} {fn : Func} {p u t' : Tmp} {ty : TypeId} (h : fn.results = #[.cell p ty, .tmp u, .tmp t']) (tmps : Array Value) (w : World) (g : Nat) (t : TypeId) (cs : Array Value) (fr : Nat × Nat) (d : TypeDesc)
    (hp : tmps.getD p undef = .pointer (some ⟨g, 0, none⟩)) (hg : w.heap[g]? = some (.cells cs t fr))
    (hu : P.underlying ty = some d) (hd : (match d with | .struct _ | .array _ _ => true | _ => false) = true) (hi : (P.info? ty).map (·.size) = some cs.size) :
    (results fn tmps).run P w = .ok (.tuple #[.agg cs, tmps.getD u undef, tmps.getD t' undef]) w := by
  have hp' : tmps[p]?.getD undef = .pointer (some ⟨g, 0, none⟩) := by simpa using hp
  simp [results, h, hp', asAddr, run_loadVar_row w g t ty cs fr d hg hu hd hi]

set_option maxHeartbeats 1000000 in
set_option maxRecDepth 100000 in
theorem rread_dead {B : Nat} {w : World} {v : Value} {q : R} (h : RVal B w v q) (hB : B ≤ w.heap.size) (n : Int) (hd : q.dead = true) :
    Calls Try.prog 12 #[v, .int .i64 n] w fun e w' => ∃ v', e = .returned (.tuple #[v', .string ⟨#[]⟩, .int .i64 40]) ∧ RVal B w' v' q ∧ Kept w w' := by
  obtain ⟨vS, vT, vW, vC, rfl, hr⟩ := h.out
  obtain ⟨pS, cS, pT, cT, pW, cW, pC, cC, rfl, rfl, rfl, rfl⟩ := hr.slices
  unfold R.cells
  rw [hd]
  go_enter Try.func12, Try.ntmps12
  go_wp2
  refine bodyPost_ret (v := .tuple #[.agg (R.cells q (.slice pS q.S.length cS) (.slice pT q.torn.length cT) (.slice pW q.wait.length cW) (.slice pC q.cuts.length cC)), .string ⟨#[]⟩, .int .i64 40]) ?_ rfl ?_
  · unfold R.cells
    rw [hd]
    exact results_three (p := 4) (u := 5) (t' := 6) (ty := 33) rfl _ _ (w.heap.size + 1) 33 _ (0, 0) _ rfl (two_new _ _ _) Try.underlying33 rfl size33
  · exact ⟨_, rfl, ⟨_, _, _, _, rfl, hr.on (((Kept.refl w).alloc _).alloc _ |>.on hB)⟩, ((Kept.refl w).alloc _).alloc _⟩

set_option maxHeartbeats 1000000 in
set_option maxRecDepth 100000 in
theorem rread_neg {B : Nat} {w : World} {v : Value} {q : R} (h : RVal B w v q) (hB : B ≤ w.heap.size) (n : Int) (hd : q.dead = false) (hn : n < 0) :
    Calls Try.prog 12 #[v, .int .i64 n] w fun e w' => ∃ v', e = .returned (.tuple #[v', .string ⟨#[]⟩, .int .i64 42]) ∧ RVal B w' v' q ∧ Kept w w' := by
  obtain ⟨vS, vT, vW, vC, rfl, hr⟩ := h.out
  obtain ⟨pS, cS, pT, cT, pW, cW, pC, cC, rfl, rfl, rfl, rfl⟩ := hr.slices
  unfold R.cells
  rw [hd]
  go_enter Try.func12, Try.ntmps12
  go_wp2
  refine bodyPost_ret (v := .tuple #[.agg (R.cells q (.slice pS q.S.length cS) (.slice pT q.torn.length cT) (.slice pW q.wait.length cW) (.slice pC q.cuts.length cC)), .string ⟨#[]⟩, .int .i64 42]) ?_ rfl ?_
  · unfold R.cells
    rw [hd]
    exact results_three (p := 4) (u := 5) (t' := 6) (ty := 33) rfl _ _ (w.heap.size + 1) 33 _ (0, 0) _ rfl (two_new _ _ _) Try.underlying33 rfl size33
  · exact ⟨_, rfl, ⟨_, _, _, _, rfl, hr.on (((Kept.refl w).alloc _).alloc _ |>.on hB)⟩, ((Kept.refl w).alloc _).alloc _⟩

set_option maxHeartbeats 1000000 in
set_option maxRecDepth 100000 in
theorem rread_over {B : Nat} {w : World} {v : Value} {q : R} (h : RVal B w v q) (hB : B ≤ w.heap.size) (n : Int) (hd : q.dead = false) (hn : ¬ n < 0) (ho : ¬ n < (q.S.length : Int)) :
    Calls Try.prog 12 #[v, .int .i64 n] w fun e w' => ∃ v', e = .returned (.tuple #[v', .string ⟨#[]⟩, .int .i64 42]) ∧ RVal B w' v' q ∧ Kept w w' := by
  obtain ⟨vS, vT, vW, vC, rfl, hr⟩ := h.out
  obtain ⟨pS, cS, pT, cT, pW, cW, pC, cC, rfl, rfl, rfl, rfl⟩ := hr.slices
  unfold R.cells
  rw [hd]
  have hb : decide ((q.S.length : Int) ≤ n) = true := by simp; omega
  go_enter Try.func12, Try.ntmps12
  go_wp2
  refine bodyPost_ret (v := .tuple #[.agg (R.cells q (.slice pS q.S.length cS) (.slice pT q.torn.length cT) (.slice pW q.wait.length cW) (.slice pC q.cuts.length cC)), .string ⟨#[]⟩, .int .i64 42]) ?_ rfl ?_
  · unfold R.cells
    rw [hd]
    exact results_three (p := 4) (u := 5) (t' := 6) (ty := 33) rfl _ _ (w.heap.size + 1) 33 _ (0, 0) _ rfl (two_new _ _ _) Try.underlying33 rfl size33
  · exact ⟨_, rfl, ⟨_, _, _, _, rfl, hr.on (((Kept.refl w).alloc _).alloc _ |>.on hB)⟩, ((Kept.refl w).alloc _).alloc _⟩

set_option maxHeartbeats 2000000 in
set_option maxRecDepth 100000 in
theorem rread_fail {B : Nat} {w : World} {v : Value} {q : R} (h : RVal B w v q) (hB : B ≤ w.heap.size) (ok : Rok q) (n : Int) (hd : q.dead = false) (hn : ¬ n < 0) (ho : n < (q.S.length : Int)) (ha : q.act.2 = true) :
    Calls Try.prog 12 #[v, .int .i64 n] w fun e w' => ∃ v', e = .returned (.tuple #[v', .string ⟨#[]⟩, .int .i64 40]) ∧ RVal B w' v' q.act.1 ∧ Kept w w' := by
  obtain ⟨vS, vT, vW, vC, rfl, hr⟩ := h.out
  obtain ⟨pS, cS, pT, cT, pW, cW, pC, cC, rfl, rfl, rfl, rfl⟩ := hr.slices
  have F0 := FM.start hr hB
  have hact := ract_walk (v := .agg (q.cells (.slice pS q.S.length cS) (.slice pT q.torn.length cT) (.slice pW q.wait.length cW) (.slice pC q.cuts.length cC))) ⟨_, _, _, _, rfl, hr.og (F0.k.og hB)⟩ (Nat.le_trans hB F0.k.size) ok
  obtain ⟨q2, hq2⟩ : ∃ q2, q.act.1 = q2 := ⟨_, rfl⟩
  rw [hq2] at hact
  rw [ha] at hact
  rw [hq2]
  have hb : decide ((q.S.length : Int) ≤ n) = false := by simp; omega
  unfold R.cells at hact F0 ⊢
  rw [hd] at hact F0 ⊢
  clear hr h ok ha hq2
  go_enter Try.func12, Try.ntmps12
  go_wp2_with (go_at_call 27; (with_reducible refine hact.mono ?_); rintro e v1 ⟨v', rfl, hv', kv⟩; obtain ⟨a1, b1, c1', d1, rfl, hr2⟩ := hv'.out; obtain ⟨pS2, cS2, pT2, cT2, pW2, cW2, pC2, cC2, rfl, rfl, rfl, rfl⟩ := hr2.slices; unfold R.cells; have F1 := F0.kept kv hB; obtain ⟨_, _, _, _, _, _, _, _, m1, _⟩ := F1.facts; obtain ⟨e0, e1, e2, e3, e4, e5, e6, e7⟩ := cells8 m1; obtain ⟨f0, f1, f2, f3, f4, f5, f6, f7⟩ := frozen8 m1; obtain ⟨z0, z1, z2, z3, z4, z5, z6, z7⟩ := cells8 F1.z; obtain ⟨y0, y1, y2, y3, y4, y5, y6, y7⟩ := frozen8 F1.z; have HB : Hid (_ ∧ _ ∧ _ ∧ _) := ⟨(both m1 F1.z hB F1.k (.slice pS2 q2.S.length cS2) (.slice pT2 q2.torn.length cT2) (.slice pW2 q2.wait.length cW2) (.slice pC2 q2.cuts.length cC2) (.int .i64 (q2.acts : Nat)) (.int .i64 (q2.all : Nat)) (.int .i64 (q2.fails : Nat)) (.bool q2.dead)).1, (both m1 F1.z hB F1.k (.slice pS2 q2.S.length cS2) (.slice pT2 q2.torn.length cT2) (.slice pW2 q2.wait.length cW2) (.slice pC2 q2.cuts.length cC2) (.int .i64 (q2.acts : Nat)) (.int .i64 (q2.all : Nat)) (.int .i64 (q2.fails : Nat)) (.bool q2.dead)).2.1, (both m1 F1.z hB F1.k (.slice pS2 q2.S.length cS2) (.slice pT2 q2.torn.length cT2) (.slice pW2 q2.wait.length cW2) (.slice pC2 q2.cuts.length cC2) (.int .i64 (q2.acts : Nat)) (.int .i64 (q2.all : Nat)) (.int .i64 (q2.fails : Nat)) (.bool q2.dead)).2.2, hr2⟩; clear F1 m1 hr2)
  obtain ⟨hfin, og, k2, hr2⟩ := HB.out
  clear HB
  have hr3 := hr2.og og
  generalize ((((((((((((((((v1.setCell ⟨w.heap.size, 0, none⟩ (.slice pS2 q2.S.length cS2)).setCell ⟨w.heap.size, 1, none⟩ (.slice pT2 q2.torn.length cT2)).setCell ⟨w.heap.size, 2, none⟩ (.slice pW2 q2.wait.length cW2)).setCell ⟨w.heap.size, 3, none⟩ (.slice pC2 q2.cuts.length cC2)).setCell ⟨w.heap.size, 4, none⟩ (.int .i64 (q2.acts : Nat))).setCell ⟨w.heap.size, 5, none⟩ (.int .i64 (q2.all : Nat))).setCell ⟨w.heap.size, 6, none⟩ (.int .i64 (q2.fails : Nat))).setCell ⟨w.heap.size, 7, none⟩ (.bool q2.dead)).setCell ⟨w.heap.size + 1, 0, none⟩ (.slice pS2 q2.S.length cS2)).setCell ⟨w.heap.size + 1, 1, none⟩ (.slice pT2 q2.torn.length cT2)).setCell ⟨w.heap.size + 1, 2, none⟩ (.slice pW2 q2.wait.length cW2)).setCell ⟨w.heap.size + 1, 3, none⟩ (.slice pC2 q2.cuts.length cC2)).setCell ⟨w.heap.size + 1, 4, none⟩ (.int .i64 (q2.acts : Nat))).setCell ⟨w.heap.size + 1, 5, none⟩ (.int .i64 (q2.all : Nat))).setCell ⟨w.heap.size + 1, 6, none⟩ (.int .i64 (q2.fails : Nat))).setCell ⟨w.heap.size + 1, 7, none⟩ (.bool q2.dead)) = WF at *
  refine bodyPost_ret (v := .tuple #[.agg (R.cells q2 (.slice pS2 q2.S.length cS2) (.slice pT2 q2.torn.length cT2) (.slice pW2 q2.wait.length cW2) (.slice pC2 q2.cuts.length cC2)), .string ⟨#[]⟩, .int .i64 40]) ?_ rfl ⟨_, rfl, ⟨_, _, _, _, rfl, hr3⟩, k2⟩
  exact results_three (p := 4) (u := 5) (t' := 6) (ty := 33) rfl _ _ (w.heap.size + 1) 33 _ (0, 0) _ rfl hfin Try.underlying33 rfl size33
end Go.Proofs.Ytfnfdngenohhhaa
