/- What is proved: keywaylaw17.PhaseTexts returns true for every record: its bytes are the document's, and are read again; one that may not be has none; the argument reads as it did. Conditions: none. -/
import Derived.Test.YtpefmoddglpbfaaFF
import Derived.Test.YtpefmoddglpbfaaFJ
import Derived.OpenShut
namespace Go.Proofs.Ytpefmoddglpbfaa.phaseTexts
open Go.ChangeShapes Go.WideShapes Go.ChangeAt Go.RowKit Go.Deep
open Go.ChangeMaps (open_string shut_string)
set_option linter.unusedVariables false

theorem own : ownKnob Try.prog.godebug = none := by kernel_rfl

set_option maxRecDepth 100000 in
theorem lifted (os : Os) (started : os.Started) (H : Type) (enc : TypeId × Value → H) :
    ReturnsInHanded {} Try.checked os 3 .any (Rows.phaseTextsSpec.pre6 enc Try.prog Try.f3 Rows.phaseTextsRow.domain false) (Rows.phaseTextsSpec.post enc Try.prog Try.f3 false true false false) := by
  refine returnsInHanded_of_change_sized (C := Try.checked) own started (by kernel_rfl) Try.func3
    (ChangeSpec.witness6 (enc := enc) (C := Try.checked) false ⟨#[], #[.agg #[.int .i64 0, .int .u64 0, .int .u64 0]], []⟩ 8 (by kernel_rfl) (by kernel_rfl) (by kernel_rfl) (by kernel_rfl)) ?_
  intro W base args ds gs before hval0 hW hcnd hsz _
  have hval : ∀ (j : Nat) t v, Try.f3.params[j]? = some t → args[j]? = some v → Value.okWide Try.prog W .any base t v := hval0
  have hW' := hW
  obtain ⟨p, q, hA0, hV, rfl, hfz, hnd⟩ := hW
  have hA : DataW.TrodAll enc Try.prog W 0 (fun _ => true) true Try.f3.params.toList args.toList ds p := hA0
  rw [Try.params3] at hA hval
  obtain ⟨v0, vs0, d0, ds0, p0, q0, hargs, rfl, rfl, h0, r0⟩ := trodAll_cons hA
  obtain ⟨rfl, rfl, rfl⟩ := trodAll_nil r0
  obtain rfl : args = #[v0] := by cases args; simp_all
  obtain ⟨rfl, rfl⟩ := trodVars_none hV
  have h0k := h0
  obtain ⟨u0, u1, u2, y0, y1, y2, n, rfl, rfl, rfl, t0, t1, t2⟩ := Go.Joins.open_agg3 Try.underlying24 (by kernel_rfl) Ph.cells24 (hval 0 24 v0 rfl rfl) h0
  obtain ⟨g0, e0, rfl, _⟩ := DataW.trod_int Try.underlying3 t0
  obtain ⟨g1, e1, rfl, wf1⟩ := DataW.trod_int Try.underlying22 t1
  obtain ⟨g2, e2, rfl, wf2⟩ := DataW.trod_int Try.underlying22 t2
  simp only [List.cons.injEq, and_true] at e0 e1 e2
  subst e0 e1 e2
  obtain ⟨k1, rfl, _⟩ := Ph.u64_nat wf1
  obtain ⟨k2, rfl, _⟩ := Ph.u64_nat wf2
  clear hA0 hval0
  simp only [List.append_nil] at hW'
  refine (Ph.texts_law g0 k1 k2 W).mono fun e W' ⟨he, hg⟩ => ?_
  subst he
  exact ⟨_, rfl, _, _, _, [], _, [], hW', trodAll_mk1 (shut_bool Try.underlying4 _), (trodAll_cons_mk (Below.trod Ph.laidOut (by kernel_rfl) (of_decide_eq_true (by kernel_rfl)) h0k hg.out (fun z hz => by cases hz)) trodAll_mk0), rfl,
    World.keptBut_mono (fun _ f => f.elim) (hg.out.frame (fun _ => False)), fun h => by cases h⟩

theorem over : Rows.phaseTextsRow.holds Try.pinned (OpenSpec.ofChange Rows.phaseTextsSpec) :=
  OpenClaim.holds_of_wide 3 Try.f3 rfl rfl rfl rfl rfl rfl rfl ⟨rfl, rfl, rfl, rfl, rfl⟩ rfl rfl rfl rfl rfl (by kernel_rfl) Try.func3 (by kernel_rfl)
    (of_decide_eq_true (by kernel_rfl)) (by unfold Func.isWrapper; first | (rw [if_pos (by decide +kernel)]; kernel_rfl) | (rw [if_neg (by decide +kernel)]; exact ⟨rfl, rfl⟩))
    (fun os started H enc _ => lifted os started H enc)

theorem proved : Rows.PhaseTextsSaid :=
  over
end Go.Proofs.Ytpefmoddglpbfaa.phaseTexts

namespace Go.Proofs.Ytpefmoddglpbfaa
theorem phaseTexts_holds : Rows.PhaseTextsSaid := phaseTexts.proved
#print axioms phaseTexts_holds
end Go.Proofs.Ytpefmoddglpbfaa
