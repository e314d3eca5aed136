/- The law that of two sectors the later state is told, of those that there are, is true at every input; the arguments read as they did. Conditions: none. -/
import Derived.Test.YtgpjnmimicoeoaaWalkW
import Derived.Test.YtgpjnmimicoeoaaGiven
namespace Go.Proofs.Ytgpjnmimicoeoaa.superChooses
open Go.ChangeShapes Go.WideShapes Go.ChangeAt Go.RowKit Go.Deep
open Go.ChangeMaps (open_string shut_string)
set_option linter.unusedVariables false

theorem own : ownKnob Try.prog.godebug = none := by kernel_rfl

set_option maxRecDepth 100000 in
theorem lifted (os : Os) (started : os.Started) (H : Type) (enc : TypeId × Value → H) :
    ReturnsInHanded {} Try.checked os 5 .any (Rows.superChoosesSpec.pre6 enc Try.prog Try.f5 Rows.superChoosesRow.domain false) (Rows.superChoosesSpec.post enc Try.prog Try.f5 false true false false) := by
  refine returnsInHanded_of_change (C := Try.checked) own started (by kernel_rfl) Try.func5
    (ChangeSpec.witness6 (enc := enc) (C := Try.checked) false ⟨#[], #[.agg #[.int .u64 0, .int .i64 0], .agg #[.int .u64 0, .int .i64 0], .int .i64 0], []⟩ 8 (by kernel_rfl) (by kernel_rfl) (by kernel_rfl) (by kernel_rfl)) ?_
  intro W base args ds gs before hval0 hW hcnd _
  have hval : ∀ (j : Nat) t v, Try.f5.params[j]? = some t → args[j]? = some v → Value.okWide Try.prog W .any base t v := hval0
  have hW' := hW
  obtain ⟨p, q, hA0, hV, rfl, hfz, hnd⟩ := hW
  have hA : DataW.TrodAll enc Try.prog W 0 (fun _ => true) true Try.f5.params.toList args.toList ds p := hA0
  rw [Try.params5] at hA hval
  obtain ⟨v0, vs0, d0, ds0, p0, q0, hargs, rfl, rfl, h0, r0⟩ := trodAll_cons hA
  obtain ⟨v1, vs1, d1, ds1, p1, q1, rfl, rfl, rfl, h1, r1⟩ := trodAll_cons r0
  obtain ⟨v2, vs2, d2, ds2, p2, q2, rfl, rfl, rfl, h2, r2⟩ := trodAll_cons r1
  obtain ⟨rfl, rfl, rfl⟩ := trodAll_nil r2
  obtain rfl : args = #[v0, v1, v2] := by cases args; simp_all
  obtain ⟨rfl, rfl⟩ := trodVars_none hV
  obtain ⟨a2, rfl, rfl, rfl, w2⟩ := open_int Try.underlying3 (hval 2 3 v2 rfl rfl) h2
  have h0k := h0
  have h1k := h1
  obtain ⟨u0, u1, y0, y1, n, rfl, rfl, rfl, t0, t1⟩ := Go.Joins.open_agg2 Try.underlying24 (by kernel_rfl) cells24 (hval 0 24 v0 rfl rfl) h0
  obtain ⟨s0, s1, z0, z1, n2, rfl, rfl, rfl, x0, x1⟩ := Go.Joins.open_agg2 Try.underlying24 (by kernel_rfl) cells24 (hval 1 24 v1 rfl rfl) h1
  obtain ⟨g0, e0, rfl, w22⟩ := DataW.trod_int Try.underlying22 t0
  obtain ⟨ra, e1, rfl, _⟩ := DataW.trod_int Try.underlying3 t1
  obtain ⟨g1, e2, rfl, w23⟩ := DataW.trod_int Try.underlying22 x0
  obtain ⟨rb, e3, rfl, _⟩ := DataW.trod_int Try.underlying3 x1
  simp only [List.cons.injEq, and_true] at e0 e1 e2 e3
  subst e0 e1 e2 e3
  obtain ⟨ga, rfl, hga⟩ := u64_nat w22
  obtain ⟨gb, rfl, hgb⟩ := u64_nat w23
  clear hA0 hval0
  simp only [List.append_nil] at hW'
  refine (chooses_walk ga gb hga hgb ra rb a2 W).mono fun e W' ⟨he, hk⟩ => ?_
  subst he
  exact ⟨_, rfl, _, _, _, [], _, [], hW', trodAll_mk1 (shut_bool Try.underlying4 _), (trodAll_cons_mk (Below.trod laidOut (by kernel_rfl) (of_decide_eq_true (by kernel_rfl)) h0k hk.out (fun z hz => by cases hz)) (trodAll_cons_mk (Below.trod laidOut (by kernel_rfl) (of_decide_eq_true (by kernel_rfl)) h1k hk.out (fun z hz => by cases hz)) (trodAll_cons_mk (shut_int Try.underlying3 w2) trodAll_mk0))), rfl,
    World.keptBut_mono (fun _ f => f.elim) (hk.out.frame (fun _ => False)), fun h => by cases h⟩

theorem over : Rows.superChoosesRow.holds Try.pinned (OpenSpec.ofChange Rows.superChoosesSpec) :=
  OpenClaim.holds_of_wide 5 Try.f5 rfl rfl rfl rfl rfl rfl rfl ⟨rfl, rfl, rfl, rfl, rfl⟩ rfl rfl rfl rfl rfl (by kernel_rfl) Try.func5 (by kernel_rfl)
    (of_decide_eq_true (by kernel_rfl)) (by unfold Func.isWrapper; first | (rw [if_pos (by decide +kernel)]; kernel_rfl) | (rw [if_neg (by decide +kernel)]; exact ⟨rfl, rfl⟩))
    (fun os started H enc _ => lifted os started H enc)

theorem proved : Rows.SuperChoosesSaid :=
  over
end Go.Proofs.Ytgpjnmimicoeoaa.superChooses

namespace Go.Proofs.Ytgpjnmimicoeoaa
theorem superChooses_holds : Rows.SuperChoosesSaid := superChooses.proved
#print axioms superChooses_holds
end Go.Proofs.Ytgpjnmimicoeoaa
