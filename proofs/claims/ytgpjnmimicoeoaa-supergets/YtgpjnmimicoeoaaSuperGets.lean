/- The law that whatever a page says is the document's state, or none, is true at every input; the arguments read as they did. Conditions: none. -/
import Derived.Test.YtgpjnmimicoeoaaWalkU
import Derived.Test.YtgpjnmimicoeoaaGiven
namespace Go.Proofs.Ytgpjnmimicoeoaa.superGets
open Go.ChangeShapes Go.WideShapes Go.ChangeAt Go.RowKit Go.Deep
open Go.ChangeMaps (open_string shut_string)
set_option linter.unusedVariables false

theorem own : ownKnob Try.prog.godebug = none := by kernel_rfl

set_option maxRecDepth 100000 in
theorem lifted (os : Os) (started : os.Started) (H : Type) (enc : TypeId × Value → H) :
    ReturnsInHanded {} Try.checked os 4 .any (Rows.superGetsSpec.pre6 enc Try.prog Try.f4 Rows.superGetsRow.domain false) (Rows.superGetsSpec.post enc Try.prog Try.f4 false true false false) := by
  refine returnsInHanded_of_change (C := Try.checked) own started (by kernel_rfl) Try.func4
    (ChangeSpec.witness6 (enc := enc) (C := Try.checked) false ⟨#[], #[.agg #[.int .i64 0, .int .i64 0, .int .u64 0, .string ByteArray.empty], .int .i64 0], []⟩ 8 (by kernel_rfl) (by kernel_rfl) (by kernel_rfl) (by kernel_rfl)) ?_
  intro W base args ds gs before hval0 hW hcnd _
  have hval : ∀ (j : Nat) t v, Try.f4.params[j]? = some t → args[j]? = some v → Value.okWide Try.prog W .any base t v := hval0
  have hW' := hW
  obtain ⟨p, q, hA0, hV, rfl, hfz, hnd⟩ := hW
  have hA : DataW.TrodAll enc Try.prog W 0 (fun _ => true) true Try.f4.params.toList args.toList ds p := hA0
  rw [Try.params4] at hA hval
  obtain ⟨v0, vs0, d0, ds0, p0, q0, hargs, rfl, rfl, h0, r0⟩ := trodAll_cons hA
  obtain ⟨v1, vs1, d1, ds1, p1, q1, rfl, rfl, rfl, h1, r1⟩ := trodAll_cons r0
  obtain ⟨rfl, rfl, rfl⟩ := trodAll_nil r1
  obtain rfl : args = #[v0, v1] := by cases args; simp_all
  obtain ⟨rfl, rfl⟩ := trodVars_none hV
  obtain ⟨a1, rfl, rfl, rfl, w1⟩ := open_int Try.underlying3 (hval 1 3 v1 rfl rfl) h1
  have h0k := h0
  obtain ⟨u0, u1, u2, u3, y0, y1, y2, y3, n, rfl, rfl, rfl, t0, t1, t2, t3⟩ := Go.Joins.open_agg4 Try.underlying32 (by kernel_rfl) cells32 (hval 0 32 v0 rfl rfl) h0
  obtain ⟨kd, e0, rfl, _⟩ := DataW.trod_int Try.underlying3 t0
  obtain ⟨nm, e1, rfl, _⟩ := DataW.trod_int Try.underlying3 t1
  obtain ⟨g0, e2, rfl, w22⟩ := DataW.trod_int Try.underlying22 t2
  obtain ⟨s, e3, rfl, hs⟩ := DataW.trod_string Try.underlying9 t3
  simp only [List.cons.injEq, and_true] at e0 e1 e2 e3
  subst e0 e1 e2 e3
  obtain ⟨g, rfl, hg⟩ := u64_nat w22
  clear hA0 hval0
  simp only [List.append_nil] at hW'
  refine (gets_walk kd nm g hg s a1 W).mono fun e W' ⟨he, hk⟩ => ?_
  subst he
  exact ⟨_, rfl, _, _, _, [], _, [], hW', trodAll_mk1 (shut_bool Try.underlying4 _), (trodAll_cons_mk (Below.trod laidOut (by kernel_rfl) (of_decide_eq_true (by kernel_rfl)) h0k hk.out (fun z hz => by cases hz)) (trodAll_cons_mk (shut_int Try.underlying3 w1) trodAll_mk0)), rfl,
    World.keptBut_mono (fun _ f => f.elim) (hk.out.frame (fun _ => False)), fun h => by cases h⟩

theorem over : Rows.superGetsRow.holds Try.pinned (OpenSpec.ofChange Rows.superGetsSpec) :=
  OpenClaim.holds_of_wide 4 Try.f4 rfl rfl rfl rfl rfl rfl rfl ⟨rfl, rfl, rfl, rfl, rfl⟩ rfl rfl rfl rfl rfl (by kernel_rfl) Try.func4 (by kernel_rfl)
    (of_decide_eq_true (by kernel_rfl)) (by unfold Func.isWrapper; first | (rw [if_pos (by decide +kernel)]; kernel_rfl) | (rw [if_neg (by decide +kernel)]; exact ⟨rfl, rfl⟩))
    (fun os started H enc _ => lifted os started H enc)

theorem proved : Rows.SuperGetsSaid :=
  over
end Go.Proofs.Ytgpjnmimicoeoaa.superGets

namespace Go.Proofs.Ytgpjnmimicoeoaa
theorem superGets_holds : Rows.SuperGetsSaid := superGets.proved
#print axioms superGets_holds
end Go.Proofs.Ytgpjnmimicoeoaa
