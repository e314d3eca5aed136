/- The walk of the reference's act, with a cut or without one. Conditions: Rok (sectors that there are, numbers below 100000). -/
import Derived.Test.YtfnfdngenohhhaaWalkT
namespace Go.Proofs.Ytfnfdngenohhhaa
open Go.ChangeShapes Go.WideShapes Go.ChangeAt Go.RowKit

set_option maxHeartbeats 1000000 in
set_option maxRecDepth 100000 in
theorem ract_later {B : Nat} {w : World} {v : Value} {q : R} (h : RVal B w v q) (hB : B ≤ w.heap.size) (ok : Rok q) (c : Ct) (r : List Ct) (hc : q.cuts = c :: r) (hlt : (q.acts : Int) < c.at_) :
    Calls Try.prog 27 #[v] w fun e w' => ∃ v', e = .returned (.tuple #[v', .bool false]) ∧ RVal B w' v' q.begin ∧ Kept w w' := by
  obtain ⟨vS, vT, vW, vC, rfl, hr⟩ := h.out
  obtain ⟨pS, cS, e1, _⟩ := hr.S.out
  obtain ⟨pT, cT, e2, _⟩ := hr.T.out
  obtain ⟨pW, cW, e3, _⟩ := hr.W.out
  obtain ⟨pC, cC, e4, _, _, hcu⟩ := hr.C.out
  subst e1 e2 e3 e4
  obtain ⟨bC, oC, vf, rfl, hsC, x0, x1, hf⟩ := hcu 0 (by rw [hc]; simp)
  have h1 := ok.acts
  have h2 := ok.all
  have hk := fun o p => (((Kept.refl w).alloc o).alloc p)
  have l0 : q.cuts.length = r.length + 1 := by rw [hc]; rfl
  have HR : Hid (∀ o p, RAt B ((w.alloc o).alloc p) (.slice pS q.S.length cS) (.slice pT q.torn.length cT) (.slice pW q.wait.length cW) (.slice (some ⟨bC, oC, none⟩) (r.length + 1) cC) q) := fun o p => by have := hr.on ((hk o p).on hB); rwa [l0] at this
  have HK : Hid (∀ o p, Kept w ((w.alloc o).alloc p)) := hk
  have hx0 : w.cell? ⟨bC, oC, none⟩ = some (.int .i64 c.at_) := by
    rw [Nat.zero_mul, Nat.add_zero] at x0
    rw [x0]; simp [hc]
  have hxA : ∀ o p, ((w.alloc o).alloc p).cell? ⟨bC, oC, none⟩ = some (.int .i64 c.at_) := fun o p => Lib.cell?_alloc_some _ (Lib.cell?_alloc_some _ hx0)
  unfold R.cells
  rw [l0]
  clear hk hr h ok hc hcu x0 x1 hf hsC
  go_enter Try.func27, Try.ntmps27
  go_wp2
  refine bodyPost_ret (v := .tuple #[.agg (R.cells q.begin (.slice pS q.S.length cS) (.slice pT q.torn.length cT) (.slice pW q.wait.length cW) (.slice (some ⟨bC, oC, none⟩) (r.length + 1) cC)), .bool false]) ?_ rfl ?_
  · exact results_two (p := 2) (u := 3) (ty := 33) rfl _ _ (w.heap.size + 1) 33 _ (0, 0) _ rfl (two_new _ _ _) Try.underlying33 rfl size33
  · have := HR.out (Obj.cells (R.cells q.begin (.slice pS q.S.length cS) (.slice pT q.torn.length cT) (.slice pW q.wait.length cW) (.slice (some ⟨bC, oC, none⟩) (r.length + 1) cC)) 33) (Obj.cells (R.cells q.begin (.slice pS q.S.length cS) (.slice pT q.torn.length cT) (.slice pW q.wait.length cW) (.slice (some ⟨bC, oC, none⟩) (r.length + 1) cC)) 33)
    exact ⟨_, rfl, ⟨_, _, _, _, rfl, this.S, this.T, this.W, this.C⟩, HK.out _ _⟩
end Go.Proofs.Ytfnfdngenohhhaa
