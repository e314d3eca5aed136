/- The walk of the reference's act without a cut. Conditions: its numbers are below 100000. -/
import Derived.Test.YtfnfdngenohhhaaWalkQ
import Derived.Deep.RegionHeld3
import Derived.Deep.DrawnRows
namespace Go.Proofs.Ytfnfdngenohhhaa
open Go.ChangeShapes Go.WideShapes Go.ChangeAt Go.RowKit

theorem results_two {P : Program} {fn : Func} {p u : Tmp} {ty : TypeId} (h : fn.results = #[.cell p ty, .tmp u]) (tmps : Array Value) (w : World) (g : Nat) (t : TypeId) (cs : Array Value) (fr : Nat × Nat) (d : TypeDesc)
    (hp : tmps.getD p undef = .pointer (some ⟨g, 0, none⟩)) (hg : w.heap[g]? = some (.cells cs t fr))
    (hu : P.underlying ty = some d) (hd : (match d with | .struct _ | .array _ _ => true | _ => false) = true) (hi : (P.info? ty).map (·.size) = some cs.size) :
    (results fn tmps).run P w = .ok (.tuple #[.agg cs, tmps.getD u undef]) w := by
  rw [results_cell_tmp h, hp]
  simp [asAddr, run_loadVar_row w g t ty cs fr d hg hu hd hi]

/-- What the walks ask of the reference's disk. -/
structure Rok (q : R) : Prop where
  torn : q.torn.length = q.S.length
  many : q.S.length ≤ 1000
  secs : ∀ x ∈ q.wait, x.sec < q.S.length
  waits : q.wait.length ≤ 1000
  acts : q.acts ≤ 100000
  all : q.all ≤ 100000
  fails : q.fails ≤ 100000

set_option maxHeartbeats 1000000 in
set_option maxRecDepth 100000 in
theorem ract_none {B : Nat} {w : World} {v : Value} {q : R} (h : RVal B w v q) (hB : B ≤ w.heap.size) (ok : Rok q) (hc : q.cuts = []) :
    Calls Try.prog 27 #[v] w fun e w' => ∃ v', e = .returned (.tuple #[v', .bool false]) ∧ RVal B w' v' q.begin ∧ Kept w w' := by
  obtain ⟨vS, vT, vW, vC, rfl, hr⟩ := h.out
  obtain ⟨pS, cS, pT, cT, pW, cW, pC, cC, rfl, rfl, rfl, rfl⟩ := hr.slices
  have h1 := ok.acts
  have h2 := ok.all
  have hk := fun o p => (((Kept.refl w).alloc o).alloc p)
  have l0 : q.cuts.length = 0 := by rw [hc]; rfl
  have HR : Hid (∀ o p, RAt B ((w.alloc o).alloc p) (.slice pS q.S.length cS) (.slice pT q.torn.length cT) (.slice pW q.wait.length cW) (.slice pC 0 cC) q) := fun o p => by have := hr.on ((hk o p).on hB); rwa [l0] at this
  have HK : Hid (∀ o p, Kept w ((w.alloc o).alloc p)) := hk
  unfold R.cells
  rw [l0]
  clear hk hr h ok hc
  go_enter Try.func27, Try.ntmps27
  go_wp2
  refine bodyPost_ret (v := .tuple #[.agg (R.cells q.begin (.slice pS q.S.length cS) (.slice pT q.torn.length cT) (.slice pW q.wait.length cW) (.slice pC 0 cC)), .bool false]) ?_ rfl ?_
  · exact results_two (p := 2) (u := 3) (ty := 33) rfl _ _ (w.heap.size + 1) 33 _ (0, 0) _ rfl (two_new _ _ _) Try.underlying33 rfl size33
  · have := HR.out (Obj.cells (R.cells q.begin (.slice pS q.S.length cS) (.slice pT q.torn.length cT) (.slice pW q.wait.length cW) (.slice pC 0 cC)) 33) (Obj.cells (R.cells q.begin (.slice pS q.S.length cS) (.slice pT q.torn.length cT) (.slice pW q.wait.length cW) (.slice pC 0 cC)) 33)
    exact ⟨_, rfl, ⟨_, _, _, _, rfl, this.S, this.T, this.W, this.C⟩, HK.out _ _⟩
end Go.Proofs.Ytfnfdngenohhhaa
