/- A list of acts that came in, opened: its cells hold numbers. No condition. -/
import Derived.Test.YticfelpghchnpaaDoorRows
import Derived.Test.YticfelpghchnpaaDoorWalkG
import Derived.Deep.SlicePairs
import Derived.Carry
import Derived.ProofKit
import Derived.OpenShut
namespace Go.Proofs.YticfelpghchnpaaDoor
open Go.ChangeShapes Go.WideShapes Go.ChangeAt Go.RowKit Go.Deep

theorem laidOut : laidOutB Tryd.prog = true := by kernel_rfl
theorem cells29 : Tryd.prog.cellsOf 29 = 2 := by kernel_rfl
theorem cells3 : Tryd.prog.cellsOf 3 = 1 := by kernel_rfl
theorem add_plain (b o k : Nat) : (⟨b, o, none⟩ : Addr).add k = ⟨b, o + k, none⟩ := by simp [Addr.add]

set_option maxRecDepth 100000 in
theorem given_of {H : Type} {enc : TypeId × Value → H} {W : World} {base : Nat} {v : Value} {d : DataW H} {ps : List MemPlace} (hv : Value.okWide Tryd.prog W .any base 22 v)
    (h : DataW.Trod enc Tryd.prog W 0 (fun _ => true) true 22 v d ps) : ∃ p n cap, v = .slice p n cap ∧ Nonempty (Given W p n) := by
  obtain ⟨p, n, cap, rfl⟩ := okWide_slice Tryd.underlying22 hv
  refine ⟨p, n, cap, rfl, ?_⟩
  obtain ⟨fuel, hf⟩ := h
  have hf' : DataW.trod enc Tryd.prog W 0 (fun _ => true) true fuel 22 [.slice p n cap] = some (d, ps) := by simpa [Value.cells] using hf
  rcases open_slice_pairs Tryd.underlying22 Tryd.underlying29 cells29 rfl rfl cells3 cells3 hf' with ⟨h0, _⟩ | ⟨a, len, cap', m, k, V0, V1, D0, D1, P0, P1, hcs, _, hl, hm, hmm, _, hall⟩
  · simp at h0
    obtain ⟨rfl, rfl, rfl⟩ := h0
    exact ⟨0, 0, fun _ => 0, fun _ => 0, by omega, fun h => absurd h (by omega), fun j hj => absurd hj (by omega), fun j hj => absurd hj (by omega), fun j hj => absurd hj (by omega)⟩
  · simp at hcs
    obtain ⟨rfl, rfl, rfl⟩ := hcs
    simp only [if_true] at hmm
    subst hmm
    have hmax : m ≤ 9223372036854775807 := by unfold maxLen at hm; omega
    have key : ∀ i, i < n → W.cell? ⟨a.block, a.off + i * 2, none⟩ = some (.int .i64 (intOf (V0 i))) ∧ W.cell? ⟨a.block, a.off + i * 2 + 1, none⟩ = some (.int .i64 (intOf (V1 i))) ∧ intOf (V1 i) < 9223372036854775808 ∧ a = ⟨a.block, a.off, none⟩ := by
      intro i hi
      have hspot : a = ⟨a.block, a.off, none⟩ := by
        have h1 := (hall 0 (by omega)).1
        obtain ⟨b, off, spot⟩ := a
        simp only [Nat.zero_mul, Addr.add, if_true] at h1
        cases spot with
        | none => rfl
        | some q =>
          unfold World.cell? at h1
          split at h1
          · simp at h1
          · cases h1
      obtain ⟨c0, c1, t0, t1⟩ := hall i (by omega)
      obtain ⟨s, e0, _, _⟩ := DataW.trod_int Tryd.underlying3 t0
      obtain ⟨z, e1, _, hz⟩ := DataW.trod_int Tryd.underlying3 t1
      simp only [List.cons.injEq, and_true] at e0 e1
      rw [e0] at c0
      rw [e1] at c1
      rw [hspot, add_plain] at c0 c1
      rw [e0, e1]
      exact ⟨c0, by rw [Nat.add_assoc]; exact c1, by have := bounds_i64 hz; show z < _; omega, hspot⟩
    exact ⟨a.block, a.off, fun j => intOf (V0 j), fun j => intOf (V1 j), by omega, fun h => by rw [← (key 0 h).2.2.2], fun j hj => (key j hj).1, fun j hj => (key j hj).2.1, fun j hj => (key j hj).2.2.1⟩
end Go.Proofs.YticfelpghchnpaaDoor
