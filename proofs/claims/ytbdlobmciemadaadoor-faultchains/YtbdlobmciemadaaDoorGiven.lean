/- A list of places and numbers that came in, opened: its cells hold strings and numbers. No condition. -/
import Derived.Test.YtbdlobmciemadaaDoorRows
import Derived.Test.YtbdlobmciemadaaDoorWalkL
import Derived.Deep.SlicePairs
import Derived.Carry
import Derived.ProofKit
namespace Go.Proofs.YtbdlobmciemadaaDoor
open Go.ChangeShapes Go.WideShapes Go.ChangeAt Go.RowKit Go.Deep

theorem laidOut : laidOutB Tryd.prog = true := by kernel_rfl
theorem cells45 : Tryd.prog.cellsOf 45 = 2 := by kernel_rfl
theorem cells9 : Tryd.prog.cellsOf 9 = 1 := by kernel_rfl
theorem cells3 : Tryd.prog.cellsOf 3 = 1 := by kernel_rfl

def strOf : Value → ByteArray
  | .string s => s
  | _ => ⟨#[]⟩

set_option maxRecDepth 100000 in
theorem given_of {H : Type} {enc : TypeId × Value → H} {W : World} {base : Nat} {v : Value} {d : DataW H} {ps : List MemPlace} (hv : Value.okWide Tryd.prog W .any base 22 v)
    (h : DataW.Trod enc Tryd.prog W 0 (fun _ => true) true 22 v d ps) : ∃ p n cap, v = .slice p n cap ∧ Given W p n := by
  obtain ⟨p, n, cap, rfl⟩ := okWide_slice Tryd.underlying22 hv
  refine ⟨p, n, cap, rfl, ?_⟩
  obtain ⟨fuel, hf⟩ := h
  have hf' : DataW.trod enc Tryd.prog W 0 (fun _ => true) true fuel 22 [.slice p n cap] = some (d, ps) := by simpa [Value.cells] using hf
  rcases open_slice_pairs Tryd.underlying22 Tryd.underlying45 cells45 rfl rfl cells9 cells3 hf' with ⟨h0, _⟩ | ⟨a, len, cap', m, k, V0, V1, D0, D1, P0, P1, hcs, _, hl, hm, hmm, _, hall⟩
  · simp at h0
    obtain ⟨rfl, rfl, rfl⟩ := h0
    exact ⟨0, 0, fun _ => ⟨#[]⟩, fun _ => 0, by omega, fun h => absurd h (by omega), fun _ => Nat.zero_le _, fun j hj => absurd hj (by omega), fun j hj => absurd hj (by omega)⟩
  · simp at hcs
    obtain ⟨rfl, rfl, rfl⟩ := hcs
    simp only [if_true] at hmm
    subst hmm
    have hmax : m ≤ 9223372036854775807 := by unfold maxLen at hm; omega
    have key : ∀ i, i < n → W.cell? ⟨a.block, a.off + i * 2, none⟩ = some (.string (strOf (V0 i))) ∧ W.cell? ⟨a.block, a.off + i * 2 + 1, none⟩ = some (.int .i64 (intOf (V1 i))) ∧ (strOf (V0 i)).size ≤ 9223372036854775807 ∧ a = ⟨a.block, a.off, none⟩ := by
      intro i hi
      have hspot : a = ⟨a.block, a.off, none⟩ := by
        have h1 := (hall 0 (by omega)).1
        obtain ⟨b, off, spot⟩ := a
        simp only [Nat.zero_mul, Addr.add, if_true] at h1
        cases spot with
        | none => rfl
        | some q =>
          unfold World.cell? at h1
          split at h1
          · simp at h1
          · cases h1
      obtain ⟨c0, c1, t0, t1⟩ := hall i (by omega)
      obtain ⟨s, e0, _, hs⟩ := DataW.trod_string Tryd.underlying9 t0
      obtain ⟨z, e1, _, _⟩ := DataW.trod_int Tryd.underlying3 t1
      simp only [List.cons.injEq, and_true] at e0 e1
      rw [e0] at c0
      rw [e1] at c1
      rw [hspot, add_plain] at c0 c1
      rw [e0, e1]
      exact ⟨c0, by rw [Nat.add_assoc]; exact c1, by show s.size ≤ _; unfold maxLen at hs; omega, hspot⟩
    refine ⟨a.block, a.off, fun j => if j < n then strOf (V0 j) else ⟨#[]⟩, fun j => intOf (V1 j), by omega, fun h => by rw [← (key 0 h).2.2.2], ?_, ?_, ?_⟩
    · intro j
      by_cases hj : j < n
      · simp only [hj, if_true]; exact (key j hj).2.2.1
      · simp only [hj, if_false]; exact Nat.zero_le _
    · intro j hj
      simp only [hj, if_true]; exact (key j hj).1
    · intro j hj
      exact (key j hj).2.1
end Go.Proofs.YtbdlobmciemadaaDoor
