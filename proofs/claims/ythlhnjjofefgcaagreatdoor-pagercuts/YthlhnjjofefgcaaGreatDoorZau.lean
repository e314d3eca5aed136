/- Joined: DGiven. What is proved of the functions beneath PagerNone,PagerBlank,PagerCuts,PagerPlays. Conditions: those that each row names. -/
import Derived.Test.YthlhnjjofefgcaaGreatDoorZai
import Derived.Test.YthlhnjjofefgcaaGreatDoorRows
import Derived.WalkKit
import Derived.ProofKit
import Derived.OpenShut
import Derived.ShutString
import Derived.SizedLaws
import Derived.Lib.SmallJoins
import Derived.ChangeSlices
import Derived.Carry
namespace Go.Proofs.YthlhnjjofefgcaaGreatDoor.D
open Go.ChangeShapes Go.WideShapes Go.ChangeAt Go.RowKit Go.Deep

theorem laidOut : laidOutB Tryz.prog = true := by kernel_rfl
theorem cells48 : Tryz.prog.cellsOf 48 = 2 := by kernel_rfl
theorem cells3 : Tryz.prog.cellsOf 3 = 1 := by kernel_rfl
theorem bytes3 : Tryz.prog.bytesOf 3 = 8 := by kernel_rfl

theorem fates_of {H : Type} {enc : TypeId × Value → H} {W : World} {n : Nat} {v : Value} {y : DataW H × List MemPlace} (h : DataW.trod enc Tryz.prog W 0 (fun _ => true) true n 46 [v] = some y) :
    ∃ l : List Int, FatesAt W.heap.size W v l ∧ (l.length = 0 ∨ ∃ elems spare, y.1 = .slice elems spare ∧ l.length ≤ elems.length + spare.length) := by
  rcases open_ints Tryz.underlying46 Tryz.underlying3 cells3 h with ⟨h0, rfl⟩ | ⟨a, len, cap, zs, hcs, _, hl, hm, hz, rfl, hcell, _⟩
  · simp only [List.cons.injEq, and_true] at h0
    subst h0
    exact ⟨[], ⟨none, 0, rfl, fun j hj => absurd hj (by simp)⟩, .inl rfl⟩
  · simp only [List.cons.injEq, and_true] at hcs
    subst hcs
    rw [if_pos rfl] at hz
    refine ⟨zs.take len, ⟨some a, cap, ?_, fun j hj => ?_⟩, .inr ⟨_, _, rfl, ?_⟩⟩
    · rw [List.length_take]; congr 1; omega
    · have hjl : j < len ∧ j < zs.length := by rw [List.length_take] at hj; omega
      have hc := hcell j hjl.2
      have hspot : a = ⟨a.block, a.off, none⟩ := by
        have h1 := hcell 0 (by omega)
        obtain ⟨b, off, spot⟩ := a
        simp only [Addr.add, if_true] at h1
        cases spot with
        | none => rfl
        | some q =>
          unfold World.cell? at h1
          split at h1
          · simp at h1
          · cases h1
      rw [hspot, Addr.add_lit] at hc
      refine ⟨a.block, a.off, by rw [← hspot], .inl ?_, ?_⟩
      · apply Nat.lt_of_not_le
        intro hge
        unfold World.cell? at hc
        rw [Array.getElem?_eq_none hge] at hc
        cases hc
      · rw [hc]
        simp [List.getD, hjl.1]
    · simp [lits]
end Go.Proofs.YthlhnjjofefgcaaGreatDoor.D
