/- Numbers that came in. No condition. -/
import Derived.Test.YtanccfbbaeocaaaRows
import Derived.Test.YtanccfbbaeocaaaLB
import Derived.ProofKit
import Derived.ChangeSlices
import Derived.OpenShut
import Derived.SizedLaws
import Derived.Carry
namespace Go.Proofs.Ytanccfbbaeocaaa.Bt
open Go.RowKit

theorem cells_int : Try.prog.cellsOf 3 = 1 := by kernel_rfl
theorem no_spot {W : World} {a : Addr} {v : Value} (h : W.cell? (a.add 0) = some v) : a = ⟨a.block, a.off, none⟩ := by
  obtain ⟨b, off, spot⟩ := a
  simp only [Addr.add, if_true] at h
  cases spot with
  | none => rfl
  | some q =>
    unfold World.cell? at h
    split at h
    · simp at h
    · cases h
open Go.ChangeShapes Go.WideShapes Go.ChangeAt in
set_option maxRecDepth 100000 in
theorem ints_of {H : Type} {enc : TypeId × Value → H} {W : World} {base : Nat} {v : Value} {d : DataW H} {ps : List MemPlace} (hv : Value.okWide Try.prog W .any base 22 v)
    (h : DataW.Trod enc Try.prog W 0 (fun _ => true) true 22 v d ps) : ∃ p n cap zs, v = .slice p n cap ∧ Il W p n cap zs := by
  obtain ⟨p, n, cap, rfl⟩ := okWide_slice Try.underlying22 hv
  obtain ⟨fuel, hf⟩ := h
  have hf' : DataW.trod enc Try.prog W 0 (fun _ => true) true fuel 22 [.slice p n cap] = some (d, ps) := by simpa [Value.cells] using hf
  rcases open_ints Try.underlying22 Try.underlying3 cells_int hf' with ⟨h0, _⟩ | ⟨a, len, cap', zs, hcs, _, hl, hm, hz, _, hcell, _⟩
  · simp at h0
    obtain ⟨rfl, rfl, rfl⟩ := h0
    exact ⟨none, 0, 0, [], rfl, ⟨⟨rfl, Nat.le_refl _, Nat.zero_le _, .inl rfl⟩⟩⟩
  · simp at hcs
    obtain ⟨rfl, rfl, rfl⟩ := hcs
    simp only [if_true] at hz
    refine ⟨some a, n, cap, zs.take n, rfl, ⟨⟨by rw [ic_length, List.length_take]; omega, hl, hm, ?_⟩⟩⟩
    rcases Nat.eq_zero_or_pos n with e | e
    · exact .inl e
    · have hsp := no_spot (hcell 0 (by omega))
      refine .inr ⟨a.block, a.off, by rw [← hsp], fun j u hu => ?_⟩
      have hj : j < n := by have := (List.getElem?_eq_some_iff.1 hu).1; rw [ic_length, List.length_take] at this; omega
      have c0 := hcell j (by omega)
      rw [hsp, Addr.add_lit] at c0
      rw [c0]
      have hg : zs[j]? = some (zs.getD j 0) := by rw [List.getD_eq_getElem?_getD, List.getElem?_eq_getElem (by omega)]; rfl
      have : (ic (zs.take n))[j]? = some (.int .i64 (zs.getD j 0)) := ic_at (by rw [List.getElem?_take, if_pos hj]; exact hg)
      rw [this] at hu
      exact hu
theorem laidOut : laidOutB Try.prog = true := by kernel_rfl
end Go.Proofs.Ytanccfbbaeocaaa.Bt
