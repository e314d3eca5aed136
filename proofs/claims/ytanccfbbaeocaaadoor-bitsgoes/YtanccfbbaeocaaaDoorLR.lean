/- What the statements' list of laid variables gives the walks: the library's table for trailing zeros; that the world which the program's own laying leaves meets that list; numbers that came in. No condition. -/
import Derived.Test.YtanccfbbaeocaaaDoorRows
import Derived.Test.YtanccfbbaeocaaaDoorLJ
import Derived.LaidLaws
import Derived.LaidHandle
import Derived.LaidMore
import Derived.Lib.LaidTab
import Derived.Stop.Joined
import Derived.Stop.LaidErr
import Derived.ProofKit
import Derived.ChangeSlices
import Derived.OpenShut
namespace Go.Proofs.YtanccfbbaeocaaaDoor.Bt
open Go.RowKit

/-- The statements' list. -/
abbrev lst : List (String × DataW Unit) := [("math/bits.deBruijn64tab", Rows.laid_math_bits_deBruijn64tab)]

theorem ownKnobs : ownKnob Tryd.prog.godebug = none := by kernel_rfl
theorem tabGlobal : Tryd.prog.globalNamed "math/bits.deBruijn64tab" = some 0 := by kernel_rfl
theorem tabType : (Tryd.prog.globals[0]?).map (·.type) = some 65 := by kernel_rfl
theorem cells5 : Tryd.prog.cellsOf 5 = 1 := by kernel_rfl
theorem cells42 : Tryd.prog.cellsOf 65 = 64 := by kernel_rfl
theorem tabData_eq : (Rows.laid_math_bits_deBruijn64tab : DataW Unit) = Lib.tabData .u8 (Lib.deBruijn64tab.map fun (x : Nat) => (x : Int)) := by kernel_rfl

theorem lds_of {W : World} (h : laidMetH Tryd.prog lst W) : Lds W := by
  have h' : laidMet Tryd.prog [("math/bits.deBruijn64tab", Rows.laid_math_bits_deBruijn64tab)] W := h
  rw [tabData_eq] at h'
  have h2 := Lib.tabIs_of_head tabGlobal tabType Tryd.underlying65 Tryd.underlying5 cells5 cells42 h'
  refine ⟨fun j hj => ?_⟩
  have := World.var?_cell tabGlobal h2 j
  rw [this]
  simp only [List.map_map, List.getElem?_toArray, List.getElem?_map, List.getElem?_eq_getElem hj, Option.map_some, Function.comp_def, List.getD_eq_getElem?_getD, Option.getD_some]

theorem door_met (os : Os) (args : Array Value) : laidMetH Tryd.prog lst ((World.doorLaid Tryd.prog 400 os).forCall (fun _ _ => 0) ⟨#[], args, []⟩).memory :=
  show laidMet Tryd.prog lst _ from laidMet_of_run' 8 (by kernel_rfl) (by kernel_rfl)
theorem cells_int : Tryd.prog.cellsOf 3 = 1 := by kernel_rfl
theorem no_spot {W : World} {a : Addr} {v : Value} (h : W.cell? (a.add 0) = some v) : a = ⟨a.block, a.off, none⟩ := by
  obtain ⟨b, off, spot⟩ := a
  simp only [Addr.add, if_true] at h
  cases spot with
  | none => rfl
  | some q =>
    unfold World.cell? at h
    split at h
    · simp at h
    · cases h
open Go.ChangeShapes Go.WideShapes Go.ChangeAt in
set_option maxRecDepth 100000 in
theorem ints_of {H : Type} {enc : TypeId × Value → H} {W : World} {base : Nat} {v : Value} {d : DataW H} {ps : List MemPlace} (hv : Value.okWide Tryd.prog W .any base 22 v)
    (h : DataW.Trod enc Tryd.prog W 0 (fun _ => true) true 22 v d ps) : ∃ p n cap zs, v = .slice p n cap ∧ Il W p n cap zs := by
  obtain ⟨p, n, cap, rfl⟩ := okWide_slice Tryd.underlying22 hv
  obtain ⟨fuel, hf⟩ := h
  have hf' : DataW.trod enc Tryd.prog W 0 (fun _ => true) true fuel 22 [.slice p n cap] = some (d, ps) := by simpa [Value.cells] using hf
  rcases open_ints Tryd.underlying22 Tryd.underlying3 cells_int hf' with ⟨h0, _⟩ | ⟨a, len, cap', zs, hcs, _, hl, hm, hz, _, hcell, _⟩
  · simp at h0
    obtain ⟨rfl, rfl, rfl⟩ := h0
    exact ⟨none, 0, 0, [], rfl, ⟨⟨rfl, Nat.le_refl _, Nat.zero_le _, .inl rfl⟩⟩⟩
  · simp at hcs
    obtain ⟨rfl, rfl, rfl⟩ := hcs
    simp only [if_true] at hz
    refine ⟨some a, n, cap, zs.take n, rfl, ⟨⟨by rw [ic_length, List.length_take]; omega, hl, hm, ?_⟩⟩⟩
    rcases Nat.eq_zero_or_pos n with e | e
    · exact .inl e
    · have hsp := no_spot (hcell 0 (by omega))
      refine .inr ⟨a.block, a.off, by rw [← hsp], fun j u hu => ?_⟩
      have hj : j < n := by have := (List.getElem?_eq_some_iff.1 hu).1; rw [ic_length, List.length_take] at this; omega
      have c0 := hcell j (by omega)
      rw [hsp, Addr.add_lit] at c0
      rw [c0]
      have hg : zs[j]? = some (zs.getD j 0) := by rw [List.getD_eq_getElem?_getD, List.getElem?_eq_getElem (by omega)]; rfl
      have : (ic (zs.take n))[j]? = some (.int .i64 (zs.getD j 0)) := ic_at (by rw [List.getElem?_take, if_pos hj]; exact hg)
      rw [this] at hu
      exact hu
end Go.Proofs.YtanccfbbaeocaaaDoor.Bt
