/- Joined: SLaid. What is proved of the functions beneath StoreNone. Conditions: those that each row names. -/
import Derived.Test.YtifeihnhkbagpaaGreatDoorZac
import Derived.Test.YtifeihnhkbagpaaGreatDoorRows
import Derived.LaidLaws
import Derived.LaidHandle
import Derived.LaidMore
import Derived.Lib.LaidTab
import Derived.Stop.Joined
import Derived.Stop.LaidErr
import Derived.ProofKit
namespace Go.Proofs.YtifeihnhkbagpaaGreatDoor.S
open Go.RowKit

abbrev lst : List (String × DataW Unit) := [("math/bits.deBruijn64tab", Rows.laid_math_bits_deBruijn64tab)]

theorem ownKnobs : ownKnob Tryz.prog.godebug = none := by kernel_rfl
theorem tabGlobal : Tryz.prog.globalNamed "math/bits.deBruijn64tab" = some 1 := by kernel_rfl
theorem tabType : (Tryz.prog.globals[1]?).map (·.type) = some 314 := by kernel_rfl
theorem cells5 : Tryz.prog.cellsOf 5 = 1 := by kernel_rfl
theorem cells42 : Tryz.prog.cellsOf 314 = 64 := by kernel_rfl
theorem tabData_eq : (Rows.laid_math_bits_deBruijn64tab : DataW Unit) = Lib.tabData .u8 (Lib.deBruijn64tab.map fun (x : Nat) => (x : Int)) := by kernel_rfl

theorem lds_of {W : World} (h : laidMetH Tryz.prog lst W) : Lds W := by
  have h' : laidMet Tryz.prog [("math/bits.deBruijn64tab", Rows.laid_math_bits_deBruijn64tab)] W := h
  rw [tabData_eq] at h'
  have h2 := Lib.tabIs_of_head tabGlobal tabType Tryz.underlying314 Tryz.underlying5 cells5 cells42 h'
  refine ⟨fun j hj => ?_⟩
  have := World.var?_cell tabGlobal h2 j
  rw [this]
  simp only [List.map_map, List.getElem?_toArray, List.getElem?_map, List.getElem?_eq_getElem hj, Option.map_some, Function.comp_def, List.getD_eq_getElem?_getD, Option.getD_some]

theorem door_met (os : Os) (args : Array Value) : laidMetH Tryz.prog lst ((World.doorLaid Tryz.prog 400 os).forCall (fun _ _ => 0) ⟨#[], args, []⟩).memory :=
  show laidMet Tryz.prog lst _ from laidMet_of_run' 8 (by kernel_rfl) (by kernel_rfl)
end Go.Proofs.YtifeihnhkbagpaaGreatDoor.S