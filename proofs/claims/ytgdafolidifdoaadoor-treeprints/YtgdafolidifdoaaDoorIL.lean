/- What the statements' list of laid variables gives the walks: strconv's table of powers; that the world which the program's own laying leaves meets that list; strconv.FormatInt over it. No condition. -/
import Derived.Test.YtgdafolidifdoaaDoorISh
import Derived.Test.YtgdafolidifdoaaDoorIC
import Derived.LaidLaws
import Derived.LaidHandle
import Derived.LaidMore
import Derived.LaidSub
import Derived.Lib.LaidTab
import Derived.Lib.SmallJoins
import Derived.Lib.AppendIntMem
import Derived.Stop.Joined
import Derived.Stop.LaidErr
import Derived.ProofKit
import Derived.ChangeSlices
import Derived.OpenShut
namespace Go.Proofs.YtgdafolidifdoaaDoor.Tp
open Go.ChangeShapes Go.WideShapes Go.ChangeAt Go.RowKit

/-- The statements' list. -/
abbrev llt : List (String × DataW Unit) := [("math/bits.deBruijn32tab", Rows.laid_math_bits_deBruijn32tab), ("math/bits.deBruijn64tab", Rows.laid_math_bits_deBruijn64tab), ("internal/strconv.uint64pow10", Rows.laid_internal_strconv_uint64pow10)]

theorem ownKnobs : ownKnob Tryd.prog.godebug = none := by kernel_rfl
theorem tabGlobal : Tryd.prog.globalNamed "internal/strconv.uint64pow10" = some 0 := by kernel_rfl
theorem tabType : (Tryd.prog.globals[0]?).map (·.type) = some 88 := by kernel_rfl
theorem cells63 : Tryd.prog.cellsOf 63 = 1 := by kernel_rfl
theorem cells88 : Tryd.prog.cellsOf 88 = 20 := by kernel_rfl
theorem tabData_eq : (Rows.laid_internal_strconv_uint64pow10 : DataW Unit) = Lib.tabData .u64 Lib.pow10Tab := by kernel_rfl

/-- The table lies in the world. -/
structure Lds (w : World) : Prop where
  out : Lib.TabIs Tryd.prog w "internal/strconv.uint64pow10" .u64 Lib.pow10Tab
theorem Lds.kept {w w' : World} (h : Lds w) (k : Kept w w') : Lds w' := ⟨Joins.tab_stays tabGlobal h.out k.out (Nat.le_refl _)⟩
theorem lds_of {W : World} (h : laidMetH Tryd.prog llt W) : Lds W := by
  have h' : laidMet Tryd.prog llt W := h
  have h2 : laidMet Tryd.prog [("internal/strconv.uint64pow10", Rows.laid_internal_strconv_uint64pow10)] W := h'.filter (fun x => x.1 == "internal/strconv.uint64pow10")
  rw [tabData_eq] at h2
  exact ⟨Lib.tabIs_of_head tabGlobal tabType Tryd.underlying88 Tryd.underlying63 cells63 cells88 h2⟩
theorem door_met (os : Os) (args : Array Value) : laidMetH Tryd.prog llt ((World.doorLaid Tryd.prog 400 os).forCall (fun _ _ => 0) ⟨#[], args, []⟩).memory :=
  show laidMet Tryd.prog llt _ from laidMet_of_run' 8 (by kernel_rfl) (by kernel_rfl)

theorem kept_grow {w : World} (k : Nat) (os : Array Obj) : Kept w (Sort.grow (w.drewN k) os) := ⟨Lib.below_grow _ w (Nat.le_refl _) k os⟩
theorem format_walk {w : World} (hL : Lds w) (n : Int) (hn : I64 n) : Calls Tryd.prog 26 #[.int .i64 n, .int .i64 10] w fun e w' => e = .returned (.string (dig n)) ∧ Kept w w' := by
  refine (Tryd.strconv_FormatInt_10 n hn.1 hn.2 w hL.out).mono ?_
  rintro e w' ⟨rfl, k, os, rfl⟩
  exact ⟨rfl, kept_grow k os⟩
end Go.Proofs.YtgdafolidifdoaaDoor.Tp
