/- Joined. -/
import Derived.Test.YtifeihnhkbagpaaGreatDoorZac
import Derived.LaidLaws
import Derived.LaidHandle
import Derived.LaidMore
import Derived.Lib.LaidTab
import Derived.Stop.Joined
import Derived.Stop.LaidErr
namespace Go.Proofs.YtifeihnhkbagpaaGreatDoor.S
open RowKit
abbrev Uv:List (String×DataW Unit):=[("math/bits.deBruijn64tab",Rows.laid_math_bits_deBruijn64tab)]
theorem ownKnobs:ownKnob Tryz.prog.godebug=none:=by kernel_rfl
theorem AZ:Tryz.prog.globalNamed "math/bits.deBruijn64tab" = some 1:=by kernel_rfl
theorem TJ:(Tryz.prog.globals[1]?).map (·.type)=some 314:=by kernel_rfl
theorem cells5:Tryz.prog.cellsOf 5=1:=by kernel_rfl
theorem TK:Tryz.prog.cellsOf 314=64:=by kernel_rfl
theorem GL:(Rows.laid_math_bits_deBruijn64tab:DataW Unit)=Lib.tabData .u8 (Lib.deBruijn64tab.map fun (x:Nat)=>(x:Int)):=by kernel_rfl
theorem Ux{W:World}(h:laidMetH Tryz.prog Uv W):gU W:=by
 have h':laidMet Tryz.prog [("math/bits.deBruijn64tab",Rows.laid_math_bits_deBruijn64tab)] W:=h;rw[GL]at h';have h2:=Lib.tabIs_of_head AZ TJ Tryz.underlying314 Tryz.underlying5 cells5 TK h';refine⟨fun j hj=>?_⟩;have:=World.var?_cell AZ h2 j;rw[this];simp only[List.map_map,List.getElem?_toArray,List.getElem?_map,aae hj,Option.map_some,Function.comp_def,aaN,Option.getD_some]
theorem Cr(os:Os)(args:Array Value):laidMetH Tryz.prog Uv ((World.doorLaid Tryz.prog 400 os).forCall (fun _ _=>0) ⟨#[],args,[]⟩).memory:=
 show laidMet Tryz.prog Uv _ from laidMet_of_run' 8 (by kernel_rfl) (by kernel_rfl)
