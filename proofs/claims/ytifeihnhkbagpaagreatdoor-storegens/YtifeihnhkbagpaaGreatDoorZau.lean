/- Joined. -/
import Derived.Test.YtifeihnhkbagpaaGreatDoorZzz
import Derived.Shelf.Spec.SlicesInsert
import Derived.Shelf.Spec.SlicesInsertGrow
import Derived.Test.YtifeihnhkbagpaaGreatDoorProg
namespace Go.Proofs
open Shelf
def Tryz.lays22_ren:Go.Shelf.Ren:=⟨fun | 17=>231 | 22=>129 | 29=>161 | 30=>162 | 36=>204 | n=>n,fun | 24=>49 | 30=>206 | 38=>242 | 39=>243 | 26=>303 | 40=>91 | n=>n,fun | n=>n⟩
theorem Tryz.lays22:Go.Proofs.Lays2.n22 Tryz.prog Tryz.lays22_ren:={
 mixed:=by kernel_rfl
 f17:=Tryz.func231.trans (congrArg some (by kernel_rfl))
 f22:=Tryz.func129.trans (congrArg some (by kernel_rfl))
 f29:=Tryz.func161.trans (congrArg some (by kernel_rfl))
 f30:=Tryz.func162.trans (congrArg some (by kernel_rfl))
 f36:=Tryz.func204.trans (congrArg some (by kernel_rfl))
 t0:=Tryz.underlying0
 a0:=Tryz.isAgg0
 z0:=Tryz.sizeOf0
 v0:=Tryz.zeroValue0
 t3:=Tryz.underlying3
 a3:=Tryz.isAgg3
 z3:=Tryz.sizeOf3
 v3:=Tryz.zeroValue3
 t4:=Tryz.underlying4
 a4:=Tryz.isAgg4
 z4:=Tryz.sizeOf4
 v4:=Tryz.zeroValue4
 t9:=Tryz.underlying9
 a9:=Tryz.isAgg9
 z9:=Tryz.sizeOf9
 v9:=Tryz.zeroValue9
 t24:=Tryz.underlying49
 a24:=Tryz.isAgg49
 z24:=Tryz.sizeOf49
 v24:=Tryz.zeroValue49
 i9:=by kernel_rfl }
