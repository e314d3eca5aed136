/- Joined. -/
import Derived.Test.YtifeihnhkbagpaaGreatDoorZat
import Derived.Test.YtifeihnhkbagpaaGreatDoorZaz
namespace Go.Proofs.YtifeihnhkbagpaaGreatDoor.Ch
open ChangeShapes WideShapes ChangeAt RowKit
open N (Kept Rd On bs ae)
theorem Yh:(Tryz.prog.info? 3).map (fun i=>(i.zero,i.size,i.bytes))=some (some (.int .i64 0),1,8):=by kernel_rfl
structure Bl (w:World) (b:Nat) (acc:List UInt8) (W:World):Prop where
 b:Lib.IsBuilderF 213 5 w.heap.size b (Lib.byteCells acc) W
 low:Kept w W
variable {w W:World}{b:Nat}{acc:List UInt8}
theorem Bl.write(h:Bl w b acc W)(s:ByteArray)(hm:acc.length+s.size<=140737488355328):
 Calls Tryz.prog 135 #[.pointer (some ⟨b,0,none⟩),.string s] W fun e w'=>e=.returned (.tuple #[.int .i64 s.size,.nilIface])/\Bl w b (acc++s.data.toList) w'/\Lib.OthersKept 5 (some b) W w':=by
 refine (Tryz.Builder_WriteString_k _ _ _ s W h.b (by rw[Lib.byteCells_length];exact hm) h.low.size).mono ?_;rintro e w' ⟨rfl,h1,h2,h3⟩;exact⟨rfl,⟨by rw[Lib.byteCells_append];exact Or.inr h1,⟨h.low.out.trans h2⟩⟩,h3⟩
theorem Bl.string(h:Bl w b acc W):
 Calls Tryz.prog 136 #[.pointer (some ⟨b,0,none⟩)] W fun e w'=>e=.returned (.string ⟨acc.toArray⟩)/\Kept w w':=by
 refine (Tryz.Builder_String_any_k _ _ acc W h.b h.low.size).mono ?_;rintro e w' ⟨rfl,_,h2,_⟩;exact⟨rfl,⟨h.low.out.trans h2⟩⟩
theorem C2.others{W':World}{g:Nat}{a0 a1:Value}(h:C2 W g 215 a0 a1)(k:Lib.OthersKept 5 (some b) W W')(hb:g≠b):C2 W' g 215 a0 a1:=by
 refine⟨k g _ h.out (fun e=>hb (aaq e)) (fun c fz e=>?_)⟩;injection e with e1 e2
 cases e2
