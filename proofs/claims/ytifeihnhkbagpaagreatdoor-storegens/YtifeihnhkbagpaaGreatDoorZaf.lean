/- Joined. -/
import Derived.Test.YtifeihnhkbagpaaGreatDoorZzz
import Derived.Test.YtifeihnhkbagpaaGreatDoorRows
import Derived.WalkKit
import Derived.ProofKit
import Derived.Laws.BytesArg
import Derived.WalkSpells
import Derived.Deep.LoopGhost
import Derived.Below
import Derived.Lib.BufferWrite
set_option maxRecDepth 100000
set_option maxHeartbeats 1000000
namespace Go.Proofs.YtifeihnhkbagpaaGreatDoor.D
open ChangeShapes WideShapes ChangeAt RowKit
structure Kept (w w':World):Prop where
 out:Below w.heap.size w w'
theorem Kept.refl(w:World):Kept w w:=⟨Below.refl _ _⟩
variable {a b:World}
theorem Kept.trans{c:World}(h:Kept a b)(k:Kept b c):Kept a c:=⟨h.out.trans (k.out.mono h.out.size)⟩
theorem Kept.drew(h:Kept a b):Kept a b.drew:=⟨h.out.drew⟩
theorem Kept.alloc(h:Kept a b)(o:Obj):Kept a (b.alloc o):=⟨h.out.alloc h.out.size o⟩
variable {w w':World}
theorem Kept.block(h:Kept w w'){k:Nat}{o:Obj}(hk:w.heap[k]? = some o):w'.heap[k]? = some o:=
 (h.out.block k (aaa.1 hk).1).trans hk
theorem Kept.size(h:Kept w w'):w.heap.size<=w'.heap.size:=h.out.size
theorem Kept.setCell(h:Kept a b){p:Addr}(hp:a.heap.size<=p.block)(u:Value):Kept a (b.setCell p u):=⟨h.out.setCell hp u⟩
theorem Kept.setRow(h:Kept a b){g:Nat}(hp:a.heap.size<=g)(cs:Array Value):Kept a (b.setRow g cs):=
 ⟨h.out.trans ⟨rfl,rfl,rfl,by simp[World.setRow],fun k hk=>setRow_other b g k cs (by omega)⟩⟩
def whole (s:ByteArray):ByteArray:=⟨s.data++Array.replicate (256-s.size) 0⟩
theorem size_data(s:ByteArray):s.data.size=s.size:=rfl
theorem Fb(s:ByteArray)(h:s.size<=256):(whole s).size=256:=by
 show (s.data++Array.replicate (256-s.size) 0).size=256;rw[Array.size_append,Array.size_replicate,size_data];omega
def xG (s:ByteArray):List Value:=s.data.toList.map fun x=>Value.int .u8 (x.toNat:Int)
theorem YQ(s:ByteArray):strOfNums (s.data.toList.map fun x=>(x.toNat:Int))=s:=by
 unfold strOfNums;cases s with
 | mk d=>simp[List.map_map,Function.comp_def]
theorem info5:(Tryz.prog.info? 5).map (·.size)=some 1:=by kernel_rfl
theorem UE(w:World):(zeroValue 90).run Tryz.prog w=.ok (.agg (Array.replicate 256 (.int .u8 0))) w:=by
  have h:(Tryz.prog.info? 90).map (·.zero)=some (some (.agg (Array.replicate 256 (.int .u8 0)))):=by kernel_rfl
  cases hq:Tryz.prog.info? 90 with
  | none=>rw[hq]at h;simp at h
  | some i=>
    rw[hq]at h;have hz:i.zero=some (.agg (Array.replicate 256 (.int .u8 0))):=by simpa using h
    simp[zeroValue,typeInfo,hq,hz]
theorem UF(s:ByteArray):∀ n,n=256 ->
  ((Array.replicate n (Value.int .u8 0)).toList.take 0++Lib.byteCells s.data.toList++(Array.replicate n (Value.int .u8 0)).toList.drop (0+s.size))=xG (whole s):=by
 intro n hn;have e:whole s=⟨s.data++Array.replicate (n-s.size) 0⟩:=by rw[hn];rfl
 rw[e];simp[xG,Lib.byteCells]
theorem copied(s:ByteArray)(hs:s.size<=256)(w:World):∃ w2,(Builtin.copy_ #[56,9] 3 #[.slice (some ⟨w.heap.size,0,none⟩) 256 256,.string s]).run Tryz.prog (w.alloc (.cells (Array.replicate 256 (.int .u8 0)) 90))=.ok (.int .i64 s.size) w2
  /\ w2.heap[w.heap.size]? = some (.cells (xG (whole s)).toArray 90)/\Kept w w2:=by
 have hg:(w.alloc (.cells (Array.replicate 256 (.int .u8 0)) 90)).heap[w.heap.size]? = some (.cells (Array.replicate 256 (.int .u8 0)) 90 (0,0)):=by
  show (w.heap.push _)[w.heap.size]? = _;simp
 have h:=Lib.run_copy_row_string (P:=Tryz.prog) (w.alloc (.cells (Array.replicate 256 (.int .u8 0)) 90)) 56 9 3 5 w.heap.size 0 256 256 s _ 90 Tryz.underlying56 info5 hg hs (by simpa using hs);rw[UF s 256 rfl]at h;exact⟨_,h,setRow_heap _ _ _ _ _ _ hg,((Kept.refl w).alloc _).setRow (aac _) _⟩
theorem Qw(w:World)(g:Nat)(t:TypeId)(s:ByteArray)(h:w.heap[g]? = some (.cells (xG s).toArray t))(n:Nat)(hn:s.size=n)(c:Nat) :
  (convert 56 9 (.slice (some ⟨g,0,none⟩) n c)).run Tryz.prog w=.ok (.string s) w:=by
 rw[run_convert_bytes_arg w 56 5 Tryz.underlying56 Tryz.underlying5 g 0 n c (s.data.toList.map fun x=>(x.toNat:Int)) (by simp[<- hn]) (fun i hi=>?_) 9 Tryz.underlying9,YQ];have hi':i<s.data.size:=by rw[<- hn]at hi;exact hi
 rw[cell_of_row w g _ _ _ _ h];simp[xG,List.getD];exact⟨s.data[i],by rw[Array.getElem?_eq_getElem hi'],by rw[Array.getElem?_eq_getElem hi'];rfl⟩
theorem gz(s:ByteArray)(hs:s.size<=256)(w:World):
 Calls Tryz.prog 28 #[.string s] w fun e w'=>e=.returned (.string (whole s))/\Kept w w':=by
 obtain⟨w2,cp,h2,hk⟩:=copied s hs w;have tx:=Qw w2 w.heap.size 90 (whole s) h2 256 (Fb s hs) 256;obtain⟨zs,hzs⟩:∃ zs:Array Value,zs=Array.replicate 256 (.int .u8 0):=⟨_,rfl⟩;have acB:∀ w,(zeroValue 90).run Tryz.prog w=.ok (.agg zs) w:=by intro w;rw[hzs];exact UE w
 have hsz:zs.size=256:=by rw[hzs];simp
 rw[<- hzs]at cp;clear hzs h2;go_enter Tryz.func28,Tryz.ntmps28;go_wp2;go_ret;exact⟨rfl,hk⟩
