/- Joined. -/
import Derived.Test.YtifeihnhkbagpaaGreatDoorZak
import Derived.WalkSpells
import Derived.Deep.LoopGhost
import Derived.Below
set_option maxRecDepth 100000
set_option maxHeartbeats 1000000
namespace Go.Proofs.YtifeihnhkbagpaaGreatDoor.N
open ChangeShapes WideShapes ChangeAt RowKit
structure Kept (w w':World):Prop where
 out:Below w.heap.size w w'
theorem Kept.refl(w:World):Kept w w:=⟨Below.refl _ _⟩
variable {a b:World}
theorem Kept.trans{c:World}(h:Kept a b)(k:Kept b c):Kept a c:=⟨h.out.trans (k.out.mono h.out.size)⟩
theorem Kept.drew(h:Kept a b):Kept a b.drew:=⟨h.out.drew⟩
theorem Kept.alloc(h:Kept a b)(o:Obj):Kept a (b.alloc o):=⟨h.out.alloc h.out.size o⟩
variable {w w':World}
theorem Kept.block(h:Kept w w'){k:Nat}{o:Obj}(hk:w.heap[k]? = some o):w'.heap[k]? = some o:=
 (h.out.block k (aaa.1 hk).1).trans hk
theorem Kept.size(h:Kept w w'):w.heap.size<=w'.heap.size:=h.out.size
theorem info5:(Tryz.prog.info? 5).map (fun i=>(i.zero,i.size,i.bytes))=some (some (.int .u8 0),1,1):=by kernel_rfl
variable {v:Value}{n e:Nat}{xs:List Value}
theorem lK{wx w1:World}(hk:Kept w wx)(hown:wx.ownsRow w.heap.size e 1 v n xs){W:World}(hW:Kept wx W)(hg:W.grownBy w1 v.ownBlock):Kept w w1:=
 ⟨((hk.trans hW).out).grown hg (hk.trans hW).size (fun k h=>(hown.lt k h).1)⟩
variable {base:Nat}
theorem aF{size:Nat}(h:w.ownsRow base e size v n xs):∃ p cap,v=.slice p n cap:=by
 rcases h.2 with⟨rfl,rfl⟩|⟨g,cap,cur,rfl,_⟩
 ·exact⟨_,_,rfl⟩
 ·exact⟨_,_,rfl⟩
def cellsOf (l:List Nat):List Value:=l.map fun x:Nat=>Value.int .u8 (Int.ofNat x)
theorem strOf(l:List Nat):strOfNums (l.map fun x:Nat=>(x:Int))=bs l:=by
 unfold strOfNums bs;simp[List.map_map,Function.comp_def]
theorem tT{l:List Nat}(h:w.ownsRow base 5 1 v l.length (cellsOf l)) :
  (convert 56 9 v).run Tryz.prog w=.ok (.string (bs l)) w:=by
 rcases h.2 with⟨rfl,hn⟩|⟨g,cap,cur,rfl,_⟩
 ·have:l=[]:=by simpa[cellsOf] using hn
  subst this;rw[run_convert_bytes_nil w 56 5 Tryz.underlying56 Tryz.underlying5 _ _ 9 Tryz.underlying9];rfl
 ·rw[run_convert_bytes_arg w 56 5 Tryz.underlying56 Tryz.underlying5 g 0 l.length cap (l.map fun x:Nat=>(x:Int)) (by simp) (fun i hi=>?_) 9 Tryz.underlying9,strOf]
  have:=h.cellAt i (by omega);rw[aaj,this];simp[cellsOf,List.getD,hi]
theorem one_cell(w:World)(x:Value)(t:TypeId):∀ (j:Nat) (u:Value),[x][j]? = some u->(w.alloc (.cells #[x] t)).cell? ((⟨w.heap.size,0,none⟩:Addr).add j)=some u:=by
 intro j u hj;match j,hj with
 | 0,hj=>
  simp at hj;subst hj;simp only[Addr.add,if_true];rw[World.cell?_alloc_at _ _ _ _ (by simp)];rfl
theorem one_one(k:IntKind)(x:Int):∀ u∈[Value.int k x],u.oneCell'=true:=by
 intro u hu;simp at hu;subst hu;rfl
theorem MM(x:Nat)(h:x<256):bits .or .u8 (x:Int) 128=((128+x % 128:Nat):Int):=by
 have key:∀ y:Fin 256,bits .or .u8 ((y.val:Nat):Int) 128=((128+y.val % 128:Nat):Int):=by decide +kernel
 exact key ⟨x,h⟩
theorem qE(n0:Nat)(hn0:n0<18446744073709551616)(w:World):
 Calls Tryz.prog 111 #[.int .u64 n0] w fun e w'=>e=.returned (.string (bs (ae n0)))/\Kept w w':=by
 obtain⟨i0,hi,hz0,hz1,hz2⟩:=info_parts info5;have UT:=lU n0 hn0;go_enter Tryz.func111,Tryz.ntmps111;go_wp2;go_loopg [0,3] n0 (fun g nv v wx=>∃ done n,ae n0=done++ae n/\n=g/\n<18446744073709551616/\nv=.int .u64 (n:Nat)/\wx.ownsRow w.heap.size 5 1 v done.length (cellsOf done)/\Kept w wx);case atStart=>exact⟨[],n0,rfl,rfl,hn0,rfl,World.ownsRow_nil _ _ _ _,Kept.refl _⟩
 case round=>
  obtain⟨done,n,hl,hg,hn,rfl,hown,hk⟩:=hrel;obtain⟨p,cap,rfl⟩:=aF hown;have hd:done.length<=10:=by rw[hl]at UT;simp at UT;omega
  have HL:Hid (ae n0=done++ae n):=hl;have HG:Hid (n=gk):=hg;have HO:Hid (wr.ownsRow w.heap.size 5 1 (.slice p done.length cap) done.length (cellsOf done)):=hown;clear hl hg hown UT;by_cases h:n<128
  ·go_wp2_with (at_builtin;refine wpList_append_own _ rfl _ _ 56 rfl w.heap.size 5 i0 (.int .u8 0) 1 1 Tryz.underlying56 hi hz0 hz1 hz2 rfl (by decide) (.slice p done.length cap) done.length (cellsOf done) rfl ?c0 _ 1 1 [.int .u8 (n:Int)] rfl rfl ?c1 ?c2 ?c3 ?c4 ?c5 ?_)
   case c0=>exact HO.out.alloc _
   case c1=>exact one_cell _ _ _
   case c2=>exact one_one _ _
   case c3=>unfold maxLen;omega
   case c4=>omega
   case c5=>have:=hk.size;simp;omega
   intro v' w1 hown1 hgrow _;have hk1:Kept w w1:=lK hk HO.out ((Kept.refl wr).alloc _) hgrow;have tx:(convert 56 9 v').run Tryz.prog w1=.ok (.string (bs (done++[n]))) w1:=tT (by simpa[cellsOf] using hown1);clear hgrow hi hz0 hz1 hz2 hown1;go_wp2;go_ret;refine⟨?_,hk1⟩;rw[HL.out,aK h];rfl
  ·have e1:bits .or .u8 ((n:Int) % 256) 128=((128+n % 128:Nat):Int):=by
    have:=MM (n % 256) (by omega);rw[Nat.mod_mod_of_dvd n (by decide:128 ∣ 256)]at this;exact this
   go_wp2_with (at_builtin;refine wpList_append_own _ rfl _ _ 56 rfl w.heap.size 5 i0 (.int .u8 0) 1 1 Tryz.underlying56 hi hz0 hz1 hz2 rfl (by decide) (.slice p done.length cap) done.length (cellsOf done) rfl ?c0 _ 1 1 [.int .u8 ((128+n % 128:Nat):Int)] rfl rfl ?c1 ?c2 ?c3 ?c4 ?c5 ?_)
   case c0=>exact HO.out.alloc _
   case c1=>exact one_cell _ _ _
   case c2=>exact one_one _ _
   case c3=>unfold maxLen;omega
   case c4=>omega
   case c5=>have:=hk.size;simp;omega
   intro v' w1 hown1 hgrow _
   have hk1:Kept w w1:=lK hk HO.out ((Kept.refl wr).alloc _) hgrow
   clear hgrow hi hz0 hz1 hz2
   have H1:Hid (w1.ownsRow w.heap.size 5 1 v' (done.length+1) (cellsOf done++[.int .u8 ((128+n % 128:Nat):Int)])):=hown1
   clear hown1
   go_wp2
   go_roundg (n / 128)
   case measure=>have:=HG.out;omega
   case rel=>
    refine⟨done++[128+n % 128],n / 128,by rw[HL.out,bu h];simp,rfl,by omega,by go_num,?_,hk1⟩;have:=H1.out;simpa[cellsOf] using this
