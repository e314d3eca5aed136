/- Joined. -/
import Derived.Test.YtifeihnhkbagpaaGreatDoorZbq
import Derived.RangeFuncNested
import Derived.RangeFuncBound
import Derived.RangeFuncCalls
import Derived.RangeFuncLeaves
import Derived.Shelf.Abstract
import Derived.Shelf.RegionOpen
import Derived.OwnWalkIn
import Derived.TacticsInMore
import Derived.LoopNIn
import Derived.LoopIn
import Derived.Maps.AppendAt
set_option maxRecDepth 100000
set_option maxHeartbeats 4000000
namespace Go.Proofs.YtifeihnhkbagpaaGreatDoor.T
open RowKit Shelf
open B (Pm Mk En R nI)
open N (Nd NV Rw Rx Kept dA dQ aO Vl Up sl bP gG)
attribute [local go_sem] Oper.semAt_some
structure Kq (n₀:Nat) (W W':World):Prop where
 below:Below n₀ W W'
 rows:∀ (b:Nat) (cs:Array Value) (ty:TypeId) (fr:Nat×Nat),W.heap[b]? = some (.cells cs ty fr)->(ty=175\/ty=9\/ty=77\/ty=72)->W'.heap[b]? = some (.cells cs ty fr)
theorem Kq.trans{n₀:Nat}{A B C:World}(h:Kq n₀ A B)(k:Kq n₀ B C):Kq n₀ A C:=⟨h.below.trans k.below,fun b cs ty fr hb ht=>k.rows b cs ty fr (h.rows b cs ty fr hb ht) ht⟩
attribute [local go_sem] Oper.semAt_some
theorem TI(n:Nat)(pt pe:Option Addr)(s:ByteArray)(w:World):
 CallsIn Fence.wide n Tryz.prog 66 #[.pointer pt,.string s,.pointer pe] w fun e w'=>e=.returned (.func (.func 97) #[] #[.pointer (some ⟨w.heap.size+1,0,none⟩),.pointer (some ⟨w.heap.size,0,none⟩),.pointer (some ⟨w.heap.size+1+1,0,none⟩)])/\w'=((w.alloc (.cells #[.pointer pt] 72)).alloc (.cells #[.string s] 9)).alloc (.cells #[.pointer pe] 129):=by
 refine callsIn_of_wp Tryz.func66 rfl trivial ?_ rfl;simp only[Tryz.ntmps66,List.size_toArray,aau,aaQ,Nat.reduceAdd,Nat.reduceSub,Array.replicate_succ,Array.replicate_zero,List.push_toArray,List.append_toArray,List.nil_append,List.cons_append];gi_wp2;go_ret;exact⟨rfl,rfl⟩
open N (C4)
variable {W W':World}{row:Option Nat}
theorem zD(hg:W.grownBy W' row)(hr:∀ r,row=some r->∃ o:Obj,W.heap[r]? = some o/\o.isCells=false){b:Nat}{cs:Array Value}{t:TypeId}{fr:Nat×Nat}(h:W.heap[b]? = some (.cells cs t fr)):W'.heap[b]? = some (.cells cs t fr):=by
 refine (hg.block b (aaa.1 h).1 (fun e=>?_)).trans h;obtain⟨o,ho,hc⟩:=hr b e.symm;rw[h]at ho;cases ho;cases hc
variable {w:World}
theorem zF{n B:Nat}(hb:Below n w W)(hn:n<=w.heap.size)(hg:W.grownBy W' row)(hr:∀ r,row=some r->B<=r)(hB:n<=B):Below n w W':=
 hb.trans ⟨hg.os,hg.tape,hg.output,hg.size,fun i hi=>hg.block i (aas hi (aad hn hb.size)) (fun e=>by have:=hr i e.symm;omega)⟩
def Fin (tz:ByteArray) (most:Nat) (pre G:List En):Prop:=
 (∃ x,pre=G++[x]/\sl x.1 tz=false/\(∀ e∈G,sl e.1 tz=true)/\G.length<=most)\/(G=pre/\pre.length=most/\∀ e∈pre,sl e.1 tz=true)
def wU (s tz:ByteArray) (most:Nat) (l:List En):List En:=((Yk s l).takeWhile fun e=>sl e.1 tz).take most
attribute [local go_sem] Oper.semAt_some
theorem Qi(l:Nat){W:World}{b:Nat}{a:Value}{kp:Option Addr}{nk kc:Nat}{c d:Value}{x:Nd}{bl:ByteArray}{last:Bool}(hs:St6 W b a (.slice kp nk kc) c d bl last)(hk:Rw W 1 kp nk kc (dA x.ks))(aaX:x.ks.length<=120)(key:ByteArray)(he:bP key x.ks=nk)(n:Nat):
 CallsIn Fence.wide n Tryz.prog 99 #[.pointer (some ⟨b,0,none⟩),.string key,.func (.yield l) #[] #[]] W fun e W'=>e=.returned (.bool true)/\W'=W:=by
 have hnk:x.ks.length=nk:=by have:=hk.len;rwa [N.iK,aay]at this
 have hfd:=N.jO hk (by omega) key;have hf:=(callsIn_wide (n:=n-1)).2 hfd;rw[he]at hf;generalize gG key x.ks=bb at hf;obtain⟨c0,c1,c2,c3,c4,c5⟩:=aM hs.out;clear hfd hs hk he aaX hnk;have hdd:∀ k:Nat,(Fence.wide.depth.isSome=true->1<=k):=fun k h=>by cases h
 refine callsIn_of_wp Tryz.func99 rfl trivial ?_ rfl;simp only[Tryz.ntmps99,List.size_toArray,aau,aaQ,Nat.reduceAdd,Nat.reduceSub,Array.replicate_succ,Array.replicate_zero,List.push_toArray,List.append_toArray,List.nil_append,List.cons_append];gi_wp2_with (refine⟨trivial,?_⟩;(try refine⟨hdd _,?_⟩);gi_at_call 64;refine hf.mono ?_;rintro e w1 ⟨rfl,hw1⟩;rw[hw1];clear hw1);gi_loopw [7] (fun p wr=>p=.int .i64 nk/\wr=W) (fun _ _=>0);case atStart=>exact⟨rfl,rfl⟩
 case round=>
  obtain⟨rfl,rfl⟩:=hrel;have h1:¬ (nk:Int)<(nk:Int):=by omega
  gi_wp2;go_ret;exact⟨rfl,rfl⟩
def Yt:Value->Nat
 | .bool true=>1
 | _=>0
def aaY (x:Empty):Array Value:=x.elim
theorem Qj(n:Nat){w₀:World}{pt:Option Addr}{s:ByteArray}(HS:Hid (∀ W key,Kept w₀ W->Calls Tryz.prog 98 #[.pointer pt,.string key] W (Gx [] [] key W)))(bt bf be l':Nat)(J:List Empty->World->Prop)(W:World)(hW:Kept w₀ W)(hJ:Hid (AbidesFrom W.heap.size J))(ht:W.heap[bt]? = some (.cells #[.pointer pt] 72))(hf:W.cell? ⟨bf,0,none⟩=some (.string s))(h0:J [] W):
 CallsIn Fence.wide n Tryz.prog 97 #[.func (.yield l') #[] #[],.pointer (some ⟨bf,0,none⟩),.pointer (some ⟨bt,0,none⟩),.pointer (some ⟨be,0,none⟩)] W fun e W'=>(∃ v,e=.returned v)/\J [] W':=by
  have hdd:∀ k:Nat,(Fence.wide.depth.isSome=true->1<=k):=fun k h=>by cases h
  have H0:Hid (J [] W/\Kept w₀ W/\W.heap[bt]? = some (.cells #[.pointer pt] 72)):=⟨h0,hW,ht⟩;have HT:Hid (∀ (m':Nat) (W':World) (b:Nat) (a:Value) (kp:Option Addr) (nk kc:Nat) (c d:Value) (x:Nd) (bl:ByteArray) (last:Bool) (key:ByteArray),St6 W' b a (.slice kp nk kc) c d bl last->Rw W' 1 kp nk kc (dA x.ks)->x.ks.length<=120->bP key x.ks=nk->CallsIn Fence.wide m' Tryz.prog 99 #[.pointer (some ⟨b,0,none⟩),.string key,.func (.yield l') #[] #[]] W' fun e W''=>e=.returned (.bool true)/\W''=W'):=
    fun m' W' b a kp nk kc c d x bl last key h1 h2 h3 h4=>Qi l' h1 h2 h3 key h4 m'
  clear h0 ht hW;refine callsIn_of_wp Tryz.func97 rfl trivial ?_ rfl;simp only[Tryz.ntmps97,List.size_toArray,aau,aaQ,Nat.reduceAdd,Nat.reduceSub,Array.replicate_succ,Array.replicate_zero,List.push_toArray,List.append_toArray,List.nil_append,List.cons_append];gi_wp2;gi_loopw [5,6] (fun kv mv wr=>∃ (k:ByteArray) (mo:Bool),kv=.string k/\mv=.bool mo/\Hid (J [] wr/\Kept w₀ wr/\wr.heap[bt]? = some (.cells #[.pointer pt] 72)))
    (fun _ mv _=>Yt mv)
  case atStart=>exact⟨s,true,rfl,rfl,H0⟩
  case round=>
    obtain⟨k,mo,rfl,rfl,H⟩:=hrel;clear H0;cases mo with
    | false=>
      have hj:=H.out.1;clear H;gi_wp2;go_end0;exact⟨⟨_,rfl⟩,hj⟩
    | true=>
      have hc:wr.cell? ⟨bt,0,none⟩=some (.pointer pt):=by rw[cell_of_row _ bt 0 _ _ _ H.out.2.2];rfl
      have hs:=(callsIn_wide (n:=n-1)).2 (HS.out wr k H.out.2.1);gi_wp2_with (first
        | (refine⟨trivial,?_⟩;(try refine⟨hdd _,?_⟩);gi_at_call 98;refine hs.mono ?_;clear hs;rintro e w1 ⟨lf,kp,nk,kc,vp,nv,vc,ip,ni,ic,x,bl,last,rfl,N1,⟨up1,Yu⟩,sk1,k1⟩;have hla:last=true/\bP k x.ks=nk:=(by rcases sk1.hd with⟨h1,h2⟩|⟨_,_,h⟩;(· have h3:=congrArg List.length h2;have h4:=sk1.len;have h5:=N1.k.len;have h6:=N.kN k x.ks;rw[N.iK]at h5;simp[Yk]at h3;exact⟨h1,by omega⟩);(· simp[Ai]at h));obtain⟨rfl,hfn⟩:=hla;have k2:Kept w1 (w1.alloc (.cells #[.bool lf,.slice kp nk kc,.slice vp nv vc,.slice ip ni ic,.string bl,.bool true] 175)):=(Kept.refl w1).alloc _;have N2:=N1.kept k2;have kw:=k1.trans k2;have S2:St6 (w1.alloc (.cells #[.bool lf,.slice kp nk kc,.slice vp nv vc,.slice ip ni ic,.string bl,.bool true] 175)) w1.heap.size (.bool lf) (.slice kp nk kc) (.slice vp nv vc) (.slice ip ni ic) bl true:=⟨heap_alloc_new w1 _⟩;have J2:J [] (w1.alloc (.cells #[.bool lf,.slice kp nk kc,.slice vp nv vc,.slice ip ni ic,.string bl,.bool true] 175)):=hJ.out [] wr _ none H.out.1 (kw.grown none) (fun r e=>(by cases e));have FT:=HT.out (n-1) _ w1.heap.size _ kp nk kc _ _ x bl true k S2 N2.k Yu hfn;have HK2:Hid (J [] (w1.alloc (.cells #[.bool lf,.slice kp nk kc,.slice vp nv vc,.slice ip ni ic,.string bl,.bool true] 175))/\Kept w₀ (w1.alloc (.cells #[.bool lf,.slice kp nk kc,.slice vp nv vc,.slice ip ni ic,.string bl,.bool true] 175))/\(w1.alloc (.cells #[.bool lf,.slice kp nk kc,.slice vp nv vc,.slice ip ni ic,.string bl,.bool true] 175)).heap[bt]? = some (.cells #[.pointer pt] 72)):=⟨J2,H.out.2.1.trans kw,kw.block H.out.2.2⟩;clear N1 N2 sk1 up1 Yu J2 H k1 k2 kw hfn)
        | (refine⟨trivial,?_⟩;(try refine⟨hdd _,?_⟩);gi_at_call 99;refine FT.mono ?_;clear FT;rintro e w3 ⟨rfl,hw3⟩;rw[hw3];clear hw3))
      obtain⟨_,_,_,_,d4,d5⟩:=aM S2.out;generalize w1.alloc (.cells #[.bool lf,.slice kp nk kc,.slice vp nv vc,.slice ip ni ic,.string bl,.bool true] 175)=w3 at *;have HJ3:Hid (J [] w3.drew):=hJ.out _ w3 w3.drew none HK2.out.1 ⟨rfl,rfl,rfl,aac _,fun _ _ _=>rfl⟩ (fun r e=>by cases e);gi_region;all_goals gi_wp2
      all_goals exact⟨⟨bl,false,rfl,rfl,⟨HJ3.out,HK2.out.2.1.drew,HK2.out.2.2⟩⟩,by simp[Yt]⟩
theorem LK{pt:Option Addr}{s tz:ByteArray}(HS:Hid (∀ W key,Kept w W->Calls Tryz.prog 98 #[.pointer pt,.string key] W (Gx [] [] key W))):
 Calls Tryz.prog 42 #[.pointer pt,.string s,.string tz,.int .i64 1000] w fun e w'=>e=.returned (.tuple #[.slice none 0 0,.int .i64 0])/\Kept w w':=by
 refine (callsIn_wide (n:=5)).1 ?_;have hdd:∀ k:Nat,(Fence.wide.depth.isSome=true->1<=k):=fun k h=>by cases h
 refine callsIn_of_wp_marks Tryz.func42 rfl trivial ?_ rfl;simp only[Tryz.ntmps42,List.size_toArray,aau,aaQ,Nat.reduceAdd,Nat.reduceSub,Array.replicate_succ,Array.replicate_zero,List.push_toArray,List.append_toArray,List.nil_append,List.cons_append];gi_wp2_with (refine⟨trivial,?_⟩;(try refine⟨hdd _,?_⟩);gi_at_call 66;refine (TI _ _ _ _ _).mono ?_;rintro e w' ⟨rfl,rfl⟩);have sz:=N.size_alloc w (.cells #[.string tz] 9);obtain⟨W0,hW0⟩:∃ W0,(((((((w.alloc (.cells #[.string tz] 9)).alloc (.cells #[.int .i64 1000] 3)).alloc (.cells #[.slice none 0 0] 82)).alloc (.cells #[.int .i64 0] 24)).alloc (.cells #[.pointer pt] 72)).alloc (.cells #[.string s] 9)).alloc (.cells #[.pointer (some ⟨w.heap.size+1+1+1,0,none⟩)] 129))=W0:=⟨_,rfl⟩;have k1:Kept w (w.alloc (.cells #[.string tz] 9)):=(Kept.refl w).alloc _;have kW:Kept w W0:=by rw[<- hW0];exact ((((((k1.alloc _).alloc _).alloc _).alloc _).alloc _).alloc _)
 have b2:W0.heap[w.heap.size+1+1]? = some (.cells #[.slice none 0 0] 82):=by
  rw[<- hW0];exact (((((Kept.refl _).alloc _).alloc _).alloc _).alloc _).block (by have:=heap_alloc_new ((w.alloc (.cells #[.string tz] 9)).alloc (.cells #[.int .i64 1000] 3)) (.cells #[.slice none 0 0] 82);rwa [N.size_alloc,N.size_alloc]at this)
 have b3:W0.heap[w.heap.size+1+1+1]? = some (.cells #[.int .i64 0] 24):=by
  rw[<- hW0];exact ((((Kept.refl _).alloc _).alloc _).alloc _).block (by have:=heap_alloc_new (((w.alloc (.cells #[.string tz] 9)).alloc (.cells #[.int .i64 1000] 3)).alloc (.cells #[.slice none 0 0] 82)) (.cells #[.int .i64 0] 24);rwa [N.size_alloc,N.size_alloc,N.size_alloc]at this)
 have b4:W0.heap[w.heap.size+1+1+1+1]? = some (.cells #[.pointer pt] 72):=by
  rw[<- hW0];exact (((Kept.refl _).alloc _).alloc _).block (by have:=heap_alloc_new ((((w.alloc (.cells #[.string tz] 9)).alloc (.cells #[.int .i64 1000] 3)).alloc (.cells #[.slice none 0 0] 82)).alloc (.cells #[.int .i64 0] 24)) (.cells #[.pointer pt] 72);rwa [N.size_alloc,N.size_alloc,N.size_alloc,N.size_alloc]at this)
 have b5:W0.heap[w.heap.size+1+1+1+1+1]? = some (.cells #[.string s] 9):=by
  rw[<- hW0];exact ((Kept.refl _).alloc _).block (by have:=heap_alloc_new (((((w.alloc (.cells #[.string tz] 9)).alloc (.cells #[.int .i64 1000] 3)).alloc (.cells #[.slice none 0 0] 82)).alloc (.cells #[.int .i64 0] 24)).alloc (.cells #[.pointer pt] 72)) (.cells #[.string s] 9);rwa [N.size_alloc,N.size_alloc,N.size_alloc,N.size_alloc,N.size_alloc]at this)
 rw[hW0];have hle:w.heap.size<=W0.heap.size:=kW.size;have hst:SeqStopsK Fence.wide 4 Tryz.prog 97 #[.pointer (some ⟨w.heap.size+1+1+1+1+1,0,none⟩),.pointer (some ⟨w.heap.size+1+1+1+1,0,none⟩),.pointer (some ⟨w.heap.size+1+1+1+1+1+1,0,none⟩)] aaY (fun _ _=>True) (fun _=>True) (fun _=>True) 0 W0:=fun l' J Jx W hW hJ _ hY h0=>by
  have kX:Kept W0 W:=⟨hW⟩;refine (Qj 4 HS (w.heap.size+1+1+1+1) (w.heap.size+1+1+1+1+1) (w.heap.size+1+1+1+1+1+1) l' J W (kW.trans kX) hJ (kX.block b4) (kX.cell (by rw[cell_of_row _ _ 0 _ _ _ b5];rfl)) h0).mono ?_;rintro e W' ⟨h1,h2⟩;exact⟨h1,.inl ⟨[],trivial,h2⟩⟩
 clear hW0 b4 b5 k1 sz;refine wpIn_rangeFunc_ownH rfl (by omega) (gf:=97) (lb:=#[.pointer (some ⟨w.heap.size+1+1+1+1+1,0,none⟩),.pointer (some ⟨w.heap.size+1+1+1+1,0,none⟩),.pointer (some ⟨w.heap.size+1+1+1+1+1+1,0,none⟩)]) rfl trivial (enters_of Tryz.func97 (by kernel_rfl) rfl)
  hst (fun _ _=>trivial) (fun _ _ _ _ _ _ _ _=>trivial) (Below.refl _ _) (fun x=>x.elim)
  (fun _ W=>W.heap[w.heap.size+1+1]? = some (.cells #[.slice none 0 0] 82)/\W.heap[w.heap.size+1+1+1]? = some (.cells #[.int .i64 0] 24)/\Below w.heap.size w W)
  (fun _ _ _=>False)
  (fun pre W W' row hs hg hr=>⟨zD hg (fun r e=>(hr r e).2) hs.1,zD hg (fun r e=>(hr r e).2) hs.2.1,zF hs.2.2 (aac _) hg (fun r e=>(hr r e).1) hle⟩)
  (fun c pre W W' row hs hg hr=>hs.elim)
  ⟨b2,b3,kW.out⟩
  (fun x _ _=>x.elim) (fun x=>x.elim)
  (fun _ _ x=>x.elim) (fun _ _ x=>x.elim) ?done (fun _ _ _ _ _ _ h=>h.elim)
 case done=>
  rintro D xs W hD _ ⟨p2,p3,pl⟩ hK;have y2:W.cell? ⟨w.heap.size+1+1,0,none⟩=some (.slice none 0 0):=by rw[cell_of_row _ _ 0 _ _ _ p2];rfl
  have y3:W.cell? ⟨w.heap.size+1+1+1,0,none⟩=some (.int .i64 0):=by rw[cell_of_row _ _ 0 _ _ _ p3];rfl
  have R5:=zF (B:=W0.heap.size) pl (aac _) (grownBy_putObj' W D (.deferred none)) (fun r e=>by cases e;exact hD) hle;gi_wp2;refine⟨by simp,.inl ⟨_,_,rfl,run_takeDeferred hK,?_⟩⟩;exact⟨_,results_tmp2 rfl _ _ _,rfl,⟨R5⟩⟩
