/- Joined. -/
import Derived.Test.YtifeihnhkbagpaaGreatDoorZaq
import Derived.Test.YtifeihnhkbagpaaGreatDoorZas
set_option maxRecDepth 100000
set_option maxHeartbeats 4000000
namespace Go.Proofs.YtifeihnhkbagpaaGreatDoor.G
open ChangeShapes WideShapes ChangeAt RowKit
open D (Dk Ok aa)
open P (bs oZ oV fZ Small)
variable {B p m:Nat}{w:World}{a:Ad}{q:Pq}
theorem TR(k:GA B w p a q)(hB:B<=w.heap.size)(ok:Ok m q.disk)(hm:m<48000)(hd:q.doubt=false)(uu:∀ n,(nG q.fresh n).gen<18446744073709551616)(hg:q.gen<4611686018427387904)(root:Int)(hs:oV (q.gen+1) root)(d':Dk)(e:Int)(b:Bool)(hw:Hu q.fresh q.disk (keysOf q.fresh) (q.gen+1) root=(d',e,b))(he:¬ e=0):
 Calls Tryz.prog 35 #[.pointer (some ⟨p,0,none⟩),.int .i64 root] w fun r w'=>r=.returned (.int .i64 e)/\GA B w' p a { q with disk:=d',doubt:=b }/\On B w w':=by
 obtain⟨c0,c1,c2,c3,c4,c5,c6,c7,c8,c9⟩:=k.cs;have f1:∀ W,Calls Tryz.prog 55 #[.agg #[.int .u64 ((q.gen:Int)+1),.int .i64 root]] W fun e w'=>e=.returned (.bool true)/\P.Kept W w':=fun W=>P.xU (q.gen+1) root hs W
 have f2:∀ W,D.Kept w W->Calls Tryz.prog 56 #[.pointer (some ⟨p,0,none⟩),.agg #[.int .u64 ((q.gen:Int)+1),.int .i64 root]] W fun r w'=>r=.returned (.int .i64 e)/\GA B w' p a { q with disk:=d',doubt:=b }/\On B W w':=fun W hW=>by
  have:=jI (k.kept hW) (aad hB hW.size) ok hm hd uu (q.gen+1) root;rw[hw]at this;exact this
 have hne:(e != 0)=true:=by simpa using he
 have Y0:=P.Sp.alloc w ((q.gen:Int)+1) root;clear hs hw uu he;go_enter Tryz.func35,Tryz.ntmps35;go_wp2_with (first
  | (go_at_call 55;(with_reducible refine (f1 _).mono ?_);rintro r w2 ⟨rfl,k2⟩;have K2:D.Kept w w2:=D.Kept.trans ((D.Kept.refl _).alloc _) ⟨k2.out⟩;have Y2:=k2.sp Y0;obtain⟨y0,y1⟩:=Y2.cs)
  | (go_at_call 56;(with_reducible refine (f2 _ K2).mono ?_);rintro r w3 ⟨rfl,g3,n3⟩))
 go_ret;exact⟨rfl,g3,(On.ax K2 hB).trans n3⟩
def Hf (M H:Nat->Option bG) (left:Lit->Bool):Nat->Option bG:=fun k=>if (M k).isSome && !left (.int .i64 (k:Nat)) then none else H k
theorem Nh(M H:Nat->Option bG)(left:Lit->Bool)(h:∀ k:Nat,left (.int .i64 k)=(M k).isSome):Hf M H left=H:=by
 funext k;unfold Hf;rw[h];cases (M k).isSome <;> rfl
theorem Rh(M H:Nat->Option bG)(left:Lit->Bool)(n:Nat)(hn:(M n).isSome=true):oM (Hf M H left) n=Hf M H (fun z=>left z && !z.sameKey (.int .i64 n)):=by
 funext k;unfold oM Hf;by_cases e:k=n
 ·subst e
  rw[aao rfl,hn];simp[Lit.sameKey]
 ·rw[aai e]
  have:(Lit.int .i64 k).sameKey (.int .i64 n)=false:=by simp[Lit.sameKey];omega
  simp[this]
theorem U8(M H:Nat->Option bG)(left:Lit->Bool)(h:∀ kl,left kl=false):Hf M H left=fun k=>if (M k).isSome then none else H k:=by
 funext k;unfold Hf;rw[h];cases (M k).isSome <;> rfl
def Pq.Xa (q:Pq) (d':Dk) (root:Int):Pq:={ q with disk:=d',gen:=q.gen+1,root:=root,uk:=q.un,ut:=q.un,fresh:=fun _=>none,held:=fun k=>if (q.fresh k).isSome then none else q.held k,doubt:=false }
variable {w':World}
theorem GA.iter(h:GA B w p a q){r:Nat}{x:Option Nat}{y z u}(hr:w.heap[r]? = some (.mapIter x y z u))(hg:w.grownBy w' (some r))(hB:B<=r):GA B w' p a q/\On B w w':=by
 have lt:∀ {k:Nat} {o:Obj},w.heap[k]? = some o->k<w.heap.size:=fun h=>(aaa.1 h).1
 have ec:∀ {k:Nat} {cs:Array Value} {t:TypeId} {fr:Nat×Nat},w.heap[k]? = some (.cells cs t fr)->w'.heap[k]? = w.heap[k]?:=fun {k cs t fr} hk=>hg.block k (lt hk) (fun e=>by
  injection e with e;subst e;rw[hk]at hr;injection hr with hr;cases hr)
 have em:∀ {k:Nat} {es:Array MapEntry} {c:Nat},w.heap[k]? = some (.map es c)->w'.heap[k]? = w.heap[k]?:=fun {k es c} hk=>hg.block k (lt hk) (fun e=>by
  injection e with e;subst e;rw[hk]at hr;injection hr with hr;cases hr)
 obtain⟨⟨_,_,k1⟩,_,_,k2⟩:=h.sk.blocks;obtain⟨⟨_,_,t1⟩,_,_,t2⟩:=h.st.blocks;obtain⟨⟨_,_,n1⟩,_,_,n2⟩:=h.sn.blocks;obtain⟨_,_,f1⟩:=h.fm.block;obtain⟨_,_,h1⟩:=h.hm.block;refine⟨⟨(ec h.blk).trans h.blk,h.disk.frame (fun k cs t fr hk _=>(ec hk).trans hk),h.sk.same (ec k1) (ec k2),h.st.same (ec t1) (ec t2),h.sn.same (ec n1) (ec n2),h.fm.same (em f1),h.hm.same (em h1),h.ne,h.le⟩,⟨?_,fun k cs t fr hk _=>(ec hk).trans hk⟩⟩;exact (Below.refl B w).grown hg (aa3 (Nat.lt_of_le_of_lt hB (lt hr))) (fun k e=>by injection e with e;omega)
variable {b n:Nat}
theorem vZ{H:Type}{P:Program}{k:TypeId}{R:Value->Option (DataW H×List MemPlace)}{r:Nat}{D:DataW H}{left:Lit->Bool}{cnt:Nat}(h:w.ranges P k R b r n D left cnt):∃ x y z u,w.heap[r]? = some (.mapIter x y z u):=by
 obtain⟨es,clock,since,seen,c0,_,_,_,_,h5,_⟩:=h;exact⟨_,_,_,_,h5⟩
structure Lc (B:Nat) (w:World) (p:Nat) (a:Ad) (q:Pq) (d':Dk) (root:Int) (left:Lit->Bool) (wx:World):Prop where
 ga:GA B wx p a { q with disk:=d',doubt:=false,held:=Hf q.fresh q.held left }
 st:P.Sp wx w.heap.size ((q.gen:Int)+1) root
 on:On B w wx
theorem GA.passed(h:GA B w p a q)(x:Nat)(r:Int) :
  GB B (((w.setCell ⟨p,1,none⟩ (.int .u64 x)).setCell ⟨p,2,none⟩ (.int .i64 r)).setCell ⟨p,3,none⟩ (.pointer (some ⟨a.n,0,none⟩))) p { a with k:=a.n,gk:=a.gn } { q with gen:=x,root:=r,uk:=q.un } /\
  On B w (((w.setCell ⟨p,1,none⟩ (.int .u64 x)).setCell ⟨p,2,none⟩ (.int .i64 r)).setCell ⟨p,3,none⟩ (.pointer (some ⟨a.n,0,none⟩))):=by
 have b1:=heap_setCell_same w p 1 _ _ (.int .u64 x) h.blk;have b2:=heap_setCell_same _ p 2 _ _ (.int .i64 r) b1;have b3:=heap_setCell_same _ p 3 _ _ (.pointer (some ⟨a.n,0,none⟩)) b2;have e:∀ k,k≠p->(((w.setCell ⟨p,1,none⟩ (.int .u64 x)).setCell ⟨p,2,none⟩ (.int .i64 r)).setCell ⟨p,3,none⟩ (.pointer (some ⟨a.n,0,none⟩))).heap[k]? = w.heap[k]?:=by
  intro k hk;rw[Below.heap_setCell _ _ _ _ hk,Below.heap_setCell _ _ _ _ hk,Below.heap_setCell _ _ _ _ hk]
 obtain⟨p1,p2,p3,p4,p5,p6,p7,p8⟩:=h.ps;refine⟨⟨by rw[b3];rfl,h.disk.frame (fun k cs t fr hk hq=>by rw[e k (aB hk h.blk (qF hq).1)];exact hk),h.sn.same (e _ p5.symm) (e _ p6.symm),h.fm.same (e _ p7.symm),h.hm.same (e _ p8.symm),h.ne.2.2.2.2.2.2,⟨h.le.1,h.le.2.2.2.2.2.1,h.le.2.2.2.2.2.2.1,h.le.2.2.2.2.2.2.2.1,h.le.2.2.2.2.2.2.2.2⟩⟩,?_⟩;exact (((On.refl B w).setCell h.le.1 h.blk qG 1 _).setCell h.le.1 b1 qG 2 _).setCell h.le.1 b2 qG 3 _
theorem jM{s:Nat}{x y z:Value}(h:w.cell? ⟨p,5,none⟩=some x/\w.cell? ⟨s,0,none⟩=some y/\w.cell? ⟨s,1,none⟩=some z)(i:Nat)(v:Value)(hi:i≠5)(hs:p≠s) :
  (w.setCell ⟨p,i,none⟩ v).cell? ⟨p,5,none⟩=some x/\(w.setCell ⟨p,i,none⟩ v).cell? ⟨s,0,none⟩=some y/\(w.setCell ⟨p,i,none⟩ v).cell? ⟨s,1,none⟩=some z:=by
 refine⟨?_,?_,?_⟩
 ·rw[World.cell?_setCell_other (h:=show (⟨p,i,none⟩:Addr)≠⟨p,5,none⟩ from fun e=>hi (congrArg Addr.off e))];exact h.1
 ·rw[World.cell?_setCell_other (h:=show (⟨p,i,none⟩:Addr)≠⟨s,0,none⟩ from fun e=>hs (congrArg Addr.block e))];exact h.2.1
 ·rw[World.cell?_setCell_other (h:=show (⟨p,i,none⟩:Addr)≠⟨s,1,none⟩ from fun e=>hs (congrArg Addr.block e))];exact h.2.2
theorem Kg(k:GA B w p a q)(hB:B<=w.heap.size)(ok:Ok m q.disk)(hm:m<48000)(hd:q.doubt=false)(uu:∀ n,(nG q.fresh n).gen<18446744073709551616)(hg:q.gen<4611686018427387904)(root:Int)(hs:oV (q.gen+1) root)(d':Dk)(b:Bool)(hw:Hu q.fresh q.disk (keysOf q.fresh) (q.gen+1) root=(d',0,b))(hb:b=false):
 Calls Tryz.prog 35 #[.pointer (some ⟨p,0,none⟩),.int .i64 root] w fun r w'=>r=.returned (.int .i64 0)/\tZ B w' p a.d a.g (q.Xa d' root)/\On B w w':=by
 subst hb;obtain⟨c0,c1,c2,c3,c4,c5,c6,c7,c8,c9⟩:=k.cs;have f1:∀ W,Calls Tryz.prog 55 #[.agg #[.int .u64 ((q.gen:Int)+1),.int .i64 root]] W fun e w'=>e=.returned (.bool true)/\P.Kept W w':=fun W=>P.xU (q.gen+1) root hs W
 have f2:∀ W,D.Kept w W->Calls Tryz.prog 56 #[.pointer (some ⟨p,0,none⟩),.agg #[.int .u64 ((q.gen:Int)+1),.int .i64 root]] W fun r w'=>r=.returned (.int .i64 0)/\GA B w' p a { q with disk:=d',doubt:=false }/\On B W w':=fun W hW=>by
  have:=jI (k.kept hW) (aad hB hW.size) ok hm hd uu (q.gen+1) root;rw[hw]at this;exact this
 have Y0:=P.Sp.alloc w ((q.gen:Int)+1) root;clear hs hw uu;go_enter Tryz.func35,Tryz.ntmps35;go_wp2_with (first
  | (go_at_call 55;(with_reducible refine (f1 _).mono ?_);rintro r w2 ⟨rfl,k2⟩;have K2:D.Kept w w2:=D.Kept.trans ((D.Kept.refl _).alloc _) ⟨k2.out⟩;have Y2:=k2.sp Y0;obtain⟨y0,y1⟩:=Y2.cs)
  | (go_at_call 56;(with_reducible refine (f2 _ K2).mono ?_);rintro r w3 ⟨rfl,g3,n3⟩;have Y3:=ru Y2 n3;have N3:=(On.ax K2 hB).trans n3;obtain⟨d0,d1,d2,d3,d4,d5,d6,d7,d8,d9⟩:=g3.cs;obtain⟨D0,ho,hz0,hz1,hz2,hz3⟩:=g3.fm.few)
  | (at_range;refine wpList_range_own _ rfl _ 104 rfl 3 157 keyed Tryz.underlying104 _ a.mf _ _ rfl ho ?_;intro w4 Xb hg4 hs4)
  | go_in)
 go_frame;have K4:D.Kept w3 w4:=⟨(Below.refl _ w3).grown hg4 (aac _) (fun _ e=>by cases e)⟩;have HL:Hid (Lc B w p a q d' root (Maps.has D0) w4):=by
  refine⟨?_,⟨K4.block Y3.out⟩,N3.kept K4 hB⟩;rw[Nh q.fresh q.held _ hz1];exact g3.kept K4
 have HZ:Hid ((∀ k:Nat,Maps.has D0 (.int .i64 k)=(q.fresh k).isSome)/\∀ x:Int,Maps.has D0 (.int .i64 x)=true->∃ k:Nat,x=(k:Int)/\k<1024):=⟨hz1,hz3⟩;have hB3:=aad hB N3.size;clear g3 Y3 n3 N3 f1 f2 Y0 Y2 y0 y1 K2 d0 d1 d2 d3 d4 d5 d6 d7 d8 d9 c0 c1 c2 c3 c4 c5 c6 c7 c8 c9 hz0 hz1 hz2 hz3 ho;go_loopw [7] (fun _ wr=>∃ (left:Lit->Bool) (cnt:Nat),wr.ranges Tryz.prog 3 R4 a.mf w3.heap.size (Maps.size D0) D0 left cnt/\Lc B w p a q d' root left wr) (fun _ wr=>wr.rangeLeft a.mf w3.heap.size);case atStart=>exact⟨_,_,Xb,HL.out⟩
 case round=>
  obtain⟨left,cnt,hrg,LC⟩:=hrel;clear HL Xb hg4 hs4;have invK:∀ key kl,keyOf Tryz.prog 3 key=some kl->∃ x:Int,key=Value.int .i64 x:=fun key kl hk=>by obtain⟨x,e,_⟩:=Maps.keyOf_i64 Tryz.underlying3 hk;exact⟨x,e⟩
  have invV:∀ v y,R4 v=some y->∃ c:bG,v=c.val:=fun v y hv=>by obtain⟨c,e,_⟩:=EU hv;exact⟨c,e⟩
  go_wp2_with (first
   | (at_next;refine wpList_next_ranges _ rfl _ rfl 3 keyed R4 (fun x:Int=>Value.int .i64 x) bG.val invK invV a.mf w3.heap.size _ _ _ _ rfl hrg ?_ ?_)
   | go_in)
  ·intro hc0 hl0
   have g5:=LC.ga;rw[U8 q.fresh q.held left hl0]at g5;have s5:=LC.st;have N5:=LC.on;have YA:=aad hB N5.size;obtain⟨d0,d1,d2,d3,d4,d5,d6,d7,d8,d9⟩:=g5.cs;obtain⟨s50,s51⟩:=s5.cs;have hpw:p≠w.heap.size:=aB g5.blk s5.out (by decide);have z1:=g5.fz 1;have z2:=g5.fz 2;have z3:=g5.fz 3;obtain⟨gP,nP⟩:=GA.passed (w:=wr.drew) (g5.kept ((D.Kept.refl wr).drew)) (q.gen+1) root;have NP:=(N5.drew).trans nP;have fu:=Hz gP (aad hB NP.size);have fu':Calls Tryz.prog 37 #[.pointer (some ⟨p,0,none⟩)] (((wr.setCell ⟨p,1,none⟩ (.int .u64 ((q.gen:Int)+1))).setCell ⟨p,2,none⟩ (.int .i64 root)).setCell ⟨p,3,none⟩ (.pointer (some ⟨a.n,0,none⟩))).drew _:=fu;have fu2:Calls Tryz.prog 37 #[.pointer (some ⟨p,0,none⟩)] (((wr.setCell ⟨p,1,none⟩ (.int .u64 ((q.gen:Int)+1))).setCell ⟨p,2,none⟩ (.int .i64 root)).drew.setCell ⟨p,3,none⟩ (.pointer (some ⟨a.n,0,none⟩))) _:=fu;have t0:(wr).cell? ⟨p,5,none⟩=some (.pointer (some ⟨a.n,0,none⟩))/\(wr).cell? ⟨w.heap.size,0,none⟩=some (.int .u64 ((q.gen:Int)+1))/\(wr).cell? ⟨w.heap.size,1,none⟩=some (.int .i64 root):=⟨d5,s50,s51⟩;have t0d:(wr.drew).cell? ⟨p,5,none⟩=some (.pointer (some ⟨a.n,0,none⟩))/\(wr.drew).cell? ⟨w.heap.size,0,none⟩=some (.int .u64 ((q.gen:Int)+1))/\(wr.drew).cell? ⟨w.heap.size,1,none⟩=some (.int .i64 root):=t0;have t1:∀ u v,((wr.setCell ⟨p,1,none⟩ u).setCell ⟨p,2,none⟩ v).cell? ⟨p,5,none⟩=some (.pointer (some ⟨a.n,0,none⟩))/\((wr.setCell ⟨p,1,none⟩ u).setCell ⟨p,2,none⟩ v).cell? ⟨w.heap.size,0,none⟩=some (.int .u64 ((q.gen:Int)+1))/\((wr.setCell ⟨p,1,none⟩ u).setCell ⟨p,2,none⟩ v).cell? ⟨w.heap.size,1,none⟩=some (.int .i64 root):=fun u v=>jM (jM t0 1 u (by decide) hpw) 2 v (by decide) hpw
   have t1d:∀ u v,(((wr.setCell ⟨p,1,none⟩ u).setCell ⟨p,2,none⟩ v).drew).cell? ⟨p,5,none⟩=some (.pointer (some ⟨a.n,0,none⟩))/\(((wr.setCell ⟨p,1,none⟩ u).setCell ⟨p,2,none⟩ v).drew).cell? ⟨w.heap.size,0,none⟩=some (.int .u64 ((q.gen:Int)+1))/\(((wr.setCell ⟨p,1,none⟩ u).setCell ⟨p,2,none⟩ v).drew).cell? ⟨w.heap.size,1,none⟩=some (.int .i64 root):=fun u v=>t1 u v
   have t1p:∀ u v,((wr.drew.setCell ⟨p,1,none⟩ u).setCell ⟨p,2,none⟩ v).cell? ⟨p,5,none⟩=some (.pointer (some ⟨a.n,0,none⟩))/\((wr.drew.setCell ⟨p,1,none⟩ u).setCell ⟨p,2,none⟩ v).cell? ⟨w.heap.size,0,none⟩=some (.int .u64 ((q.gen:Int)+1))/\((wr.drew.setCell ⟨p,1,none⟩ u).setCell ⟨p,2,none⟩ v).cell? ⟨w.heap.size,1,none⟩=some (.int .i64 root):=fun u v=>jM (jM t0d 1 u (by decide) hpw) 2 v (by decide) hpw
   have t2:∀ u v x,(((wr.setCell ⟨p,1,none⟩ u).setCell ⟨p,2,none⟩ v).setCell ⟨p,3,none⟩ x).cell? ⟨p,5,none⟩=some (.pointer (some ⟨a.n,0,none⟩))/\(((wr.setCell ⟨p,1,none⟩ u).setCell ⟨p,2,none⟩ v).setCell ⟨p,3,none⟩ x).cell? ⟨w.heap.size,0,none⟩=some (.int .u64 ((q.gen:Int)+1))/\(((wr.setCell ⟨p,1,none⟩ u).setCell ⟨p,2,none⟩ v).setCell ⟨p,3,none⟩ x).cell? ⟨w.heap.size,1,none⟩=some (.int .i64 root):=fun u v x=>jM (t1 u v) 3 x (by decide) hpw
   have t2d:∀ u v x,((((wr.setCell ⟨p,1,none⟩ u).setCell ⟨p,2,none⟩ v).setCell ⟨p,3,none⟩ x).drew).cell? ⟨p,5,none⟩=some (.pointer (some ⟨a.n,0,none⟩))/\((((wr.setCell ⟨p,1,none⟩ u).setCell ⟨p,2,none⟩ v).setCell ⟨p,3,none⟩ x).drew).cell? ⟨w.heap.size,0,none⟩=some (.int .u64 ((q.gen:Int)+1))/\((((wr.setCell ⟨p,1,none⟩ u).setCell ⟨p,2,none⟩ v).setCell ⟨p,3,none⟩ x).drew).cell? ⟨w.heap.size,1,none⟩=some (.int .i64 root):=fun u v x=>t2 u v x
   have t2e:∀ u v x,((((wr.setCell ⟨p,1,none⟩ u).setCell ⟨p,2,none⟩ v).drew).setCell ⟨p,3,none⟩ x).cell? ⟨p,5,none⟩=some (.pointer (some ⟨a.n,0,none⟩))/\((((wr.setCell ⟨p,1,none⟩ u).setCell ⟨p,2,none⟩ v).drew).setCell ⟨p,3,none⟩ x).cell? ⟨w.heap.size,0,none⟩=some (.int .u64 ((q.gen:Int)+1))/\((((wr.setCell ⟨p,1,none⟩ u).setCell ⟨p,2,none⟩ v).drew).setCell ⟨p,3,none⟩ x).cell? ⟨w.heap.size,1,none⟩=some (.int .i64 root):=fun u v x=>jM (t1d u v) 3 x (by decide) hpw
   have t2p:∀ u v x,(((wr.drew.setCell ⟨p,1,none⟩ u).setCell ⟨p,2,none⟩ v).setCell ⟨p,3,none⟩ x).cell? ⟨p,5,none⟩=some (.pointer (some ⟨a.n,0,none⟩))/\(((wr.drew.setCell ⟨p,1,none⟩ u).setCell ⟨p,2,none⟩ v).setCell ⟨p,3,none⟩ x).cell? ⟨w.heap.size,0,none⟩=some (.int .u64 ((q.gen:Int)+1))/\(((wr.drew.setCell ⟨p,1,none⟩ u).setCell ⟨p,2,none⟩ v).setCell ⟨p,3,none⟩ x).cell? ⟨w.heap.size,1,none⟩=some (.int .i64 root):=fun u v x=>jM (t1p u v) 3 x (by decide) hpw
   clear LC hrg invK invV hl0 fu gP nP;go_wp2;go_region_held3 (fun W=>W.cell? ⟨p,5,none⟩=some (.pointer (some ⟨a.n,0,none⟩))/\W.cell? ⟨w.heap.size,0,none⟩=some (.int .u64 ((q.gen:Int)+1))/\W.cell? ⟨w.heap.size,1,none⟩=some (.int .i64 root)) (first | trivial|(with_reducible exact t0)|(with_reducible exact t0d)|(with_reducible exact t1 _ _)|(with_reducible exact t1d _ _)|(with_reducible exact t1p _ _)|(with_reducible exact t2 _ _ _)|(with_reducible exact t2d _ _ _)|(with_reducible exact t2e _ _ _)|(with_reducible exact t2p _ _ _)) (fail);go_wp2_with (first|(go_at_call 37;(with_reducible refine fu'.mono ?_);rintro r w9 ⟨rfl,g9,n9⟩)|(go_at_call 37;(with_reducible refine fu2.mono ?_);rintro r w9 ⟨rfl,g9,n9⟩));go_ret;exact⟨rfl,g9,NP.trans n9⟩
  ·intro x c kl y y' w1 cnt1 hkey hlk hv hat hrg1 hlt hg1 hs1 hen
   obtain⟨x',ex,rfl,hwf⟩:=Maps.keyOf_i64 Tryz.underlying3 hkey;obtain rfl:x=x':=by injection ex
   have hhas:=Maps.has_true_of_atKey hat;obtain⟨n,rfl,hn⟩:=HZ.out.2 x hhas;have hMn:(q.fresh n).isSome=true:=by rw[<- HZ.out.1];exact hhas
   obtain⟨ix,iy,iz,iu,hit⟩:=vZ hrg;obtain⟨g6,n6⟩:=LC.ga.iter hit hg1 hB3;have s6:=ru LC.st n6;have N6:=LC.on.trans n6;obtain⟨d0,d1,d2,d3,d4,d5,d6,d7,d8,d9⟩:=g6.cs;obtain⟨w7,Yz,m7,o7⟩:=g6.hm.drop n (by omega) 0;have dr:∀ ty,(Builtin.delete_ #[104,3] ty #[.map (some a.mh),.int .i64 (n:Nat)]).run Tryz.prog w1=.ok (.tuple #[]) w7:=fun ty=>Yz
   obtain⟨g7,n7⟩:=g6.onH o7 m7;have s7:=ru s6 n7;have N7:=N6.trans n7;have Xc:w7.ranges Tryz.prog 3 R4 a.mf w3.heap.size (Maps.size D0) D0 _ cnt1:=hrg1.kept (row:=some a.mh) ⟨(o7.below 0 (aag _)).os,(o7.below 0 (aag _)).tape,(o7.below 0 (aag _)).output,(o7.below 0 (aag _)).size,fun i _ hi=>o7.block i (fun e=>hi (by rw[e]))⟩ (fun e=>g6.ne.2.2.2.2.2.2 (aaq e)) (fun e=>by
    have e':=aaq e
    obtain⟨_,_,hb⟩:=g6.hm.block
    obtain⟨_,_,_,_,hi⟩:=vZ hrg1
    rw[e',hb]at hi
    injection hi with hi
    cases hi)
   have HS:Hid (Lc B w p a q d' root (fun z=>left z && !z.sameKey (.int .i64 (n:Nat))) w7):=⟨by rw[<- Rh q.fresh q.held left n hMn];exact g7,s7,N7⟩;obtain⟨ck,cn,cg,cs⟩:=c;dsimp only[bG.val]at hen ⊢;clear LC g6 g7 m7 o7 s6 s7 N6 N7 n6 n7 Yz hat hhas hkey hv hMn hwf hit invK invV ex;go_wp2;go_roundw;case rel=>exact⟨_,cnt1,Xc,HS.out⟩
   case measure=>rw[Xc.left_eq,hrg.left_eq];exact hlt
open D (rU Wr Ct fJ whole)
variable {g:Nat}{d:Dk}
theorem xY(h:aa B w b g d)(hB:B<=w.heap.size)(ok:Ok m d)(hm:m<49000)(hf:zW d)(hl:qZ d 2)(h2:2<=d.secs.length)(h64:d.secs.length<=1024){s0 s1:rU}(e0:d.secs[0]? = some s0)(e1:d.secs[1]? = some s1){o0 o1:Option (Nat×Int)}(k0:Sd (qK s0).1 0 o0)(k1:Sd (qK s1).1 1 o1)(x:Nat×Int)(hp:pick o0 o1=some x):
 Calls Tryz.prog 48 #[.pointer (some ⟨b,0,none⟩)] w fun e w'=>∃ p,e=.returned (.tuple #[.pointer (some ⟨p,0,none⟩),.int .i64 0])/\tZ B w' p b g (opened d.begin.begin x)/\On B w w':=by
 have r0:d.read 0=(d.begin,qK s0):=qL hf (hl.mono (by omega)) e0;have r1:d.begin.read 1=(d.begin.begin,qK s1):=qL (nU hf) (r9 hl) e1;have t:∀ s:rU,(qK s).2=0\/(qK s).2=41:=by intro s;unfold qK;cases s.tH <;> simp
 have f:=zI h hB ok hm (o0:=o0) (o1:=o1) (by rw[r0];exact t _) (by rw[r0];show (d.begin.read 1).2.2=0\/_;rw[r1];exact t _) (by rw[r0];exact k0) (by rw[r0];show Sd (d.begin.read 1).2.1 1 o1;rw[r1];exact k1) x hp;rw[r0]at f;dsimp only at f;rw[r1]at f;exact U6 hB (show 2<=d.begin.begin.secs.length from h2) (show d.begin.begin.secs.length<=1024 from h64) x.1 x.2 f
theorem Ri(n:Nat)(l:List Ct):zW (Dk.new n l):=⟨rfl,fun i s hs=>by
 have:s=⟨whole ⟨#[]⟩,false,0⟩:=List.eq_of_mem_replicate (aak hs)
 rw[this],rfl⟩
structure Mo (b:Nat) (w w':World):Prop where
 out:∀ (k:Nat) (es:Array MapEntry) (c:Nat),k≠b->w.heap[k]? = some (.map es c)->w'.heap[k]? = some (.map es c)
theorem Mo.trans{w2:World}(h:Mo b w w')(k:Mo b w' w2):Mo b w w2:=⟨fun x es c hx hm=>k.out x es c hx (h.out x es c hx hm)⟩
theorem Mo.ax(k:D.Kept w w'):Mo b w w':=⟨fun _ _ _ _ hm=>k.block hm⟩
theorem Mo.JO(o:D.On B w w'):Mo b w w':=⟨fun x es c _ hm=>o.maps x es c hm⟩
theorem Mo.one(o:One b w w'):Mo b w w':=⟨fun x _ _ hx hm=>(o.block x hx).trans hm⟩
theorem Mo.new{a:World}(h:Mo b a w){x:Nat}(hx:a.heap.size<=x)(i:Nat)(v:Value):Mo b a (w.setCell ⟨x,i,none⟩ v):=
 ⟨fun k es c hk hm=>(Below.heap_setCell w ⟨x,i,none⟩ v k (by have:=(aaa.1 hm).1;show k≠x;omega)).trans (h.out k es c hk hm)⟩
theorem Kh(h:GA B w p a q)(hB:B<=w.heap.size)(ok:Ok m q.disk)(hm:m<49000)(n:Nat)(h2:2<=n)(hn:n<1024)(hx0:q.fresh n=none)(hf:q.fails=q.disk.fails)(hh:q.held n=none)(l:List Nat)(hl:Small l)(ho:P.Ql l)(hS:(q.disk.read (n:Nat)).2=(bs l,0))(x:bG)(ex:x=⟨P.fK l,P.fN l,P.fG l,bs (P.fD l)⟩)(U9:P.fN l=n):
 Calls Tryz.prog 165 #[.pointer (some ⟨p,0,none⟩),.int .i64 n] w fun e w'=>e=.returned (.tuple #[x.val,.int .i64 0])/\GA B w' p a { q with disk:=(q.disk.read (n:Nat)).1,held:=eB q.held n x }/\On B w w'/\Mo a.mh w w':=by
 have Z0:=P.Pg.alloc w 0 0 0 ⟨#[]⟩ 157;have K1:D.Kept w (w.alloc (.cells #[.int .i64 0,.int .i64 0,.int .u64 0,.string ⟨#[]⟩] 157)):=(D.Kept.refl w).alloc _;have k1:=h.kept K1;obtain⟨c0,c1,c2,c3,c4,c5,c6,c7,c8,c9⟩:=k1.cs;have lk:=k1.fm.look n (by omega);rw[show nG q.fresh n=bG.zero by simp[nG,hx0],hx0]at lk;have lk1:(Instr.lookup 104 (.map (some a.mf)) (.int .i64 n) true).run Tryz.prog (w.alloc (.cells #[.int .i64 0,.int .i64 0,.int .u64 0,.string ⟨#[]⟩] 157))=.ok (.tuple #[.agg #[.int .i64 0,.int .i64 0,.int .u64 0,.string ⟨#[]⟩],.bool false]) (w.alloc (.cells #[.int .i64 0,.int .i64 0,.int .u64 0,.string ⟨#[]⟩] 157)):=lk;have K2:D.Kept w ((w.alloc (.cells #[.int .i64 0,.int .i64 0,.int .u64 0,.string ⟨#[]⟩] 157)).alloc (.cells #[.int .i64 0,.int .i64 0,.int .u64 0,.string ⟨#[]⟩] 157)):=K1.alloc _;have Z2:P.Pg ((w.alloc (.cells #[.int .i64 0,.int .i64 0,.int .u64 0,.string ⟨#[]⟩] 157)).alloc (.cells #[.int .i64 0,.int .i64 0,.int .u64 0,.string ⟨#[]⟩] 157)) w.heap.size 0 0 0 ⟨#[]⟩ 157:=((P.Kept.refl _).alloc _).pg Z0;have k2:=h.kept K2;have f1:=D.xI k2.disk;obtain⟨F,hF⟩:∃ F:Nat,q.disk.fails=F:=⟨_,rfl⟩;rw[hF]at f1;obtain⟨d0,d1,d2,d3,d4,d5,d6,d7,d8,d9⟩:=k2.cs;rw[<- hf]at hF;have d8':((w.alloc (.cells #[.int .i64 0,.int .i64 0,.int .u64 0,.string ⟨#[]⟩] 157)).alloc (.cells #[.int .i64 0,.int .i64 0,.int .u64 0,.string ⟨#[]⟩] 157)).cell? ⟨p,8,none⟩=some (.int .i64 F):=by rw[<- hF];exact d8
 clear d8;have Zv:=k2.hm.look n (by omega);rw[show nG q.held n=bG.zero by simp[nG,hh],hh]at Zv;have k4:=k2;have Z4:=Z2;have N4:=On.ax K2 hB;have lh:(Instr.lookup 104 (.map (some a.mh)) (.int .i64 n) true).run Tryz.prog ((w.alloc (.cells #[.int .i64 0,.int .i64 0,.int .u64 0,.string ⟨#[]⟩] 157)).alloc (.cells #[.int .i64 0,.int .i64 0,.int .u64 0,.string ⟨#[]⟩] 157))=.ok (.tuple #[.agg #[.int .i64 0,.int .i64 0,.int .u64 0,.string ⟨#[]⟩],.bool false]) ((w.alloc (.cells #[.int .i64 0,.int .i64 0,.int .u64 0,.string ⟨#[]⟩] 157)).alloc (.cells #[.int .i64 0,.int .i64 0,.int .u64 0,.string ⟨#[]⟩] 157)):=Zv;have K5:D.Kept ((w.alloc (.cells #[.int .i64 0,.int .i64 0,.int .u64 0,.string ⟨#[]⟩] 157)).alloc (.cells #[.int .i64 0,.int .i64 0,.int .u64 0,.string ⟨#[]⟩] 157)) (((w.alloc (.cells #[.int .i64 0,.int .i64 0,.int .u64 0,.string ⟨#[]⟩] 157)).alloc (.cells #[.int .i64 0,.int .i64 0,.int .u64 0,.string ⟨#[]⟩] 157)).alloc (.cells #[.int .i64 0,.int .i64 0,.int .u64 0,.string ⟨#[]⟩] 157)):=(D.Kept.refl _).alloc _;have k5:=k4.kept K5;have Z5:P.Pg (((w.alloc (.cells #[.int .i64 0,.int .i64 0,.int .u64 0,.string ⟨#[]⟩] 157)).alloc (.cells #[.int .i64 0,.int .i64 0,.int .u64 0,.string ⟨#[]⟩] 157)).alloc (.cells #[.int .i64 0,.int .i64 0,.int .u64 0,.string ⟨#[]⟩] 157)) w.heap.size 0 0 0 ⟨#[]⟩ 157:=P.Kept.pg ⟨K5.out⟩ Z4;obtain⟨i0,i1,i2,i3,i4,i5,i6,i7,i8,i9⟩:=k5.cs;have N5:=N4.kept K5 hB;have YA:=aad hB N5.size;have M5:Mo a.mh w (((w.alloc (.cells #[.int .i64 0,.int .i64 0,.int .u64 0,.string ⟨#[]⟩] 157)).alloc (.cells #[.int .i64 0,.int .i64 0,.int .u64 0,.string ⟨#[]⟩] 157)).alloc (.cells #[.int .i64 0,.int .i64 0,.int .u64 0,.string ⟨#[]⟩] 157)):=Mo.ax (K2.trans K5)
 have HM5:Hid (Mo a.mh w (((w.alloc (.cells #[.int .i64 0,.int .i64 0,.int .u64 0,.string ⟨#[]⟩] 157)).alloc (.cells #[.int .i64 0,.int .i64 0,.int .u64 0,.string ⟨#[]⟩] 157)).alloc (.cells #[.int .i64 0,.int .i64 0,.int .u64 0,.string ⟨#[]⟩] 157))):=M5;clear M5;have f2:=D.jJ k5.disk YA ok (by omega) (n:Nat);have f3:∀ W,Calls Tryz.prog 176 #[.string (bs l)] W fun e w'=>e=.returned (.tuple #[.agg #[.int .i64 (P.fK l:Nat),.int .i64 n,.int .u64 (P.fG l:Nat),.string (bs (P.fD l))],.int .i64 0])/\P.Kept W w':=fun W=>by rw[<- U9];exact P.Bq l hl ho W
 subst ex;rw[U9];rw[hS]at f2
 generalize bs l=S at f2 f3;generalize bs (P.fD l)=xs at f3 ⊢;generalize P.fK l=xk at f3 ⊢;generalize P.fG l=xg at f3 ⊢;clear hx0 lk hS U9 hl ho Zv hf hF hh d1 d2 d3 d4 d5 d6 d9;dsimp only at f2;have HF:Hid True:=trivial;go_enter Tryz.func165,Tryz.ntmps165;go_wp2_with (first
  | (go_at_call 206;(with_reducible refine f1.mono ?_);rintro e w1 ⟨rfl,hw1⟩;rw[hw1];clear hw1)
  | (go_at_call 100;(with_reducible refine f2.mono ?_);rintro e w6 ⟨rfl,D6,o6⟩;have k6:=k5.EK o6 D6;have Z6:=Pg.EK Z5 o6;have N6:=N5.trans (On.JO o6);have HM6:Hid (Mo a.mh w w6):=HM5.out.trans (Mo.JO o6))
  | (go_at_call 176;(with_reducible refine (f3 _).mono ?_);rintro e w7 ⟨rfl,K7⟩;have Y8:=P.Pg.alloc w7 (xk:Nat) (n:Nat) (xg:Nat) xs 157;have K8:D.Kept w6 (w7.alloc (.cells #[.int .i64 xk,.int .i64 n,.int .u64 xg,.string xs] 157)):=D.Kept.trans ⟨K7.out⟩ ((D.Kept.refl w7).alloc _);have k8:=k6.kept K8;have Z8:P.Pg _ w.heap.size 0 0 0 ⟨#[]⟩ 157:=P.Kept.pg ⟨K8.out⟩ Z6;have N8:=N6.kept K8 hB;have HM8:Hid (Mo a.mh w (w7.alloc (.cells #[.int .i64 xk,.int .i64 n,.int .u64 xg,.string xs] 157))):=HM6.out.trans (Mo.ax K8);obtain⟨j0,j1,j2,j3,j4,j5,j6,j7,j8,j9⟩:=k8.cs;obtain⟨y0,y1,y2,y3⟩:=Y8.cs;obtain⟨w9,st0,m9,o9⟩:=iP.store (w:=(w7.alloc (.cells #[.int .i64 xk,.int .i64 n,.int .u64 xg,.string xs] 157)).drew) (k8.hm.same rfl) n hn ⟨xk,n,xg,xs⟩;have st:(Instr.mapUpdate 104 (.map (some a.mh)) (.int .i64 n) (.agg #[.int .i64 xk,.int .i64 n,.int .u64 xg,.string xs])).run Tryz.prog (w7.alloc (.cells #[.int .i64 xk,.int .i64 n,.int .u64 xg,.string xs] 157)).drew=.ok () w9:=st0;clear st0))
 have YD:One a.mh (w7.alloc (.cells #[.int .i64 xk,.int .i64 n,.int .u64 xg,.string xs] 157)) w9:=⟨fun X hX=>⟨(o9.below X hX).os,(o9.below X hX).tape,(o9.below X hX).output,(o9.below X hX).size,(o9.below X hX).block⟩,o9.size,o9.block⟩;have MA:=(((((HM8.out.trans (Mo.one YD)).new (aac w.heap.size) 0 (.int .i64 xk)).new (aac w.heap.size) 1 (.int .i64 n)).new (aac w.heap.size) 2 (.int .u64 xg)).new (aac w.heap.size) 3 (.string xs));have HMA:Hid (Mo a.mh w ((((w9.setCell ⟨w.heap.size,0,none⟩ (.int .i64 xk)).setCell ⟨w.heap.size,1,none⟩ (.int .i64 n)).setCell ⟨w.heap.size,2,none⟩ (.int .u64 xg)).setCell ⟨w.heap.size,3,none⟩ (.string xs))):=MA;clear MA;have Z9:=Pg.one Z8 k8.hm YD;have Y9:=Pg.one Y8 k8.hm YD;obtain⟨k9,n9⟩:=k8.onH YD m9;have N9:=N8.trans n9;have j7':w9.cell? ⟨p,7,none⟩=some (.map (some a.mh)):=k9.cs.2.2.2.2.2.2.2.1;obtain⟨y90,y91,y92,y93⟩:=Y9.cs;obtain⟨⟨z0,h0⟩,⟨z1,h1⟩,⟨z2,Wo⟩,z3,h3⟩:=Z9.ready (xk:Nat) (n:Nat) (xg:Nat);obtain⟨kA,NA⟩:=M4 k9 Z9 N9 hB (aac _) (xk:Nat) (n:Nat) (xg:Nat) xs;have rA:=(Z9.fill (xk:Nat) (n:Nat) (xg:Nat) xs).out;go_region_held3 (fun W=>W.cell? ⟨p,7,none⟩=some (.map (some a.mh))/\W.cell? ⟨w7.heap.size,0,none⟩=some (.int .i64 xk)/\W.cell? ⟨w7.heap.size,1,none⟩=some (.int .i64 n)/\W.cell? ⟨w7.heap.size,2,none⟩=some (.int .u64 xg)/\W.cell? ⟨w7.heap.size,3,none⟩=some (.string xs)) (first | trivial | go_keep) (fail);all_goals go_wp2
 all_goals refine bodyPost_ret (v:=.tuple #[.agg #[.int .i64 xk,.int .i64 n,.int .u64 xg,.string xs],.int .i64 0]) ?_ rfl ⟨rfl,kA,NA,HMA.out⟩
 all_goals exact P.af (p:=4) (u:=5) (ty:=157) rfl _ _ w.heap.size 157 _ (0,0) _ rfl rA Tryz.underlying157 rfl P.jS
variable {M:Nat->Option bG}
theorem Va(h:Ok m d)(l:List Nat)(g:Nat)(r:Int):Ok (m+l.length+3) (Hu M d l g r).1:=by
 have h1:=Fz (M:=M) l h;unfold Hu;split
 ·exact Ok.mono h1 (by omega)
 ·split
  ·exact Ok.mono (qY h1) (by omega)
  ·exact Ok.mono (Hr (qY h1) g r) (by omega)
theorem Rj(M:Nat->Option bG):(keysOf M).Pairwise (·≠·):=(vC M).imp (fun {a b} h=>by omega)
theorem wh{d:Nat}(h:tZ B w p d g q)(hB:B<=w.heap.size)(ok:Ok m q.disk)(hm:m<48000)(hd:q.doubt=false)(uu:∀ n,(nG q.fresh n).gen<18446744073709551616)(hg:q.gen<4611686018427387904)(root:Int)(hs:oV (q.gen+1) root)(hf:zW q.disk)(hl:qZ q.disk ((keysOf q.fresh).length+3))(hk:∀ n∈keysOf q.fresh,n<q.disk.secs.length)(h2:2<=q.disk.secs.length) :
  ∃ d1 d',M6 q.disk (Na q.fresh (keysOf q.fresh)) d1/\M6 d1 [⟨(q.gen+1) % 2,bs (fZ (q.gen+1) root)⟩] d'/\Ok (m+(keysOf q.fresh).length+3) d' /\
   Calls Tryz.prog 35 #[.pointer (some ⟨p,0,none⟩),.int .i64 root] w fun r w'=>r=.returned (.int .i64 0)/\tZ B w' p d g (q.Xa d' root)/\On B w w':=by
 obtain⟨d1,d',e,w1,w2⟩:=Nc q.fresh hf hl (Rj _) hk h2 (q.gen+1) root hs;have ok':=Va (M:=q.fresh) ok (keysOf q.fresh) (q.gen+1) root;rw[e]at ok';obtain⟨a,rfl,rfl,k⟩:=h.out;exact⟨d1,d',w1,w2,ok',Kg k hB ok hm hd uu hg root hs d' false e rfl⟩
theorem xZ{k:Int}{s:ByteArray}(h:M n=some ⟨k,n,g,s⟩)(h1:1<=k)(h4:k<=4)(hn:n<16384)(hs:s.size<=237)(hg:g<18446744073709551616) :
  ∃ l,Small l/\P.Ql l/\whole (bq M n)=bs l/\(⟨k,n,g,s⟩:bG)=⟨P.fK l,P.fN l,P.fG l,bs (P.fD l)⟩/\P.fN l=n:=by
 have ea:nG M n=⟨k,n,g,s⟩:=by simp[nG,h]
 have hm:P.May k (n:Nat) (P.un s):=⟨h1,h4,by omega,by omega,by rw[P.dL];exact hs⟩;obtain⟨o1,o2,o3,o4,o5⟩:=P.CV k (n:Nat) g (P.un s) hm hg;have e1:bq M n=bs (P.jX k (n:Nat) g (P.un s)):=by unfold bq;rw[ea]
 have e2:(P.jX k ((n:Nat):Int) g (P.un s)).length=256:=by rw[P.qw hm];exact P.ji _ _ _ _ (by rw[P.dL];exact hs)
 refine⟨P.jX k (n:Nat) g (P.un s),P.rW _ _ _ (P.xN s),o1,?_,?_,by omega⟩
 ·rw[e1];exact xW _ (by rw[P.au,e2])
 ·rw[o2,o3,o4,o5,P.rH]
theorem Kj(h:GA B w p a q)(hB:B<=w.heap.size)(ok:Ok m q.disk)(hm:m<49000)(n:Nat)(h2:2<=n)(hn:n<1024)(hx0:q.fresh n=none)(hf:q.fails=q.disk.fails)(hh:q.held n=none)(hfl:zW q.disk)(hl:qZ q.disk 1){M:Nat->Option bG}{k:Int}{g:Nat}{s:ByteArray}(hM:M n=some ⟨k,n,g,s⟩)(h1:1<=k)(h4:k<=4)(hs:s.size<=237)(hg:g<18446744073709551616)(Zw:q.disk.secs[n]? = some ⟨whole (bq M n),false,0⟩) :
  ∀ W,D.Kept w W->Calls Tryz.prog 165 #[.pointer (some ⟨p,0,none⟩),.int .i64 n] W fun e w'=>e=.returned (.tuple #[(⟨k,n,g,s⟩:bG).val,.int .i64 0])/\GA B w' p a { q with disk:=q.disk.begin,held:=eB q.held n ⟨k,n,g,s⟩ }/\On B W w'/\Mo a.mh W w':=by
 intro W hW;obtain⟨l,hl1,ho,ew,ex,en⟩:=xZ hM h1 h4 (by omega) hs hg;have er:=qL hfl hl Zw;have:=Kh (h.kept hW) (aad hB hW.size) ok hm n h2 hn hx0 hf hh l hl1 ho (by rw[er,<- ew];rfl) _ ex en;rw[er]at this;exact this
end Go.Proofs.YtifeihnhkbagpaaGreatDoor.G
namespace Go.Proofs.YtifeihnhkbagpaaGreatDoor.Ch
open ChangeShapes WideShapes ChangeAt RowKit
open Go.Proofs.YtifeihnhkbagpaaGreatDoor.D (Dk aa fJ Ok)
open G (qZ Ht vX xY uw uz Hy opened nU)
open N (Kept)
def need (n:Nat):Nat:=(n+233) / 234
theorem Kk(n:Int)(h:n<=0)(w:World):Calls Tryz.prog 127 #[.int .i64 n] w fun e w'=>e=.returned (.int .i64 0)/\w'=w:=by
 go_enter Tryz.func127,Tryz.ntmps127;go_wp2;go_ret;exact⟨rfl,rfl⟩
theorem Kl(n:Nat)(h:0<n)(hn:n<1099511627776)(w:World):Calls Tryz.prog 127 #[.int .i64 n] w fun e w'=>e=.returned (.int .i64 (need n:Nat))/\w'=w:=by
 have e1:((n:Int)-1).tdiv 234=((need n:Nat):Int)-1:=by rw[Int.tdiv_eq_ediv_of_nonneg (by omega)];unfold need;omega
 have e2:need n<1099511627776:=by unfold need;omega
 have e3:0<need n:=by unfold need;omega
 generalize need n=k at *;go_enter Tryz.func127,Tryz.ntmps127;go_wp2;go_ret;exact⟨by go_num,rfl⟩
theorem Km(n:Nat)(hn:n<1099511627776)(w:World):Calls Tryz.prog 127 #[.int .i64 n] w fun e w'=>e=.returned (.int .i64 (need n:Nat))/\w'=w:=by
 by_cases h:n=0
 ·subst h;exact Kk 0 (by omega) w
 ·exact Kl n (by omega) hn w
theorem yc(n:Nat)(h:0<n)(h2:n<=65536)(w:World):Calls Tryz.prog 126 #[.int .i64 n] w fun e w'=>e=.returned (.bool true)/\w'=w:=by
 have h':0<(n:Int):=by omega
 have h2':(n:Int)<=65536:=by omega
 go_enter Tryz.func126,Tryz.ntmps126;go_wp2;go_ret;exact⟨rfl,rfl⟩
theorem Dm(n:Nat)(h:2<=n)(h2:n<16384)(w:World):Calls Tryz.prog 170 #[.int .i64 n] w fun e w'=>e=.returned (.bool true)/\w'=w:=by
 have h':2<=(n:Int):=by omega
 have h2':(n:Int)<16384:=by omega
 go_enter Tryz.func170,Tryz.ntmps170;go_wp2;go_ret;exact⟨rfl,rfl⟩
variable {w:World}{b:Nat}{k:Int}
theorem index_first(hc:w.cell? ⟨b,0,none⟩=some (.int .i64 k)):Calls Tryz.prog 207 #[.slice (some ⟨b,0,none⟩) 1 1,.int .i64 k] w fun e w'=>e=.returned (.int .i64 0)/\w'=w:=by
 go_enter Tryz.func207,Tryz.ntmps207;go_wp2;refine wp_loop_rounds 1 ?_;rw[rounds_succ];go_wp2;go_ret;exact⟨rfl,rfl⟩
theorem yf(hc:w.cell? ⟨b,0,none⟩=some (.int .i64 k)):Calls Tryz.prog 166 #[.slice (some ⟨b,0,none⟩) 1 1,.int .i64 k] w fun e w'=>e=.returned (.bool true)/\w'=w:=by
 have f:=index_first hc;go_enter Tryz.func166,Tryz.ntmps166;go_wp2_with (go_at_call 207;(with_reducible refine f.mono ?_);rintro e w1 ⟨rfl,hw1⟩;rw[hw1];clear hw1);go_ret;exact⟨rfl,rfl⟩
variable {B p:Nat}{a:G.Ad}{q:G.Pq}
theorem yg(h:G.GA B w p a q)(n:Nat)(hn:n<1024)(x:G.bG)(hx:q.fresh n=some x):
 Calls Tryz.prog 165 #[.pointer (some ⟨p,0,none⟩),.int .i64 n] w fun e w'=>e=.returned (.tuple #[x.val,.int .i64 0])/\N.Kept w w':=by
 have K1:D.Kept w (w.alloc (.cells #[.int .i64 0,.int .i64 0,.int .u64 0,.string ⟨#[]⟩] 157)):=(D.Kept.refl w).alloc _;have k1:=h.kept K1;obtain⟨c0,c1,c2,c3,c4,c5,c6,c7,c8,c9⟩:=k1.cs;have lk:=k1.fm.look n (by omega);rw[show G.nG q.fresh n=x by simp[G.nG,hx],hx]at lk;obtain⟨xk,xn,xg,xs⟩:=x;dsimp only[G.bG.val,Option.isSome_some]at lk;have Z0:=P.Pg.alloc w 0 0 0 ⟨#[]⟩ 157;have K2:P.Kept (w.alloc (.cells #[.int .i64 0,.int .i64 0,.int .u64 0,.string ⟨#[]⟩] 157)) ((w.alloc (.cells #[.int .i64 0,.int .i64 0,.int .u64 0,.string ⟨#[]⟩] 157)).alloc (.cells #[.int .i64 xk,.int .i64 xn,.int .u64 xg,.string xs] 157)):=(P.Kept.refl _).alloc _;have Z1:=K2.pg Z0;obtain⟨⟨z0,h0⟩,⟨z1,h1⟩,⟨z2,h2⟩,z3,h3⟩:=Z1.ready xk xn xg;clear hx;go_enter Tryz.func165,Tryz.ntmps165;go_wp2;have K:N.Kept w ((w.alloc (.cells #[.int .i64 xk,.int .i64 xn,.int .u64 xg,.string xs] 157)).alloc (.cells #[.int .i64 xk,.int .i64 xn,.int .u64 xg,.string xs] 157)):=((N.Kept.refl w).alloc _).alloc _;refine bodyPost_ret (v:=.tuple #[.agg #[.int .i64 xk,.int .i64 xn,.int .u64 xg,.string xs],.int .i64 0]) ?_ rfl ⟨rfl,K⟩;exact P.af (p:=4) (u:=5) (ty:=157) rfl _ _ w.heap.size 157 _ (0,0) _ rfl (((P.Kept.refl _).alloc _).pg (P.Pg.alloc w xk xn xg xs 157)).out Tryz.underlying157 rfl P.jS
variable {w':World}
theorem bS(h:Kept w w'){b:Nat}(hb:w.heap.size<=b)(v0 v1 v2 v3:Value):Kept w ((((w'.setCell ⟨b,0,none⟩ v0).setCell ⟨b,1,none⟩ v1).setCell ⟨b,2,none⟩ v2).setCell ⟨b,3,none⟩ v3):=
 ⟨(((h.out.setCell hb _).setCell hb _).setCell hb _).setCell hb _⟩
theorem yh{kb n:Nat}{fr:Nat×Nat}(h:G.GA B w p a q)(hn:n<1024)(xk:Int)(hk:w.heap[kb]? = some (.cells #[.int .i64 xk] 3 fr))(xn:Int)(xg:Nat)(xs:ByteArray)(hx:q.fresh n=some ⟨xk,xn,xg,xs⟩):
 Calls Tryz.prog 131 #[.pointer (some ⟨p,0,none⟩),.int .i64 n,.slice (some ⟨kb,0,none⟩) 1 1] w fun e w'=>e=.returned (.tuple #[.agg #[.int .i64 xk,.int .i64 xn,.int .u64 xg,.string xs],.int .i64 0])/\N.Kept w w':=by
 have f:∀ W,D.Kept w W->Calls Tryz.prog 165 #[.pointer (some ⟨p,0,none⟩),.int .i64 n] W fun e w'=>e=.returned (.tuple #[.agg #[.int .i64 xk,.int .i64 xn,.int .u64 xg,.string xs],.int .i64 0])/\N.Kept W w':=fun W hW=>yg (h.kept hW) n hn _ hx
 have Z0:=P.Pg.alloc w 0 0 0 ⟨#[]⟩ 157;have K1:D.Kept w (w.alloc (.cells #[.int .i64 0,.int .i64 0,.int .u64 0,.string ⟨#[]⟩] 157)):=(D.Kept.refl w).alloc _;have f1:=f _ K1;have f2:∀ W:World,W.heap[kb]? = some (.cells #[.int .i64 xk] 3 fr)->Calls Tryz.prog 166 #[.slice (some ⟨kb,0,none⟩) 1 1,.int .i64 xk] W fun e w'=>e=.returned (.bool true)/\w'=W:=fun W hc=>yf (by rw[cell_of_row _ kb _ _ _ _ hc];rfl)
 clear h hx f;go_enter Tryz.func131,Tryz.ntmps131;go_wp2_with (first
  | (go_at_call 165;(with_reducible refine f1.mono ?_);rintro e w1 ⟨rfl,k1⟩;have Z1:P.Pg w1 w.heap.size 0 0 0 ⟨#[]⟩ 157:=P.Kept.pg ⟨k1.out⟩ Z0;have K2:P.Kept w1 (w1.alloc (.cells #[.int .i64 xk,.int .i64 xn,.int .u64 xg,.string xs] 157)):=(P.Kept.refl w1).alloc _;have Z2:=K2.pg Z1;have Y2:=P.Pg.alloc w1 xk xn xg xs 157;have kk:N.Kept w w1:=N.Kept.trans ⟨K1.out⟩ k1;have f3:=f2 (w1.alloc (.cells #[.int .i64 xk,.int .i64 xn,.int .u64 xg,.string xs] 157)) (((kk.alloc _).out.block kb (aaa.1 hk).1).trans hk);obtain⟨y0,y1,y2,y3⟩:=Y2.cs;obtain⟨⟨z0,h0⟩,⟨z1,h1⟩,⟨z2,h2⟩,z3,h3⟩:=Z2.ready xk xn xg;have rA:=(Z2.fill xk xn (xg:Nat) xs).out)
  | (go_at_call 166;(with_reducible refine f3.mono ?_);rintro e w2 ⟨rfl,hw2⟩;rw[hw2];clear hw2))
 refine bodyPost_ret (v:=.tuple #[.agg #[.int .i64 xk,.int .i64 xn,.int .u64 xg,.string xs],.int .i64 0]) ?_ rfl ⟨rfl,bS (kk.alloc _) (aac _) _ _ _ _⟩;exact P.af (p:=6) (u:=7) (ty:=157) rfl _ _ w.heap.size 157 _ (0,0) _ rfl rA Tryz.underlying157 rfl P.jS
open N (Rd On bs ae)
variable {W:World}{c0 c1:Value}{t:TypeId}
theorem Vb(h0:W.heap[b]? = some (.cells #[c0,c1] t))(v0 v1:Value) :
  (W.cell? ⟨b,0,none⟩=some c0/\W.frozen? ⟨b,0,none⟩=false) /\
  ((W.setCell ⟨b,0,none⟩ v0).cell? ⟨b,1,none⟩=some c1/\(W.setCell ⟨b,0,none⟩ v0).frozen? ⟨b,1,none⟩=false) /\
  ((W.setCell ⟨b,0,none⟩ v0).setCell ⟨b,1,none⟩ v1).heap[b]? = some (.cells #[v0,v1] t):=by
 have h1:(W.setCell ⟨b,0,none⟩ v0).heap[b]? = some (.cells #[v0,c1] t):=by rw[heap_setCell_same _ b 0 _ _ _ h0];rfl
 have h2:((W.setCell ⟨b,0,none⟩ v0).setCell ⟨b,1,none⟩ v1).heap[b]? = some (.cells #[v0,v1] t):=by rw[heap_setCell_same _ b 1 _ _ _ h1];rfl
 exact⟨⟨by rw[cell_of_row _ b 0 _ _ _ h0];rfl,frozen_of_row _ b 0 _ _ h0⟩,⟨by rw[cell_of_row _ b 1 _ _ _ h1];rfl,frozen_of_row _ b 1 _ _ h1⟩,h2⟩
theorem Vd(h:W.heap[b]? = some (.cells #[c0,c1] t)) :
  W.cell? ⟨b,0,none⟩=some c0/\W.cell? ⟨b,1,none⟩=some c1:=
 ⟨by rw[cell_of_row _ b 0 _ _ _ h];rfl,by rw[cell_of_row _ b 1 _ _ _ h];rfl⟩
theorem Rk(W:World){b k:Nat}(h:k≠b)(v0 v1:Value):((W.setCell ⟨b,0,none⟩ v0).setCell ⟨b,1,none⟩ v1).heap[k]? = W.heap[k]?:=by
 rw[heap_setCell_other _ ⟨b,1,none⟩ k _ h,heap_setCell_other _ ⟨b,0,none⟩ k _ h]
structure C2 (w:World) (b:Nat) (t:TypeId) (a0 a1:Value):Prop where
 out:w.heap[b]? = some (.cells #[a0,a1] t)
variable {a0 a1:Value}
theorem C2.kept(k:C2 w b t a0 a1)(h:Kept w w'):C2 w' b t a0 a1:=⟨h.block k.out⟩
theorem C2.alloc(w:World)(t:TypeId)(a0 a1:Value):C2 (w.alloc (.cells #[a0,a1] t)) w.heap.size t a0 a1:=⟨heap_alloc_new w _⟩
theorem C2.cs(k:C2 w b t a0 a1):w.cell? ⟨b,0,none⟩=some a0/\w.cell? ⟨b,1,none⟩=some a1:=Vd k.out
theorem C2.lt(k:C2 w b t a0 a1):b<w.heap.size:=(aaa.1 k.out).1
theorem C2.on(k:C2 w b t a0 a1)(h:On B w w')(hb:b<B):C2 w' b t a0 a1:=⟨(h.out.block b hb).trans k.out⟩
theorem Rl{w1 w2:World}(k:Kept w w1)(h:On B w1 w2)(hb:w.heap.size<=B):Kept w w2:=⟨k.out.trans (h.out.mono hb)⟩
theorem Ni:(Tryz.prog.info? 215).map (·.size)=some 2:=by kernel_rfl
theorem size_alloc(w:World)(o:Obj):(w.alloc o).heap.size=w.heap.size+1:=Array.size_push ..
theorem Kn(s:ByteArray)(n:Nat)(hs:s.size=n)(hn:n<=234):
 Calls Tryz.prog 134 #[.agg #[.int .i64 (-1),.string s],.int .i64 n] w fun e w'=>e=.returned (.bool true)/\Kept w w':=by
 obtain⟨c0,c1⟩:=(C2.alloc w 215 (.int .i64 (-1)) (.string s)).cs;have K0:Kept w (w.alloc (.cells #[.int .i64 (-1),.string s] 215)):=(Kept.refl w).alloc _;have e1:min (n:Int) 234=(n:Int):=by omega
 have hs':(s.size:Int)=(n:Int):=by omega
 subst hs;have e3:Hid ((s.size:Int)<=234):=by show (s.size:Int)<=234;omega
 go_enter Tryz.func134,Tryz.ntmps134;go_wp2;go_ret;exact⟨by rw[show (decide ((s.size:Int)<=234))=true from decide_eq_true e3.out];rfl,K0⟩
