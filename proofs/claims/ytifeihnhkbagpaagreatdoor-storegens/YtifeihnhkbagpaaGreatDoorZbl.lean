/- Joined. -/
import Derived.Test.YtifeihnhkbagpaaGreatDoorZbk
set_option maxRecDepth 100000
set_option maxHeartbeats 4000000
namespace Go.Proofs.YtifeihnhkbagpaaGreatDoor.T
open ChangeShapes WideShapes ChangeAt RowKit
open B (IY DV Ox ig Pm pt kG Stp nI Ext Pn RZ jC us jn Ai Lv Sg Pf Mk En upd pre post fm iB mq Tr Tree bN path bF iI iU cA cC)
open N (Nd NV NZ Nw Rw Rx Own Kept dA dQ aO Vl C4 Up blk)
variable {w:World}{n cap:Nat}{L:List Sm}
theorem Pj{qb qo k:Nat}{z:Sm}(h:EN w (some ⟨qb,qo,none⟩) n cap L)(hz:L[k]? = some z) :
  w.cell? ⟨qb,qo+k*6,none⟩=some (.int .i64 z.page)/\w.cell? ⟨qb,qo+k*6+1,none⟩=some (.bool z.l)/\w.cell? ⟨qb,qo+k*6+2,none⟩=some (.slice z.kp z.nk z.kc)/\w.cell? ⟨qb,qo+k*6+3,none⟩=some (.slice z.vp z.nv z.vc)/\w.cell? ⟨qb,qo+k*6+4,none⟩=some (.slice z.ip z.ni z.ic)/\w.cell? ⟨qb,qo+k*6+5,none⟩=some (.int .i64 z.kid):=by
 rcases h.row.out with⟨h0,_⟩|⟨b,off,e,f⟩
 ·cases h0
 injection e with e
 injection e with e1 e2
 subst e1;subst e2;refine⟨f (k*6+0) _ (by rw[mD L k z hz 0 (by decide)];rfl),f (k*6+1) _ (by rw[mD L k z hz 1 (by decide)];rfl),f (k*6+2) _ (by rw[mD L k z hz 2 (by decide)];rfl),f (k*6+3) _ (by rw[mD L k z hz 3 (by decide)];rfl),f (k*6+4) _ (by rw[mD L k z hz 4 (by decide)];rfl),f (k*6+5) _ (by rw[mD L k z hz 5 (by decide)];rfl)⟩
theorem Pk{l:List Nat}(h:l.Nodup){i a:Nat}(hi:l[i]? = some a):a∉l.take i:=by
 intro hm;obtain⟨j,hj,e⟩:=List.mem_iff_getElem.1 hm;rw[aam]at hj;rw[List.getElem_take]at e;obtain⟨h1,h2⟩:=aal.1 hi;have:=(List.pairwise_iff_getElem.1 h) j i (by omega) h1 (by omega);exact this (e.trans h2.symm)
variable {M:Pm}
theorem Gone.swap{D J:List Nat}(h:Gone M (D++J.reverse)):Gone M (D++J)/\kG M (D++J.reverse)=kG M (D++J):=by
 refine⟨⟨?_,fun q hq=>h.is q (by simpa using hq)⟩,?_⟩
 ·have:=h.nd
  rw[List.nodup_append]at this ⊢;refine⟨this.1,(List.pairwise_reverse.1 this.2.1).imp Ne.symm,fun a ha b hb=>this.2.2 a ha b (by simpa using hb)⟩
 ·funext q;simp[kG]
theorem Gone.at{D:List Nat}(h:Gone M D){i a:Nat}(hi:D[i]? = some a):∃ z,kG M (D.take i) a=some z/\kG (kG M (D.take i)) [a]=kG M (D.take (i+1)):=by
 obtain⟨z,hz⟩:=h.is a (aak hi);exact⟨z,Ox hz (Pk h.nd hi),by rw[DV,aaP,hi];rfl⟩
structure Lc (B K c t p:Nat) (m:Xm) (M':Pm) (jb:Option Nat) (z:Nd) (J':List Nat) (W:World) (tv ev:Value) (wx:World):Prop where
 out:∃ bs kp nk kc vp nv vc ip ni ic fH Gn gV,tv=.pointer (some ⟨bs,0,none⟩)/\ev=.int .i64 0/\C4 wx bs 121 (.bool false) (.slice kp nk kc) (.slice vp nv vc) (.slice ip ni ic)/\W.heap.size<=bs/\NV wx false kp nk kc vp nv vc ip ni ic z/\fV wx c t (.slice fH Gn gV)/\Own wx K 3 1 fH Gn gV (aO (ints J'))/\nL c (blk fH) ip/\Pv B wx p m M'/\Lx B c jb W wx
structure Ec (B c p:Nat) (m:Xm) (M':Pm) (jb:Option Nat) (W:World) (ev:Value) (wx:World):Prop where
 out:ev=.int .i64 80/\Pv B wx p m M'/\Lx B c jb W wx
variable {B K c t p nk kc nv vc ni ic gV:Nat}{m:Xm}{M':Pm}{jb:Option Nat}{z:Nd}{J':List Nat}{W w3:World}{kp vp ip fH:Option Addr}
theorem aaD{W1:World}{Gn:Nat}(k:Kept W W1)(hB:B<=W.heap.size)(N3:NV w3 false kp nk kc vp nv vc ip ni ic z)(C3:fV w3 c t (.slice fH Gn gV))(O3:Own w3 K 3 1 fH Gn gV (aO (ints J')))(A3:nL c (blk fH) ip)(V3:Pv B w3 p m M')(L3:Lx B c jb W1 w3) :
  Lc B K c t p m M' jb z J' W (.pointer (some ⟨w3.heap.size,0,none⟩)) (.int .i64 0) (w3.alloc (.cells #[.bool false,.slice kp nk kc,.slice vp nv vc,.slice ip ni ic] 121)):=by
 have ka:Kept w3 (w3.alloc (.cells #[.bool false,.slice kp nk kc,.slice vp nv vc,.slice ip ni ic] 121)):=(Kept.refl _).alloc _;have LL:=(Lx.ax (c:=c) (j:=jb) k hB).trans L3;exact⟨_,_,_,_,_,_,_,_,_,_,_,_,_,rfl,rfl,C4.alloc _ _ _ _ _ _,LL.size,N3.kept ka,C3.kept ka,O3.kept ka,A3,V3.kept ka,LL.kept ka hB⟩
theorem aaE{W1:World}{Gn:Nat}(k:Kept W W1)(hB:B<=W.heap.size)(N3:NV w3 false kp nk kc vp nv vc ip ni ic z)(C3:fV w3 c t (.slice fH Gn gV))(O3:Own w3 K 3 1 fH Gn gV (aO (ints J')))(A3:nL c (blk fH) ip)(V3:Pv B w3 p m M')(L3:Lx B c jb W1 w3)(R3:C4 w3 W.heap.size 121 (.bool false) (.slice none 0 0) (.slice none 0 0) (.slice none 0 0))(hfin:((((w3.setCell ⟨W.heap.size,0,none⟩ (.bool false)).setCell ⟨W.heap.size,1,none⟩ (.slice kp nk kc)).setCell ⟨W.heap.size,2,none⟩ (.slice vp nv vc)).setCell ⟨W.heap.size,3,none⟩ (.slice ip ni ic)).heap[W.heap.size]? = some (.cells #[.bool false,.slice kp nk kc,.slice vp nv vc,.slice ip ni ic] 121)) :
  Lc B K c t p m M' jb z J' W (.pointer (some ⟨W.heap.size,0,none⟩)) (.int .i64 0) ((((w3.setCell ⟨W.heap.size,0,none⟩ (.bool false)).setCell ⟨W.heap.size,1,none⟩ (.slice kp nk kc)).setCell ⟨W.heap.size,2,none⟩ (.slice vp nv vc)).setCell ⟨W.heap.size,3,none⟩ (.slice ip ni ic)):=by
 have dm:∀ k,k≠W.heap.size->((((w3.setCell ⟨W.heap.size,0,none⟩ (.bool false)).setCell ⟨W.heap.size,1,none⟩ (.slice kp nk kc)).setCell ⟨W.heap.size,2,none⟩ (.slice vp nv vc)).setCell ⟨W.heap.size,3,none⟩ (.slice ip ni ic)).heap[k]? = w3.heap[k]?:=fun k hk=>N.aG _ hk _ _ _ _
 have LL:=(Lx.ax (c:=c) (j:=jb) k hB).trans L3;exact⟨_,_,_,_,_,_,_,_,_,_,_,_,_,rfl,rfl,C4.mk hfin,aac _,N3.other R3 dm,gN C3 R3.out (by decide) dm,eF O3 R3.out (by decide) dm,A3,V3.ap (Ap.other R3.out (by decide) (fun k o hk hne=>(dm k hne).trans hk)),LL.dm (aac _) hB (oH _ _ _ _ _ _) dm⟩
theorem aaF{W1:World}(k:Kept W W1)(hB:B<=W.heap.size)(V3:Pv B w3 p m M')(L3:Lx B c jb W1 w3){o:Obj}:Ec B c p m M' jb W (.int .i64 80) (w3.alloc o):=by
 have ka:Kept w3 (w3.alloc o):=(Kept.refl _).alloc _;exact⟨rfl,V3.kept ka,((Lx.ax (c:=c) (j:=jb) k hB).trans L3).kept ka hB⟩
theorem aaG{W1:World}{v0 v1 v2 v3:Value}(k:Kept W W1)(hB:B<=W.heap.size)(V3:Pv B w3 p m M')(L3:Lx B c jb W1 w3)(R3:C4 w3 W.heap.size 121 (.bool false) (.slice none 0 0) (.slice none 0 0) (.slice none 0 0)) :
  Ec B c p m M' jb W (.int .i64 80) ((((w3.setCell ⟨W.heap.size,0,none⟩ v0).setCell ⟨W.heap.size,1,none⟩ v1).setCell ⟨W.heap.size,2,none⟩ v2).setCell ⟨W.heap.size,3,none⟩ v3):=by
 have dm:∀ k,k≠W.heap.size->((((w3.setCell ⟨W.heap.size,0,none⟩ v0).setCell ⟨W.heap.size,1,none⟩ v1).setCell ⟨W.heap.size,2,none⟩ v2).setCell ⟨W.heap.size,3,none⟩ v3).heap[k]? = w3.heap[k]?:=fun k hk=>N.aG _ hk _ _ _ _
 exact⟨rfl,V3.ap (Ap.other R3.out (by decide) (fun k o hk hne=>(dm k hne).trans hk)),((Lx.ax (c:=c) (j:=jb) k hB).trans L3).dm (aac _) hB (oH _ _ _ _ _ _) dm⟩
theorem VS{a b d:World}(h:G.On B a b){z:Nat}(hz:a.heap.size<=z)(hB:B<=a.heap.size)(hd:Below 0 b d)(ho:∀ k,k≠z->d.heap[k]? = b.heap[k]?):G.On B a d:=by
 refine⟨h.below.trans ⟨hd.os,hd.tape,hd.output,hd.size,fun k hk=>ho k (by omega)⟩,fun x cs t fr hx ht=>(ho x ?_).trans (h.rows x cs t fr hx ht)⟩;have:=(aaa.1 hx).1;omega
variable {d:Nat}{root:Int}{key:ByteArray}
theorem Cf{q:Option Addr}{M0:Pm}{mid:List En}{rn:Nat}(hT:dI w t p root)(Tf:B<=t)(hV:Pv B w p m M0)(hB:B<=w.heap.size)(hB0:1<B)(hL:S.gU w)(hW:EN w q n cap L)(hn:n=d+1)(ER:L.map Sm.wZ=path M0 key d rn)(hTr:Tr M0 d rn)(hd:d<=10){l:Bool}{kp:Option Addr}{nk kc:Nat}{vp:Option Addr}{nv vc:Nat}{ip:Option Addr}{ni ic:Nat}{y:Nd}(hy:NV w l kp nk kc vp nv vc ip ni ic y)(h:∀ s,(path M0 key d rn)[d]? = some s->Lv M0 M0 0 s.page [s.page] y [] [] (cA M0 d ((path M0 key d rn).take d)) (cC M0 d ((path M0 key d rn).take d)) (upd key mid)):
 Calls Tryz.prog 86 #[.pointer (some ⟨t,0,none⟩),.slice q n cap,.agg #[.bool l,.slice kp nk kc,.slice vp nv vc,.slice ip ni ic]] w (Ph 23 B t p m root M0 (upd key mid (bN (fm M0 d rn))) w):=by
 obtain⟨qb,qo,rfl,_⟩:=hW.row.some (by omega);obtain⟨W0,hW0⟩:∃ W0,W0=(w.alloc (.cells #[.bool l,.slice kp nk kc,.slice vp nv vc,.slice ip ni ic] 121)).alloc (.cells #[.pointer (some ⟨t,0,none⟩),.slice none 0 0] 196):=⟨_,rfl⟩;have R0:Hid (Rs B w t p m d M0 key mid (path M0 key d rn) d W0):=by
  have K0:Kept w W0:=by rw[hW0];exact ((Kept.refl w).alloc _).alloc _
  have hpl:=bF M0 key d rn;have hps:=aae (show d<(path M0 key d rn).length by omega);have hh:=h _ hps;have e1:(path M0 key d rn).drop d=[(path M0 key d rn)[d]'(by omega)]:=by
   have:=List.getElem_cons_drop (show d<(path M0 key d rn).length by omega);rw[<- this,aaO (by omega)]
  refine⟨M0,y,[],[],none,0,0,l,kp,nk,kc,vp,nv,vc,ip,ni,ic,_,⟨?_⟩,lC _ _ _ _,⟨by simp,by simp⟩,C4.mk ?_,hy.kept K0,?_,hV.kept K0,G.On.ax ⟨K0.out⟩ hB,hps,?_⟩
  ·rw[hW0];exact D.bH w _ _
  ·rw[hW0];exact ((Kept.refl _).alloc _).block (heap_alloc_new w _)
  ·exact Ja hy.ix (aac _) (Nat.le_succ _) (fun b e=>by cases e)
  ·rw[e1,Nat.sub_self];exact hh
 obtain⟨a0,ha0⟩:∃ a0:Int,a0=(d:Int)-1:=⟨_,rfl⟩;have e1:IntKind.i64.wrap ((n:Int)-2)=a0:=by rw[IntKind.wrap_i64];omega
 have HA0:Hid (a0=(d:Int)-1):=ha0;have HT:Hid _:=hT;have HB:Hid (B<=w.heap.size/\1<B):=⟨hB,hB0⟩;have HBt:Hid (B<=t):=Tf;have HL:Hid _:=hL;have HW:Hid (EN w (some ⟨qb,qo,none⟩) n cap L):=hW;have HLP:Hid (L.map Sm.wZ=path M0 key d rn):=ER;have HTr:Hid _:=hTr;have HN:Hid (n=d+1/\d<=10):=⟨hn,hd⟩;clear hT Tf hV hB hB0 hL hW ER hTr hn hd hy h ha0;go_enter Tryz.func86,Tryz.ntmps86;go_wp2;rw[<- hW0];clear hW0;go_loopg [8] d (fun gg v wx=>∃ r a,Hid (gg=r)/\v=.int .i64 a/\Hid (a=(r:Int)-1)/\Hid (r<=d)/\Hid (Rs B w t p m d M0 key mid (path M0 key d rn) r wx));case atStart=>exact⟨d,a0,rfl,rfl,HA0,aac _,R0⟩
 case round=>
  obtain⟨r,a,hgr,rfl,har,hrd,hrs⟩:=hrel;obtain⟨M,y,J,added,jp,nj,jc,l,kp,nk,kc,vp,nv,vc,ip,ni,ic,s,h1,h2,h3,h4,h5,h6,h7,h8,h9,h11⟩:=hrs.out.out;clear R0 hrs;by_cases hr:r=0
  ·subst hr
   have hs0:s.page=rn:=by
    rw[ig]at h9;have:=aaq h9;rw[<- this];rfl
   have h12:Lv M0 M d rn ((path M0 key d rn).map Stp.page) y J.reverse added [] [] (upd key mid):=by
    rw[hs0]at h11;exact h11
   have i1:¬ (0:Int)<=a:=by have:=har.out;omega
   obtain⟨y0,y1,y2,y3⟩:=h4.cs;have cd:=KZ h1 (HT.out.on h8) h7 (aad HB.out.1 h8.size) (eZ HL.out h8 HB.out.2) HB.out.2 h5 HTr.out h12;rcases cd with⟨M',rt,tr,gn,f⟩|⟨M',ex,f⟩
   ·have LQ:Hid (fV wr (w.heap.size+1) t (.slice jp nj jc)):=h1
    have HJ1:Hid (Own wr w.heap.size 3 1 jp nj jc (aO (ints J))):=h2;have Fa:Hid (G.On B w wr):=h8;obtain⟨gn2,WW⟩:=gn.swap;have X8:Hid (Tree (kG M' ((path M0 key d rn).map Stp.page++J)) rt (upd key mid (bN (fm M0 d rn)))):=by rw[<- WW];exact tr
    have HGn:Hid (Gone M' ((path M0 key d rn).map Stp.page++J)):=gn2;have Az:Hid (((path M0 key d rn).map Stp.page).length=n):=by
     show _=_;rw[List.length_map,bF,HN.out.1]
    have HPg:Hid (∀ (i:Nat) (z:Sm),L[i]? = some z->((path M0 key d rn).map Stp.page++J)[i]? = some z.page):=fun i z hz=>by
     have hlt:=(aal.1 hz).1;rw[aa2 (by rw[Az.out];have:=HW.out.len;omega),<- HLP.out,List.map_map,List.getElem?_map,hz];rfl
    have HJg:Hid (∀ (i b:Nat),J[i]? = some b->((path M0 key d rn).map Stp.page++J)[n+i]? = some b):=fun i b hb=>by
     rw[aa0 (by rw[Az.out];omega),Az.out,Nat.add_sub_cancel_left];exact hb
    have HTk:Hid (((path M0 key d rn).map Stp.page++J).take (n+nj)=(path M0 key d rn).map Stp.page++J):=by
     have e:=h2.rw.len;simp[ints,aO]at e;exact aaz (by rw[aah,Az.out];omega)
    generalize (path M0 key d rn).map Stp.page++J=DD at X8 HGn HPg HJg HTk;have hJl:Hid (J.length=nj/\nj<=500):=by
     have e:=h2.rw.len;simp[ints,aO]at e;have:=HN.out;exact⟨e,by omega⟩
    clear h1 h2 h3 h4 h5 h6 h7 h8 h9 h11 h12 hs0 tr gn gn2 WW har hgr hrd;go_wp2_with (go_at_call 118;(with_reducible refine f.mono ?_);rintro e w3 ⟨rfl,V3,o3⟩;have HD0:Hid (Pv B w3 p m (kG M' (DD.take 0))/\G.On B w w3/\fV w3 (w.heap.size+1) t (.slice jp nj jc)/\Own w3 w.heap.size 3 1 jp nj jc (aO (ints J))):=⟨by rw[List.take_zero,IY];exact V3,Fa.out.trans o3,LQ.out.on o3,kQ o3 nD HJ1.out⟩;clear V3 o3 f y0 y1 y2 y3);go_loopg [49] n (fun gg v wx=>∃ i:Nat,Hid (gg=n-i)/\v=.int .i64 (i:Nat)/\Hid (i<=n)/\Hid (Pv B wx p m (kG M' (DD.take i))/\G.On B w wx/\fV wx (w.heap.size+1) t (.slice jp nj jc)/\Own wx w.heap.size 3 1 jp nj jc (aO (ints J))));case atStart=>exact⟨0,rfl,rfl,aag _,HD0⟩
    case round=>
     obtain⟨i,hgi,rfl,hin,hdp⟩:=hrel;obtain⟨V4,o4,OO,O4⟩:=hdp.out;clear HD0 hdp;by_cases hi:i=n
     ·obtain rfl:=hi.symm
      obtain⟨c0,c1⟩:=OO.cs;have HD1:Hid (Pv B wr p m (kG M' (DD.take (n+0)))/\G.On B w wr/\Own wr w.heap.size 3 1 jp nj jc (aO (ints J))):=⟨V4,o4,O4⟩;have i2:¬ ((n:Int)<(n:Int)):=by omega
      clear V4 o4 OO O4;go_wp2;go_loopg [64] nj (fun gg v wx=>∃ i:Nat,Hid (gg=nj-i)/\v=.int .i64 (i:Nat)/\Hid (i<=nj)/\Hid (Pv B wx p m (kG M' (DD.take (n+i)))/\G.On B w wx/\Own wx w.heap.size 3 1 jp nj jc (aO (ints J))));case atStart=>exact⟨0,rfl,rfl,aag _,HD1⟩
      case round=>
       obtain⟨i,hgi,rfl,hin,hdp⟩:=hrel;obtain⟨V5,o5,O5⟩:=hdp.out;clear HD1 hdp;have T5:=HT.out.on o5;obtain⟨t0,t1⟩:=T5.cs;by_cases hi:i=nj
       ·obtain rfl:=hi.symm
        have tf:=frozen_of_row wr t 1 _ _ T5.out;have i3:¬ ((nj:Int)<(nj:Int)):=by omega
        have T6:dI (wr.setCell ⟨t,1,none⟩ (.int .i64 rt)) t p rt:=⟨by rw[heap_setCell_same _ t 1 _ _ _ T5.out];rfl⟩;have o6:Tx B t w (wr.setCell ⟨t,1,none⟩ (.int .i64 rt)):=⟨o5.below.setCell HBt.out _,fun b cs ty fr hb hc hne=>by rw[heap_setCell_other wr ⟨t,1,none⟩ b _ hne];exact o5.rows b cs ty fr hb hc⟩;have V6:Pv B (wr.setCell ⟨t,1,none⟩ (.int .i64 rt)) p m (kG M' DD):=by
         rw[HTk.out]at V5;exact V5.ap (Ap.other T5.out (by decide) (fun k o hk hne=>by rw[heap_setCell_other wr ⟨t,1,none⟩ k _ hne];exact hk))
        clear V5 o5 O5 T5;go_wp2;go_ret;exact .inl ⟨rfl,_,_,X8.out,T6,V6,o6⟩
       ·have hlt:i<nj:=by have:=hin.out;omega
        obtain⟨jb,rfl⟩:=O5.jU (by omega);obtain⟨b,hb⟩:∃ b,J[i]? = some b:=⟨_,aae (by rw[hJl.out.1];exact hlt)⟩;have u0:=O5.cell (j:=i) (u:=.int .i64 (b:Nat)) (by simp[ints,aO,hb]);have i4:(i:Int)<(nj:Int):=by omega
        obtain⟨z,hz,ez⟩:=HGn.out.at (HJg.out i b hb);have f:=V5.drop (aad HB.out.1 o5.size) hz;rw[ez,Nat.add_assoc]at f;have i5:IntKind.i64.wrap ((i:Int)+1)=((i+1:Nat):Int):=by rw[IntKind.wrap_i64];have:=hJl.out;omega
        have Tg:Hid (G.On B w wr/\Own wr w.heap.size 3 1 (some ⟨jb,0,none⟩) nj jc (aO (ints J))):=⟨o5,O5⟩;clear V5 o5 O5 T5 hz ez hb;go_wp2_with (go_at_call 112;(with_reducible refine f.mono ?_);rintro e w7 ⟨rfl,V7,o7⟩;have HD7:Hid (Pv B w7 p m (kG M' (DD.take (n+(i+1))))/\G.On B w w7/\Own w7 w.heap.size 3 1 (some ⟨jb,0,none⟩) nj jc (aO (ints J))):=⟨V7,Tg.out.1.trans o7,kQ o7 nD Tg.out.2⟩;clear V7 o7);go_roundg (nj-(i+1));case measure=>rw[hgi.out];omega
        case rel=>exact⟨i+1,rfl,by go_num,(by show i+1<=nj;omega),HD7⟩
     ·have hlt:i<n:=by have:=hin.out;omega
      obtain⟨z,hz⟩:∃ z,L[i]? = some z:=⟨_,aae (by rw[HW.out.len];exact hlt)⟩;obtain⟨x0,x1,x2,x3,x4,x5⟩:=Pj (HW.out.on o4) hz;obtain⟨u,hu,ez⟩:=HGn.out.at (HPg.out i z hz);have i2:(i:Int)<(n:Int):=by omega
      have i5:IntKind.i64.wrap ((i:Int)+1)=((i+1:Nat):Int):=by rw[IntKind.wrap_i64];have:=HN.out;omega
      have kz:Kept wr (wr.alloc (.cells #[.int .i64 (z.page:Nat),.bool z.l,.slice z.kp z.nk z.kc,.slice z.vp z.nv z.vc,.slice z.ip z.ni z.ic,.int .i64 (z.kid:Nat)] 170)):=(Kept.refl wr).alloc _;have T4:=(HT.out.on o4).kept kz;obtain⟨t0,t1⟩:=T4.cs;obtain⟨s0,s1,s2,s3,s4,s5⟩:=aM (heap_alloc_new wr (.cells #[.int .i64 (z.page:Nat),.bool z.l,.slice z.kp z.nk z.kc,.slice z.vp z.nv z.vc,.slice z.ip z.ni z.ic,.int .i64 (z.kid:Nat)] 170));have f:Hid (∀ W,Kept wr W->Calls Tryz.prog 112 #[.pointer (some ⟨p,0,none⟩),.int .i64 (z.page:Nat)] W fun e w'=>e=.returned (.tuple #[])/\Pv B w' p m (kG M' (DD.take (i+1)))/\G.On B W w'):=fun W k=>by
       have:=(V4.kept k).drop (aad HB.out.1 (aad o4.size k.size)) hu;rwa [ez]at this
      have Tg:Hid (G.On B w wr/\fV wr (w.heap.size+1) t (.slice jp nj jc)/\Own wr w.heap.size 3 1 jp nj jc (aO (ints J))):=⟨o4,OO,O4⟩;have HZ4:Hid ((wr.alloc (.cells #[.int .i64 (z.page:Nat),.bool z.l,.slice z.kp z.nk z.kc,.slice z.vp z.nv z.vc,.slice z.ip z.ni z.ic,.int .i64 (z.kid:Nat)] 170)).heap[wr.heap.size]? = some (.cells #[.int .i64 (z.page:Nat),.bool z.l,.slice z.kp z.nk z.kc,.slice z.vp z.nv z.vc,.slice z.ip z.ni z.ic,.int .i64 (z.kid:Nat)] 170)):=heap_alloc_new wr _;clear V4 o4 OO O4 hu ez hz T4;go_wp2_with fail;go_region_held3 (fun W=>W.cell? ⟨t,0,none⟩=some (.pointer (some ⟨p,0,none⟩))/\W.cell? ⟨wr.heap.size,0,none⟩=some (.int .i64 (z.page:Nat))) (first | trivial | go_keep) (first|(go_at_call 112;(with_reducible refine (f.out _ (by first | exact kz.drew | exact kz)).mono ?_);rintro e w7 ⟨rfl,V7,o7⟩;have o8:G.On B wr w7:=(by first | exact (G.On.ax ⟨kz.drew.out⟩ (aad HB.out.1 Tg.out.1.size)).trans o7 | exact (G.On.ax ⟨kz.out⟩ (aad HB.out.1 Tg.out.1.size)).trans o7);obtain⟨t0,t1⟩:=(HT.out.on (Tg.out.1.trans o8)).cs;obtain⟨s0,s1,s2,s3,s4,s5⟩:=aM (o7.rows _ _ _ _ HZ4.out pM);have HD7:Hid (Pv B w7 p m (kG M' (DD.take (i+1)))/\G.On B w w7/\fV w7 (w.heap.size+1) t (.slice jp nj jc)/\Own w7 w.heap.size 3 1 jp nj jc (aO (ints J))):=⟨V7,Tg.out.1.trans o8,Tg.out.2.1.on o8,kQ o8 nD Tg.out.2.2⟩));go_wp2;go_roundg (n-(i+1));case measure=>rw[hgi.out];omega
      case rel=>exact⟨i+1,rfl,by go_num,(by show i+1<=n;omega),HD7⟩
   ·have ex2:Er m M0 M' 23:=(ex.more h12.ext h12.used h3.2).mono (by have:=HN.out;omega)
    have Fa:Hid (G.On B w wr):=h8;clear h1 h2 h3 h4 h5 h6 h7 h8 h9 h11 h12 hs0;go_wp2_with (go_at_call 118;(with_reducible refine f.mono ?_);rintro e w3 ⟨rfl,V3,o3⟩;have o4:=Fa.out.trans o3);go_ret;exact .inr ⟨rfl,M',ex2,HT.out.on o4,V3,Tx.Pe o4⟩
  ·obtain⟨k,rfl⟩:∃ k,r=k+1:=⟨r-1,by omega⟩
   obtain rfl:a=(k:Int):=by have:=har.out;omega
   obtain⟨z,hz,st⟩:=Te HT.out HB.out.1 HB.out.2 HL.out HW.out HLP.out HTr.out HN.out.2 h1 h2 h3 h5 h6 h7 h8 h9 h11;obtain⟨x0,x1,x2,x3,x4,x5⟩:=Pj (HW.out.on h8) hz;obtain⟨y0,y1,y2,y3⟩:=h4.cs;have i1:(0:Int)<=(k:Int):=by omega
   have i2:(k:Int)<(n:Int):=by have:=HN.out;have:=hrd.out;omega
   rcases st with⟨M',y',J',pO,b1,b2,b3,b4⟩|⟨M',b1,b2⟩
   ·go_upto_region 5 with fail
    go_cut [9,10] (fun tv ev wx=>Lc B w.heap.size (w.heap.size+1) t p m M' (blk jp) y' J' wr tv ev wx);case first=>
     have hBr:Hid (B<=wr.heap.size):=aad HB.out.1 h8.size;have kA:Kept wr wr.drew:=(Kept.refl _).drew;have kB:Kept wr (wr.alloc (.cells #[.bool false,.slice none 0 0,.slice none 0 0,.slice none 0 0] 121)).drew:=((Kept.refl _).alloc _).drew;have HA:=b4 _ kA;have HBB:=b4 _ kB;have Z0:Hid ((wr.alloc (.cells #[.bool false,.slice none 0 0,.slice none 0 0,.slice none 0 0] 121)).drew.heap[wr.heap.size]? = some (.cells #[.bool false,.slice none 0 0,.slice none 0 0,.slice none 0 0] 121)):=heap_alloc_new wr _;have hlt1:=(aaa.1 h1.out).1;have hcc:Hid (wr.heap.size≠w.heap.size+1/\blk jp≠some wr.heap.size):=⟨by omega,fun e=>by
      obtain⟨cs',fr',e2⟩:=(iV h1 h2).j _ e
      have:=(aaa.1 e2).1
      omega⟩
     have hx0:=fun o=>((Kept.refl wr).alloc o).cell x0
     have hx1:=fun o=>((Kept.refl wr).alloc o).cell x1
     have hx2:=fun o=>((Kept.refl wr).alloc o).cell x2
     have hx3:=fun o=>((Kept.refl wr).alloc o).cell x3
     have hx4:=fun o=>((Kept.refl wr).alloc o).cell x4
     have hx5:=fun o=>((Kept.refl wr).alloc o).cell x5
     have hy0:=fun o=>((Kept.refl wr).alloc o).cell y0
     have hy1:=fun o=>((Kept.refl wr).alloc o).cell y1
     have hy2:=fun o=>((Kept.refl wr).alloc o).cell y2
     have hy3:=fun o=>((Kept.refl wr).alloc o).cell y3
     have HkA:Hid (Kept wr wr.drew):=kA;have HkB:Hid (Kept wr (wr.alloc (.cells #[.bool false,.slice none 0 0,.slice none 0 0,.slice none 0 0] 121)).drew):=kB;clear kA kB b4 h1 h2 h3 h4 h5 h6 h7 h8 h9 h11 b1 b2 b3 hlt1;go_region_with (first
      | (go_at_call 117;(with_reducible refine HA.mono ?_);rintro e w3 ⟨sQ,rQ,sS,xq,rR,uY,zip,uZ,ve,fH,Gn,gV,rfl,N3,C3,O3,A3,V3,L3⟩;clear HA HBB)
      | (go_at_call 117;(with_reducible refine HBB.mono ?_);rintro e w3 ⟨sQ,rQ,sS,xq,rR,uY,zip,uZ,ve,fH,Gn,gV,rfl,N3,C3,O3,A3,V3,L3⟩;have R3:C4 w3 wr.heap.size 121 (.bool false) (.slice none 0 0) (.slice none 0 0) (.slice none 0 0):=C4.mk (L3.rows _ _ _ _ Z0.out fU hcc.out.1 hcc.out.2);obtain⟨⟨g0,f0⟩,⟨g1,f1⟩,⟨g2,f2⟩,⟨g3,f3⟩,hfin⟩:=N.aD R3.out (.bool false) (.slice sQ rQ sS) (.slice xq rR uY) (.slice zip uZ ve);clear HA HBB))
     all_goals go_wp2_with fail
     all_goals go_meet
     all_goals
      first
       | exact aaD HkA.out hBr.out N3 C3 O3 A3 V3 L3
       | exact aaE HkB.out hBr.out N3 C3 O3 A3 V3 L3 R3 hfin
    case rest=>
     obtain⟨bs,sQ,rQ,sS,xq,rR,uY,zip,uZ,ve,fH,Gn,gV,rfl,rfl,X,hbs,N3,C3,O3,A3,V3,L3⟩:=hcut.out;obtain⟨z0,z1,z2,z3⟩:=X.cs;have hj5:blk jp≠some w.heap.size:=fun e=>by
      obtain⟨cs',fr',e2⟩:=(iV h1 h2).j _ e;rw[h4.out]at e2;injection e2 with e2;injection e2 with _ e2 _;exact absurd e2 (by decide)
     have R5:C4 wc w.heap.size 121 (.bool l) (.slice kp nk kc) (.slice vp nv vc) (.slice ip ni ic):=C4.mk (L3.rows _ _ _ _ h4.out fU (by omega) hj5);obtain⟨⟨g0,f0⟩,⟨g1,f1⟩,⟨g2,f2⟩,⟨g3,f3⟩,hfin⟩:=N.aD R5.out (.bool false) (.slice sQ rQ sS) (.slice xq rR uY) (.slice zip uZ ve);have dm:∀ k,k≠w.heap.size->((((wc.setCell ⟨w.heap.size,0,none⟩ (.bool false)).setCell ⟨w.heap.size,1,none⟩ (.slice sQ rQ sS)).setCell ⟨w.heap.size,2,none⟩ (.slice xq rR uY)).setCell ⟨w.heap.size,3,none⟩ (.slice zip uZ ve)).heap[k]? = wc.heap[k]?:=fun k hk=>N.aG _ hk _ _ _ _
     obtain⟨a1,ha1⟩:∃ a1:Int,a1=(k:Int)-1:=⟨_,rfl⟩;have e2:IntKind.i64.wrap ((k:Int)-1)=a1:=by rw[IntKind.wrap_i64];have:=HN.out;have:=hrd.out;omega
     have HA1:Hid (a1=(k:Int)-1):=ha1;have HR1:Hid (Rs B w t p m d M0 key mid (path M0 key d rn) k ((((wc.setCell ⟨w.heap.size,0,none⟩ (.bool false)).setCell ⟨w.heap.size,1,none⟩ (.slice sQ rQ sS)).setCell ⟨w.heap.size,2,none⟩ (.slice xq rR uY)).setCell ⟨w.heap.size,3,none⟩ (.slice zip uZ ve))):=
      ⟨M',y',J',pO,fH,Gn,gV,false,sQ,rQ,sS,xq,rR,uY,zip,uZ,ve,z.wZ,gN C3 R5.out (by decide) dm,eF O3 R5.out (by decide) dm,b2,C4.mk hfin,N3.other R5 dm,A3,V3.ap (Ap.other R5.out (by decide) (fun k o hk hne=>(dm k hne).trans hk)),VS (Um h8 L3 (aac _) (Nat.le_succ _) (Gq h2)) (aac _) HB.out.1 (oH _ _ _ _ _ _) dm,b3,b1⟩
     clear ha1 dm hcut N3 C3 O3 A3 V3 L3 X R5 b4 h1 h2 h3 h4 h5 h6 h7 h8 h9 h11 b1 b2 b3 x0 x1 x2 x3 x4 x5 y0 y1 y2 y3;go_wp2;go_roundg k;case measure=>rw[hgr.out];omega
     case rel=>exact⟨k,a1,rfl,rfl,HA1,(by have:=hrd.out;show k<=d;omega),HR1⟩
   ·go_upto_region 5 with fail
    go_cut [10] (fun ev wx=>Ec B (w.heap.size+1) p m M' (blk jp) wr ev wx);case first=>
     have hBr:Hid (B<=wr.heap.size):=aad HB.out.1 h8.size;have kA:Kept wr wr.drew:=(Kept.refl _).drew;have kB:Kept wr (wr.alloc (.cells #[.bool false,.slice none 0 0,.slice none 0 0,.slice none 0 0] 121)).drew:=((Kept.refl _).alloc _).drew;have HA:=b2 _ kA;have HBB:=b2 _ kB;have Z0:Hid ((wr.alloc (.cells #[.bool false,.slice none 0 0,.slice none 0 0,.slice none 0 0] 121)).drew.heap[wr.heap.size]? = some (.cells #[.bool false,.slice none 0 0,.slice none 0 0,.slice none 0 0] 121)):=heap_alloc_new wr _;have hlt1:=(aaa.1 h1.out).1;have hcc:Hid (wr.heap.size≠w.heap.size+1/\blk jp≠some wr.heap.size):=⟨by omega,fun e=>by
      obtain⟨cs',fr',e2⟩:=(iV h1 h2).j _ e
      have:=(aaa.1 e2).1
      omega⟩
     have hx0:=fun o=>((Kept.refl wr).alloc o).cell x0
     have hx1:=fun o=>((Kept.refl wr).alloc o).cell x1
     have hx2:=fun o=>((Kept.refl wr).alloc o).cell x2
     have hx3:=fun o=>((Kept.refl wr).alloc o).cell x3
     have hx4:=fun o=>((Kept.refl wr).alloc o).cell x4
     have hx5:=fun o=>((Kept.refl wr).alloc o).cell x5
     have hy0:=fun o=>((Kept.refl wr).alloc o).cell y0
     have hy1:=fun o=>((Kept.refl wr).alloc o).cell y1
     have hy2:=fun o=>((Kept.refl wr).alloc o).cell y2
     have hy3:=fun o=>((Kept.refl wr).alloc o).cell y3
     have HkA:Hid (Kept wr wr.drew):=kA;have HkB:Hid (Kept wr (wr.alloc (.cells #[.bool false,.slice none 0 0,.slice none 0 0,.slice none 0 0] 121)).drew):=kB;clear kA kB b2 h1 h2 h3 h4 h5 h6 h7 h8 h9 h11 b1 hlt1;go_region_with (first
      | (go_at_call 117;(with_reducible refine HA.mono ?_);rintro e w3 ⟨rfl,V3,L3⟩;clear HA HBB)
      | (go_at_call 117;(with_reducible refine HBB.mono ?_);rintro e w3 ⟨rfl,V3,L3⟩;have R3:C4 w3 wr.heap.size 121 (.bool false) (.slice none 0 0) (.slice none 0 0) (.slice none 0 0):=C4.mk (L3.rows _ _ _ _ Z0.out fU hcc.out.1 hcc.out.2);obtain⟨⟨g0,f0⟩,⟨g1,f1⟩,⟨g2,f2⟩,⟨g3,f3⟩,hfin⟩:=N.aD R3.out (.bool false) (.slice none 0 0) (.slice none 0 0) (.slice none 0 0);clear HA HBB))
     all_goals go_wp2_with fail
     all_goals go_meet
     all_goals
      first
       | exact aaF HkA.out hBr.out V3 L3
       | exact aaG HkB.out hBr.out V3 L3 R3
    case rest=>
     obtain⟨rfl,V3,L3⟩:=hcut.out;have o3:G.On B w wc:=Um h8 L3 (aac _) (Nat.le_succ _) (Gq h2);have ex:Er m M0 M' 23:=(b1.more h11.ext h11.used (show added.length<=2*d by omega)).mono (by have:=HN.out;omega);have t3:=HT.out.on o3;clear hcut h1 h2 h3 h4 h5 h6 h7 h8 h9 h11 b2 x0 x1 x2 x3 x4 x5 y0 y1 y2 y3;go_wp2;go_ret;exact .inr ⟨rfl,M',ex,t3,V3,Tx.Pe o3⟩
open B (fF gL aH dH gJ iT aZ wY BM Wf wH lu pI R got kH)
open N (C3)
theorem K9{jv:Value}(hC:fV w c t jv)(hT:dI w t p root)(hV:Pv B w p m M)(hM:∀ q,M q=none)(hB:B<=w.heap.size)(hL:S.gU w){l:Bool}{kp:Option Addr}{nk kc:Nat}{vp:Option Addr}{nv vc:Nat}{ip:Option Addr}{ni ic:Nat}{y:Nd}(hy:NV w l kp nk kc vp nv vc ip ni ic y){key:ByteArray}{v:Vl}(Un:y=⟨true,[key],[v],[]⟩)(gy:N.Good y)(hs:y.put.length<=237) :
  (∃ M' r,Tree M' r [(key,v)]/\Calls Tryz.prog 118 #[.pointer (some ⟨c,0,none⟩),.agg #[.bool l,.slice kp nk kc,.slice vp nv vc,.slice ip ni ic]] w (COk B p m M' r w)) \/
  (Er m M M 0/\Calls Tryz.prog 118 #[.pointer (some ⟨c,0,none⟩),.agg #[.bool l,.slice kp nk kc,.slice vp nv vc,.slice ip ni ic]] w (X7 B p m M w)):=by
 have K0:Kept w (w.alloc (.cells #[.bool l,.slice kp nk kc,.slice vp nv vc,.slice ip ni ic] 121)):=(Kept.refl w).alloc _;have hB1:B<=(w.alloc (.cells #[.bool l,.slice kp nk kc,.slice vp nv vc,.slice ip ni ic] 121)).heap.size:=aad hB K0.size;have oK:G.On B w (w.alloc (.cells #[.bool l,.slice kp nk kc,.slice vp nv vc,.slice ip ni ic] 121)):=G.On.ax ⟨K0.out⟩ hB;have hpos:0<nk:=by have:=hy.nk;rw[Un]at this;simp at this;omega
 cases hf:fO M m with
 | none=>
  refine .inr ⟨⟨Ext.refl _,⟨[],by simp,fun q=>by simp⟩,lM hf⟩,(Au (Q:=fun w'=>Pv B w' p m M/\G.On B w w') hpos ((Uh (hC.kept K0) (hT.kept K0) (hV.kept K0) hB1 (aC hL K0) (hy.kept K0) gy hs hf).mono ?_)).mono ?_⟩
  ·rintro e w' ⟨rfl,k⟩
   exact⟨rfl,(hV.kept K0).kept k,oK.kept ⟨k.out⟩ hB⟩
  ·rintro e w' ⟨rfl,a,b⟩
   exact⟨rfl,a,b⟩
 | some n=>
  refine .inl ⟨pt M n y,(n:Nat),.inr ⟨0,n,rfl,⟨⟨y,lu _ _ _,by rw[Un];simp,hs,by rw[Un],gy⟩,?_,?_⟩,?_⟩,?_⟩
  ·rw[aH (lu _ _ _),dH,Un];simp[iT]
  ·intro q
   rw[aZ (lu _ _ _),wH (hM n)];simp[mq,us,hM q]
  ·rw[aH (lu _ _ _),dH,gJ,Un];rfl
  ·refine (Av (n:=n) (B:=(w.alloc (.cells #[.bool l,.slice kp nk kc,.slice vp nv vc,.slice ip ni ic] 121)).heap.size) (Q:=fun w'=>Pv B w' p m (pt M n y)/\G.On B w w') hpos ((Uf (hC.kept K0) (hT.kept K0) (hV.kept K0) hB1 (aC hL K0) (hy.kept K0) gy hs hf).mono ?_)).mono ?_
   ·rintro e w' ⟨pp,pc,rfl,a1,a3,a4⟩
    exact⟨pp,pc,rfl,a1,a3,oK.trans a4⟩
   ·rintro e w' ⟨rfl,a,b⟩
    exact⟨rfl,a,b⟩
theorem replace_nil{M0:Pm}(hT:dI w t p (-1))(Tf:B<=t)(hV:Pv B w p m M0)(hM:∀ q,M0 q=none)(hB:B<=w.heap.size)(hL:S.gU w){l:Bool}{kp:Option Addr}{nk kc:Nat}{vp:Option Addr}{nv vc:Nat}{ip:Option Addr}{ni ic:Nat}{y:Nd}(hy:NV w l kp nk kc vp nv vc ip ni ic y){key:ByteArray}{v:Vl}(Un:y=⟨true,[key],[v],[]⟩)(gy:N.Good y)(hs:y.put.length<=237):
 Calls Tryz.prog 86 #[.pointer (some ⟨t,0,none⟩),.slice none 0 0,.agg #[.bool l,.slice kp nk kc,.slice vp nv vc,.slice ip ni ic]] w (Ph 0 B t p m (-1) M0 [(key,v)] w):=by
 obtain⟨W0,hW0⟩:∃ W0,W0=(w.alloc (.cells #[.bool l,.slice kp nk kc,.slice vp nv vc,.slice ip ni ic] 121)).alloc (.cells #[.pointer (some ⟨t,0,none⟩),.slice none 0 0] 196):=⟨_,rfl⟩;have K0:Kept w W0:=by rw[hW0];exact ((Kept.refl w).alloc _).alloc _
 have C0:fV W0 (w.heap.size+1) t (.slice none 0 0):=⟨by rw[hW0];exact D.bH w _ _⟩;have X0:C4 W0 w.heap.size 121 (.bool l) (.slice kp nk kc) (.slice vp nv vc) (.slice ip ni ic):=C4.mk (by rw[hW0];exact ((Kept.refl _).alloc _).block (heap_alloc_new w _));have o0:G.On B w W0:=G.On.ax ⟨K0.out⟩ hB;have cd:=K9 C0 (hT.kept K0) (hV.kept K0) hM (aad hB K0.size) (aC hL K0) (hy.kept K0) Un gy hs;obtain⟨y0,y1,y2,y3⟩:=X0.cs;have HT:Hid _:=hT;have HC:Hid (fV W0 (w.heap.size+1) t (.slice none 0 0)):=C0;have HO:Hid (G.On B w W0):=o0;clear hV hM hB hL hy Un gy hs K0 C0 X0 o0 hT;rcases cd with⟨M',rt,tr,f⟩|⟨er,f⟩
 ·go_enter Tryz.func86,Tryz.ntmps86
  go_wp2;rw[<- hW0];clear hW0;refine wp_loop_rounds 1 ?_;rw[rounds_succ];go_wp2_with (go_at_call 118;(with_reducible refine f.mono ?_);rintro e w3 ⟨rfl,V3,o3⟩;obtain⟨c0,c1⟩:=(HC.out.on o3).cs;have T3:=HT.out.on (HO.out.trans o3);have o4:=HO.out.trans o3;obtain⟨t0,t1⟩:=T3.cs;have tf:=frozen_of_row w3 t 1 _ _ T3.out);refine wp_loop_rounds 1 ?_;rw[rounds_succ];go_wp2;refine wp_loop_rounds 1 ?_;rw[rounds_succ];have T6:dI (w3.setCell ⟨t,1,none⟩ (.int .i64 rt)) t p rt:=⟨by rw[heap_setCell_same _ t 1 _ _ _ T3.out];rfl⟩;have o6:Tx B t w (w3.setCell ⟨t,1,none⟩ (.int .i64 rt)):=⟨o4.below.setCell Tf _,fun b cs ty fr hb hc hne=>by rw[heap_setCell_other w3 ⟨t,1,none⟩ b _ hne];exact o4.rows b cs ty fr hb hc⟩;have V6:Pv B (w3.setCell ⟨t,1,none⟩ (.int .i64 rt)) p m M':=V3.ap (Ap.other T3.out (by decide) (fun k o hk hne=>by rw[heap_setCell_other w3 ⟨t,1,none⟩ k _ hne];exact hk));clear V3 o3 T3 o4;go_wp2;go_ret;exact .inl ⟨rfl,_,_,tr,T6,V6,o6⟩
 ·go_enter Tryz.func86,Tryz.ntmps86
  go_wp2;rw[<- hW0];clear hW0;refine wp_loop_rounds 1 ?_;rw[rounds_succ];go_wp2_with (go_at_call 118;(with_reducible refine f.mono ?_);rintro e w3 ⟨rfl,V3,o3⟩;have o4:=HO.out.trans o3);go_ret;exact .inr ⟨rfl,M0,er,HT.out.on o4,V3,Tx.Pe o4⟩
structure Ev (M:Pm) (root:Int) (l:List En):Prop where
 out:(root=-1/\l=[])\/∃ d n:Nat,root=(n:Int)/\d<=10/\Wf M d n/\(fm M d n).Pairwise R/\bN (fm M d n)=l
variable {l:List En}
theorem Ev.of{m:Nat}(h:Tree M root l)(hm:∀ k x,M k=some x->k<m)(hm2:m<=1024):Ev M root l:=by
 rcases h with⟨a,b,_⟩|⟨d,n,a,b,c⟩
 ·exact⟨.inl ⟨a,b⟩⟩
 ·exact⟨.inr ⟨d,n,a,wY b hm hm2,b.wf,b.ord,c⟩⟩
theorem Uo(hw:Wf M d n)(ho:(fm M d n).Pairwise R)(key:ByteArray):Pf M key d (fF M key n) [] []:=by
 obtain⟨y,hy,a,b,c⟩:=hw;have es:fF M key n=⟨n,y,nI y key⟩:=by unfold fF;rw[gL hy]
 rw[aH hy]at ho;rw[es];exact⟨hy,a,b,c,rfl,(fun a ha=>by cases ha),(fun a ha=>by cases ha),by simpa using ho⟩
theorem Po(hp:Pf M key d (fF M key n) [] [])(hd:d<=900):Wy M key (path M key d n):=by
 have hl:=bF M key d n;refine⟨fun k s hs=>?_,fun k s s' hs hs'=>?_,by omega⟩
 ·obtain⟨h1,h2⟩:=iI d n [] [] hp k s hs
  refine⟨h2.mem,h2.wf.good,h2.up,h2.kid,?_⟩;rw[h2.wf.leaf,hl];congr 1;simp only[eq_iff_iff];omega
 ·obtain⟨h1,h2⟩:=iI d n [] [] hp k s hs
  obtain⟨c,hc,e⟩:=iU d n [] [] hp k s s' hs hs';obtain⟨q,hq,_⟩:=h2.wf.good.ik c (aak hc);rw[hc,e,hq];simp
def had (key:ByteArray) (l:List En):Vl:=(got key l).getD ⟨⟨#[]⟩,-1,0⟩
open N (bP gG jG)
theorem gQ{P:Program}{fn:Func}{p u v:Tmp}{ty:TypeId}(h:fn.results=#[.cell p ty,.tmp u,.tmp v])(tmps:Array Value)(w:World)(g:Nat)(t:TypeId)(cs:Array Value)(fr:Nat×Nat)(d:TypeDesc)(hp:tmps.getD p undef=.pointer (some ⟨g,0,none⟩))(hg:w.heap[g]? = some (.cells cs t fr))(hu:P.underlying ty=some d)(hd:(match d with | .struct _ | .array _ _=>true | _=>false)=true)(hi:(P.info? ty).map (·.size)=some cs.size) :
    (results fn tmps).run P w=.ok (.tuple #[.agg cs,tmps.getD u undef,tmps.getD v undef]) w:=by
  have hp':tmps[p]?.getD undef=.pointer (some ⟨g,0,none⟩):=by rw[<- hp];simp
  simp only[results,h];simp[Result.andThen,hp',asAddr,run_loadVar_row w g t ty cs fr d hg hu hd hi]
theorem iJ:(Tryz.prog.info? 77).map (·.size)=some 3:=by kernel_rfl
theorem get_nil(hT:dI w t p (-1)):
 Calls Tryz.prog 40 #[.pointer (some ⟨t,0,none⟩),.string key] w fun e w'=>e=.returned (.tuple #[.agg #[.string ⟨#[]⟩,.int .i64 (-1),.int .i64 0],.bool false,.int .i64 0])/\Kept w w':=by
 have K0:Kept w (w.alloc (.cells #[.string ⟨#[]⟩,.int .i64 0,.int .i64 0] 77)):=(Kept.refl w).alloc _;have R0:=C3.alloc w 77 (.string ⟨#[]⟩) (.int .i64 0) (.int .i64 0);have f1:=jR (hT.kept K0);have f2:=I7 (key:=key) (hT.kept K0);have f3:=Bu (w.alloc (.cells #[.string ⟨#[]⟩,.int .i64 0,.int .i64 0] 77));have f4:Hid (∀ W:World,Calls Tryz.prog 64 #[.slice none 0 0,.string key] W fun e w'=>e=.returned (.tuple #[.int .i64 0,.bool false])/\w'=W):=fun W=>by
  have:=N.jO (w:=W) (p:=none) (n:=0) (c:=0) (ks:=[]) ⟨rfl,aac _,aag _,.inl ⟨rfl,rfl⟩⟩ (by omega) key;exact this
 clear hT;go_enter Tryz.func40,Tryz.ntmps40;go_wp2_with (first
  | (go_at_call 57;(with_reducible refine f1.mono ?_);rintro e w1 ⟨rfl,hw1⟩;rw[hw1];clear hw1 f1)
  | (go_at_call 62;(with_reducible refine f2.mono ?_);rintro e w1 ⟨rfl,hw1⟩;rw[hw1];clear hw1 f2)
  | (go_at_call 63;(with_reducible refine f3.mono ?_);rintro e w1 ⟨rfl,k1⟩;have ka:Kept w1 (w1.alloc (.cells #[.bool true,.slice none 0 0,.slice none 0 0,.slice none 0 0] 121)):=(Kept.refl _).alloc _;have K2:=(K0.trans k1).trans ka;have R2:=(R0.kept k1).kept ka;obtain⟨x0,x1,x2,x3⟩:=(C4.alloc w1 121 (.bool true) (.slice none 0 0) (.slice none 0 0) (.slice none 0 0)).cs;obtain⟨⟨g0,i0⟩,⟨g1,i1⟩,⟨g2,i2⟩,hfin⟩:=N.dw R2.out (.string ⟨#[]⟩) (.int .i64 (-1)) (.int .i64 0))
  | (go_at_call 64;(with_reducible refine (f4.out _).mono ?_);rintro e w2 ⟨rfl,hw2⟩;rw[hw2];clear hw2))
 have q2:=K2.Aa (b:=w.heap.size) (aac _) (.string ⟨#[]⟩) (.int .i64 (-1)) (.int .i64 0);generalize (((World.setCell _ ⟨w.heap.size,0,none⟩ (.string ⟨#[]⟩)).setCell ⟨w.heap.size,1,none⟩ (.int .i64 (-1))).setCell ⟨w.heap.size,2,none⟩ (.int .i64 0))=WF at hfin q2 ⊢;refine bodyPost_ret (v:=.tuple #[.agg #[.string ⟨#[]⟩,.int .i64 (-1),.int .i64 0],.bool false,.int .i64 0]) ?_ rfl ⟨rfl,q2⟩;exact gQ (p:=4) (u:=5) (v:=6) (ty:=77) rfl _ _ w.heap.size 77 #[.string ⟨#[]⟩,.int .i64 (-1),.int .i64 0] (0,0) _ rfl hfin Tryz.underlying77 rfl iJ
theorem get_some(hT:dI w t p root)(hr:root=(n:Int))(hV:Pv B w p m M)(hw:Wf M d n)(ho:(fm M d n).Pairwise R)(hd:d<=10):
 Calls Tryz.prog 40 #[.pointer (some ⟨t,0,none⟩),.string key] w fun e w'=>e=.returned (.tuple #[.agg #[.string (had key (bN (fm M d n))).d,.int .i64 (had key (bN (fm M d n))).p,.int .i64 (had key (bN (fm M d n))).l],.bool (got key (bN (fm M d n))).isSome,.int .i64 0])/\Kept w w':=by
 subst hr;have Eu:=Uo hw ho key;have VT:=Po Eu (by omega);have hpl:=bF M key d n;have K0:Kept w (w.alloc (.cells #[.string ⟨#[]⟩,.int .i64 0,.int .i64 0] 77)):=(Kept.refl w).alloc _;have R0:=C3.alloc w 77 (.string ⟨#[]⟩) (.int .i64 0) (.int .i64 0);have f1:=jR (hT.kept K0);have f2:=Ef (hT.kept K0) (hV.kept K0) VT (by omega) (fun s hs=>by rw[ig]at hs;rw[<- aaq hs];rfl);obtain⟨s,hs⟩:∃ s,(path M key d n)[d]? = some s:=⟨_,aae (by omega)⟩;obtain⟨_,hps⟩:=iI d n [] [] Eu d s hs;rw[Nat.sub_self]at hps;have hg:=kH d n [] [] Eu s hs;have hgood:=hps.wf.good;have hlv:=(hgood.lv hps.wf.1).1;have HS:Hid ((path M key d n)[d]? = some s):=hs;have HG:Hid (N.Good s.x):=hgood;have Ya:Hid (s.x.vs.length=s.x.ks.length):=hlv;have Az:Hid ((path M key d n).length=d+1):=hpl;have HD:Hid (d<=10):=hd;have Yb:Hid (got key (bN (fm M d n))=if gG key s.x.ks=true then some (jG s.x.ks s.x.vs key) else none):=hg;have La:Hid (gG key s.x.ks=true->s.x.vs[bP key s.x.ks]? = some (had key (bN (fm M d n)))/\(got key (bN (fm M d n))).isSome=true):=fun h=>by
  have hk:=N.yA h;have e:=Yb.out;rw[aao h]at e;have e2:s.x.vs[bP key s.x.ks]? = some (s.x.vs[bP key s.x.ks]'(by have:=Ya.out;omega)):=aae (by have:=Ya.out;omega);refine⟨?_,by rw[e];rfl⟩;unfold had;rw[e];show _=some (jG s.x.ks s.x.vs key);unfold jG;rw[aao h,e2];rfl
 have Pp:Hid (gG key s.x.ks=false->had key (bN (fm M d n))=⟨⟨#[]⟩,-1,0⟩/\(got key (bN (fm M d n))).isSome=false):=fun h=>by
  have e:=Yb.out;rw[aai (by rw[h];decide)]at e;unfold had;rw[e];exact⟨rfl,rfl⟩
 generalize had key (bN (fm M d n))=hv at La Pp ⊢;generalize (got key (bN (fm M d n))).isSome=hb at La Pp ⊢;clear Eu VT hs hps hg hgood hlv hw ho hV hT hd hpl;generalize hlen:(path M key d n).length=len at f2 Az;have HLen:Hid ((path M key d n).length=len):=hlen;clear hlen;go_enter Tryz.func40,Tryz.ntmps40;go_wp2_with (first
  | (go_at_call 57;(with_reducible refine f1.mono ?_);rintro e w1 ⟨rfl,hw1⟩;rw[hw1];clear hw1 f1)
  | (go_at_call 62;(with_reducible refine f2.mono ?_);rintro e w1 ⟨q,c,L,rfl,ER,hW,k1⟩;clear f2))
 obtain⟨z,hz,hzs⟩:∃ z,L[d]? = some z/\z.wZ=s:=by
  have:=HS.out;rw[<- ER,List.getElem?_map]at this;cases hz:L[d]? with
  | none=>rw[hz]at this;cases this
  | some z=>rw[hz]at this;exact⟨z,rfl,aaq this⟩
 have f3:=nV (k:=d) hW (by have:=HD.out;omega) Az.out hz;have Pt:=hW.ok z (aak hz);obtain⟨zp,zk,zl,sQ,rQ,sS,xq,rR,uY,zip,uZ,ve,zx⟩:=z;dsimp only[Sm.ok]at Pt f3;have YH:zx=s.x:=by rw[<- hzs];rfl
 subst YH;have K1:=K0.trans k1;have R1:=R0.kept k1;have hfw:=HG.out.few;have xm:=Pt.nk;have env:=Pt.nv;have hfl:=N.kN key s.x.ks;have VU:Hid (NV w1 zl sQ rQ sS xq rR uY zip uZ ve s.x):=Pt;have Yc:Hid (s.x.ks.length=rQ/\s.x.vs.length=rR):=⟨xm,env⟩;have f4:Hid (∀ W,Kept w1 W->Calls Tryz.prog 64 #[.slice sQ rQ sS,.string key] W fun e w'=>e=.returned (.tuple #[.int .i64 (bP key s.x.ks:Nat),.bool (gG key s.x.ks)])/\w'=W):=fun W k=>N.jO ((VU.out.kept k).k) (by omega) key
 have HF:Hid (bP key s.x.ks<=s.x.ks.length/\s.x.ks.length<=120):=⟨hfl,hfw⟩;generalize bP key s.x.ks=i at f4 HF La;clear Pt xm env hfl hfw hW ER hz hzs k1;cases hik:gG key s.x.ks with
 | false=>
  obtain⟨rfl,rfl⟩:=Pp.out hik;rw[hik]at f4;clear Pp La;go_wp2_with (first
   | (go_at_call 63;(with_reducible refine f3.mono ?_);rintro e w2 ⟨rfl,k2⟩;have ka:Kept w2 (w2.alloc (.cells #[.bool zl,.slice sQ rQ sS,.slice xq rR uY,.slice zip uZ ve] 121)):=(Kept.refl _).alloc _;have K2:=(K1.trans k2).trans ka;have k12:=k2.trans ka;have R2:=R1.kept k12;obtain⟨x0,x1,x2,x3⟩:=(C4.alloc w2 121 (.bool zl) (.slice sQ rQ sS) (.slice xq rR uY) (.slice zip uZ ve)).cs;obtain⟨⟨g0,i0⟩,⟨g1,i1⟩,⟨g2,i2⟩,hfin⟩:=N.dw R2.out (.string ⟨#[]⟩) (.int .i64 (-1)) (.int .i64 0);clear f3)
   | (go_at_call 64;(with_reducible refine (f4.out _ k12).mono ?_);rintro e w3 ⟨rfl,hw3⟩;rw[hw3];clear hw3 f4))
  have q2:=K2.Aa (b:=w.heap.size) (aac _) (.string ⟨#[]⟩) (.int .i64 (-1)) (.int .i64 0);generalize (((World.setCell _ ⟨w.heap.size,0,none⟩ (.string ⟨#[]⟩)).setCell ⟨w.heap.size,1,none⟩ (.int .i64 (-1))).setCell ⟨w.heap.size,2,none⟩ (.int .i64 0))=WF at hfin q2 ⊢;refine bodyPost_ret (v:=.tuple #[.agg #[.string ⟨#[]⟩,.int .i64 (-1),.int .i64 0],.bool false,.int .i64 0]) ?_ rfl ⟨rfl,q2⟩;exact gQ (p:=4) (u:=5) (v:=6) (ty:=77) rfl _ _ w.heap.size 77 #[.string ⟨#[]⟩,.int .i64 (-1),.int .i64 0] (0,0) _ rfl hfin Tryz.underlying77 rfl iJ
 | true=>
  obtain⟨hvs,rfl⟩:=La.out hik;rw[hik]at f4;clear Pp La;have hilt:=(aal.1 hvs).1;obtain⟨vb,vo,rfl,_⟩:=VU.out.v.some (by have:=Yc.out;omega);have WC:Hid (s.x.vs[i]? = some hv):=hvs;have i3:(i:Int)<(rR:Int):=by have:=Yc.out;omega
  obtain⟨hvd,hvp,hvl⟩:=hv;have cells:Hid (∀ W,Kept w1 W->W.cell? ⟨vb,vo+i*3,none⟩=some (.string hvd)/\W.cell? ⟨vb,vo+i*3+1,none⟩=some (.int .i64 hvp)/\W.cell? ⟨vb,vo+i*3+2,none⟩=some (.int .i64 hvl)):=fun W k=>by
   have rr:=(VU.out.kept k).v;obtain⟨c1,c2,c3⟩:=N.sw WC.out;rcases rr.out with⟨h0,_⟩|⟨b,off,e,f⟩
   ·cases h0
   injection e with e
   injection e with e1 e2
   subst e1;subst e2;exact⟨f _ _ c1,f _ _ c2,f _ _ c3⟩
  clear hvs hilt;go_wp2_with (first
   | (go_at_call 63;(with_reducible refine f3.mono ?_);rintro e w2 ⟨rfl,k2⟩;have ka:Kept w2 (w2.alloc (.cells #[.bool zl,.slice sQ rQ sS,.slice (some ⟨vb,vo,none⟩) rR uY,.slice zip uZ ve] 121)):=(Kept.refl _).alloc _;have K2:=(K1.trans k2).trans ka;have k12:=k2.trans ka;have R2:=R1.kept k12;obtain⟨x0,x1,x2,x3⟩:=(C4.alloc w2 121 (.bool zl) (.slice sQ rQ sS) (.slice (some ⟨vb,vo,none⟩) rR uY) (.slice zip uZ ve)).cs;obtain⟨u0,u1,u2⟩:=cells.out _ k12;obtain⟨⟨g0,i0⟩,⟨g1,i1⟩,⟨g2,i2⟩,hfin⟩:=N.dw R2.out (.string hvd) (.int .i64 hvp) (.int .i64 hvl);clear f3)
   | (go_at_call 64;(with_reducible refine (f4.out _ k12).mono ?_);rintro e w3 ⟨rfl,hw3⟩;rw[hw3];clear hw3 f4))
  have q2:=K2.Aa (b:=w.heap.size) (aac _) (.string hvd) (.int .i64 hvp) (.int .i64 hvl);generalize (((World.setCell _ ⟨w.heap.size,0,none⟩ (.string hvd)).setCell ⟨w.heap.size,1,none⟩ (.int .i64 hvp)).setCell ⟨w.heap.size,2,none⟩ (.int .i64 hvl))=WF at hfin q2 ⊢;refine bodyPost_ret (v:=.tuple #[.agg #[.string hvd,.int .i64 hvp,.int .i64 hvl],.bool true,.int .i64 0]) ?_ rfl ⟨rfl,q2⟩;exact gQ (p:=4) (u:=5) (v:=6) (ty:=77) rfl _ _ w.heap.size 77 #[.string hvd,.int .i64 hvp,.int .i64 hvl] (0,0) _ rfl hfin Tryz.underlying77 rfl iJ
theorem Pw(key:ByteArray)(hT:dI w t p root)(hV:Pv B w p m M)(h:Ev M root l):
 Calls Tryz.prog 40 #[.pointer (some ⟨t,0,none⟩),.string key] w fun e w'=>e=.returned (.tuple #[.agg #[.string (had key l).d,.int .i64 (had key l).p,.int .i64 (had key l).l],.bool (got key l).isSome,.int .i64 0])/\Kept w w':=by
 rcases h.out with⟨rfl,rfl⟩|⟨d,n,hr,hd,hw,ho,rfl⟩
 ·exact get_nil hT
 ·exact get_some hT hr hV hw ho hd
