/- Joined. -/
import Derived.Test.YtafgecaeiodmiaaGreatDoorZbz
import Derived.Deep.RegionHeld3
import Derived.Deep.DrawnRows
namespace Go.Proofs.YtafgecaeiodmiaaGreatDoor.T
open Go.ChangeShapes Go.WideShapes Go.ChangeAt Go.RowKit
open B (Pm R fm fm_some pg pg_some pgN Wf WfN up_of)
open N (Nd NV Rw Rx Own Kept icl vcl Vl C4 C3 blk)
def ThPost (w0 W:World) (t bw bm:Nat) (pp:Option Addr) (cnt:Nat) (pgs:List Nat) (S:Nat→Bool) (M:Pm) (d n:Nat) (e:Ending) (w':World):Prop:=
 e=.returned (.int .i64 0)∧∃ pp' np' pc',Wt w0 w' t bw bm pp' np' pc' (cnt+kys M d n) (pgs++po M d n) (fun q=>S q || decide (q∈pg M d n))∧Fm w0 bw bm W w' pp pp'
theorem wt_congr{w0 W:World}{t bw bm:Nat}{pp:Option Addr}{np pc cnt:Nat}{pgs:List Nat}{S S':Nat→Bool}(h:Wt w0 W t bw bm pp np pc cnt pgs S)(e:∀ q,S q=S' q):Wt w0 W t bw bm pp np pc cnt pgs S':=by
 obtain rfl:S=S':=funext e;exact h
set_option maxRecDepth 100000 in
set_option maxHeartbeats 4000000 in
theorem through_leaf{B:Nat}{w0 W:World}{t p m bw bm:Nat}{root:Int}{M:Pm}(hT:TAt w0 t p root)(hV:Pv B w0 p m M){pp:Option Addr}{np pc cnt:Nat}{pgs:List Nat}{Sx:Nat→Bool}(H:Wt w0 W t bw bm pp np pc cnt pgs Sx){n:Nat}(hw:Wf M 0 n)(ho:(fm M 0 n).Pairwise R)(hS:Sx n=false)(hn:n<1024)(hc:cnt+kys M 0 n≤100000)(hp:np≤10000) :
  Calls Tryz.prog 28 #[.pointer (some ⟨bw,0,none⟩),.int .i64 (n:Nat)] W (ThPost w0 W t bw bm pp cnt pgs Sx M 0 n):=by
 obtain⟨y,hy,hne,hs,hwn⟩:=hw;have hg:=hwn.good;have hky:kys M 0 n=y.vs.length:=kys_leaf hy (hg.lv hwn.1).1;have hpo:po M 0 n=[n]:=by rw[po_some hy];rfl
 have hpg:pg M 0 n=[n]:=by rw[pg_some hy];rfl
 have HP:Hid (kys M 0 n=y.vs.length∧po M 0 n=[n]∧pg M 0 n=[n]):=⟨hky,hpo,hpg⟩;rw[hky]at hc;rw[fm_some hy]at ho;have hi:=(hg.lv hwn.1).2;obtain⟨c0,c1,c2,c3⟩:=H.c4.cs;have hl:=H.ms.look n (by omega);rw[hS]at hl;have k1:Kept W (W.alloc (.cells #[] 124)):=(Kept.refl W).alloc _;have H1:=H.kept k1;obtain⟨W2,hu,m2,o2⟩:=H1.ms.store n hn;obtain⟨H2,F2⟩:=H1.mark m2 o2;obtain⟨d0,d1,d2,d3⟩:=H1.c4.cs;obtain⟨e0,e1,e2,e3⟩:=H2.c4.cs;have HN:=node_walk (hT.kept H2.k) (hV.kept H2.k) hy hg (up_of hwn ho) true hwn.1;have HH2:Hid (Wt w0 W2 t bw bm pp np pc cnt pgs (fun k=>Sx k || decide (k=n))):=H2;have HF2:Hid (Fm w0 bw bm W W2 pp pp):=(Fm.ofKept k1 pp).trans F2;have HVs:Hid (y.is=[]):=hi;clear hT hV hwn hne hs ho hy hg hi hky hpo hpg H H1 H2 F2 k1 m2 o2 hS;go_enter Tryz.func28,Tryz.ntmps28;go_wp2_with (go_at_call 47;(with_reducible refine HN.mono ?_);rintro e w3 ⟨kp,nk,kc,vp,nv,vc,ip,ni,ic,rfl,N3,k3,nw3⟩;have k4:Kept w3 (w3.alloc (.cells #[.bool true,.slice kp nk kc,.slice vp nv vc,.slice ip ni ic] 71)):=(Kept.refl w3).alloc _;have N4:=N3.kept k4;have X4:=C4.alloc w3 71 (.bool true) (.slice kp nk kc) (.slice vp nv vc) (.slice ip ni ic);obtain⟨y0,y1,y2,y3⟩:=X4.cs;have K24:=k3.trans k4;clear HN N3 nw3);have hnv:y.vs.length=nv:=by have:=N4.v.len;rw[N.vcl_length]at this;omega
 have hni:ni=0:=by have:=N4.i.len;rw[N.icl_length,HVs.out]at this;simp at this;omega
 subst hni;have H4:=HH2.out.kept K24;have F4:=HF2.out.trans (Fm.ofKept K24 pp);have RV:=N4.v;have RX:=N4.vx;have hX4:=X4.out;generalize w3.alloc (.cells #[.bool true,.slice kp nk kc,.slice vp nv vc,.slice ip 0 ic] 71)=W4 at *;have hhb:Hid (W4.heap[w3.heap.size]? = some (.cells #[.bool true,.slice kp nk kc,.slice vp nv vc,.slice ip 0 ic] 71)):=hX4;have HH4:Hid (Wt w0 W4 t bw bm pp np pc cnt pgs (fun k=>Sx k || decide (k=n))):=H4;have HF4:Hid (Fm w0 bw bm W W4 pp pp):=F4;have HRV:Hid (Rw W4 3 vp nv vc (vcl y.vs)∧Rx W4 35 vp vc):=⟨RV,RX⟩;have HNV:Hid (y.vs.length=nv):=hnv;have hcv:cnt+nv≤100000:=by omega
 clear hnv H4 F4 RV RX N4 X4 hX4 HH2 HF2 K24 k3 k4 HVs hc;go_loopg [46] nv (fun gg iv wx=>∃ i:Nat,iv=.int .i64 (i:Nat)∧Hid (gg=nv-i)∧i≤nv∧Hid (Wt w0 wx t bw bm pp np pc (cnt+i) pgs (fun k=>Sx k || decide (k=n)))∧Hid (Fm w0 bw bm W4 wx pp pp));case atStart=>exact⟨0,rfl,rfl,Nat.zero_le _,HH4,Fm.refl _ _ _ _ _⟩
 case round=>
  obtain⟨i,rfl,hg,hin,HI,FI⟩:=hrel;have hbx:=FI.out.cells HH4.out hhb.out (by decide) (by decide);obtain⟨z0,z1,z2,z3⟩:=(C4.mk hbx).cs;by_cases h1:(i:Int)<(nv:Int)
  ·obtain⟨v,hv⟩:∃ v,y.vs[i]? = some v:=⟨_,List.getElem?_eq_getElem (by rw[HNV.out];omega)⟩
   obtain⟨vb,vo,rfl,hv0,hv1,hv2⟩:∃ vb vo,vp=some ⟨vb,vo,none⟩∧wr.cell? ⟨vb,vo+i*3,none⟩=some (.string v.d)∧wr.cell? ⟨vb,vo+i*3+1,none⟩=some (.int .i64 v.p)∧wr.cell? ⟨vb,vo+i*3+2,none⟩=some (.int .i64 v.l):=by
    rcases HRV.out.1.out with⟨_,h0⟩|⟨ib,io,e,hh⟩
    ·omega
    ·obtain⟨cs',fr,hb'⟩:=HRV.out.2.typ ib io none e
     have hb2:=FI.out.cells HH4.out hb' (by decide) (by decide);have hcell:∀ j u,(vcl y.vs)[j]? = some u→wr.cell? ⟨ib,io+j,none⟩=some u:=fun j u hu=>(World.cell?_of_block (hb2.trans hb'.symm)).trans (hh j u hu)
     obtain⟨a0,a1,a2⟩:=N.vcl_at hv;exact⟨ib,io,e,hcell _ _ a0,by have:=hcell _ _ a1;rwa [← Nat.add_assoc]at this,by have:=hcell _ _ a2;rwa [← Nat.add_assoc]at this⟩
   have ka:Kept wr (wr.alloc (.cells #[.string v.d,.int .i64 v.p,.int .i64 v.l] 35)):=(Kept.refl wr).alloc _;have HA:=HI.out.kept ka;have FA:=FI.out.trans (Fm.ofKept ka pp);have X3:=C3.alloc wr 35 (.string v.d) (.int .i64 v.p) (.int .i64 v.l);have hA:Hid (Wt w0 (wr.alloc (.cells #[.string v.d,.int .i64 v.p,.int .i64 v.l] 35)) t bw bm pp np pc (cnt+i) pgs (fun k=>Sx k || decide (k=n))∧Fm w0 bw bm W4 (wr.alloc (.cells #[.string v.d,.int .i64 v.p,.int .i64 v.l] 35)) pp pp):=⟨HA,FA⟩;have hsz:w0.heap.size<wr.heap.size:=(Array.getElem?_eq_some_iff.1 HI.out.box).1;clear hv hbx z0 z1 z2 z3 HI FI;go_upto_region 11 with fail
   go_cut [11] from 50 to 56 (fun rv wx=>rv=.int .i64 0∧Wt w0 wx t bw bm pp np pc (cnt+(i+1)) pgs (fun k=>Sx k || decide (k=n))∧Fm w0 bw bm W4 wx pp pp)
   case first=>
    have HSA:Hid (∀ W',(wr.alloc (.cells #[.string v.d,.int .i64 v.p,.int .i64 v.l] 35)).grownBy W' (some w0.heap.size)→W'.cell? ⟨bw,1,none⟩=some (.func (.func 15) #[] #[.pointer (some ⟨w0.heap.size,0,none⟩)])∧W'.cell? ⟨wr.heap.size,0,none⟩=some (.string v.d)∧W'.cell? ⟨wr.heap.size,1,none⟩=some (.int .i64 v.p)∧W'.cell? ⟨wr.heap.size,2,none⟩=some (.int .i64 v.l)):=fun W' hW=>by
     have h1:=(HA.c4.grown hW (by intro e;injection e with e;have:=HA.hb.1;omega)).cs.2.1;obtain⟨h2,h3,h4⟩:=(X3.grown hW (by intro e;injection e with e;omega)).cs;exact⟨h1,h2,h3,h4⟩
    have KD:(wr.alloc (.cells #[.string v.d,.int .i64 v.p,.int .i64 v.l] 35)).grownBy (wr.alloc (.cells #[.string v.d,.int .i64 v.p,.int .i64 v.l] 35)).drew (some w0.heap.size):=⟨rfl,rfl,rfl,Nat.le_refl _,fun _ _ _=>rfl⟩;have fe:=each_walk (W:=(wr.alloc (.cells #[.string v.d,.int .i64 v.p,.int .i64 v.l] 35)).drew) (nb:=w0.heap.size) (cnt:=cnt+i) HA.box (by omega) v.d v.p v.l;clear HA FA X3;go_region_held3 (fun W'=>W'.cell? ⟨bw,1,none⟩=some (.func (.func 15) #[] #[.pointer (some ⟨w0.heap.size,0,none⟩)])∧W'.cell? ⟨wr.heap.size,0,none⟩=some (.string v.d)∧W'.cell? ⟨wr.heap.size,1,none⟩=some (.int .i64 v.p)∧W'.cell? ⟨wr.heap.size,2,none⟩=some (.int .i64 v.l)) (exact HSA.out _ (by assumption)) (first
     | (go_at_call 15;(with_reducible refine fe.mono ?_);rintro e v1 ⟨rfl,g1,b1⟩;have J1:=KD.trans g1;clear g1 KD fe))
    all_goals (go_wp2_with fail)
    all_goals go_meet
    all_goals (obtain⟨q1,q2⟩:=hA.out.1.tick J1 b1;exact⟨rfl,q1,hA.out.2.trans q2⟩)
   case rest=>
    obtain⟨rfl,H5,F5⟩:=hcut;have HH5:Hid (Wt w0 wc t bw bm pp np pc (cnt+(i+1)) pgs (fun k=>Sx k || decide (k=n))):=H5;have FF5:Hid (Fm w0 bw bm W4 wc pp pp):=F5;clear H5 F5 hA HA FA X3;go_wp2;go_roundg (nv-(i+1));case measure=>rw[hg.out];omega
    case rel=>exact⟨i+1,by go_num,rfl,by omega,HH5,FF5⟩
  ·obtain rfl:i=nv:=by omega
   obtain⟨q0,q1,q2,q3⟩:=HI.out.c4.cs;have ka:Kept wr (wr.alloc (.cells #[.int .i64 (n:Nat)] 3)):=(Kept.refl wr).alloc _;have hcn:(wr.alloc (.cells #[.int .i64 (n:Nat)] 3)).cell? ⟨wr.heap.size,0,none⟩=some (.int .i64 (n:Nat)):=by rw[cell_of_row _ _ 0 _ _ _ (heap_alloc_new wr _)];rfl
   obtain⟨q,c,w5,hr,ho5,hg5,hq5⟩:=append_at (HI.out.own.kept ka) (by have:=(Array.getElem?_eq_some_iff.1 HI.out.box).1;have:=ka.size;omega) (by omega) wr.heap.size (n:Nat) hcn 49;have hq6:blk q=blk pp∨∀ b,blk q=some b→wr.heap.size≤b:=hq5.imp id (fun h b e=>Nat.le_trans ka.size (h b e));obtain⟨C5,H5,F5⟩:=HI.out.push ho5 hg5 hq6;obtain⟨r0,r1,r2,r3⟩:=C5.cs;have rf:=C5.fz 3;have HH5:Hid (Wt w0 (w5.setCell ⟨bw,3,none⟩ (.slice q (np+1) c)) t bw bm q (np+1) c (cnt+i) (pgs++[n]) (fun k=>Sx k || decide (k=n))):=H5;have FF5:Hid (Fm w0 bw bm W (w5.setCell ⟨bw,3,none⟩ (.slice q (np+1) c)) pp q):=(HF4.out.trans FI.out).trans F5;clear H5 F5 ho5 hg5 hq5 hq6 C5 HI FI hbx;go_upto_region 16 with fail
   refine wp_loop_rounds 1 ?_;rw[rounds_succ];go_wp2_with (at_builtin;refine S.wpList_append_run rfl _ _ _ _ _ _ rfl rfl rfl hr ?_);go_ret;refine⟨rfl,q,np+1,c,?_,FF5.out⟩;rw[HP.out.1,HP.out.2.1,HP.out.2.2,HNV.out];exact wt_congr HH5.out (fun k=>by simp)
end Go.Proofs.YtafgecaeiodmiaaGreatDoor.T