/- Joined. -/
import Derived.Test.YtafgecaeiodmiaaGreatDoorZca
namespace Go.Proofs.YtafgecaeiodmiaaGreatDoor.T
open Go.ChangeShapes Go.WideShapes Go.ChangeAt Go.RowKit
open B (Pm R con fm fmN fm_some fm_kid pg pg_some pgN pgN_inner Wf WfN up_of)
open N (Nd NV Rw Rx Own Kept icl vcl Vl C4 C3 blk)
theorem kid_ord{M:Pm}{d i:Nat}{x:Nd}{c:Int}(g:N.Good x)(hl:x.leaf=false)(hi:x.is[i]? = some c)(h:(fmN M (d+1) x).Pairwise R):(fm M d c.toNat).Pairwise R:=by
 rw[fm_kid g hl hi]at h;exact (List.pairwise_append.1 (List.pairwise_append.1 h).1).2.1
structure Wi (w0 W4 wx:World) (t bw bm:Nat) (pp pi:Option Addr) (ni ci cnt:Nat) (pgs:List Nat) (Sx:Nat→Bool) (M:Pm) (d n i:Nat) (y:Nd):Prop where
 h:Wt w0 wx t bw bm pi ni ci (cnt+((y.is.take i).flatMap fun c=>con (fm M d c.toNat)).length) (pgs++(y.is.take i).flatMap fun c=>po M d c.toNat) (fun q=>Sx q || decide (q=n) || decide (q∈(y.is.take i).flatMap fun c=>pg M d c.toNat))
 f:Fm w0 bw bm W4 wx pp pi
set_option maxRecDepth 100000 in
set_option maxHeartbeats 4000000 in
theorem through_walk{B:Nat}{w0:World}{t p m bw bm:Nat}{root:Int}{M:Pm}(hT:TAt w0 t p root)(hV:Pv B w0 p m M):∀ (d n:Nat) (W:World) (pp:Option Addr) (np pc cnt:Nat) (pgs:List Nat) (Sx:Nat→Bool),Wt w0 W t bw bm pp np pc cnt pgs Sx→Wf M d n→(fm M d n).Pairwise R→(pg M d n).Nodup→(∀ q∈pg M d n,Sx q=false∧q<1024)→cnt+kys M d n≤100000→np+(pg M d n).length≤10000 →
  Calls Tryz.prog 28 #[.pointer (some ⟨bw,0,none⟩),.int .i64 (n:Nat)] W (ThPost w0 W t bw bm pp cnt pgs Sx M d n):=by
 intro d;induction d with
 | zero=>
  intro n W pp np pc cnt pgs Sx H hw ho _ hS hc hp;have hm:n∈pg M 0 n:=by obtain⟨y,hy,_⟩:=hw;rw[pg_some hy];simp
  exact through_leaf hT hV H hw ho (hS n hm).1 (hS n hm).2 hc (by omega)
 | succ d ih=>
  intro n W pp np pc cnt pgs Sx H hw ho hnd hS hc hp;obtain⟨y,hy,hne,hs,hwn⟩:=hw;have hg:=hwn.good;have hli:=(hg.li hwn.1).1;have hvs:=(hg.li hwn.1).2;have hky:=kys_inner (d:=d) hy hli;have hpo:po M (d+1) n=(y.is.flatMap fun c=>po M d c.toNat)++[n]:=by rw[po_some hy,poN_inner]
  have hpg:pg M (d+1) n=n :: y.is.flatMap fun c=>pg M d c.toNat:=by rw[pg_some hy,pgN_inner]
  have HP:Hid (kys M (d+1) n=(y.is.flatMap fun c=>con (fm M d c.toNat)).length∧po M (d+1) n=(y.is.flatMap fun c=>po M d c.toNat)++[n]∧pg M (d+1) n=n :: y.is.flatMap fun c=>pg M d c.toNat):=⟨hky,hpo,hpg⟩;rw[hky]at hc;rw[hpg]at hnd hS hp;rw[fm_some hy]at ho;obtain⟨hn0,hnd2⟩:=List.nodup_cons.1 hnd;have hSn:=hS n (by simp);have hn:n<1024:=hSn.2;obtain⟨c0,c1,c2,c3⟩:=H.c4.cs;have hl:=H.ms.look n (by omega);rw[hSn.1]at hl;have k1:Kept W (W.alloc (.cells #[] 124)):=(Kept.refl W).alloc _;have H1:=H.kept k1;obtain⟨W2,hu,m2,o2⟩:=H1.ms.store n hn;obtain⟨H2,F2⟩:=H1.mark m2 o2;obtain⟨d0,d1,d2,d3⟩:=H1.c4.cs;obtain⟨e0,e1,e2,e3⟩:=H2.c4.cs;have HN:=node_walk (hT.kept H2.k) (hV.kept H2.k) hy hg (up_of hwn ho) false hwn.1;have HH2:Hid (Wt w0 W2 t bw bm pp np pc cnt pgs (fun k=>Sx k || decide (k=n))):=H2;have HF2:Hid (Fm w0 bw bm W W2 pp pp):=(Fm.ofKept k1 pp).trans F2;have HVs:Hid (y.vs=[]):=hvs;have HKs:Hid (2≤y.is.length∧y.is.length≤121):=by
   have h1:=List.length_pos_iff.2 hne;have h2:=hg.few;exact⟨by omega,by omega⟩
  have hpl:np+(y.is.flatMap fun c=>pg M d c.toNat).length+1≤10000:=by simp only[List.length_cons]at hp;omega
  have HLp:Hid (∀ i,((y.is.take i).flatMap fun c=>po M d c.toNat).length=((y.is.take i).flatMap fun c=>pg M d c.toNat).length):=fun i=>(flat_perm (f:=fun c=>po M d c.toNat) (g:=fun c=>pg M d c.toNat) (y.is.take i) (fun c hc=>po_perm d c.toNat (hwn.2.2 c (List.mem_of_mem_take hc)))).length_eq
  have IH:Hid (∀ (i:Nat) (c:Int) (wx:World) (pi:Option Addr) (ni ci:Nat),y.is[i]? = some c→Wi w0 wx wx t bw bm pi pi ni ci cnt pgs Sx M d n i y →
    Calls Tryz.prog 28 #[.pointer (some ⟨bw,0,none⟩),.int .i64 c] wx fun e w'=>e=.returned (.int .i64 0)∧∃ pj nj cj,Wi w0 wx w' t bw bm pi pj nj cj cnt pgs Sx M d n (i+1) y):=by
   intro i c wx pi ni ci hi hW;have hni:np+((y.is.take i).flatMap fun c=>pg M d c.toNat).length=ni:=by
    have l1:=hW.h.len;have l0:=H.len;have l2:=(flat_perm (f:=fun c=>po M d c.toNat) (g:=fun c=>pg M d c.toNat) (y.is.take i) (fun c hc=>po_perm d c.toNat (hwn.2.2 c (List.mem_of_mem_take hc)))).length_eq;rw[List.length_append]at l1;omega
   obtain⟨q,rfl,_⟩:=hg.ik c (List.mem_of_getElem? hi);have hwk:=hwn.2.2 _ (List.mem_of_getElem? hi);have a1:=flat_more (f:=fun c=>pg M d c.toNat) hi;have a2:=flat_le (f:=fun c=>pg M d c.toNat) (C:=y.is) (i+1);have b1:=flat_more (f:=fun c=>con (fm M d c.toNat)) hi;have b2:=flat_le (f:=fun c=>con (fm M d c.toNat)) (C:=y.is) (i+1);have p1:=flat_more (f:=fun c=>po M d c.toNat) hi;rw[a1,List.length_append]at a2;rw[b1,List.length_append]at b2;simp only[Int.toNat_natCast]at a1 a2 b1 b2 p1 hwk;refine (ih q wx pi ni ci _ _ _ hW.h hwk (by have:=kid_ord hg hwn.1 hi ho;simpa using this) (by have:=flat_nodup hi hnd2;simpa using this) (fun x hx=>?_) (by unfold kys;omega) (by omega)).mono ?_
   ·have hxm:x∈y.is.flatMap fun c=>pg M d c.toNat:=List.mem_flatMap.2 ⟨_,List.mem_of_getElem? hi,by simpa using hx⟩
    have h1:=hS x (List.mem_cons_of_mem _ hxm);have h2:x≠n:=by rintro rfl;exact hn0 hxm
    have h3:=flat_disj hi hnd2 x (by simpa using hx);refine⟨?_,h1.2⟩;rw[h1.1];simp only[Bool.false_or,Bool.or_eq_false_iff,decide_eq_false_iff_not];exact⟨h2,h3⟩
   ·rintro e w' ⟨rfl,pj,nj,cj,h5,f5⟩
    refine⟨rfl,pj,nj,cj,?_,f5⟩;rw[b1,p1,List.length_append,← List.append_assoc,← Nat.add_assoc,a1];refine wt_congr h5 (fun x=>?_);simp only[List.mem_append,Bool.or_assoc];congr 2;simp
  clear hT hV hwn hne hs ho hy hg hli hvs hky hpo hpg H H1 H2 F2 k1 m2 o2 hS hSn hnd hn0 hnd2 ih hp;go_enter Tryz.func28,Tryz.ntmps28;go_upto_region 9 with (go_at_call 47;(with_reducible refine HN.mono ?_);rintro e w3 ⟨kp,nk,kc,vp,nv,vc,ip,ni,ic,rfl,N3,k3,nw3⟩;have k4:Kept w3 (w3.alloc (.cells #[.bool false,.slice kp nk kc,.slice vp nv vc,.slice ip ni ic] 71)):=(Kept.refl w3).alloc _;have N4:=N3.kept k4;have X4:=C4.alloc w3 71 (.bool false) (.slice kp nk kc) (.slice vp nv vc) (.slice ip ni ic);obtain⟨y0,y1,y2,y3⟩:=X4.cs;have K24:=k3.trans k4;have HNw:Hid (N.Nw W2.heap.size ip):=nw3;clear HN N3 nw3)
  have hnv:nv=0:=by have:=N4.v.len;rw[N.vcl_length,HVs.out]at this;simp at this;omega
  subst hnv;refine wp_loop_rounds 1 ?_;rw[rounds_succ];have hni:y.is.length=ni:=by have:=N4.i.len;rw[N.icl_length]at this;omega
  have H4:=HH2.out.kept K24;have F4:=HF2.out.trans (Fm.ofKept K24 pp);have RI:=N4.i;have hX4:=X4.out;obtain⟨ib,io,rfl,hic⟩:∃ ib io,ip=some ⟨ib,io,none⟩∧∀ j u,(icl y.is)[j]? = some u→(w3.alloc (.cells #[.bool false,.slice kp nk kc,.slice vp 0 vc,.slice ip ni ic] 71)).cell? ⟨ib,io+j,none⟩=some u:=by
   rcases RI.out with⟨_,h0⟩|⟨ib,io,e,hh⟩
   ·have:=HKs.out;omega
   ·exact⟨ib,io,e,hh⟩
  obtain⟨ics,ifr,hib⟩:=N4.ix.typ ib io none rfl;generalize w3.alloc (.cells #[.bool false,.slice kp nk kc,.slice vp 0 vc,.slice (some ⟨ib,io,none⟩) ni ic] 71)=W4 at *;have hhb:Hid (W4.heap[w3.heap.size]? = some (.cells #[.bool false,.slice kp nk kc,.slice vp 0 vc,.slice (some ⟨ib,io,none⟩) ni ic] 71)):=hX4;have HH4:Hid (Wt w0 W4 t bw bm pp np pc cnt pgs (fun k=>Sx k || decide (k=n))):=H4;have HF4:Hid (Fm w0 bw bm W W4 pp pp):=F4;have HIC:Hid ((∀ j u,(icl y.is)[j]? = some u→W4.cell? ⟨ib,io+j,none⟩=some u)∧W4.heap[ib]? = some (.cells ics 3 ifr)∧W2.heap.size≤ib):=⟨hic,hib,HNw.out ib io none rfl⟩;have HNI:Hid (y.is.length=ni):=hni;have hn121:ni≤121:=by have:=HKs.out;omega
  have HW0:Hid (Wi w0 W4 W4 t bw bm pp pp np pc cnt pgs Sx M d n 0 y):=⟨wt_congr (by simpa using H4) (fun q=>by simp),Fm.refl _ _ _ _ _⟩;clear hni H4 F4 RI N4 X4 hX4 HF2 K24 k3 k4 HVs hic hib HNw;have HPn:Hid (∀ (wx:World) (pi:Option Addr) (nj ci:Nat),Wi w0 W4 wx t bw bm pp pi nj ci cnt pgs Sx M d n ni y→nj≤10000):=fun wx pi nj ci hW=>by
   have l1:=hW.h.len;have l0:=HH4.out.len;have l2:=HLp.out ni;rw[List.length_append]at l1;have l3:=flat_le (f:=fun c=>pg M d c.toNat) (C:=y.is) ni;omega
  go_upto_region 16 with fail
  go_loopg [63] ni (fun gg iv wx=>∃ (i:Nat) (pi:Option Addr) (nj ci:Nat),iv=.int .i64 (i:Nat)∧Hid (gg=ni-i)∧i≤ni∧Hid (Wi w0 W4 wx t bw bm pp pi nj ci cnt pgs Sx M d n i y));case atStart=>exact⟨0,pp,np,pc,rfl,rfl,Nat.zero_le _,HW0⟩
  case round=>
   obtain⟨i,pi,nj,ci,rfl,hg,hin,HI⟩:=hrel;clear HW0;by_cases h1:(i:Int)<(ni:Int)
   ·obtain⟨c,hc'⟩:∃ c,y.is[i]? = some c:=⟨_,List.getElem?_eq_getElem (by rw[HNI.out];omega)⟩
    have hib:=HI.out.f.fresh HH2.out HIC.out.2.1 HIC.out.2.2;have hcell:wr.cell? ⟨ib,io+i,none⟩=some (.int .i64 c):=(World.cell?_of_block (hib.trans HIC.out.2.1.symm)).trans (HIC.out.1 i _ (N.icl_at hc'));have FI:=IH.out i c wr pi nj ci hc' ⟨HI.out.h,Fm.refl _ _ _ _ _⟩;clear hib hc';go_wp2_with (go_at_call 28;(with_reducible refine FI.mono ?_);rintro e w4 ⟨rfl,pj,nj4,cj,W5⟩;have HI4:Hid (Wi w0 W4 w4 t bw bm pp pj nj4 cj cnt pgs Sx M d n (i+1) y):=⟨W5.h,HI.out.f.trans W5.f⟩;clear FI W5 HI);go_roundg (ni-(i+1));case measure=>rw[hg.out];omega
    case rel=>exact⟨i+1,pj,nj4,cj,by go_num,rfl,by omega,HI4⟩
   ·obtain rfl:i=ni:=by omega
    obtain⟨q0,q1,q2,q3⟩:=HI.out.h.c4.cs;have hnj:=HPn.out wr pi nj ci HI.out;have ka:Kept wr (wr.alloc (.cells #[.int .i64 (n:Nat)] 3)):=(Kept.refl wr).alloc _;have hcn:(wr.alloc (.cells #[.int .i64 (n:Nat)] 3)).cell? ⟨wr.heap.size,0,none⟩=some (.int .i64 (n:Nat)):=by rw[cell_of_row _ _ 0 _ _ _ (heap_alloc_new wr _)];rfl
    obtain⟨q,c,w5,hr,ho5,hg5,hq5⟩:=append_at (HI.out.h.own.kept ka) (by have:=(Array.getElem?_eq_some_iff.1 HI.out.h.box).1;have:=ka.size;omega) (by omega) wr.heap.size (n:Nat) hcn 49;have hq6:blk q=blk pi∨∀ b,blk q=some b→wr.heap.size≤b:=hq5.imp id (fun h b e=>Nat.le_trans ka.size (h b e));obtain⟨C5,H5,F5⟩:=HI.out.h.push ho5 hg5 hq6;obtain⟨r0,r1,r2,r3⟩:=C5.cs;have rf:=C5.fz 3;have FF5:Hid (Fm w0 bw bm W (w5.setCell ⟨bw,3,none⟩ (.slice q (nj+1) c)) pp q):=(HF4.out.trans HI.out.f).trans F5;have HH5:Hid (Wt w0 (w5.setCell ⟨bw,3,none⟩ (.slice q (nj+1) c)) t bw bm q (nj+1) c (cnt+kys M (d+1) n) (pgs++po M (d+1) n) (fun q=>Sx q || decide (q∈pg M (d+1) n))):=by
     have et:y.is.take i=y.is:=List.take_of_length_le (by rw[HNI.out];exact Nat.le_refl _);rw[et]at H5;rw[HP.out.1,HP.out.2.1,HP.out.2.2,← List.append_assoc];exact wt_congr H5 (fun x=>by simp[Bool.or_assoc])
    clear H5 F5 ho5 hg5 hq5 hq6 C5 HI;go_wp2_with (at_builtin;refine S.wpList_append_run rfl _ _ _ _ _ _ rfl rfl rfl hr ?_);go_ret;exact⟨rfl,q,nj+1,c,HH5.out,FF5.out⟩
end Go.Proofs.YtafgecaeiodmiaaGreatDoor.T