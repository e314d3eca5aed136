/- Joined: VG. What is proved of the functions beneath BtreeEnds,BtreeFull,BtreeShape,BtreePlays. Conditions: those that each row names. -/
import Derived.Test.YtncfpjccfmolgaaGreatDoorZbg
import Derived.Deep.QuietTactic
import Derived.BigQuiet
namespace Go.Proofs.YtncfpjccfmolgaaGreatDoor.T
open Go.ChangeShapes Go.WideShapes Go.ChangeAt Go.RowKit
open B (Pm En R Tree Tr fm fmN pg pgN pgs pgs_append pg_some pgN_inner Wf WfN WfN_inner fm_some fm_kid up_of)
open N (Nd NV Kept C4 icl icl_at)
theorem ord_kid {M:Pm} {d i:Nat} {x:Nd} {c:Int} (g:N.Good x) (hl:x.leaf=false) (hi:x.is[i]? = some c) (h:(fmN M (d+1) x).Pairwise R):(fm M d c.toNat).Pairwise R:=by
 rw[fm_kid g hl hi]at h
 exact (List.pairwise_append.1 (List.pairwise_append.1 h).1).2.1
theorem pgs_more {M:Pm} {d i:Nat} {C:List Int} {c:Int} (h:C[i]? = some c):(pgs M d (C.take (i+1))).length=(pgs M d (C.take i)).length+(pg M d c.toNat).length:=by
 rw[List.take_add_one,h,pgs_append];simp[pgs]
theorem pgs_le {M:Pm} {d:Nat} {C:List Int} (i:Nat):(pgs M d (C.take i)).length≤(pgs M d C).length:=by
 have h:pgs M d C=pgs M d (C.take i)++pgs M d (C.drop i):=by rw[← pgs_append,List.take_append_drop]
 rw[h,List.length_append];omega
set_option maxRecDepth 100000 in
set_option maxHeartbeats 2000000 in
theorem shape_leaf {B:Nat} {w:World} {t p m n deep:Nat} {root:Int} {M:Pm} (hT:TAt w t p root) (hV:Pv B w p m M) (hw:Wf M 0 n) (ho:(fm M 0 n).Pairwise R) (hd:deep≤20) :
  Calls Tryz.prog 19 #[.pointer (some ⟨t,0,none⟩),.int .i64 (n:Nat),.int .i64 (deep:Nat)] w fun e w'=>e=.returned (.tuple #[.int .i64 1,.int .i64 1,.bool true])∧Kept w w':=by
 obtain⟨y,hy,hne,hs,hwn⟩:=hw
 rw[fm_some hy]at ho
 have HN:=node_walk hT hV hy hwn.good (up_of hwn ho) true hwn.1
 have HG:Hid (N.Good y):=hwn.good
 have HE:Hid (y.ks≠[]):=hne
 have HS:Hid (y.put.length≤237):=hs
 have hd':¬ (20<(deep:Int)):=by omega
 clear hT hV hwn hne hs ho hy hd
 go_enter Tryz.func19,Tryz.ntmps19
 go_wp2_with (first
  | (go_at_call 21;(with_reducible refine HN.mono ?_);rintro e w1 ⟨kp,nk,kc,vp,nv,vc,ip,ni,ic,rfl,N1,k1,_⟩;have k2:Kept w1 (w1.alloc (.cells #[.bool true,.slice kp nk kc,.slice vp nv vc,.slice ip ni ic] 52)):=(Kept.refl w1).alloc _;have N2:=N1.kept k2;have X2:=C4.alloc w1 52 (.bool true) (.slice kp nk kc) (.slice vp nv vc) (.slice ip ni ic);obtain⟨y0,y1,y2,y3⟩:=X2.cs;have K2:=k1.trans k2;have P2:=N.put_walk N2 HG.out;have hnk:0<nk:=(by have:=N1.nk;have:=List.length_pos_iff.2 HE.out;omega);clear HN)
  | (go_at_call 37;(with_reducible refine P2.mono ?_);rintro e w3 ⟨rfl,k3⟩;have X3:=X2.kept k3;have K3:=K2.trans k3;obtain⟨z0,z1,z2,z3⟩:=X3.cs;have hsz:¬ (237<((N.bs y.put).size:Int)):=(by have:=N.bs_size y.put;have:=HS.out;omega);clear P2 N1 N2))
 go_quiet (fail)
 go_wp2
 go_ret3
 exact⟨by simp,⟨K3.out.trans ⟨rfl,rfl,rfl,Nat.le_refl _,fun _ _=>rfl⟩⟩⟩
structure Sk (M:Pm) (d:Nat) (w wx:World) (b:Nat) (kp:Option Addr) (nk kc:Nat) (vp:Option Addr) (nv vc:Nat) (ip:Option Addr) (ni ic:Nat) (y:Nd) (i f q:Nat):Prop where
 c4:C4 wx b 52 (.bool false) (.slice kp nk kc) (.slice vp nv vc) (.slice ip ni ic)
 nv:NV wx false kp nk kc vp nv vc ip ni ic y
 k:Kept w wx
 f:0<i→f=d+1
 q:q=1+(pgs M d (y.is.take i)).length
set_option maxRecDepth 100000 in
set_option maxHeartbeats 4000000 in
theorem shape_walk {B:Nat} {t p m:Nat} {root:Int} {M:Pm}:∀ (d n deep:Nat) (w:World),TAt w t p root→Pv B w p m M→Wf M d n→(fm M d n).Pairwise R→d+deep≤20→(pg M d n).length≤100000 →
  Calls Tryz.prog 19 #[.pointer (some ⟨t,0,none⟩),.int .i64 (n:Nat),.int .i64 (deep:Nat)] w fun e w'=>e=.returned (.tuple #[.int .i64 ((d+1:Nat):Int),.int .i64 ((pg M d n).length:Nat),.bool true])∧Kept w w':=by
 intro d
 induction d with
 | zero=>
  intro n deep w hT hV hw ho hd _
  refine (shape_leaf hT hV hw ho (by omega)).mono ?_
  rintro e w' ⟨rfl,k⟩
  obtain⟨y,hy,_⟩:=hw
  exact⟨by rw[pg_some hy];rfl,k⟩
 | succ d ih=>
  intro n deep w hT hV hw ho hd hpl
  obtain⟨y,hy,hne,hs,hwn⟩:=hw
  rw[fm_some hy]at ho
  rw[pg_some hy,pgN_inner,List.length_cons]at hpl ⊢
  have hpl':(pgs M d y.is).length+1≤100000:=hpl
  show Calls _ _ _ _ (fun e w'=>e=.returned (.tuple #[.int .i64 ((d+1+1:Nat):Int),.int .i64 (((pgs M d y.is).length+1:Nat):Int),.bool true])∧Kept w w')
  obtain⟨pl,hplq⟩:∃ pl,pl=(pgs M d y.is).length+1:=⟨_,rfl⟩
  rw[← hplq]
  have HPQ:Hid (pl=(pgs M d y.is).length+1):=hplq
  have hdd:d≤20:=by omega
  clear hplq
  have hg:=hwn.good
  have HN:=node_walk hT hV hy hg (up_of hwn ho) false hwn.1
  have HG:Hid (N.Good y):=hg
  have hli:=(hg.li hwn.1).1
  have hki:2≤y.is.length:=by have:=List.length_pos_iff.2 hne;omega
  have HK:Hid (2≤y.is.length∧y.is.length≤121):=⟨hki,by have:=hg.few;omega⟩
  have HS:Hid (y.put.length≤237):=hs
  have HP:Hid ((pgs M d y.is).length+1≤100000):=hpl'
  have IH:Hid (∀ (i:Nat) (c:Int) (W:World),y.is[i]? = some c→Kept w W→Calls Tryz.prog 19 #[.pointer (some ⟨t,0,none⟩),.int .i64 c,.int .i64 ((deep:Int)+1)] W fun e w'=>e=.returned (.tuple #[.int .i64 ((d:Int)+1),.int .i64 ((pg M d c.toNat).length:Nat),.bool true])∧Kept W w'):=by
   intro i c W hi kW
   obtain⟨q,rfl,_⟩:=hg.ik c (List.mem_of_getElem? hi)
   have h1:=pgs_more (M:=M) (d:=d) hi
   have h2:=pgs_le (M:=M) (d:=d) (C:=y.is) (i+1)
   have:=ih q (deep+1) W (hT.kept kW) (hV.kept kW) (hwn.2.2 _ (List.mem_of_getElem? hi)) (ord_kid hg hwn.1 hi ho) (by omega) (by simp only[Int.toNat_natCast]at h1;omega)
   simpa using this
  have hd':¬ (20<(deep:Int)):=by omega
  clear hT hV hwn hne hs ho hy hd hpl hpl' hg hli hki ih
  go_enter Tryz.func19,Tryz.ntmps19
  go_wp2_with (first
   | (go_at_call 21;(with_reducible refine HN.mono ?_);rintro e w1 ⟨kp,nk,kc,vp,nv,vc,ip,ni,ic,rfl,N1,k1,_⟩;have k2:Kept w1 (w1.alloc (.cells #[.bool false,.slice kp nk kc,.slice vp nv vc,.slice ip ni ic] 52)):=(Kept.refl w1).alloc _;have N2:=N1.kept k2;have X2:=C4.alloc w1 52 (.bool false) (.slice kp nk kc) (.slice vp nv vc) (.slice ip ni ic);obtain⟨y0,y1,y2,y3⟩:=X2.cs;have K2:=k1.trans k2;have P2:=N.put_walk N2 HG.out;have hni:y.is.length=ni:=(by have:=N1.i.len;rw[N.icl_length]at this;omega);clear HN)
   | (go_at_call 37;(with_reducible refine P2.mono ?_);rintro e w3 ⟨rfl,k3⟩;have X3:=X2.kept k3;have N3:=N2.kept k3;have K3:=K2.trans k3;obtain⟨z0,z1,z2,z3⟩:=X3.cs;have hsz:¬ (237<((N.bs y.put).size:Int)):=(by have:=N.bs_size y.put;have:=HS.out;omega);have hn2:¬ ((ni:Int)<2):=(by have:=HK.out;omega);clear P2 N1 N2))
  have HNI:Hid (y.is.length=ni):=hni
  have hn121:ni≤121:=by have:=HK.out;omega
  have S3:Hid (Sk M d w w3 w1.heap.size kp nk kc vp nv vc ip ni ic y 0 0 1):=⟨X3,N3,K3,(fun h=>absurd h (by omega)),rfl⟩
  clear hni X3 N3 K3 z0 z1 z2 z3 hsz hn2 k3 X2 y0 y1 y2 y3 K2 k1 k2
  go_loopg [11,12,13] ni (fun gg fv pv iv wx=>∃ i f q:Nat,fv=.int .i64 (f:Nat)∧pv=.int .i64 (q:Nat)∧iv=.int .i64 (i:Nat)∧Hid (gg=ni-i)∧i≤ni∧q≤100000∧Hid (Sk M d w wx w1.heap.size kp nk kc vp nv vc ip ni ic y i f q))
  case atStart=>exact⟨0,0,1,rfl,rfl,rfl,rfl,Nat.zero_le _,by decide,S3⟩
  case round=>
   obtain⟨i,f,q,rfl,rfl,rfl,hg,hin,hq,S⟩:=hrel
   clear S3
   obtain⟨y0,y1,y2,y3⟩:=S.out.c4.cs
   by_cases h1:(i:Int)<(ni:Int)
   ·obtain⟨c,hc⟩:∃ c,y.is[i]? = some c:=⟨_,List.getElem?_eq_getElem (by rw[HNI.out];omega)⟩
    have HC:Hid (y.is[i]? = some c):=hc
    have F:=IH.out i c wr hc S.out.k
    obtain⟨ib,io,rfl,hcell⟩:∃ ib io,ip=some ⟨ib,io,none⟩∧wr.cell? ⟨ib,io+i,none⟩=some (.int .i64 c):=by
     rcases S.out.nv.i.out with⟨_,h0⟩|⟨ib,io,e,hh⟩
     ·omega
     ·exact⟨ib,io,e,hh i _ (icl_at hc)⟩
    have hq2:q+(pg M d c.toNat).length≤100000:=by
     have a1:=pgs_more (M:=M) (d:=d) hc
     have a2:=pgs_le (M:=M) (d:=d) (C:=y.is) (i+1)
     have a3:=S.out.q
     have a4:=HP.out
     omega
    obtain⟨kq,hkq⟩:∃ kq,kq=(pg M d c.toNat).length:=⟨_,rfl⟩
    rw[← hkq]at F hq2
    have HKQ:Hid (kq=(pg M d c.toNat).length):=hkq
    clear hc hkq
    by_cases h0':0<(i:Int)
    ·have hf:f=d+1:=S.out.f (by omega)
     subst hf
     go_wp2_with (go_at_call 19;(with_reducible refine F.mono ?_);rintro e w4 ⟨rfl,k4⟩;have S4:Hid (Sk M d w w4 w1.heap.size kp nk kc vp nv vc (some ⟨ib,io,none⟩) ni ic y (i+1) (d+1) (q+kq)):=⟨S.out.c4.kept k4,S.out.nv.kept k4,S.out.k.trans k4,(fun _=>rfl),by rw[pgs_more HC.out,S.out.q,HKQ.out];omega⟩;obtain⟨u0,u1,u2,u3⟩:=S4.out.c4.cs;clear F)
     go_roundg (ni-(i+1))
     case measure=>rw[hg.out];omega
     case rel=>exact⟨i+1,d+1,q+kq,by go_num,by go_num,by go_num,rfl,by omega,hq2,S4⟩
    ·go_wp2_with (go_at_call 19;(with_reducible refine F.mono ?_);rintro e w4 ⟨rfl,k4⟩;have S4:Hid (Sk M d w w4 w1.heap.size kp nk kc vp nv vc (some ⟨ib,io,none⟩) ni ic y (i+1) (d+1) (q+kq)):=⟨S.out.c4.kept k4,S.out.nv.kept k4,S.out.k.trans k4,(fun _=>rfl),by rw[pgs_more HC.out,S.out.q,HKQ.out];omega⟩;obtain⟨u0,u1,u2,u3⟩:=S4.out.c4.cs;clear F)
     go_roundg (ni-(i+1))
     case measure=>rw[hg.out];omega
     case rel=>exact⟨i+1,d+1,q+kq,by go_num,by go_num,by go_num,rfl,by omega,hq2,S4⟩
   ·have hf:f=d+1:=S.out.f (by have:=HK.out;have:=HNI.out;omega)
    have hqq:q=(pgs M d y.is).length+1:=by
     have:=S.out.q
     rw[List.take_of_length_le (by rw[HNI.out];omega)]at this
     omega
    have KK:=S.out.k
    have HQ:Hid (q=pl):=hqq.trans HPQ.out.symm
    clear hqq S
    subst hf
    go_wp2
    go_ret3
    exact⟨by simp[HQ.out],KK⟩
end Go.Proofs.YtncfpjccfmolgaaGreatDoor.T