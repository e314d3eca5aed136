/- Joined: TW TXa TX TY TZa TZ. What is proved of the functions beneath BtreeEnds,BtreeFull,BtreeShape,BtreePlays. Conditions: those that each row names. -/
import Derived.Test.YtncfpjccfmolgaaGreatDoorZbj
namespace Go.Proofs.YtncfpjccfmolgaaGreatDoor.T
open Go.ChangeShapes Go.WideShapes Go.ChangeAt Go.RowKit
open B (path_zero stpAt fm Pm pt drp Stp plc Ext Pn Prt WfN us Lv Sg Pf Mk En R upd Tr Tree con path path_length path_pf path_next cA cC got path_got Wf)
open N (Nd NV NZ Nw Rw Rx Own Kept kcl vcl icl Vl C4 C3 Up blk fnd isk oldV)
set_option maxRecDepth 100000 in
set_option maxHeartbeats 1000000 in
theorem delete_no {w:World} {t p:Nat} {r0:Int} {key:ByteArray} (hT:TAt w t p r0) (hk:key.size≤64)
  (fw:∀ W,Kept w W→Calls Tryz.prog 28 #[.pointer (some ⟨t,0,none⟩),.string key] W fun e w1=>∃ q n cap zl zkp znk zkc zvp znv zvc zip zni zic,e=.returned (.tuple #[.slice q n cap,.int .i64 0])∧((∀ W,Kept w1 W→Calls Tryz.prog 30 #[.slice q n cap] W fun e w'=>e=.returned (.agg #[.bool zl,.slice zkp znk zkc,.slice zvp znv zvc,.slice zip zni zic])∧Kept W w') ∧
   (∀ W,Kept w1 W→Calls Tryz.prog 29 #[.agg #[.bool zl,.slice zkp znk zkc,.slice zvp znv zvc,.slice zip zni zic],.string key] W fun e w'=>∃ kp' mm kc' vp'' vc',e=.returned (.tuple #[.agg #[.bool true,.slice kp' mm kc',.slice vp'' mm vc',.slice none 0 0],.agg #[.string ⟨#[]⟩,.int .i64 (-1),.int .i64 0],.bool false])∧Kept W w'))∧Kept W w1) :
  Calls Tryz.prog 11 #[.pointer (some ⟨t,0,none⟩),.string key] w fun e w'=>e=.returned (.tuple #[.agg #[.string ⟨#[]⟩,.int .i64 (-1),.int .i64 0],.bool false,.int .i64 0])∧Kept w w':=by
 have K0:Kept w (w.alloc (.cells #[.string ⟨#[]⟩,.int .i64 0,.int .i64 0] 33)):=(Kept.refl w).alloc _
 have R0:=C3.alloc w 33 (.string ⟨#[]⟩) (.int .i64 0) (.int .i64 0)
 have f1:=none_walk (hT.kept K0)
 have f2:Hid (∀ W,Calls Tryz.prog 27 #[.string key] W fun e w'=>e=.returned (.bool true)∧w'=W):=fun W=>by have:=mayKey_walk W key;rwa [decide_eq_true hk]at this
 have f3:=fw _ K0
 clear hT hk fw
 go_enter Tryz.func11,Tryz.ntmps11
 go_wp2_with (first
  | (go_at_call 26;(with_reducible refine f1.mono ?_);rintro e w1 ⟨rfl,hw1⟩;rw[hw1];clear hw1 f1)
  | (go_at_call 27;(with_reducible refine (f2.out _).mono ?_);rintro e w1 ⟨rfl,hw1⟩;rw[hw1];clear hw1 f2)
  | (go_at_call 28;(with_reducible refine f3.mono ?_);rintro e w1 ⟨q,n,cap,zl,zkp,znk,zkc,zvp,znv,zvc,zip,zni,zic,rfl,⟨h3,h4⟩,k1⟩;have H3:=h3 _ (Kept.refl _);have K1:=K0.trans k1;have R1:=R0.kept k1;clear f3 h3)
  | (go_at_call 30;(with_reducible refine H3.mono ?_);rintro e w2 ⟨rfl,k2⟩;have H4:=h4 _ k2;have K2:=K1.trans k2;have R2:=R1.kept k2;clear H3 h4)
  | (go_at_call 29;(with_reducible refine H4.mono ?_);rintro e w3 ⟨kp9,mm,kc9,vp9,vc9,rfl,k3⟩;have ka:Kept w3 ((w3.alloc (.cells #[.bool true,.slice kp9 mm kc9,.slice vp9 mm vc9,.slice none 0 0] 52)).alloc (.cells #[.string ⟨#[]⟩,.int .i64 (-1),.int .i64 0] 33)):=((Kept.refl _).alloc _).alloc _;have K3:=(K2.trans k3).trans ka;have R3:=(R2.kept k3).kept ka;obtain⟨x0,x1,x2⟩:=(C3.mk (D.two_new w3 (.cells #[.bool true,.slice kp9 mm kc9,.slice vp9 mm vc9,.slice none 0 0] 52) (.cells #[.string ⟨#[]⟩,.int .i64 (-1),.int .i64 0] 33))).cs;obtain⟨⟨g0,i0⟩,⟨g1,i1⟩,⟨g2,i2⟩,hfin⟩:=N.ready3 R3.out (.string ⟨#[]⟩) (.int .i64 (-1)) (.int .i64 0);clear H4))
 have q2:=K3.st3 (b:=w.heap.size) (Nat.le_refl _) (.string ⟨#[]⟩) (.int .i64 (-1)) (.int .i64 0)
 generalize (((World.setCell _ ⟨w.heap.size,0,none⟩ (.string ⟨#[]⟩)).setCell ⟨w.heap.size,1,none⟩ (.int .i64 (-1))).setCell ⟨w.heap.size,2,none⟩ (.int .i64 0))=WF at hfin q2 ⊢
 refine bodyPost_ret (v:=.tuple #[.agg #[.string ⟨#[]⟩,.int .i64 (-1),.int .i64 0],.bool false,.int .i64 0]) ?_ rfl ⟨rfl,q2⟩
 exact results_ctt (p:=4) (u:=5) (v:=6) (ty:=33) rfl _ _ w.heap.size 33 #[.string ⟨#[]⟩,.int .i64 (-1),.int .i64 0] (0,0) _ rfl hfin Tryz.underlying33 rfl size33
structure WayU (kx B t p m:Nat) (root:Int) (M0:Pm) (ln:List En) (key:ByteArray) (old:Vl) (ks':List ByteArray) (vs':List Vl) (w1:World) (q:Option Addr) (n cap:Nat) (zl:Bool) (zkp:Option Addr) (znk zkc:Nat) (zvp:Option Addr) (znv zvc:Nat) (zip:Option Addr) (zni zic:Nat):Prop where
 f3:∀ W,Kept w1 W→Calls Tryz.prog 30 #[.slice q n cap] W fun e w'=>e=.returned (.agg #[.bool zl,.slice zkp znk zkc,.slice zvp znv zvc,.slice zip zni zic])∧Kept W w'
 f4:∀ W,Kept w1 W→Calls Tryz.prog 29 #[.agg #[.bool zl,.slice zkp znk zkc,.slice zvp znv zvc,.slice zip zni zic],.string key] W fun e w'=>∃ kp' mm kc' vp'' vc',e=.returned (.tuple #[.agg #[.bool true,.slice kp' mm kc',.slice vp'' mm vc',.slice none 0 0],.agg #[.string old.d,.int .i64 old.p,.int .i64 old.l],.bool true])∧Own w' W.heap.size 9 1 kp' mm kc' (kcl ks')∧Own w' W.heap.size 33 3 vp'' mm vc' (vcl vs')∧Kept W w'
 f5:∀ W kp' mm kc' vp'' vc',Kept w1 W→NV W true kp' mm kc' vp'' mm vc' none 0 0 ⟨true,ks',vs',[]⟩→Calls Tryz.prog 31 #[.pointer (some ⟨t,0,none⟩),.slice q n cap,.agg #[.bool true,.slice kp' mm kc',.slice vp'' mm vc',.slice none 0 0]] W (RPost kx B t p m root M0 ln W)
set_option maxRecDepth 100000 in
set_option maxHeartbeats 2000000 in
theorem delete_core {kx B:Nat} {w:World} {t p m:Nat} {root r0:Int} {M0:Pm} {ln:List En} {key:ByteArray} {old:Vl} {ks':List ByteArray} {vs':List Vl} (hT:TAt w t p r0) (hB:B≤w.heap.size) (hk:key.size≤64)
  (fw:∀ W,Kept w W→Calls Tryz.prog 28 #[.pointer (some ⟨t,0,none⟩),.string key] W fun e w1=>∃ q n cap zl zkp znk zkc zvp znv zvc zip zni zic,e=.returned (.tuple #[.slice q n cap,.int .i64 0])∧WayU kx B t p m root M0 ln key old ks' vs' w1 q n cap zl zkp znk zkc zvp znv zvc zip zni zic∧Kept W w1) :
  Calls Tryz.prog 11 #[.pointer (some ⟨t,0,none⟩),.string key] w (PPost kx B t p m root M0 ln old true w):=by
 have K0:Kept w (w.alloc (.cells #[.string ⟨#[]⟩,.int .i64 0,.int .i64 0] 33)):=(Kept.refl w).alloc _
 have R0:=C3.alloc w 33 (.string ⟨#[]⟩) (.int .i64 0) (.int .i64 0)
 have f1:=none_walk (hT.kept K0)
 have f2:Hid (∀ W,Calls Tryz.prog 27 #[.string key] W fun e w'=>e=.returned (.bool true)∧w'=W):=fun W=>by have:=mayKey_walk W key;rwa [decide_eq_true hk]at this
 have f3:=fw _ K0
 have HB:Hid (B≤w.heap.size):=hB
 have HT:Hid (TAt w t p r0):=hT
 obtain⟨od,op,ol⟩:=old
 clear hT hk fw hB
 go_enter Tryz.func11,Tryz.ntmps11
 go_wp2_with (first
  | (go_at_call 26;(with_reducible refine f1.mono ?_);rintro e w1 ⟨rfl,hw1⟩;rw[hw1];clear hw1 f1)
  | (go_at_call 27;(with_reducible refine (f2.out _).mono ?_);rintro e w1 ⟨rfl,hw1⟩;rw[hw1];clear hw1 f2)
  | (go_at_call 28;(with_reducible refine f3.mono ?_);rintro e w1 ⟨q,n,cap,zl,zkp,znk,zkc,zvp,znv,zvc,zip,zni,zic,rfl,h3,k1⟩;have HW:Hid (WayU kx B t p m root M0 ln key ⟨od,op,ol⟩ ks' vs' w1 q n cap zl zkp znk zkc zvp znv zvc zip zni zic):=h3;have H3:=HW.out.f3 _ (Kept.refl _);have K1:=K0.trans k1;have R1:=R0.kept k1;clear f3 h3)
  | (go_at_call 30;(with_reducible refine H3.mono ?_);rintro e w2 ⟨rfl,k2⟩;have H4:=HW.out.f4 _ k2;have K2:=K1.trans k2;have R2:=R1.kept k2;clear H3)
  | (go_at_call 29;(with_reducible refine H4.mono ?_);rintro e w3 ⟨kp9,mm,kc9,vp9,vc9,rfl,OK9,OV9,k3⟩;have ka:Kept w3 ((w3.alloc (.cells #[.bool true,.slice kp9 mm kc9,.slice vp9 mm vc9,.slice none 0 0] 52)).alloc (.cells #[.string od,.int .i64 op,.int .i64 ol] 33)):=((Kept.refl _).alloc _).alloc _;have k13:=(k2.trans k3).trans ka;have K3:=(K2.trans k3).trans ka;have R3:=(R2.kept k3).kept ka;have N9:NV ((w3.alloc (.cells #[.bool true,.slice kp9 mm kc9,.slice vp9 mm vc9,.slice none 0 0] 52)).alloc (.cells #[.string od,.int .i64 op,.int .i64 ol] 33)) true kp9 mm kc9 vp9 mm vc9 none 0 0 ⟨true,ks',vs',[]⟩:=⟨rfl,(OK9.kept ka).rw,(OV9.kept ka).rw,⟨rfl,Nat.le_refl _,Nat.zero_le _,.inl ⟨rfl,rfl⟩⟩,(OK9.kept ka).rx,(OV9.kept ka).rx,N.Rx.none _ _⟩;have X10:C3 ((w3.alloc (.cells #[.bool true,.slice kp9 mm kc9,.slice vp9 mm vc9,.slice none 0 0] 52)).alloc (.cells #[.string od,.int .i64 op,.int .i64 ol] 33)) (w3.heap.size+1) 33 (.string od) (.int .i64 op) (.int .i64 ol):=⟨D.two_new w3 _ _⟩;obtain⟨x0,x1,x2,x3⟩:=((C4.alloc w3 52 (.bool true) (.slice kp9 mm kc9) (.slice vp9 mm vc9) (.slice none 0 0)).kept ((Kept.refl _).alloc (.cells #[.string od,.int .i64 op,.int .i64 ol] 33))).cs;have f5:=HW.out.f5 _ kp9 mm kc9 vp9 vc9 k13 N9;clear H4))
 have HX10:Hid (C3 ((w3.alloc (.cells #[.bool true,.slice kp9 mm kc9,.slice vp9 mm vc9,.slice none 0 0] 52)).alloc (.cells #[.string od,.int .i64 op,.int .i64 ol] 33)) (w3.heap.size+1) 33 (.string od) (.int .i64 op) (.int .i64 ol)):=X10
 have HKc:Hid (Kept w ((w3.alloc (.cells #[.bool true,.slice kp9 mm kc9,.slice vp9 mm vc9,.slice none 0 0] 52)).alloc (.cells #[.string od,.int .i64 op,.int .i64 ol] 33))):=K3
 have HR3:Hid (C3 ((w3.alloc (.cells #[.bool true,.slice kp9 mm kc9,.slice vp9 mm vc9,.slice none 0 0] 52)).alloc (.cells #[.string od,.int .i64 op,.int .i64 ol] 33)) w.heap.size 33 (.string ⟨#[]⟩) (.int .i64 0) (.int .i64 0)):=R3
 refine f5.mono ?_
 rintro e w5 hR
 have HNe:Hid (∀ b cc fr,((w3.alloc (.cells #[.bool true,.slice kp9 mm kc9,.slice vp9 mm vc9,.slice none 0 0] 52)).alloc (.cells #[.string od,.int .i64 op,.int .i64 ol] 33)).heap[b]? = some (.cells cc 33 fr)→b≠t):=fun b cc fr hb e=>by
  have h2:=(HT.out.kept HKc.out).out
  rw[e,h2]at hb;injection hb with hb;injection hb with _ hb _;exact absurd hb (by decide)
 rcases hR with⟨rfl,M',r,tr,T5,V5,x5⟩|⟨rfl,M',ex,T5,V5,x5⟩
 ·have R6:C3 w5 w.heap.size 33 (.string ⟨#[]⟩) (.int .i64 0) (.int .i64 0):=⟨x5.rows _ _ _ _ HR3.out.out calm33 (HNe.out _ _ _ HR3.out.out)⟩
  have Y10:C3 w5 (w3.heap.size+1) 33 (.string od) (.int .i64 op) (.int .i64 ol):=⟨x5.rows _ _ _ _ HX10.out.out calm33 (HNe.out _ _ _ HX10.out.out)⟩
  obtain⟨y0,y1,y2⟩:=Y10.cs
  obtain⟨⟨g0,i0⟩,⟨g1,i1⟩,⟨g2,i2⟩,hfin⟩:=N.ready3 R6.out (.string od) (.int .i64 op) (.int .i64 ol)
  have oth:∀ k,k≠w.heap.size→(((w5.setCell ⟨w.heap.size,0,none⟩ (.string od)).setCell ⟨w.heap.size,1,none⟩ (.int .i64 op)).setCell ⟨w.heap.size,2,none⟩ (.int .i64 ol)).heap[k]? = w5.heap[k]?:=fun k hk=>oth3 w5 hk _ _ _
  have q1:=tat_oth T5 R6.out (by decide) oth
  have q2:Pv B (((w5.setCell ⟨w.heap.size,0,none⟩ (.string od)).setCell ⟨w.heap.size,1,none⟩ (.int .i64 op)).setCell ⟨w.heap.size,2,none⟩ (.int .i64 ol)) p m M':=V5.ap (Ap.other R6.out (by decide) (fun k o hk hne=>(oth k hne).trans hk))
  have q3:=tx_oth ((Tx.ofOn (t:=t) (G.On.ofKept ⟨HKc.out.out⟩ HB.out)).trans x5) (z:=w.heap.size) (Nat.le_refl _) HB.out (zero3 _ _ _ _ _) oth
  clear T5 V5 x5 oth R6 Y10 f5 x0 x1 x2 x3 K3 k13 ka R3 N9 X10 OK9 OV9 HX10 HKc HR3 HNe
  go_wp2
  generalize (((w5.setCell ⟨w.heap.size,0,none⟩ (.string od)).setCell ⟨w.heap.size,1,none⟩ (.int .i64 op)).setCell ⟨w.heap.size,2,none⟩ (.int .i64 ol))=WF at *
  refine bodyPost_ret (v:=.tuple #[.agg #[.string od,.int .i64 op,.int .i64 ol],.bool true,.int .i64 0]) ?_ rfl (.inl ⟨rfl,M',r,tr,q1,q2,q3⟩)
  exact results_ctt (p:=4) (u:=5) (v:=6) (ty:=33) rfl _ _ w.heap.size 33 #[.string od,.int .i64 op,.int .i64 ol] (0,0) _ rfl hfin Tryz.underlying33 rfl size33
 ·have R6:C3 w5 w.heap.size 33 (.string ⟨#[]⟩) (.int .i64 0) (.int .i64 0):=⟨x5.rows _ _ _ _ HR3.out.out calm33 (HNe.out _ _ _ HR3.out.out)⟩
  obtain⟨⟨g0,i0⟩,⟨g1,i1⟩,⟨g2,i2⟩,hfin⟩:=N.ready3 R6.out (.string ⟨#[]⟩) (.int .i64 0) (.int .i64 0)
  have oth:∀ k,k≠w.heap.size→(((w5.setCell ⟨w.heap.size,0,none⟩ (.string ⟨#[]⟩)).setCell ⟨w.heap.size,1,none⟩ (.int .i64 0)).setCell ⟨w.heap.size,2,none⟩ (.int .i64 0)).heap[k]? = w5.heap[k]?:=fun k hk=>oth3 w5 hk _ _ _
  have q1:=tat_oth T5 R6.out (by decide) oth
  have q2:Pv B (((w5.setCell ⟨w.heap.size,0,none⟩ (.string ⟨#[]⟩)).setCell ⟨w.heap.size,1,none⟩ (.int .i64 0)).setCell ⟨w.heap.size,2,none⟩ (.int .i64 0)) p m M':=V5.ap (Ap.other R6.out (by decide) (fun k o hk hne=>(oth k hne).trans hk))
  have q3:=tx_oth ((Tx.ofOn (t:=t) (G.On.ofKept ⟨HKc.out.out⟩ HB.out)).trans x5) (z:=w.heap.size) (Nat.le_refl _) HB.out (zero3 _ _ _ _ _) oth
  clear T5 V5 x5 oth R6 f5 x0 x1 x2 x3 K3 k13 ka R3 N9 X10 OK9 OV9 HX10 HKc HR3 HNe
  go_wp2
  generalize (((w5.setCell ⟨w.heap.size,0,none⟩ (.string ⟨#[]⟩)).setCell ⟨w.heap.size,1,none⟩ (.int .i64 0)).setCell ⟨w.heap.size,2,none⟩ (.int .i64 0))=WF at *
  refine bodyPost_ret (v:=.tuple #[.agg #[.string ⟨#[]⟩,.int .i64 0,.int .i64 0],.bool false,.int .i64 80]) ?_ rfl (.inr ⟨rfl,M',ex,q1,q2,q3⟩)
  exact results_ctt (p:=4) (u:=5) (v:=6) (ty:=33) rfl _ _ w.heap.size 33 #[.string ⟨#[]⟩,.int .i64 0,.int .i64 0] (0,0) _ rfl hfin Tryz.underlying33 rfl size33
open B (tr_deep upd_none con_ord got_none put_leaf ksum_le)
open N (setK setV delK delV Okv)
theorem mayVal_ok (w:World) (d:ByteArray) (hd:d.size≤48):Calls Tryz.prog 34 #[.agg #[.string d,.int .i64 (-1),.int .i64 0]] w fun e w'=>e=.returned (.bool true)∧Kept w w':=by
 have K0:Kept w (w.alloc (.cells #[.string d,.int .i64 (-1),.int .i64 0] 33)):=(Kept.refl w).alloc _
 obtain⟨x0,x1,x2⟩:=(C3.alloc w 33 (.string d) (.int .i64 (-1)) (.int .i64 0)).cs
 have h1:(d.size:Int)≤48:=by omega
 go_enter Tryz.func34,Tryz.ntmps34
 go_wp2
 go_ret
 exact⟨rfl,K0⟩
theorem set_nil_k (key:ByteArray):setK [] key=[key]:=by simp[setK,isk,N.ins,fnd]
theorem set_nil_v (key:ByteArray) (v:Vl):setV [] [] key v=[v]:=by simp[setV,isk,N.ins,fnd]
theorem old_nil (key:ByteArray):oldV [] [] key=⟨⟨#[]⟩,-1,0⟩:=by simp[oldV,isk]
theorem isk_nil (key:ByteArray):isk key []=false:=by simp[isk]
theorem one_small {key:ByteArray} {v:Vl} (hk:key.size≤64) (hv:Okv v):N.Good ⟨true,[key],[v],[]⟩∧(⟨true,[key],[v],[]⟩:Nd).put.length≤237:=by
 have g:N.Good ⟨true,[key],[v],[]⟩:=⟨by simp,fun k h=>by simp at h;rw[h];exact hk,fun _=>⟨rfl,rfl⟩,(fun e=>by cases e),fun x h=>by simp at h;rw[h];exact hv,fun i h=>by cases h⟩
 refine⟨g,?_⟩
 rw[put_leaf g rfl]
 have h1:=ksum_le [key] (fun k h=>by simp at h;rw[h];exact hk)
 have h2:N.vsum [v]≤50:=by
  have:=N.valN_length _ hv
  simp[N.vsum];omega
 simp at h1
 show 1+N.ksum [key] + N.vsum [v]≤237
 omega
theorem put_empty {B:Nat} {w:World} {t p m:Nat} {M:Pm} (key d:ByteArray) (hT:TAt w t p (-1)) (hBt:B≤t) (hV:Pv B w p m M) (hM:∀ q,M q=none) (hB:B≤w.heap.size) (hL:S.Lds w) (hk:key.size≤64) (hd:d.size≤48) :
  Calls Tryz.prog 15 #[.pointer (some ⟨t,0,none⟩),.string key,.agg #[.string d,.int .i64 (-1),.int .i64 0]] w (PPost 0 B t p m (-1) M [(key,⟨d,-1,0⟩)] ⟨⟨#[]⟩,-1,0⟩ false w):=by
 have hv:Okv ⟨d,-1,0⟩:=.inl ⟨rfl,rfl,hd⟩
 obtain⟨g1,g2⟩:=one_small (key:=key) hk hv
 refine put_core (ks':=[key]) (vs':=[⟨d,-1,0⟩]) hT hB hk (fun W _=>mayVal_ok W d hd) (fun W k=>?_)
 refine (way_nil (key:=key) (hT.kept k)).mono ?_
 rintro e w1 ⟨rfl,rfl⟩
 refine⟨none,0,0,true,none,0,0,none,0,0,none,0,0,rfl,⟨fun W1 _=>end_nil W1,fun W1 _=>?_,fun W1 kp' mm kc' vp'' vc' k1 hN=>?_⟩,Kept.refl _⟩
 ·have:=N.set_walk (w:=W1) (l:=true) (kp:=none) (vp:=none) (ip:=none) (n:=0) (kc:=0) (vc:=0) (ni:=0) (ic:=0) (ks:=[]) (vs:=[]) ⟨rfl,Nat.le_refl _,Nat.zero_le _,.inl ⟨rfl,rfl⟩⟩ ⟨rfl,Nat.le_refl _,Nat.zero_le _,.inl ⟨rfl,rfl⟩⟩ (by omega) key ⟨d,-1,0⟩
  rw[set_nil_k,set_nil_v,old_nil,isk_nil]at this
  exact this
 ·exact replace_nil ((hT.kept k).kept k1) hBt ((hV.kept k).kept k1) hM (Nat.le_trans hB (Nat.le_trans k.size k1.size)) (lds_kept (lds_kept hL k) k1) hN rfl g1 g2
theorem leaf_of {M:Pm} {key:ByteArray} {d n:Nat} {L:List Sm} {s:Stp} {w:World} {q:Option Addr} {cap len:Nat} (hs:(path M key d n)[d]? = some s) (hLP:L.map Sm.stp=path M key d n) (hW:WAt w q len cap L) (hp:Pf M key 0 s (cA M d ((path M key d n).take d)) (cC M d ((path M key d n).take d))) :
  ∃ z:Sm,L[d]? = some z∧z.x=s.x∧NV w z.l z.kp z.nk z.kc z.vp z.nk z.vc z.ip z.ni z.ic s.x∧z.nv=z.nk∧z.nk≤120:=by
 have e:=hs
 rw[← hLP,List.getElem?_map]at e
 cases hz:L[d]? with
 | none=>rw[hz]at e;cases e
 | some z=>
  rw[hz]at e
  have ez:z.stp=s:=Option.some.inj e
  have ex:z.x=s.x:=by rw[← ez];rfl
  have hn:=hW.ok z (List.mem_of_getElem? hz)
  have g:=hp.wf.good
  have hl:=(g.lv hp.wf.1).1
  unfold Sm.ok at hn
  rw[ex]at hn
  have a:=hn.nk
  have b:=hn.nv
  have hnv:z.nv=z.nk:=by omega
  refine⟨z,rfl,ex,?_,hnv,by have:=g.few;omega⟩
  rw[hnv]at hn
  exact hn
theorem put_tree {B:Nat} {w:World} {t p m:Nat} {root:Int} {M:Pm} {l:List En} (key d:ByteArray) (hT:TAt w t p root) (hBt:B≤t) (hV:Pv B w p m M) (h:Tree M root l) (hB:B≤w.heap.size) (hB0:0<B) (hL:S.Lds w) (hk:key.size≤64) (hd:d.size≤48) :
  Calls Tryz.prog 15 #[.pointer (some ⟨t,0,none⟩),.string key,.agg #[.string d,.int .i64 (-1),.int .i64 0]] w (PPost (if l=[] then 0 else 23) B t p m root M (upd key [(key,⟨d,-1,0⟩)] l) (had key l) (got key l).isSome w):=by
 have hv:Okv ⟨d,-1,0⟩:=.inl ⟨rfl,rfl,hd⟩
 rcases h with⟨rfl,rfl,hM⟩|⟨dd,n,rfl,hTr,rfl⟩
 ·rw[if_pos rfl]
  exact put_empty key d hT hBt hV hM hB hL hk hd
 ·have hdd:=tr_deep hTr (fun k x hx=>(hV.rng k x hx).2.1) hV.few
  have hne:con (fm M dd n)≠[]:=fun e=>by
   have:=(Tr.many hTr).1
   rw[e]at this
   have:0<2 ^ dd:=Nat.pow_pos (by decide)
   simp at *
  rw[if_neg hne]
  have hpf:=hTr.pf key
  have hwy:=wy_of hpf (by omega)
  have hpl:=path_length M key dd n
  obtain⟨s,hs⟩:∃ s,(path M key dd n)[dd]? = some s:=⟨_,List.getElem?_eq_getElem (by omega)⟩
  obtain⟨_,hps⟩:=path_pf dd n [] [] hpf dd s hs
  rw[Nat.sub_self,List.nil_append,List.append_nil]at hps
  have hg:=path_got dd n [] [] hpf s hs
  have e1:had key (con (fm M dd n))=oldV s.x.ks s.x.vs key:=by
   unfold had;rw[hg]
   split
   ·rfl
   ·rename_i hi;unfold oldV;rw[if_neg hi];rfl
  have e2:(got key (con (fm M dd n))).isSome=isk key s.x.ks:=by
   rw[hg];split
   ·rename_i hi;rw[hi];rfl
   ·rename_i hi;simp at hi;rw[hi];rfl
  rw[e1,e2]
  refine put_core (ks':=setK s.x.ks key) (vs':=setV s.x.ks s.x.vs key ⟨d,-1,0⟩) hT hB hk (fun W _=>mayVal_ok W d hd) (fun W k=>?_)
  refine (way_walk (hT.kept k) (hV.kept k) hwy (by omega) (fun s hs=>by rw[path_zero]at hs;rw[← Option.some.inj hs];rfl)).mono ?_
  rintro e w1 ⟨q,c,L,rfl,hLP,hW,k1⟩
  obtain⟨z,hz,ezx,hN,hnv,hnk⟩:=leaf_of hs hLP hW hps
  refine⟨q,_,c,z.l,z.kp,z.nk,z.kc,z.vp,z.nv,z.vc,z.ip,z.ni,z.ic,rfl,⟨fun W1 k2=>end_walk (k:=dd) (hW.kept k2) (by omega) hpl hz,fun W1 k2=>?_,fun W1 kp' mm kc' vp'' vc' k2 hN2=>?_⟩,k1⟩
  ·rw[hnv]
   exact N.set_walk (hN.kept k2).k (hN.kept k2).v (by omega) key ⟨d,-1,0⟩
  ·refine replace_walk (d:=dd) (((hT.kept k).kept k1).kept k2) hBt (((hV.kept k).kept k1).kept k2) (Nat.le_trans hB (Nat.le_trans k.size (Nat.le_trans k1.size k2.size))) hB0 (lds_kept (lds_kept (lds_kept hL k) k1) k2) (hW.kept k2) hpl hLP hTr (by omega) hN2 (fun s' hs'=>?_)
   rw[hs]at hs'
   obtain rfl:=Option.some.inj hs'
   exact (hps.start hk ⟨d,-1,0⟩ hv).1
theorem delete_tree {B:Nat} {w:World} {t p m:Nat} {root:Int} {M:Pm} {l:List En} (key:ByteArray) (hT:TAt w t p root) (hBt:B≤t) (hV:Pv B w p m M) (h:Tree M root l) (hB:B≤w.heap.size) (hB0:0<B) (hL:S.Lds w) (hk:key.size≤64) :
  Calls Tryz.prog 11 #[.pointer (some ⟨t,0,none⟩),.string key] w (PPost (if l=[] then 0 else 23) B t p m root M (upd key [] l) (had key l) (got key l).isSome w):=by
 rcases h with⟨rfl,rfl,hM⟩|⟨dd,n,rfl,hTr,rfl⟩
 ·rw[if_pos rfl]
  refine (delete_no hT hk (fun W k=>?_)).mono ?_
  ·refine (way_nil (key:=key) (hT.kept k)).mono ?_
   rintro e w1 ⟨rfl,rfl⟩
   refine⟨none,0,0,true,none,0,0,none,0,0,none,0,0,rfl,⟨fun W1 _=>end_nil W1,fun W1 _=>?_⟩,Kept.refl _⟩
   have:=N.unset_walk (w:=W1) (l:=true) (kp:=none) (vp:=none) (ip:=none) (n:=0) (kc:=0) (vc:=0) (ni:=0) (ic:=0) (ks:=[]) (vs:=[]) ⟨rfl,Nat.le_refl _,Nat.zero_le _,.inl ⟨rfl,rfl⟩⟩ ⟨rfl,Nat.le_refl _,Nat.zero_le _,.inl ⟨rfl,rfl⟩⟩ (by omega) key
   rw[old_nil,isk_nil]at this
   refine this.mono ?_
   rintro e w' ⟨kp',mm,kc',vp',vc',a,_,_,b⟩
   exact⟨kp',mm,kc',vp',vc',a,b⟩
  ·rintro e w' ⟨rfl,k⟩
   exact .inl ⟨rfl,M,-1,.inl ⟨rfl,rfl,hM⟩,hT.kept k,hV.kept k,Tx.ofOn (G.On.ofKept ⟨k.out⟩ hB)⟩
 ·have hdd:=tr_deep hTr (fun k x hx=>(hV.rng k x hx).2.1) hV.few
  have hne:con (fm M dd n)≠[]:=fun e=>by
   have:=(Tr.many hTr).1
   rw[e]at this
   have:0<2 ^ dd:=Nat.pow_pos (by decide)
   simp at *
  rw[if_neg hne]
  have hpf:=hTr.pf key
  have hwy:=wy_of hpf (by omega)
  have hpl:=path_length M key dd n
  obtain⟨s,hs⟩:∃ s,(path M key dd n)[dd]? = some s:=⟨_,List.getElem?_eq_getElem (by omega)⟩
  obtain⟨_,hps⟩:=path_pf dd n [] [] hpf dd s hs
  rw[Nat.sub_self,List.nil_append,List.append_nil]at hps
  have hg:=path_got dd n [] [] hpf s hs
  have fw:∀ W,Kept w W→Calls Tryz.prog 28 #[.pointer (some ⟨t,0,none⟩),.string key] W fun e w1=>∃ q c L,e=.returned (.tuple #[.slice q (path M key dd n).length c,.int .i64 0])∧L.map Sm.stp=path M key dd n∧WAt w1 q (path M key dd n).length c L∧Kept W w1:=fun W k=>way_walk (hT.kept k) (hV.kept k) hwy (by omega) (fun s hs=>by rw[path_zero]at hs;rw[← Option.some.inj hs];rfl)
  by_cases hi:isk key s.x.ks=true
  ·have e1:had key (con (fm M dd n))=oldV s.x.ks s.x.vs key:=by unfold had;rw[hg,if_pos hi];rfl
   have e2:(got key (con (fm M dd n))).isSome=true:=by rw[hg,if_pos hi];rfl
   rw[e1,e2]
   refine delete_core (ks':=delK s.x.ks key) (vs':=delV s.x.ks s.x.vs key) hT hB hk (fun W k=>?_)
   refine (fw W k).mono ?_
   rintro e w1 ⟨q,c,L,rfl,hLP,hW,k1⟩
   obtain⟨z,hz,ezx,hN,hnv,hnk⟩:=leaf_of hs hLP hW hps
   refine⟨q,_,c,z.l,z.kp,z.nk,z.kc,z.vp,z.nv,z.vc,z.ip,z.ni,z.ic,rfl,⟨fun W1 k2=>end_walk (k:=dd) (hW.kept k2) (by omega) hpl hz,fun W1 k2=>?_,fun W1 kp' mm kc' vp'' vc' k2 hN2=>?_⟩,k1⟩
   ·rw[hnv]
    have:=N.unset_walk (l:=z.l) (ip:=z.ip) (ni:=z.ni) (ic:=z.ic) (hN.kept k2).k (hN.kept k2).v (by omega) key
    rw[hi]at this
    exact this
   ·refine replace_walk (d:=dd) (((hT.kept k).kept k1).kept k2) hBt (((hV.kept k).kept k1).kept k2) (Nat.le_trans hB (Nat.le_trans k.size (Nat.le_trans k1.size k2.size))) hB0 (lds_kept (lds_kept (lds_kept hL k) k1) k2) (hW.kept k2) hpl hLP hTr (by omega) hN2 (fun s' hs'=>?_)
    rw[hs]at hs'
    obtain rfl:=Option.some.inj hs'
    exact (hps.start hk ⟨⟨#[]⟩,-1,0⟩ (.inl ⟨rfl,rfl,by decide⟩)).2
  ·have hi':isk key s.x.ks=false:=by simpa using hi
   have e1:had key (con (fm M dd n))=⟨⟨#[]⟩,-1,0⟩:=by unfold had;rw[hg,if_neg hi];rfl
   have e2:(got key (con (fm M dd n))).isSome=false:=by rw[hg,if_neg hi];rfl
   have e3:upd key [] (con (fm M dd n))=con (fm M dd n):=upd_none (con_ord hTr.ord) (got_none (by rw[hg,if_neg hi]))
   rw[e1,e2,e3]
   refine (delete_no hT hk (fun W k=>?_)).mono ?_
   ·refine (fw W k).mono ?_
    rintro e w1 ⟨q,c,L,rfl,hLP,hW,k1⟩
    obtain⟨z,hz,ezx,hN,hnv,hnk⟩:=leaf_of hs hLP hW hps
    refine⟨q,_,c,z.l,z.kp,z.nk,z.kc,z.vp,z.nv,z.vc,z.ip,z.ni,z.ic,rfl,⟨fun W1 k2=>end_walk (k:=dd) (hW.kept k2) (by omega) hpl hz,fun W1 k2=>?_⟩,k1⟩
    rw[hnv]
    have:=N.unset_walk (l:=z.l) (ip:=z.ip) (ni:=z.ni) (ic:=z.ic) (hN.kept k2).k (hN.kept k2).v (by omega) key
    unfold oldV at this
    rw[hi']at this
    refine this.mono ?_
    rintro e w' ⟨kp',mm,kc',vp',vc',a,_,_,b⟩
    exact⟨kp',mm,kc',vp',vc',a,b⟩
   ·rintro e w' ⟨rfl,k⟩
    exact .inl ⟨rfl,M,(n:Nat),.inr ⟨dd,n,rfl,hTr,rfl⟩,hT.kept k,hV.kept k,Tx.ofOn (G.On.ofKept ⟨k.out⟩ hB)⟩
open Go.Proofs.YtncfpjccfmolgaaGreatDoor.D (Dk DiskAt CutsAt Ok)
open G (fmt_new Liv fmtd_ok format_walk open_flu sd_zeros sd_state sup11 opened begin_flu)
theorem ahead_at (k:Nat):G.ahead k=decide (k<2):=by
 unfold G.ahead S.useAt
 by_cases h0:k=0
 ·subst h0;rfl
 ·by_cases h1:k=1
  ·subst h1;rfl
  ·rw[if_neg h1,if_neg h0];simp;omega
theorem pv_new {B:Nat} {w:World} {p b g n:Nat} {d:Dk} (h:G.GAt B w p b g (opened d (1,-1))) (hn:d.secs.length=n) (hc:d.cuts=[]) (h2:2≤n) (h3:n≤1024):Pv B w p n (fun _=>none):=
 ⟨⟨b,g,_,h,hn,⟨by show 1<4000;omega,hc⟩,fun _=>rfl,fun k _=>by show G.ahead k=_;rw[ahead_at];simp,fun k _=>ahead_at k⟩,(fun k x hx=>by cases hx),h3,h2⟩
set_option maxRecDepth 100000 in
set_option maxHeartbeats 1000000 in
theorem begun_walk {w:World} (n:Nat) (h2:2≤n) (h3:n≤1024) :
  Calls Tryz.prog 8 #[.int .i64 (n:Nat)] w fun e w'=>∃ t p,e=.returned (.tuple #[.pointer (some ⟨t,0,none⟩),.pointer (some ⟨p,0,none⟩),.bool true])∧TAt w' t p (-1)∧Pv w.heap.size w' p n (fun _=>none)∧w.heap.size≤t∧Kept w w':=by
 have h:CutsAt 0 w (.slice none 0 0) []:=⟨none,0,rfl,Nat.le_refl _,Nat.zero_le _,fun j hj=>by cases hj⟩
 have hv:Liv (Dk.new n []) 7:=⟨rfl,by intro _ _ h;cases h⟩
 have f1:=D.new_walk n (by omega) h (Nat.zero_le _) (Nat.zero_le _) (by intro _ h;cases h)
 obtain⟨d1,ef,fl,ln,s0,s1,cu,fa,si⟩:=fmt_new n h2 [] (hv.mono (by omega))
 have ok1:Ok 5 d1:=by have:=fmtd_ok (D.new_ok n []);rw[ef]at this;exact this
 have lv1:Liv d1 2:=⟨fl.up,fun c r hc=>by rw[cu]at hc;cases hc⟩
 have f2:∀ W b g,DiskAt w.heap.size W b g (Dk.new n [])→w.heap.size≤W.heap.size→Calls Tryz.prog 23 #[.pointer (some ⟨b,0,none⟩)] W fun e w'=>e=.returned (.int .i64 0)∧DiskAt w.heap.size w' b g d1∧D.On w.heap.size W w':=fun W b g k kB=>by
  have:=format_walk k kB (D.new_ok n []) (by omega)
  rw[ef]at this
  exact this
 have f3:∀ W b g,DiskAt w.heap.size W b g d1→w.heap.size≤W.heap.size→Calls Tryz.prog 24 #[.pointer (some ⟨b,0,none⟩)] W fun e w'=>∃ p,e=.returned (.tuple #[.pointer (some ⟨p,0,none⟩),.int .i64 0])∧Pv w.heap.size w' p n (fun _=>none)∧G.On w.heap.size W w':=fun W b g k kB=>by
  refine (open_flu k kB ok1 (by omega) fl lv1 (by omega) (by omega) s0 s1 (o0:=none) (o1:=some (1,-1)) (sd_zeros 0) (sd_state sup11 rfl) (1,-1) rfl).mono ?_
  rintro e w' ⟨p,rfl,a,o⟩
  exact⟨p,rfl,pv_new a ln cu h2 h3,o⟩
 have f4:∀ W p,Calls Tryz.prog 25 #[.pointer (some ⟨p,0,none⟩),.int .i64 (-1)] W fun e w'=>e=.returned (.pointer (some ⟨W.heap.size,0,none⟩))∧TAt w' W.heap.size p (-1)∧Kept W w':=fun W p=>new_walk W p (-1)
 clear ef fl ln s0 s1 cu fa si ok1 lv1 hv h h2 h3
 generalize Dk.new n []=dn at f1 f2
 go_enter Tryz.func8,Tryz.ntmps8
 go_wp2_with (first
  | (go_at_call 22;(with_reducible refine f1.mono ?_);rintro e w1 ⟨b,g,rfl,k1,K1⟩;have g2:=f2 w1 b g k1 K1.size)
  | (go_at_call 23;(with_reducible refine g2.mono ?_);rintro e w2 ⟨rfl,k2,o2⟩;have B2:=Nat.le_trans K1.size o2.size;have g3:=f3 w2 b g k2 B2)
  | (go_at_call 24;(with_reducible refine g3.mono ?_);rintro e w3 ⟨p,rfl,V3,o3⟩;have g4:=f4 w3 p)
  | (go_at_call 25;(with_reducible refine g4.mono ?_);rintro e w4 ⟨rfl,T4,k4⟩))
 go_ret3
 exact⟨_,p,rfl,T4,V3.kept k4,Nat.le_trans B2 o3.size,⟨((K1.out.trans o2.below).trans o3.below).trans (k4.out.mono (Nat.le_trans B2 o3.size))⟩⟩
set_option maxRecDepth 100000 in
set_option maxHeartbeats 1000000 in
theorem awake_walk {w:World} (hL:S.Lds w):Calls Tryz.prog 9 #[] w fun e w'=>e=.returned (.bool true)∧Kept w w':=by
 have f1:Calls Tryz.prog 8 #[.int .i64 9] w _:=begun_walk 9 (by decide) (by decide)
 have f2:Hid (∀ (W:World) (t p:Nat),Kept w W→TAt W t p (-1)→Pv w.heap.size W p 9 (fun _=>none)→w.heap.size≤t→Calls Tryz.prog 15 #[.pointer (some ⟨t,0,none⟩),.string ⟨#[97]⟩,.agg #[.string ⟨#[49]⟩,.int .i64 (-1),.int .i64 0]] W fun e w'=>e=.returned (.tuple #[.agg #[.string ⟨#[]⟩,.int .i64 (-1),.int .i64 0],.bool false,.int .i64 0])∧(∃ M' r,TAt w' t p r∧Pv w.heap.size w' p 9 M'∧TreeW M' r [(⟨#[97]⟩,⟨⟨#[49]⟩,-1,0⟩)])∧Tx w.heap.size t W w'):=fun W t p k hT hV ht=>by
  refine (put_empty ⟨#[97]⟩ ⟨#[49]⟩ hT ht hV (fun _=>rfl) k.size (lds_kept hL k) (by decide) (by decide)).mono ?_
  rintro e w' (⟨rfl,M',r,tr,T5,V5,x5⟩|⟨rfl,M',er,_⟩)
  ·exact⟨rfl,⟨M',r,T5,V5,TreeW.of tr (fun k x hx=>(V5.rng k x hx).2.1) V5.few⟩,x5⟩
  ·exfalso
   obtain⟨a,b,c⟩:=er.out
   obtain rfl:a=[]:=List.length_eq_zero_iff.1 (by omega)
   have h1:=c 2
   have h2:=er.full 2 (by decide) (by decide)
   unfold B.us at h1
   rw[h2]at h1
   simp at h1
 have f3:Hid (∀ (W:World) (t p:Nat) (r:Int) (M:Pm),TAt W t p r→Pv w.heap.size W p 9 M→TreeW M r [(⟨#[97]⟩,⟨⟨#[49]⟩,-1,0⟩)]→Calls Tryz.prog 14 #[.pointer (some ⟨t,0,none⟩),.string ⟨#[97]⟩] W fun e w'=>e=.returned (.tuple #[.agg #[.string ⟨#[49]⟩,.int .i64 (-1),.int .i64 0],.bool true,.int .i64 0])∧Kept W w'):=fun W t p r M hT hV h=>get_tree ⟨#[97]⟩ hT hV h
 clear hL
 go_enter Tryz.func9,Tryz.ntmps9
 go_wp2_with (first
  | (go_at_call 8;(with_reducible refine f1.mono ?_);rintro e w1 ⟨t,p,rfl,T1,V1,b1,k1⟩;have g2:=f2.out _ t p k1 T1 V1 b1;clear f1)
  | (go_at_call 15;(with_reducible refine g2.mono ?_);rintro e w2 ⟨rfl,⟨M2,r2,T2,V2,tr2⟩,x2⟩;have ka:Kept w2 (w2.alloc (.cells #[.string ⟨#[]⟩,.int .i64 (-1),.int .i64 0] 33)):=(Kept.refl _).alloc _;have g3:=f3.out _ t p r2 M2 (T2.kept ka) (V2.kept ka) tr2;have hx:Hid (Tx w.heap.size t w1 w2):=x2;clear g2)
  | (go_at_call 14;(with_reducible refine g3.mono ?_);rintro e w3 ⟨rfl,k3⟩;obtain⟨y0,y1,y2⟩:=(C3.alloc w3 33 (.string ⟨#[49]⟩) (.int .i64 (-1)) (.int .i64 0)).cs;have kb:Kept w3 (w3.alloc (.cells #[.string ⟨#[49]⟩,.int .i64 (-1),.int .i64 0] 33)):=(Kept.refl _).alloc _;clear g3))
 go_ret
 exact⟨by first | rfl | decide,⟨(k1.out.trans hx.out.below).trans (((ka.trans k3).trans kb).out.mono (Nat.le_trans k1.size hx.out.size))⟩⟩
open B (pgs_of tree_pages full_pages su su_congr su_add su_count)
theorem er_many {m:Nat} {M M':Pm} {k:Nat} {root:Int} {l:List En} (h:Er m M M' k) (ht:Tree M root l):m≤2*l.length-1+k+2:=by
 obtain⟨a,b,c⟩:=h.out
 have h1:=full_pages h.full
 have h2:=tree_pages m ht
 have h3:pgs_of M' m=pgs_of M m+su (fun q=>a.count q) m:=by
  unfold pgs_of
  rw[← su_add]
  exact su_congr fun q _=>c q
 have h4:=(su_count a m).1
 omega
structure Vw (B:Nat) (W:World) (t p m:Nat) (root:Int) (M:Pm) (l:List En):Prop where
 tat:TAt W t p root
 pv:Pv B W p m M
 tr:Tree M root l
 bt:B≤t
 bw:B≤W.heap.size
 b0:0<B
 lds:S.Lds W
theorem Vw.kept {B:Nat} {W W':World} {t p m:Nat} {root:Int} {M:Pm} {l:List En} (h:Vw B W t p m root M l) (k:Kept W W'):Vw B W' t p m root M l:=⟨h.tat.kept k,h.pv.kept k,h.tr,h.bt,Nat.le_trans h.bw k.size,h.b0,lds_kept h.lds k⟩
theorem Vw.readable {B:Nat} {W:World} {t p m:Nat} {root:Int} {M:Pm} {l:List En} (h:Vw B W t p m root M l):TreeW M root l:=TreeW.of h.tr (fun k x hx=>(h.pv.rng k x hx).2.1) h.pv.few
theorem Vw.tx {B:Nat} {W W':World} {t p m:Nat} {root r:Int} {M M':Pm} {l l':List En} (h:Vw B W t p m root M l) (x:Tx B t W W') (hT:TAt W' t p r) (hV:Pv B W' p m M') (ht:Tree M' r l'):Vw B W' t p m r M' l':=⟨hT,hV,ht,h.bt,Nat.le_trans h.bw x.size,h.b0,G.lds_on h.lds x.below h.b0⟩
theorem Vw.put {B:Nat} {W:World} {t p m:Nat} {root:Int} {M:Pm} {l:List En} (h:Vw B W t p m root M l) (key d:ByteArray) (hk:key.size≤64) (hd:d.size≤48) (hm:2*l.length-1+(if l=[] then 0 else 23)+2<m) :
  Calls Tryz.prog 15 #[.pointer (some ⟨t,0,none⟩),.string key,.agg #[.string d,.int .i64 (-1),.int .i64 0]] W fun e w'=>e=.returned (.tuple #[.agg #[.string (had key l).d,.int .i64 (had key l).p,.int .i64 (had key l).l],.bool (got key l).isSome,.int .i64 0])∧(∃ M' r,Vw B w' t p m r M' (upd key [(key,⟨d,-1,0⟩)] l))∧Tx B t W w':=by
 refine (put_tree key d h.tat h.bt h.pv h.tr h.bw h.b0 h.lds hk hd).mono ?_
 rintro e w' (⟨rfl,M',r,tr,T5,V5,x5⟩|⟨rfl,M',er,_⟩)
 ·exact⟨rfl,⟨M',r,h.tx x5 T5 V5 tr⟩,x5⟩
 ·have:=er_many er h.tr;omega
theorem Vw.delete {B:Nat} {W:World} {t p m:Nat} {root:Int} {M:Pm} {l:List En} (h:Vw B W t p m root M l) (key:ByteArray) (hk:key.size≤64) (hm:2*l.length-1+(if l=[] then 0 else 23)+2<m) :
  Calls Tryz.prog 11 #[.pointer (some ⟨t,0,none⟩),.string key] W fun e w'=>e=.returned (.tuple #[.agg #[.string (had key l).d,.int .i64 (had key l).p,.int .i64 (had key l).l],.bool (got key l).isSome,.int .i64 0])∧(∃ M' r,Vw B w' t p m r M' (upd key [] l))∧Tx B t W w':=by
 refine (delete_tree key h.tat h.bt h.pv h.tr h.bw h.b0 h.lds hk).mono ?_
 rintro e w' (⟨rfl,M',r,tr,T5,V5,x5⟩|⟨rfl,M',er,_⟩)
 ·exact⟨rfl,⟨M',r,h.tx x5 T5 V5 tr⟩,x5⟩
 ·have:=er_many er h.tr;omega
theorem Vw.get {B:Nat} {W:World} {t p m:Nat} {root:Int} {M:Pm} {l:List En} (h:Vw B W t p m root M l) (key:ByteArray) :
  Calls Tryz.prog 14 #[.pointer (some ⟨t,0,none⟩),.string key] W fun e w'=>e=.returned (.tuple #[.agg #[.string (had key l).d,.int .i64 (had key l).p,.int .i64 (had key l).l],.bool (got key l).isSome,.int .i64 0])∧Kept W w':=get_tree key h.tat h.pv h.readable
theorem begun_vw {w:World} (hL:S.Lds w) (n:Nat) (h2:2≤n) (h3:n≤1024) :
  Calls Tryz.prog 8 #[.int .i64 (n:Nat)] w fun e w'=>∃ t p,e=.returned (.tuple #[.pointer (some ⟨t,0,none⟩),.pointer (some ⟨p,0,none⟩),.bool true])∧Vw w.heap.size w' t p n (-1) (fun _=>none) []∧Kept w w':=by
 refine (begun_walk n h2 h3).mono ?_
 rintro e w' ⟨t,p,rfl,a,b,c,k⟩
 exact⟨t,p,rfl,⟨a,b,.inl ⟨rfl,rfl,fun _=>rfl⟩,c,k.size,hL.pos,lds_kept hL k⟩,k⟩
end Go.Proofs.YtncfpjccfmolgaaGreatDoor.T