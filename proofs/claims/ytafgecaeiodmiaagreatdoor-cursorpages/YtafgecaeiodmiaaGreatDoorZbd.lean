/- Joined. -/
import Derived.Test.YtafgecaeiodmiaaGreatDoorZaz
import Derived.Test.YtafgecaeiodmiaaGreatDoorZbc
namespace Go.Proofs.YtafgecaeiodmiaaGreatDoor.N
open Go.ChangeShapes Go.WideShapes Go.ChangeAt Go.RowKit
theorem sbd1{α:Type}(l:List α)(i:Nat)(a:α):l.toArray.setIfInBounds i a=(l.set i a).toArray:=by simp
theorem sbd2{α:Type}(x:α)(l:List α)(a:α):(x :: l).set 0 a=a :: l:=rfl
theorem sbd3{α:Type}(x:α)(l:List α)(i:Nat)(a:α):(x :: l).set (i+1) a=x :: l.set i a:=rfl
abbrev opnpe0:Go.Oper:={ dst:=none,op:=.store 71 (.tmp 6) (.tmp 36),type:=0,pos:= "node.go:242",after:=#[⟨14,.data⟩,⟨13,.chain⟩,⟨0,.phase⟩,⟨1,.phase⟩,⟨2,.phase⟩,⟨3,.phase⟩,⟨4,.phase⟩,⟨5,.phase⟩,⟨6,.phase⟩,⟨7,.phase⟩,⟨8,.phase⟩,⟨9,.phase⟩,⟨10,.phase⟩,⟨11,.phase⟩,⟨12,.phase⟩,⟨13,.phase⟩,⟨14,.phase⟩],guard:=none }
abbrev opnpe1:Go.Oper:={ dst:=none,op:=.store 71 (.tmp 6) (.tmp 21),type:=0,pos:= "node.go:236",after:=#[⟨12,.data⟩,⟨11,.chain⟩,⟨0,.phase⟩,⟨1,.phase⟩,⟨2,.phase⟩,⟨3,.phase⟩,⟨4,.phase⟩,⟨5,.phase⟩,⟨6,.phase⟩,⟨7,.phase⟩,⟨8,.phase⟩,⟨9,.phase⟩,⟨10,.phase⟩,⟨11,.phase⟩,⟨12,.phase⟩],guard:=none }
abbrev opnpe2:Go.Oper:={ dst:=some 28,op:=.buildSlice 245 3 #[(0,.tmp 23),(1,.tmp 25),(2,.tmp 27)],type:=245,pos:= "node.go:242",after:=#[⟨1,.data⟩,⟨3,.data⟩,⟨5,.data⟩],guard:=none }
abbrev opnpe3:Go.Oper:={ dst:=some 20,op:=.call { callee:=.value (.func 148),args:=#[.tmp 19],argTypes:=#[247] },type:=69,pos:= "node.go:239",after:=#[⟨10,.data⟩,⟨5,.chain⟩],guard:=none }
abbrev opnpe4:Go.Oper:={ dst:=some 35,op:=.call { callee:=.value (.func 149),args:=#[.tmp 34],argTypes:=#[249] },type:=49,pos:= "node.go:244",after:=#[⟨12,.data⟩,⟨7,.chain⟩],guard:=none }
abbrev opnpe5:Go.Oper:={ dst:=some 21,op:=.build 71 #[(0,.const (Go.Value.bool true)),(1,.tmp 14),(2,.tmp 20)],type:=71,pos:= "node.go:236",after:=#[⟨5,.data⟩,⟨11,.data⟩],guard:=none }
abbrev opnpe6:Go.Oper:={ dst:=some 34,op:=.buildSlice 249 2 #[(0,.tmp 31),(1,.tmp 33)],type:=249,pos:= "node.go:242",after:=#[⟨9,.data⟩,⟨11,.data⟩],guard:=none }
abbrev opnpe7:Go.Oper:={ dst:=some 13,op:=.buildSlice 245 2 #[(0,.tmp 10),(1,.tmp 12)],type:=245,pos:= "node.go:236",after:=#[⟨1,.data⟩,⟨3,.data⟩],guard:=none }
abbrev opnpe8:Go.Oper:={ dst:=some 14,op:=.call { callee:=.value (.func 147),args:=#[.tmp 13],argTypes:=#[245] },type:=22,pos:= "node.go:238",after:=#[⟨4,.data⟩],guard:=none }
abbrev opnpe9:Go.Oper:={ dst:=some 19,op:=.buildSlice 247 2 #[(0,.tmp 16),(1,.tmp 18)],type:=247,pos:= "node.go:236",after:=#[⟨7,.data⟩,⟨9,.data⟩],guard:=none }
abbrev opnpe10:Go.Oper:={ dst:=some 29,op:=.call { callee:=.value (.func 147),args:=#[.tmp 28],argTypes:=#[245] },type:=22,pos:= "node.go:243",after:=#[⟨6,.data⟩],guard:=none }
abbrev opnpe11:Go.Oper:={ dst:=some 36,op:=.build 71 #[(1,.tmp 29),(3,.tmp 35)],type:=71,pos:= "node.go:242",after:=#[⟨7,.data⟩,⟨13,.data⟩],guard:=none }
abbrev opnpe12:Go.Oper:={ dst:=some 25,op:=.buildSlice 22 1 #[(0,.tmp 24)],type:=22,pos:= "node.go:242",after:=#[⟨2,.data⟩],guard:=none }
abbrev opnpe13:Go.Oper:={ dst:=some 33,op:=.load 49 (.tmp 32),type:=49,pos:= "node.go:242",after:=#[⟨10,.data⟩],guard:=none }
abbrev opnpe14:Go.Oper:={ dst:=some 12,op:=.load 22 (.tmp 11),type:=22,pos:= "node.go:236",after:=#[⟨2,.data⟩],guard:=none }
abbrev opnpe15:Go.Oper:={ dst:=some 16,op:=.load 69 (.tmp 15),type:=69,pos:= "node.go:236",after:=#[⟨6,.data⟩],guard:=none }
abbrev opnpe16:Go.Oper:={ dst:=some 18,op:=.load 69 (.tmp 17),type:=69,pos:= "node.go:236",after:=#[⟨8,.data⟩],guard:=none }
abbrev opnpe17:Go.Oper:={ dst:=some 23,op:=.load 22 (.tmp 22),type:=22,pos:= "node.go:242",after:=#[⟨0,.data⟩],guard:=none }
abbrev opnpe18:Go.Oper:={ dst:=some 27,op:=.load 22 (.tmp 26),type:=22,pos:= "node.go:242",after:=#[⟨4,.data⟩],guard:=none }
abbrev opnpe19:Go.Oper:={ dst:=some 31,op:=.load 49 (.tmp 30),type:=49,pos:= "node.go:242",after:=#[⟨8,.data⟩],guard:=none }
abbrev opnpe20:Go.Oper:={ dst:=some 10,op:=.load 22 (.tmp 9),type:=22,pos:= "node.go:236",after:=#[⟨0,.data⟩],guard:=none }
abbrev opnpe21:Go.Oper:={ dst:=some 11,op:=.fieldAddr 71 (.tmp 5) 1,type:=0,pos:= "node.go:236",after:=#[],guard:=none }
abbrev opnpe22:Go.Oper:={ dst:=some 15,op:=.fieldAddr 71 (.tmp 3) 2,type:=0,pos:= "node.go:236",after:=#[],guard:=none }
abbrev opnpe23:Go.Oper:={ dst:=some 17,op:=.fieldAddr 71 (.tmp 5) 2,type:=0,pos:= "node.go:236",after:=#[],guard:=none }
abbrev opnpe24:Go.Oper:={ dst:=some 22,op:=.fieldAddr 71 (.tmp 3) 1,type:=0,pos:= "node.go:242",after:=#[],guard:=none }
abbrev opnpe25:Go.Oper:={ dst:=some 26,op:=.fieldAddr 71 (.tmp 5) 1,type:=0,pos:= "node.go:242",after:=#[],guard:=none }
abbrev opnpe26:Go.Oper:={ dst:=some 30,op:=.fieldAddr 71 (.tmp 3) 3,type:=0,pos:= "node.go:242",after:=#[],guard:=none }
abbrev opnpe27:Go.Oper:={ dst:=some 32,op:=.fieldAddr 71 (.tmp 5) 3,type:=0,pos:= "node.go:242",after:=#[],guard:=none }
abbrev opnpe28:Go.Oper:={ dst:=some 9,op:=.fieldAddr 71 (.tmp 3) 1,type:=0,pos:= "node.go:236",after:=#[],guard:=none }
abbrev opnpe29:Go.Oper:={ dst:=some 24,op:=.move (.tmp 1),type:=9,pos:= "node.go:242",after:=#[],guard:=none }
theorem two_at{W:World}{sz g n1 c1 n2 c2 t:Nat}{p1 p2:Option Addr}{L1 L2:List Value}(h:W.heap[g]? = some (.cells #[.slice p1 n1 c1,.slice p2 n2 c2] t))(r1:Rw W sz p1 n1 c1 L1)(r2:Rw W sz p2 n2 c2 L2)(z1:p1=none→c1=0)(z2:p2=none→c2=0)(o1:∀ u∈L1,u.oneCell'=true)(o2:∀ u∈L2,u.oneCell'=true):PcAt W sz g 0 [⟨p1,n1,c1,L1⟩,⟨p2,n2,c2,L2⟩]:=by
 intro i q hq;rw[cell_of_row _ _ _ _ _ _ h,Nat.zero_add];match i,hq with
 | 0,hq=>simp at hq;subst hq;exact⟨rfl,r1,z1,o1⟩
 | 1,hq=>simp at hq;subst hq;exact⟨rfl,r2,z2,o2⟩
 | i+2,hq=>simp at hq
theorem three_at{W:World}{sz g n1 c1 n2 c2 n3 c3 t:Nat}{p1 p2 p3:Option Addr}{L1 L2 L3:List Value}(h:W.heap[g]? = some (.cells #[.slice p1 n1 c1,.slice p2 n2 c2,.slice p3 n3 c3] t))(r1:Rw W sz p1 n1 c1 L1)(r2:Rw W sz p2 n2 c2 L2)(r3:Rw W sz p3 n3 c3 L3)(z1:p1=none→c1=0)(z2:p2=none→c2=0)(z3:p3=none→c3=0)(o1:∀ u∈L1,u.oneCell'=true)(o2:∀ u∈L2,u.oneCell'=true)(o3:∀ u∈L3,u.oneCell'=true):PcAt W sz g 0 [⟨p1,n1,c1,L1⟩,⟨p2,n2,c2,L2⟩,⟨p3,n3,c3,L3⟩]:=by
 intro i q hq;rw[cell_of_row _ _ _ _ _ _ h,Nat.zero_add];match i,hq with
 | 0,hq=>simp at hq;subst hq;exact⟨rfl,r1,z1,o1⟩
 | 1,hq=>simp at hq;subst hq;exact⟨rfl,r2,z2,o2⟩
 | 2,hq=>simp at hq;subst hq;exact⟨rfl,r3,z3,o3⟩
 | i+3,hq=>simp at hq
theorem kcl_app(a b:List ByteArray):kcl a++kcl b=kcl (a++b):=by unfold kcl;rw[List.map_append]
theorem icl_app(a b:List Int):icl a++icl b=icl (a++b):=by unfold icl;rw[List.map_append]
theorem vcl_app(a b:List Vl):vcl a++vcl b=vcl (a++b):=by unfold vcl;rw[List.flatMap_append]
theorem cell_st4(W:World){b b2:Nat}(h:b2≠b)(j:Nat)(v0 v1 v2 v3:Value):((((W.setCell ⟨b,0,none⟩ v0).setCell ⟨b,1,none⟩ v1).setCell ⟨b,2,none⟩ v2).setCell ⟨b,3,none⟩ v3).cell? ⟨b2,j,none⟩=W.cell? ⟨b2,j,none⟩:=by
 unfold World.cell?;simp only[others4 W h]
set_option linter.unusedSimpArgs false in
set_option maxHeartbeats 8000000 in
set_option maxRecDepth 100000 in
theorem join_true{w:World}{kpA:Option Addr}{nkA kcA:Nat}{vpA:Option Addr}{nvA vcA:Nat}{ipA:Option Addr}{niA icA:Nat}{kpB:Option Addr}{nkB kcB:Nat}{vpB:Option Addr}{nvB vcB:Nat}{ipB:Option Addr}{niB icB:Nat}{l2:Bool}{xa xb:Nd}(ha:NZ w true kpA nkA kcA vpA nvA vcA ipA niA icA xa)(hb:NZ w l2 kpB nkB kcB vpB nvB vcB ipB niB icB xb)(key:ByteArray)(s1:nkA≤1000)(s2:nkB≤1000)(s3:nvA≤1000)(s4:nvB≤1000) :
  Calls Tryz.prog 117 #[.agg #[.bool true,.slice kpA nkA kcA,.slice vpA nvA vcA,.slice ipA niA icA],.string key,.agg #[.bool l2,.slice kpB nkB kcB,.slice vpB nvB vcB,.slice ipB niB icB]] w fun e w'=>∃ kp nk kc vp nv vc ip ni ic,e=.returned (.agg #[.bool true,.slice kp nk kc,.slice vp nv vc,.slice ip ni ic])∧NV w' true kp nk kc vp nv vc ip ni ic ⟨true,xa.ks++xb.ks,xa.vs++xb.vs,[]⟩∧Kept w w':=by
 obtain⟨o1,ho1⟩:∃ o:Obj,o=.cells #[.bool true,.slice kpA nkA kcA,.slice vpA nvA vcA,.slice ipA niA icA] 71:=⟨_,rfl⟩;obtain⟨o2,ho2⟩:∃ o:Obj,o=.cells #[.bool l2,.slice kpB nkB kcB,.slice vpB nvB vcB,.slice ipB niB icB] 71:=⟨_,rfl⟩;obtain⟨o3,ho3⟩:∃ o:Obj,o=.cells #[.bool false,.slice none 0 0,.slice none 0 0,.slice none 0 0] 71:=⟨_,rfl⟩;have K0:Kept w (((w.alloc o1).alloc o2).alloc o3).drew:=((((Kept.refl w).alloc _).alloc _).alloc _).drew;have P0:C4 (((w.alloc o1).alloc o2).alloc o3).drew w.heap.size 71 (.bool true) (.slice kpA nkA kcA) (.slice vpA nvA vcA) (.slice ipA niA icA):=by subst ho1;exact ((C4.alloc w 71 _ _ _ _).kept (((Kept.refl _).alloc _).alloc _)).drew
 have Q0:C4 (((w.alloc o1).alloc o2).alloc o3).drew (w.heap.size+1) 71 (.bool l2) (.slice kpB nkB kcB) (.slice vpB nvB vcB) (.slice ipB niB icB):=by subst ho2;rw[← size_alloc w o1];exact ((C4.alloc _ 71 _ _ _ _).kept ((Kept.refl _).alloc _)).drew
 have R0:C4 (((w.alloc o1).alloc o2).alloc o3).drew (w.heap.size+1+1) 71 (.bool false) (.slice none 0 0) (.slice none 0 0) (.slice none 0 0):=by subst ho3;rw[show w.heap.size+1+1=((w.alloc o1).alloc o2).heap.size by rw[size_alloc,size_alloc]];exact (C4.alloc _ 71 _ _ _ _).drew
 subst ho1;subst ho2;subst ho3;have HL1:Hid (xa.leaf=true):=ha.nv.hl;have ZA0:=ha.kept K0;have ZB0:=hb.kept K0;obtain⟨c00,c01,c02,c03⟩:=P0.cs;clear ha hb;go_enter Tryz.func117,Tryz.ntmps117;go_wp2_with fail;generalize (((w.alloc (.cells #[.bool true,.slice kpA nkA kcA,.slice vpA nvA vcA,.slice ipA niA icA] 71)).alloc (.cells #[.bool l2,.slice kpB nkB kcB,.slice vpB nvB vcB,.slice ipB niB icB] 71)).alloc (.cells #[.bool false,.slice none 0 0,.slice none 0 0,.slice none 0 0] 71))=V0 at *;have ZA:Hid (NZ V0.drew true kpA nkA kcA vpA nvA vcA ipA niA icA xa):=ZA0;have ZB:Hid (NZ V0.drew l2 kpB nkB kcB vpB nvB vcB ipB niB icB xb):=ZB0;clear ZA0 ZB0 c00 c01 c02 c03;have HC1:Hid (∀ (W:World) (g:Nat),Kept V0.drew W→W.heap[g]? = some (.cells #[.slice kpA nkA kcA,.slice kpB nkB kcB] 22)→Calls Tryz.prog 147 #[.slice (some ⟨g,0,none⟩) 2 2] W fun e w'=>∃ p c,e=.returned (.slice p (nkA+nkB) c)∧Own w' W.heap.size 9 1 p (nkA+nkB) c (kcl (xa.ks++xb.ks))∧Kept W w'):=fun W g hW hg=>by
  have q:=concat52 (m:=2) (mc:=2) (two_at hg (hW.rw ZA.out.nv.k) (hW.rw ZB.out.nv.k) ZA.out.kz ZB.out.kz (kcl_one _) (kcl_one _)) rfl (by decide) (by simp[pcn];omega);simpa[pcn,pcs,kcl_app] using q
 have HC2:Hid (∀ (W:World) (g:Nat),Kept V0.drew W→W.heap[g]? = some (.cells #[.slice vpA nvA vcA,.slice vpB nvB vcB] 69)→Calls Tryz.prog 148 #[.slice (some ⟨g,0,none⟩) 2 2] W fun e w'=>∃ p c,e=.returned (.slice p (nvA+nvB) c)∧Own w' W.heap.size 35 3 p (nvA+nvB) c (vcl (xa.vs++xb.vs))∧Kept W w'):=fun W g hW hg=>by
  have q:=concat53 (m:=2) (mc:=2) (two_at hg (hW.rw ZA.out.nv.v) (hW.rw ZB.out.nv.v) ZA.out.vz ZB.out.vz (vcl_one _) (vcl_one _)) rfl (by decide) (by simp[pcn];omega);simpa[pcn,pcs,vcl_app] using q
 have HSA:Hid (∀ W,Kept V0.drew W→W.cell? ⟨w.heap.size,1,none⟩=some (.slice kpA nkA kcA)∧W.cell? ⟨w.heap.size+1,1,none⟩=some (.slice kpB nkB kcB)∧W.cell? ⟨w.heap.size,2,none⟩=some (.slice vpA nvA vcA)∧W.cell? ⟨w.heap.size+1,2,none⟩=some (.slice vpB nvB vcB)):=by
  intro W hW;exact⟨(P0.kept hW).cs.2.1,(Q0.kept hW).cs.2.1,(P0.kept hW).cs.2.2.1,(Q0.kept hW).cs.2.2.1⟩
 have J0:Kept V0.drew V0.drew:=Kept.refl V0.drew;clear P0 Q0;refine wp_region_held_drew (S:=(fun W=>W.cell? ⟨w.heap.size,1,none⟩=some (.slice kpA nkA kcA)∧W.cell? ⟨w.heap.size+1,1,none⟩=some (.slice kpB nkB kcB)∧W.cell? ⟨w.heap.size,2,none⟩=some (.slice vpA nvA vcA)∧W.cell? ⟨w.heap.size+1,2,none⟩=some (.slice vpB nvB vcB))) (by kernel_rfl) ?_ (fun hHeld=>?_)
 ·exact HSA.out _ J0
 generalize V0.drew=W0 at *;refine wpAnyH_take (i:=0) (oi:=opnpe28) (v:=?_) rfl (by kernel_rfl) (by kernel_rfl) (by kernel_rfl) (fun _ _ _ h=>h) (Or.inl ⟨by rfl,?_⟩) (by assumption) ?_;rotate_left
 ·intro w hSw
  (try dsimp only at hSw);go_simp;all_goals with_reducible rfl
 try simp only[Act.put,sbd1,sbd2,sbd3]
 refine wpAnyH_take (i:=1) (oi:=opnpe20) (v:=?_) rfl (by kernel_rfl) (by kernel_rfl) (by kernel_rfl) (fun _ _ _ h=>h) (Or.inl ⟨by rfl,?_⟩) (by assumption) ?_;rotate_left
 ·intro w hSw
  (try dsimp only at hSw);go_simp;all_goals with_reducible rfl
 try simp only[Act.put,sbd1,sbd2,sbd3]
 refine wpAnyH_take (i:=2) (oi:=opnpe21) (v:=?_) rfl (by kernel_rfl) (by kernel_rfl) (by kernel_rfl) (fun _ _ _ h=>h) (Or.inl ⟨by rfl,?_⟩) (by assumption) ?_;rotate_left
 ·intro w hSw
  (try dsimp only at hSw);go_simp;all_goals with_reducible rfl
 try simp only[Act.put,sbd1,sbd2,sbd3]
 refine wpAnyH_take (i:=3) (oi:=opnpe14) (v:=?_) rfl (by kernel_rfl) (by kernel_rfl) (by kernel_rfl) (fun _ _ _ h=>h) (Or.inl ⟨by rfl,?_⟩) (by assumption) ?_;rotate_left
 ·intro w hSw
  (try dsimp only at hSw);go_simp;all_goals with_reducible rfl
 try simp only[Act.put,sbd1,sbd2,sbd3]
 refine wpAnyH_take (i:=6) (oi:=opnpe22) (v:=?_) rfl (by kernel_rfl) (by kernel_rfl) (by kernel_rfl) (fun _ _ _ h=>h) (Or.inl ⟨by rfl,?_⟩) (by assumption) ?_;rotate_left
 ·intro w hSw
  (try dsimp only at hSw);go_simp;all_goals with_reducible rfl
 try simp only[Act.put,sbd1,sbd2,sbd3]
 refine wpAnyH_take (i:=7) (oi:=opnpe15) (v:=?_) rfl (by kernel_rfl) (by kernel_rfl) (by kernel_rfl) (fun _ _ _ h=>h) (Or.inl ⟨by rfl,?_⟩) (by assumption) ?_;rotate_left
 ·intro w hSw
  (try dsimp only at hSw);go_simp;all_goals with_reducible rfl
 try simp only[Act.put,sbd1,sbd2,sbd3]
 refine wpAnyH_take (i:=8) (oi:=opnpe23) (v:=?_) rfl (by kernel_rfl) (by kernel_rfl) (by kernel_rfl) (fun _ _ _ h=>h) (Or.inl ⟨by rfl,?_⟩) (by assumption) ?_;rotate_left
 ·intro w hSw
  (try dsimp only at hSw);go_simp;all_goals with_reducible rfl
 try simp only[Act.put,sbd1,sbd2,sbd3]
 refine wpAnyH_take (i:=9) (oi:=opnpe16) (v:=?_) rfl (by kernel_rfl) (by kernel_rfl) (by kernel_rfl) (fun _ _ _ h=>h) (Or.inl ⟨by rfl,?_⟩) (by assumption) ?_;rotate_left
 ·intro w hSw
  (try dsimp only at hSw);go_simp;all_goals with_reducible rfl
 try simp only[Act.put,sbd1,sbd2,sbd3]
 refine wpAnyH_ready (rs:=[4,10]) (by kernel_rfl) (by simp) ?_;refine AllReadyH.cons (o:=opnpe7) rfl (fun KK hKK=>?_) ?_
 ·
  have kk0:=(Kept.refl W0).alloc (.cells #[.slice kpA nkA kcA,.slice kpB nkB kcB] 22);have J1:=J0.trans kk0;have hg1:=heap_alloc_new W0 (.cells #[.slice kpA nkA kcA,.slice kpB nkB kcB] 22);go_simp;refine hKK.out _ _ ?_ (fun hHeld=>?_)
  ·(try dsimp only)
   exact HSA.out _ J1
  clear hKK KK;try simp only[Act.put,sbd1,sbd2,sbd3]
  refine wpAnyH_ready (rs:=[5,10]) (by kernel_rfl) (by simp) ?_;refine AllReadyH.cons (o:=opnpe8) rfl (fun KK hKK=>?_) ?_
  ·
   clear kk0;generalize W0.alloc (.cells #[.slice kpA nkA kcA,.slice kpB nkB kcB] 22)=W1 at *;go_simp;go_at_call 147;(with_reducible refine (HC1.out _ W0.heap.size J1 hg1).mono ?_);rintro e W2 ⟨p1,c1,rfl,O1,kk1⟩;have J2:=J1.trans kk1;have B1:=J1.size;go_wp2_with fail;refine hKK.out _ _ ?_ (fun hHeld=>?_)
   ·(try dsimp only)
    exact HSA.out _ J2
   clear hKK KK;try simp only[Act.put,sbd1,sbd2,sbd3]
   refine wpAnyH_ready (rs:=[10]) (by kernel_rfl) (by simp) ?_;refine AllReadyH.cons (o:=opnpe9) rfl (fun KK hKK=>?_) ?_
   ·
    have kk2:=(Kept.refl W2).alloc (.cells #[.slice vpA nvA vcA,.slice vpB nvB vcB] 69);have J3:=J2.trans kk2;have hg2:=heap_alloc_new W2 (.cells #[.slice vpA nvA vcA,.slice vpB nvB vcB] 69);have O1_3:=O1.kept kk2;go_simp;refine hKK.out _ _ ?_ (fun hHeld=>?_)
    ·(try dsimp only)
     exact HSA.out _ J3
    clear hKK KK;try simp only[Act.put,sbd1,sbd2,sbd3]
    refine wpAnyH_ready (rs:=[11]) (by kernel_rfl) (by simp) ?_;refine AllReadyH.cons (o:=opnpe3) rfl (fun KK hKK=>?_) ?_
    ·
     clear kk2;generalize W2.alloc (.cells #[.slice vpA nvA vcA,.slice vpB nvB vcB] 69)=W3 at *;go_simp;go_at_call 148;(with_reducible refine (HC2.out _ W2.heap.size J3 hg2).mono ?_);rintro e W4 ⟨p2,c2,rfl,O2,kk3⟩;have J4:=J3.trans kk3;have O1z:=O1_3.kept kk3;have B2:=J3.size;have Rz:=R0.kept J4;obtain⟨⟨g0,f0⟩,⟨g1,f1⟩,⟨g2,f2⟩,⟨g3,f3⟩,hfin⟩:=ready4 Rz.out (.bool true) (.slice p1 (nkA+nkB) c1) (.slice p2 (nvA+nvB) c2) (.slice none 0 0);go_wp2_with fail;refine hKK.out _ _ ?_ (fun hHeld=>?_)
     ·(try dsimp only)
      exact HSA.out _ J4
     clear hKK KK;try simp only[Act.put,sbd1,sbd2,sbd3]
     refine wpAnyH_take (i:=12) (oi:=opnpe5) (v:=?_) rfl (by kernel_rfl) (by kernel_rfl) (by kernel_rfl) (fun _ _ _ h=>h) (Or.inl ⟨by rfl,?_⟩) (by assumption) ?_;rotate_left
     ·intro w hSw
      (try dsimp only at hSw);go_simp;all_goals with_reducible rfl
     try simp only[Act.put,sbd1,sbd2,sbd3]
     refine wpAnyH_ready (rs:=[13]) (by kernel_rfl) (by simp) ?_;refine AllReadyH.cons (o:=opnpe1) rfl (fun KK hKK=>?_) ?_
     ·
      go_simp;refine hKK.out _ _ ?_ (fun hHeld=>?_)
      ·(try dsimp only)
       have q:=HSA.out _ J4;rw[← cell_st4 W4 (b:=w.heap.size+1+1) (b2:=w.heap.size) (by omega) 1 (.bool true) (.slice p1 (nkA+nkB) c1) (.slice p2 (nvA+nvB) c2) (.slice none 0 0),← cell_st4 W4 (b:=w.heap.size+1+1) (b2:=w.heap.size+1) (by omega) 1 (.bool true) (.slice p1 (nkA+nkB) c1) (.slice p2 (nvA+nvB) c2) (.slice none 0 0),← cell_st4 W4 (b:=w.heap.size+1+1) (b2:=w.heap.size) (by omega) 2 (.bool true) (.slice p1 (nkA+nkB) c1) (.slice p2 (nvA+nvB) c2) (.slice none 0 0),← cell_st4 W4 (b:=w.heap.size+1+1) (b2:=w.heap.size+1) (by omega) 2 (.bool true) (.slice p1 (nkA+nkB) c1) (.slice p2 (nvA+nvB) c2) (.slice none 0 0)]at q;exact q
      clear hKK KK;try simp only[Act.put,sbd1,sbd2,sbd3]
      refine wpAnyH_done (by kernel_rfl) ?_ _;have hlt:=R0.lt;have hB1:=Nat.lt_of_lt_of_le hlt B1;have hB2:=Nat.lt_of_lt_of_le hlt B2;have NF:NV ((((W4.setCell ⟨w.heap.size+1+1,0,none⟩ (.bool true)).setCell ⟨w.heap.size+1+1,1,none⟩ (.slice p1 (nkA+nkB) c1)).setCell ⟨w.heap.size+1+1,2,none⟩ (.slice p2 (nvA+nvB) c2)).setCell ⟨w.heap.size+1+1,3,none⟩ (.slice none 0 0)) true p1 (nkA+nkB) c1 p2 (nvA+nvB) c2 none 0 0 ⟨true,xa.ks++xb.ks,xa.vs++xb.vs,[]⟩:=⟨rfl,(O1z.st4 hB1 _ _ _ _).rw,(O2.st4 hB2 _ _ _ _).rw,⟨rfl,Nat.le_refl _,Nat.zero_le _,.inl ⟨rfl,rfl⟩⟩,(O1z.st4 hB1 _ _ _ _).rx,(O2.st4 hB2 _ _ _ _).rx,Rx.none _ _⟩;have KF:Kept w ((((W4.setCell ⟨w.heap.size+1+1,0,none⟩ (.bool true)).setCell ⟨w.heap.size+1+1,1,none⟩ (.slice p1 (nkA+nkB) c1)).setCell ⟨w.heap.size+1+1,2,none⟩ (.slice p2 (nvA+nvB) c2)).setCell ⟨w.heap.size+1+1,3,none⟩ (.slice none 0 0)):=(K0.trans J4).st4 (by omega) _ _ _ _;generalize ((((W4.setCell ⟨w.heap.size+1+1,0,none⟩ (.bool true)).setCell ⟨w.heap.size+1+1,1,none⟩ (.slice p1 (nkA+nkB) c1)).setCell ⟨w.heap.size+1+1,2,none⟩ (.slice p2 (nvA+nvB) c2)).setCell ⟨w.heap.size+1+1,3,none⟩ (.slice none 0 0))=WF at *;go_wp2;refine bodyPost_ret (v:=.agg #[.bool true,.slice p1 (nkA+nkB) c1,.slice p2 (nvA+nvB) c2,.slice none 0 0]) ?_ rfl ⟨_,_,_,_,_,_,_,_,_,rfl,NF,KF⟩;exact results_cell_row (p:=6) rfl _ _ (w.heap.size+1+1) 71 #[.bool true,.slice p1 (nkA+nkB) c1,.slice p2 (nvA+nvB) c2,.slice none 0 0] (0,0) _ rfl hfin Tryz.underlying71 rfl size71
     exact AllReadyH.nil
    exact AllReadyH.nil
   exact AllReadyH.nil
  refine AllReadyH.cons (o:=opnpe9) rfl (fun KK hKK=>?_) ?_
  ·
   clear kk0;generalize W0.alloc (.cells #[.slice kpA nkA kcA,.slice kpB nkB kcB] 22)=W1 at *;have kk1:=(Kept.refl W1).alloc (.cells #[.slice vpA nvA vcA,.slice vpB nvB vcB] 69);have J2:=J1.trans kk1;have hg2:=heap_alloc_new W1 (.cells #[.slice vpA nvA vcA,.slice vpB nvB vcB] 69);have h1_2:=kk1.block hg1;go_simp;refine hKK.out _ _ ?_ (fun hHeld=>?_)
   ·(try dsimp only)
    exact HSA.out _ J2
   clear hKK KK;try simp only[Act.put,sbd1,sbd2,sbd3]
   refine wpAnyH_ready (rs:=[5]) (by kernel_rfl) (by simp) ?_;refine AllReadyH.cons (o:=opnpe8) rfl (fun KK hKK=>?_) ?_
   ·
    clear kk1;generalize W1.alloc (.cells #[.slice vpA nvA vcA,.slice vpB nvB vcB] 69)=W2 at *;go_simp;go_at_call 147;(with_reducible refine (HC1.out _ W0.heap.size J2 h1_2).mono ?_);rintro e W3 ⟨p1,c1,rfl,O1,kk2⟩;have J3:=J2.trans kk2;have B1:=J2.size;have h2_3:=kk2.block hg2;go_wp2_with fail;refine hKK.out _ _ ?_ (fun hHeld=>?_)
    ·(try dsimp only)
     exact HSA.out _ J3
    clear hKK KK;try simp only[Act.put,sbd1,sbd2,sbd3]
    refine wpAnyH_ready (rs:=[11]) (by kernel_rfl) (by simp) ?_;refine AllReadyH.cons (o:=opnpe3) rfl (fun KK hKK=>?_) ?_
    ·
     go_simp;go_at_call 148;(with_reducible refine (HC2.out _ W1.heap.size J3 h2_3).mono ?_);rintro e W4 ⟨p2,c2,rfl,O2,kk3⟩;have J4:=J3.trans kk3;have O1z:=O1.kept kk3;have B2:=J3.size;have Rz:=R0.kept J4;obtain⟨⟨g0,f0⟩,⟨g1,f1⟩,⟨g2,f2⟩,⟨g3,f3⟩,hfin⟩:=ready4 Rz.out (.bool true) (.slice p1 (nkA+nkB) c1) (.slice p2 (nvA+nvB) c2) (.slice none 0 0);go_wp2_with fail;refine hKK.out _ _ ?_ (fun hHeld=>?_)
     ·(try dsimp only)
      exact HSA.out _ J4
     clear hKK KK;try simp only[Act.put,sbd1,sbd2,sbd3]
     refine wpAnyH_take (i:=12) (oi:=opnpe5) (v:=?_) rfl (by kernel_rfl) (by kernel_rfl) (by kernel_rfl) (fun _ _ _ h=>h) (Or.inl ⟨by rfl,?_⟩) (by assumption) ?_;rotate_left
     ·intro w hSw
      (try dsimp only at hSw);go_simp;all_goals with_reducible rfl
     try simp only[Act.put,sbd1,sbd2,sbd3]
     refine wpAnyH_ready (rs:=[13]) (by kernel_rfl) (by simp) ?_;refine AllReadyH.cons (o:=opnpe1) rfl (fun KK hKK=>?_) ?_
     ·
      go_simp;refine hKK.out _ _ ?_ (fun hHeld=>?_)
      ·(try dsimp only)
       have q:=HSA.out _ J4;rw[← cell_st4 W4 (b:=w.heap.size+1+1) (b2:=w.heap.size) (by omega) 1 (.bool true) (.slice p1 (nkA+nkB) c1) (.slice p2 (nvA+nvB) c2) (.slice none 0 0),← cell_st4 W4 (b:=w.heap.size+1+1) (b2:=w.heap.size+1) (by omega) 1 (.bool true) (.slice p1 (nkA+nkB) c1) (.slice p2 (nvA+nvB) c2) (.slice none 0 0),← cell_st4 W4 (b:=w.heap.size+1+1) (b2:=w.heap.size) (by omega) 2 (.bool true) (.slice p1 (nkA+nkB) c1) (.slice p2 (nvA+nvB) c2) (.slice none 0 0),← cell_st4 W4 (b:=w.heap.size+1+1) (b2:=w.heap.size+1) (by omega) 2 (.bool true) (.slice p1 (nkA+nkB) c1) (.slice p2 (nvA+nvB) c2) (.slice none 0 0)]at q;exact q
      clear hKK KK;try simp only[Act.put,sbd1,sbd2,sbd3]
      refine wpAnyH_done (by kernel_rfl) ?_ _;have hlt:=R0.lt;have hB1:=Nat.lt_of_lt_of_le hlt B1;have hB2:=Nat.lt_of_lt_of_le hlt B2;have NF:NV ((((W4.setCell ⟨w.heap.size+1+1,0,none⟩ (.bool true)).setCell ⟨w.heap.size+1+1,1,none⟩ (.slice p1 (nkA+nkB) c1)).setCell ⟨w.heap.size+1+1,2,none⟩ (.slice p2 (nvA+nvB) c2)).setCell ⟨w.heap.size+1+1,3,none⟩ (.slice none 0 0)) true p1 (nkA+nkB) c1 p2 (nvA+nvB) c2 none 0 0 ⟨true,xa.ks++xb.ks,xa.vs++xb.vs,[]⟩:=⟨rfl,(O1z.st4 hB1 _ _ _ _).rw,(O2.st4 hB2 _ _ _ _).rw,⟨rfl,Nat.le_refl _,Nat.zero_le _,.inl ⟨rfl,rfl⟩⟩,(O1z.st4 hB1 _ _ _ _).rx,(O2.st4 hB2 _ _ _ _).rx,Rx.none _ _⟩;have KF:Kept w ((((W4.setCell ⟨w.heap.size+1+1,0,none⟩ (.bool true)).setCell ⟨w.heap.size+1+1,1,none⟩ (.slice p1 (nkA+nkB) c1)).setCell ⟨w.heap.size+1+1,2,none⟩ (.slice p2 (nvA+nvB) c2)).setCell ⟨w.heap.size+1+1,3,none⟩ (.slice none 0 0)):=(K0.trans J4).st4 (by omega) _ _ _ _;generalize ((((W4.setCell ⟨w.heap.size+1+1,0,none⟩ (.bool true)).setCell ⟨w.heap.size+1+1,1,none⟩ (.slice p1 (nkA+nkB) c1)).setCell ⟨w.heap.size+1+1,2,none⟩ (.slice p2 (nvA+nvB) c2)).setCell ⟨w.heap.size+1+1,3,none⟩ (.slice none 0 0))=WF at *;go_wp2;refine bodyPost_ret (v:=.agg #[.bool true,.slice p1 (nkA+nkB) c1,.slice p2 (nvA+nvB) c2,.slice none 0 0]) ?_ rfl ⟨_,_,_,_,_,_,_,_,_,rfl,NF,KF⟩;exact results_cell_row (p:=6) rfl _ _ (w.heap.size+1+1) 71 #[.bool true,.slice p1 (nkA+nkB) c1,.slice p2 (nvA+nvB) c2,.slice none 0 0] (0,0) _ rfl hfin Tryz.underlying71 rfl size71
     exact AllReadyH.nil
    exact AllReadyH.nil
   exact AllReadyH.nil
  exact AllReadyH.nil
 refine AllReadyH.cons (o:=opnpe9) rfl (fun KK hKK=>?_) ?_
 ·
  have kk0:=(Kept.refl W0).alloc (.cells #[.slice vpA nvA vcA,.slice vpB nvB vcB] 69);have J1:=J0.trans kk0;have hg2:=heap_alloc_new W0 (.cells #[.slice vpA nvA vcA,.slice vpB nvB vcB] 69);go_simp;refine hKK.out _ _ ?_ (fun hHeld=>?_)
  ·(try dsimp only)
   exact HSA.out _ J1
  clear hKK KK;try simp only[Act.put,sbd1,sbd2,sbd3]
  refine wpAnyH_ready (rs:=[4]) (by kernel_rfl) (by simp) ?_;refine AllReadyH.cons (o:=opnpe7) rfl (fun KK hKK=>?_) ?_
  ·
   clear kk0;generalize W0.alloc (.cells #[.slice vpA nvA vcA,.slice vpB nvB vcB] 69)=W1 at *;have kk1:=(Kept.refl W1).alloc (.cells #[.slice kpA nkA kcA,.slice kpB nkB kcB] 22);have J2:=J1.trans kk1;have hg1:=heap_alloc_new W1 (.cells #[.slice kpA nkA kcA,.slice kpB nkB kcB] 22);have h2_2:=kk1.block hg2;go_simp;refine hKK.out _ _ ?_ (fun hHeld=>?_)
   ·(try dsimp only)
    exact HSA.out _ J2
   clear hKK KK;try simp only[Act.put,sbd1,sbd2,sbd3]
   refine wpAnyH_ready (rs:=[5]) (by kernel_rfl) (by simp) ?_;refine AllReadyH.cons (o:=opnpe8) rfl (fun KK hKK=>?_) ?_
   ·
    clear kk1;generalize W1.alloc (.cells #[.slice kpA nkA kcA,.slice kpB nkB kcB] 22)=W2 at *;go_simp;go_at_call 147;(with_reducible refine (HC1.out _ W1.heap.size J2 hg1).mono ?_);rintro e W3 ⟨p1,c1,rfl,O1,kk2⟩;have J3:=J2.trans kk2;have B1:=J2.size;have h2_3:=kk2.block h2_2;go_wp2_with fail;refine hKK.out _ _ ?_ (fun hHeld=>?_)
    ·(try dsimp only)
     exact HSA.out _ J3
    clear hKK KK;try simp only[Act.put,sbd1,sbd2,sbd3]
    refine wpAnyH_ready (rs:=[11]) (by kernel_rfl) (by simp) ?_;refine AllReadyH.cons (o:=opnpe3) rfl (fun KK hKK=>?_) ?_
    ·
     go_simp;go_at_call 148;(with_reducible refine (HC2.out _ W0.heap.size J3 h2_3).mono ?_);rintro e W4 ⟨p2,c2,rfl,O2,kk3⟩;have J4:=J3.trans kk3;have O1z:=O1.kept kk3;have B2:=J3.size;have Rz:=R0.kept J4;obtain⟨⟨g0,f0⟩,⟨g1,f1⟩,⟨g2,f2⟩,⟨g3,f3⟩,hfin⟩:=ready4 Rz.out (.bool true) (.slice p1 (nkA+nkB) c1) (.slice p2 (nvA+nvB) c2) (.slice none 0 0);go_wp2_with fail;refine hKK.out _ _ ?_ (fun hHeld=>?_)
     ·(try dsimp only)
      exact HSA.out _ J4
     clear hKK KK;try simp only[Act.put,sbd1,sbd2,sbd3]
     refine wpAnyH_take (i:=12) (oi:=opnpe5) (v:=?_) rfl (by kernel_rfl) (by kernel_rfl) (by kernel_rfl) (fun _ _ _ h=>h) (Or.inl ⟨by rfl,?_⟩) (by assumption) ?_;rotate_left
     ·intro w hSw
      (try dsimp only at hSw);go_simp;all_goals with_reducible rfl
     try simp only[Act.put,sbd1,sbd2,sbd3]
     refine wpAnyH_ready (rs:=[13]) (by kernel_rfl) (by simp) ?_;refine AllReadyH.cons (o:=opnpe1) rfl (fun KK hKK=>?_) ?_
     ·
      go_simp;refine hKK.out _ _ ?_ (fun hHeld=>?_)
      ·(try dsimp only)
       have q:=HSA.out _ J4;rw[← cell_st4 W4 (b:=w.heap.size+1+1) (b2:=w.heap.size) (by omega) 1 (.bool true) (.slice p1 (nkA+nkB) c1) (.slice p2 (nvA+nvB) c2) (.slice none 0 0),← cell_st4 W4 (b:=w.heap.size+1+1) (b2:=w.heap.size+1) (by omega) 1 (.bool true) (.slice p1 (nkA+nkB) c1) (.slice p2 (nvA+nvB) c2) (.slice none 0 0),← cell_st4 W4 (b:=w.heap.size+1+1) (b2:=w.heap.size) (by omega) 2 (.bool true) (.slice p1 (nkA+nkB) c1) (.slice p2 (nvA+nvB) c2) (.slice none 0 0),← cell_st4 W4 (b:=w.heap.size+1+1) (b2:=w.heap.size+1) (by omega) 2 (.bool true) (.slice p1 (nkA+nkB) c1) (.slice p2 (nvA+nvB) c2) (.slice none 0 0)]at q;exact q
      clear hKK KK;try simp only[Act.put,sbd1,sbd2,sbd3]
      refine wpAnyH_done (by kernel_rfl) ?_ _;have hlt:=R0.lt;have hB1:=Nat.lt_of_lt_of_le hlt B1;have hB2:=Nat.lt_of_lt_of_le hlt B2;have NF:NV ((((W4.setCell ⟨w.heap.size+1+1,0,none⟩ (.bool true)).setCell ⟨w.heap.size+1+1,1,none⟩ (.slice p1 (nkA+nkB) c1)).setCell ⟨w.heap.size+1+1,2,none⟩ (.slice p2 (nvA+nvB) c2)).setCell ⟨w.heap.size+1+1,3,none⟩ (.slice none 0 0)) true p1 (nkA+nkB) c1 p2 (nvA+nvB) c2 none 0 0 ⟨true,xa.ks++xb.ks,xa.vs++xb.vs,[]⟩:=⟨rfl,(O1z.st4 hB1 _ _ _ _).rw,(O2.st4 hB2 _ _ _ _).rw,⟨rfl,Nat.le_refl _,Nat.zero_le _,.inl ⟨rfl,rfl⟩⟩,(O1z.st4 hB1 _ _ _ _).rx,(O2.st4 hB2 _ _ _ _).rx,Rx.none _ _⟩;have KF:Kept w ((((W4.setCell ⟨w.heap.size+1+1,0,none⟩ (.bool true)).setCell ⟨w.heap.size+1+1,1,none⟩ (.slice p1 (nkA+nkB) c1)).setCell ⟨w.heap.size+1+1,2,none⟩ (.slice p2 (nvA+nvB) c2)).setCell ⟨w.heap.size+1+1,3,none⟩ (.slice none 0 0)):=(K0.trans J4).st4 (by omega) _ _ _ _;generalize ((((W4.setCell ⟨w.heap.size+1+1,0,none⟩ (.bool true)).setCell ⟨w.heap.size+1+1,1,none⟩ (.slice p1 (nkA+nkB) c1)).setCell ⟨w.heap.size+1+1,2,none⟩ (.slice p2 (nvA+nvB) c2)).setCell ⟨w.heap.size+1+1,3,none⟩ (.slice none 0 0))=WF at *;go_wp2;refine bodyPost_ret (v:=.agg #[.bool true,.slice p1 (nkA+nkB) c1,.slice p2 (nvA+nvB) c2,.slice none 0 0]) ?_ rfl ⟨_,_,_,_,_,_,_,_,_,rfl,NF,KF⟩;exact results_cell_row (p:=6) rfl _ _ (w.heap.size+1+1) 71 #[.bool true,.slice p1 (nkA+nkB) c1,.slice p2 (nvA+nvB) c2,.slice none 0 0] (0,0) _ rfl hfin Tryz.underlying71 rfl size71
     exact AllReadyH.nil
    exact AllReadyH.nil
   exact AllReadyH.nil
  exact AllReadyH.nil
 exact AllReadyH.nil
set_option linter.unusedSimpArgs false in
set_option maxHeartbeats 8000000 in
set_option maxRecDepth 100000 in
theorem join_false{w:World}{kpA:Option Addr}{nkA kcA:Nat}{vpA:Option Addr}{nvA vcA:Nat}{ipA:Option Addr}{niA icA:Nat}{kpB:Option Addr}{nkB kcB:Nat}{vpB:Option Addr}{nvB vcB:Nat}{ipB:Option Addr}{niB icB:Nat}{l2:Bool}{xa xb:Nd}(ha:NZ w false kpA nkA kcA vpA nvA vcA ipA niA icA xa)(hb:NZ w l2 kpB nkB kcB vpB nvB vcB ipB niB icB xb)(key:ByteArray)(s1:nkA≤1000)(s2:nkB≤1000)(s5:niA≤1000)(s6:niB≤1000) :
  Calls Tryz.prog 117 #[.agg #[.bool false,.slice kpA nkA kcA,.slice vpA nvA vcA,.slice ipA niA icA],.string key,.agg #[.bool l2,.slice kpB nkB kcB,.slice vpB nvB vcB,.slice ipB niB icB]] w fun e w'=>∃ kp nk kc vp nv vc ip ni ic,e=.returned (.agg #[.bool false,.slice kp nk kc,.slice vp nv vc,.slice ip ni ic])∧NV w' false kp nk kc vp nv vc ip ni ic ⟨false,xa.ks++([key]++xb.ks),[],xa.is++xb.is⟩∧Kept w w':=by
 obtain⟨o1,ho1⟩:∃ o:Obj,o=.cells #[.bool false,.slice kpA nkA kcA,.slice vpA nvA vcA,.slice ipA niA icA] 71:=⟨_,rfl⟩;obtain⟨o2,ho2⟩:∃ o:Obj,o=.cells #[.bool l2,.slice kpB nkB kcB,.slice vpB nvB vcB,.slice ipB niB icB] 71:=⟨_,rfl⟩;obtain⟨o3,ho3⟩:∃ o:Obj,o=.cells #[.bool false,.slice none 0 0,.slice none 0 0,.slice none 0 0] 71:=⟨_,rfl⟩;have K0:Kept w (((w.alloc o1).alloc o2).alloc o3).drew:=((((Kept.refl w).alloc _).alloc _).alloc _).drew;have P0:C4 (((w.alloc o1).alloc o2).alloc o3).drew w.heap.size 71 (.bool false) (.slice kpA nkA kcA) (.slice vpA nvA vcA) (.slice ipA niA icA):=by subst ho1;exact ((C4.alloc w 71 _ _ _ _).kept (((Kept.refl _).alloc _).alloc _)).drew
 have Q0:C4 (((w.alloc o1).alloc o2).alloc o3).drew (w.heap.size+1) 71 (.bool l2) (.slice kpB nkB kcB) (.slice vpB nvB vcB) (.slice ipB niB icB):=by subst ho2;rw[← size_alloc w o1];exact ((C4.alloc _ 71 _ _ _ _).kept ((Kept.refl _).alloc _)).drew
 have R0:C4 (((w.alloc o1).alloc o2).alloc o3).drew (w.heap.size+1+1) 71 (.bool false) (.slice none 0 0) (.slice none 0 0) (.slice none 0 0):=by subst ho3;rw[show w.heap.size+1+1=((w.alloc o1).alloc o2).heap.size by rw[size_alloc,size_alloc]];exact (C4.alloc _ 71 _ _ _ _).drew
 subst ho1;subst ho2;subst ho3;have HL1:Hid (xa.leaf=false):=ha.nv.hl;have ZA0:=ha.kept K0;have ZB0:=hb.kept K0;obtain⟨c00,c01,c02,c03⟩:=P0.cs;clear ha hb;go_enter Tryz.func117,Tryz.ntmps117;go_wp2_with fail;generalize (((w.alloc (.cells #[.bool false,.slice kpA nkA kcA,.slice vpA nvA vcA,.slice ipA niA icA] 71)).alloc (.cells #[.bool l2,.slice kpB nkB kcB,.slice vpB nvB vcB,.slice ipB niB icB] 71)).alloc (.cells #[.bool false,.slice none 0 0,.slice none 0 0,.slice none 0 0] 71))=V0 at *;have ZA:Hid (NZ V0.drew false kpA nkA kcA vpA nvA vcA ipA niA icA xa):=ZA0;have ZB:Hid (NZ V0.drew l2 kpB nkB kcB vpB nvB vcB ipB niB icB xb):=ZB0;clear ZA0 ZB0 c00 c01 c02 c03;have HC1:Hid (∀ (W:World) (g g3:Nat),Kept V0.drew W→W.heap[g]? = some (.cells #[.slice kpA nkA kcA,.slice (some ⟨g3,0,none⟩) 1 1,.slice kpB nkB kcB] 22)→W.heap[g3]? = some (.cells #[.string key] 9)→Calls Tryz.prog 147 #[.slice (some ⟨g,0,none⟩) 3 3] W fun e w'=>∃ p c,e=.returned (.slice p (nkA+(1+nkB)) c)∧Own w' W.heap.size 9 1 p (nkA+(1+nkB)) c (kcl (xa.ks++([key]++xb.ks)))∧Kept W w'):=fun W g g3 hW hg hg3=>by
  have r3:Rw W 1 (some ⟨g3,0,none⟩) 1 1 (kcl [key]):=⟨rfl,Nat.le_refl _,(by decide),.inr ⟨_,_,rfl,fun j u hj=>by rw[cell_of_row _ _ _ _ _ _ hg3,Nat.zero_add];simpa[kcl] using hj⟩⟩;have q:=concat52 (m:=3) (mc:=3) (three_at hg (hW.rw ZA.out.nv.k) r3 (hW.rw ZB.out.nv.k) ZA.out.kz (fun h=>by cases h) ZB.out.kz (kcl_one _) (kcl_one _) (kcl_one _)) rfl (by decide) (by simp[pcn];omega);simpa[pcn,pcs,kcl_app] using q
 have HC2:Hid (∀ (W:World) (g:Nat),Kept V0.drew W→W.heap[g]? = some (.cells #[.slice ipA niA icA,.slice ipB niB icB] 49)→Calls Tryz.prog 149 #[.slice (some ⟨g,0,none⟩) 2 2] W fun e w'=>∃ p c,e=.returned (.slice p (niA+niB) c)∧Own w' W.heap.size 3 1 p (niA+niB) c (icl (xa.is++xb.is))∧Kept W w'):=fun W g hW hg=>by
  have q:=concat54 (m:=2) (mc:=2) (two_at hg (hW.rw ZA.out.nv.i) (hW.rw ZB.out.nv.i) ZA.out.iz ZB.out.iz (icl_one _) (icl_one _)) rfl (by decide) (by simp[pcn];omega);simpa[pcn,pcs,icl_app] using q
 have HSA:Hid (∀ W,Kept V0.drew W→W.cell? ⟨w.heap.size,1,none⟩=some (.slice kpA nkA kcA)∧W.cell? ⟨w.heap.size+1,1,none⟩=some (.slice kpB nkB kcB)∧W.cell? ⟨w.heap.size,3,none⟩=some (.slice ipA niA icA)∧W.cell? ⟨w.heap.size+1,3,none⟩=some (.slice ipB niB icB)):=by
  intro W hW;exact⟨(P0.kept hW).cs.2.1,(Q0.kept hW).cs.2.1,(P0.kept hW).cs.2.2.2,(Q0.kept hW).cs.2.2.2⟩
 have J0:Kept V0.drew V0.drew:=Kept.refl V0.drew;clear P0 Q0;refine wp_region_held_drew (S:=(fun W=>W.cell? ⟨w.heap.size,1,none⟩=some (.slice kpA nkA kcA)∧W.cell? ⟨w.heap.size+1,1,none⟩=some (.slice kpB nkB kcB)∧W.cell? ⟨w.heap.size,3,none⟩=some (.slice ipA niA icA)∧W.cell? ⟨w.heap.size+1,3,none⟩=some (.slice ipB niB icB))) (by kernel_rfl) ?_ (fun hHeld=>?_)
 ·exact HSA.out _ J0
 generalize V0.drew=W0 at *;refine wpAnyH_take (i:=0) (oi:=opnpe24) (v:=?_) rfl (by kernel_rfl) (by kernel_rfl) (by kernel_rfl) (fun _ _ _ h=>h) (Or.inl ⟨by rfl,?_⟩) (by assumption) ?_;rotate_left
 ·intro w hSw
  (try dsimp only at hSw);go_simp;all_goals with_reducible rfl
 try simp only[Act.put,sbd1,sbd2,sbd3]
 refine wpAnyH_take (i:=1) (oi:=opnpe17) (v:=?_) rfl (by kernel_rfl) (by kernel_rfl) (by kernel_rfl) (fun _ _ _ h=>h) (Or.inl ⟨by rfl,?_⟩) (by assumption) ?_;rotate_left
 ·intro w hSw
  (try dsimp only at hSw);go_simp;all_goals with_reducible rfl
 try simp only[Act.put,sbd1,sbd2,sbd3]
 refine wpAnyH_take (i:=2) (oi:=opnpe29) (v:=?_) rfl (by kernel_rfl) (by kernel_rfl) (by kernel_rfl) (fun _ _ _ h=>h) (Or.inl ⟨by rfl,?_⟩) (by assumption) ?_;rotate_left
 ·intro w hSw
  (try dsimp only at hSw);go_simp;all_goals with_reducible rfl
 try simp only[Act.put,sbd1,sbd2,sbd3]
 refine wpAnyH_take (i:=4) (oi:=opnpe25) (v:=?_) rfl (by kernel_rfl) (by kernel_rfl) (by kernel_rfl) (fun _ _ _ h=>h) (Or.inl ⟨by rfl,?_⟩) (by assumption) ?_;rotate_left
 ·intro w hSw
  (try dsimp only at hSw);go_simp;all_goals with_reducible rfl
 try simp only[Act.put,sbd1,sbd2,sbd3]
 refine wpAnyH_take (i:=5) (oi:=opnpe18) (v:=?_) rfl (by kernel_rfl) (by kernel_rfl) (by kernel_rfl) (fun _ _ _ h=>h) (Or.inl ⟨by rfl,?_⟩) (by assumption) ?_;rotate_left
 ·intro w hSw
  (try dsimp only at hSw);go_simp;all_goals with_reducible rfl
 try simp only[Act.put,sbd1,sbd2,sbd3]
 refine wpAnyH_take (i:=8) (oi:=opnpe26) (v:=?_) rfl (by kernel_rfl) (by kernel_rfl) (by kernel_rfl) (fun _ _ _ h=>h) (Or.inl ⟨by rfl,?_⟩) (by assumption) ?_;rotate_left
 ·intro w hSw
  (try dsimp only at hSw);go_simp;all_goals with_reducible rfl
 try simp only[Act.put,sbd1,sbd2,sbd3]
 refine wpAnyH_take (i:=9) (oi:=opnpe19) (v:=?_) rfl (by kernel_rfl) (by kernel_rfl) (by kernel_rfl) (fun _ _ _ h=>h) (Or.inl ⟨by rfl,?_⟩) (by assumption) ?_;rotate_left
 ·intro w hSw
  (try dsimp only at hSw);go_simp;all_goals with_reducible rfl
 try simp only[Act.put,sbd1,sbd2,sbd3]
 refine wpAnyH_take (i:=10) (oi:=opnpe27) (v:=?_) rfl (by kernel_rfl) (by kernel_rfl) (by kernel_rfl) (fun _ _ _ h=>h) (Or.inl ⟨by rfl,?_⟩) (by assumption) ?_;rotate_left
 ·intro w hSw
  (try dsimp only at hSw);go_simp;all_goals with_reducible rfl
 try simp only[Act.put,sbd1,sbd2,sbd3]
 refine wpAnyH_take (i:=11) (oi:=opnpe13) (v:=?_) rfl (by kernel_rfl) (by kernel_rfl) (by kernel_rfl) (fun _ _ _ h=>h) (Or.inl ⟨by rfl,?_⟩) (by assumption) ?_;rotate_left
 ·intro w hSw
  (try dsimp only at hSw);go_simp;all_goals with_reducible rfl
 try simp only[Act.put,sbd1,sbd2,sbd3]
 refine wpAnyH_ready (rs:=[3,12]) (by kernel_rfl) (by simp) ?_;refine AllReadyH.cons (o:=opnpe12) rfl (fun KK hKK=>?_) ?_
 ·
  have kk0:=(Kept.refl W0).alloc (.cells #[.string key] 9);have J1:=J0.trans kk0;have hg3:=heap_alloc_new W0 (.cells #[.string key] 9);go_simp;refine hKK.out _ _ ?_ (fun hHeld=>?_)
  ·(try dsimp only)
   exact HSA.out _ J1
  clear hKK KK;try simp only[Act.put,sbd1,sbd2,sbd3]
  refine wpAnyH_ready (rs:=[6,12]) (by kernel_rfl) (by simp) ?_;refine AllReadyH.cons (o:=opnpe2) rfl (fun KK hKK=>?_) ?_
  ·
   clear kk0;generalize W0.alloc (.cells #[.string key] 9)=W1 at *;have kk1:=(Kept.refl W1).alloc (.cells #[.slice kpA nkA kcA,.slice (some ⟨W0.heap.size,0,none⟩) 1 1,.slice kpB nkB kcB] 22);have J2:=J1.trans kk1;have hg1:=heap_alloc_new W1 (.cells #[.slice kpA nkA kcA,.slice (some ⟨W0.heap.size,0,none⟩) 1 1,.slice kpB nkB kcB] 22);have h3_2:=kk1.block hg3;go_simp;refine hKK.out _ _ ?_ (fun hHeld=>?_)
   ·(try dsimp only)
    exact HSA.out _ J2
   clear hKK KK;try simp only[Act.put,sbd1,sbd2,sbd3]
   refine wpAnyH_ready (rs:=[7,12]) (by kernel_rfl) (by simp) ?_;refine AllReadyH.cons (o:=opnpe10) rfl (fun KK hKK=>?_) ?_
   ·
    clear kk1;generalize W1.alloc (.cells #[.slice kpA nkA kcA,.slice (some ⟨W0.heap.size,0,none⟩) 1 1,.slice kpB nkB kcB] 22)=W2 at *;go_simp;go_at_call 147;(with_reducible refine (HC1.out _ W1.heap.size W0.heap.size J2 hg1 h3_2).mono ?_);rintro e W3 ⟨p1,c1,rfl,O1,kk2⟩;have J3:=J2.trans kk2;have B1:=J2.size;go_wp2_with fail;refine hKK.out _ _ ?_ (fun hHeld=>?_)
    ·(try dsimp only)
     exact HSA.out _ J3
    clear hKK KK;try simp only[Act.put,sbd1,sbd2,sbd3]
    refine wpAnyH_ready (rs:=[12]) (by kernel_rfl) (by simp) ?_;refine AllReadyH.cons (o:=opnpe6) rfl (fun KK hKK=>?_) ?_
    ·
     have kk3:=(Kept.refl W3).alloc (.cells #[.slice ipA niA icA,.slice ipB niB icB] 49);have J4:=J3.trans kk3;have hg2:=heap_alloc_new W3 (.cells #[.slice ipA niA icA,.slice ipB niB icB] 49);have O1_4:=O1.kept kk3;go_simp;refine hKK.out _ _ ?_ (fun hHeld=>?_)
     ·(try dsimp only)
      exact HSA.out _ J4
     clear hKK KK;try simp only[Act.put,sbd1,sbd2,sbd3]
     refine wpAnyH_ready (rs:=[13]) (by kernel_rfl) (by simp) ?_;refine AllReadyH.cons (o:=opnpe4) rfl (fun KK hKK=>?_) ?_
     ·
      clear kk3;generalize W3.alloc (.cells #[.slice ipA niA icA,.slice ipB niB icB] 49)=W4 at *;go_simp;go_at_call 149;(with_reducible refine (HC2.out _ W3.heap.size J4 hg2).mono ?_);rintro e W5 ⟨p2,c2,rfl,O2,kk4⟩;have J5:=J4.trans kk4;have O1z:=O1_4.kept kk4;have B2:=J4.size;have Rz:=R0.kept J5;obtain⟨⟨g0,f0⟩,⟨g1,f1⟩,⟨g2,f2⟩,⟨g3,f3⟩,hfin⟩:=ready4 Rz.out (.bool false) (.slice p1 (nkA+(1+nkB)) c1) (.slice none 0 0) (.slice p2 (niA+niB) c2);go_wp2_with fail;refine hKK.out _ _ ?_ (fun hHeld=>?_)
      ·(try dsimp only)
       exact HSA.out _ J5
      clear hKK KK;try simp only[Act.put,sbd1,sbd2,sbd3]
      refine wpAnyH_take (i:=14) (oi:=opnpe11) (v:=?_) rfl (by kernel_rfl) (by kernel_rfl) (by kernel_rfl) (fun _ _ _ h=>h) (Or.inl ⟨by rfl,?_⟩) (by assumption) ?_;rotate_left
      ·intro w hSw
       (try dsimp only at hSw);go_simp;all_goals with_reducible rfl
      try simp only[Act.put,sbd1,sbd2,sbd3]
      refine wpAnyH_ready (rs:=[15]) (by kernel_rfl) (by simp) ?_;refine AllReadyH.cons (o:=opnpe0) rfl (fun KK hKK=>?_) ?_
      ·
       go_simp;refine hKK.out _ _ ?_ (fun hHeld=>?_)
       ·(try dsimp only)
        have q:=HSA.out _ J5;rw[← cell_st4 W5 (b:=w.heap.size+1+1) (b2:=w.heap.size) (by omega) 1 (.bool false) (.slice p1 (nkA+(1+nkB)) c1) (.slice none 0 0) (.slice p2 (niA+niB) c2),← cell_st4 W5 (b:=w.heap.size+1+1) (b2:=w.heap.size+1) (by omega) 1 (.bool false) (.slice p1 (nkA+(1+nkB)) c1) (.slice none 0 0) (.slice p2 (niA+niB) c2),← cell_st4 W5 (b:=w.heap.size+1+1) (b2:=w.heap.size) (by omega) 3 (.bool false) (.slice p1 (nkA+(1+nkB)) c1) (.slice none 0 0) (.slice p2 (niA+niB) c2),← cell_st4 W5 (b:=w.heap.size+1+1) (b2:=w.heap.size+1) (by omega) 3 (.bool false) (.slice p1 (nkA+(1+nkB)) c1) (.slice none 0 0) (.slice p2 (niA+niB) c2)]at q;exact q
       clear hKK KK;try simp only[Act.put,sbd1,sbd2,sbd3]
       refine wpAnyH_done (by kernel_rfl) ?_ _;have hlt:=R0.lt;have hB1:=Nat.lt_of_lt_of_le hlt B1;have hB2:=Nat.lt_of_lt_of_le hlt B2;have NF:NV ((((W5.setCell ⟨w.heap.size+1+1,0,none⟩ (.bool false)).setCell ⟨w.heap.size+1+1,1,none⟩ (.slice p1 (nkA+(1+nkB)) c1)).setCell ⟨w.heap.size+1+1,2,none⟩ (.slice none 0 0)).setCell ⟨w.heap.size+1+1,3,none⟩ (.slice p2 (niA+niB) c2)) false p1 (nkA+(1+nkB)) c1 none 0 0 p2 (niA+niB) c2 ⟨false,xa.ks++([key]++xb.ks),[],xa.is++xb.is⟩:=⟨rfl,(O1z.st4 hB1 _ _ _ _).rw,⟨rfl,Nat.le_refl _,Nat.zero_le _,.inl ⟨rfl,rfl⟩⟩,(O2.st4 hB2 _ _ _ _).rw,(O1z.st4 hB1 _ _ _ _).rx,Rx.none _ _,(O2.st4 hB2 _ _ _ _).rx⟩;have KF:Kept w ((((W5.setCell ⟨w.heap.size+1+1,0,none⟩ (.bool false)).setCell ⟨w.heap.size+1+1,1,none⟩ (.slice p1 (nkA+(1+nkB)) c1)).setCell ⟨w.heap.size+1+1,2,none⟩ (.slice none 0 0)).setCell ⟨w.heap.size+1+1,3,none⟩ (.slice p2 (niA+niB) c2)):=(K0.trans J5).st4 (by omega) _ _ _ _;generalize ((((W5.setCell ⟨w.heap.size+1+1,0,none⟩ (.bool false)).setCell ⟨w.heap.size+1+1,1,none⟩ (.slice p1 (nkA+(1+nkB)) c1)).setCell ⟨w.heap.size+1+1,2,none⟩ (.slice none 0 0)).setCell ⟨w.heap.size+1+1,3,none⟩ (.slice p2 (niA+niB) c2))=WF at *;go_wp2;refine bodyPost_ret (v:=.agg #[.bool false,.slice p1 (nkA+(1+nkB)) c1,.slice none 0 0,.slice p2 (niA+niB) c2]) ?_ rfl ⟨_,_,_,_,_,_,_,_,_,rfl,NF,KF⟩;exact results_cell_row (p:=6) rfl _ _ (w.heap.size+1+1) 71 #[.bool false,.slice p1 (nkA+(1+nkB)) c1,.slice none 0 0,.slice p2 (niA+niB) c2] (0,0) _ rfl hfin Tryz.underlying71 rfl size71
      exact AllReadyH.nil
     exact AllReadyH.nil
    exact AllReadyH.nil
   refine AllReadyH.cons (o:=opnpe6) rfl (fun KK hKK=>?_) ?_
   ·
    clear kk1;generalize W1.alloc (.cells #[.slice kpA nkA kcA,.slice (some ⟨W0.heap.size,0,none⟩) 1 1,.slice kpB nkB kcB] 22)=W2 at *;have kk2:=(Kept.refl W2).alloc (.cells #[.slice ipA niA icA,.slice ipB niB icB] 49);have J3:=J2.trans kk2;have hg2:=heap_alloc_new W2 (.cells #[.slice ipA niA icA,.slice ipB niB icB] 49);have h1_3:=kk2.block hg1;have h3_3:=kk2.block h3_2;go_simp;refine hKK.out _ _ ?_ (fun hHeld=>?_)
    ·(try dsimp only)
     exact HSA.out _ J3
    clear hKK KK;try simp only[Act.put,sbd1,sbd2,sbd3]
    refine wpAnyH_ready (rs:=[7]) (by kernel_rfl) (by simp) ?_;refine AllReadyH.cons (o:=opnpe10) rfl (fun KK hKK=>?_) ?_
    ·
     clear kk2;generalize W2.alloc (.cells #[.slice ipA niA icA,.slice ipB niB icB] 49)=W3 at *;go_simp;go_at_call 147;(with_reducible refine (HC1.out _ W1.heap.size W0.heap.size J3 h1_3 h3_3).mono ?_);rintro e W4 ⟨p1,c1,rfl,O1,kk3⟩;have J4:=J3.trans kk3;have B1:=J3.size;have h2_4:=kk3.block hg2;go_wp2_with fail;refine hKK.out _ _ ?_ (fun hHeld=>?_)
     ·(try dsimp only)
      exact HSA.out _ J4
     clear hKK KK;try simp only[Act.put,sbd1,sbd2,sbd3]
     refine wpAnyH_ready (rs:=[13]) (by kernel_rfl) (by simp) ?_;refine AllReadyH.cons (o:=opnpe4) rfl (fun KK hKK=>?_) ?_
     ·
      go_simp;go_at_call 149;(with_reducible refine (HC2.out _ W2.heap.size J4 h2_4).mono ?_);rintro e W5 ⟨p2,c2,rfl,O2,kk4⟩;have J5:=J4.trans kk4;have O1z:=O1.kept kk4;have B2:=J4.size;have Rz:=R0.kept J5;obtain⟨⟨g0,f0⟩,⟨g1,f1⟩,⟨g2,f2⟩,⟨g3,f3⟩,hfin⟩:=ready4 Rz.out (.bool false) (.slice p1 (nkA+(1+nkB)) c1) (.slice none 0 0) (.slice p2 (niA+niB) c2);go_wp2_with fail;refine hKK.out _ _ ?_ (fun hHeld=>?_)
      ·(try dsimp only)
       exact HSA.out _ J5
      clear hKK KK;try simp only[Act.put,sbd1,sbd2,sbd3]
      refine wpAnyH_take (i:=14) (oi:=opnpe11) (v:=?_) rfl (by kernel_rfl) (by kernel_rfl) (by kernel_rfl) (fun _ _ _ h=>h) (Or.inl ⟨by rfl,?_⟩) (by assumption) ?_;rotate_left
      ·intro w hSw
       (try dsimp only at hSw);go_simp;all_goals with_reducible rfl
      try simp only[Act.put,sbd1,sbd2,sbd3]
      refine wpAnyH_ready (rs:=[15]) (by kernel_rfl) (by simp) ?_;refine AllReadyH.cons (o:=opnpe0) rfl (fun KK hKK=>?_) ?_
      ·
       go_simp;refine hKK.out _ _ ?_ (fun hHeld=>?_)
       ·(try dsimp only)
        have q:=HSA.out _ J5;rw[← cell_st4 W5 (b:=w.heap.size+1+1) (b2:=w.heap.size) (by omega) 1 (.bool false) (.slice p1 (nkA+(1+nkB)) c1) (.slice none 0 0) (.slice p2 (niA+niB) c2),← cell_st4 W5 (b:=w.heap.size+1+1) (b2:=w.heap.size+1) (by omega) 1 (.bool false) (.slice p1 (nkA+(1+nkB)) c1) (.slice none 0 0) (.slice p2 (niA+niB) c2),← cell_st4 W5 (b:=w.heap.size+1+1) (b2:=w.heap.size) (by omega) 3 (.bool false) (.slice p1 (nkA+(1+nkB)) c1) (.slice none 0 0) (.slice p2 (niA+niB) c2),← cell_st4 W5 (b:=w.heap.size+1+1) (b2:=w.heap.size+1) (by omega) 3 (.bool false) (.slice p1 (nkA+(1+nkB)) c1) (.slice none 0 0) (.slice p2 (niA+niB) c2)]at q;exact q
       clear hKK KK;try simp only[Act.put,sbd1,sbd2,sbd3]
       refine wpAnyH_done (by kernel_rfl) ?_ _;have hlt:=R0.lt;have hB1:=Nat.lt_of_lt_of_le hlt B1;have hB2:=Nat.lt_of_lt_of_le hlt B2;have NF:NV ((((W5.setCell ⟨w.heap.size+1+1,0,none⟩ (.bool false)).setCell ⟨w.heap.size+1+1,1,none⟩ (.slice p1 (nkA+(1+nkB)) c1)).setCell ⟨w.heap.size+1+1,2,none⟩ (.slice none 0 0)).setCell ⟨w.heap.size+1+1,3,none⟩ (.slice p2 (niA+niB) c2)) false p1 (nkA+(1+nkB)) c1 none 0 0 p2 (niA+niB) c2 ⟨false,xa.ks++([key]++xb.ks),[],xa.is++xb.is⟩:=⟨rfl,(O1z.st4 hB1 _ _ _ _).rw,⟨rfl,Nat.le_refl _,Nat.zero_le _,.inl ⟨rfl,rfl⟩⟩,(O2.st4 hB2 _ _ _ _).rw,(O1z.st4 hB1 _ _ _ _).rx,Rx.none _ _,(O2.st4 hB2 _ _ _ _).rx⟩;have KF:Kept w ((((W5.setCell ⟨w.heap.size+1+1,0,none⟩ (.bool false)).setCell ⟨w.heap.size+1+1,1,none⟩ (.slice p1 (nkA+(1+nkB)) c1)).setCell ⟨w.heap.size+1+1,2,none⟩ (.slice none 0 0)).setCell ⟨w.heap.size+1+1,3,none⟩ (.slice p2 (niA+niB) c2)):=(K0.trans J5).st4 (by omega) _ _ _ _;generalize ((((W5.setCell ⟨w.heap.size+1+1,0,none⟩ (.bool false)).setCell ⟨w.heap.size+1+1,1,none⟩ (.slice p1 (nkA+(1+nkB)) c1)).setCell ⟨w.heap.size+1+1,2,none⟩ (.slice none 0 0)).setCell ⟨w.heap.size+1+1,3,none⟩ (.slice p2 (niA+niB) c2))=WF at *;go_wp2;refine bodyPost_ret (v:=.agg #[.bool false,.slice p1 (nkA+(1+nkB)) c1,.slice none 0 0,.slice p2 (niA+niB) c2]) ?_ rfl ⟨_,_,_,_,_,_,_,_,_,rfl,NF,KF⟩;exact results_cell_row (p:=6) rfl _ _ (w.heap.size+1+1) 71 #[.bool false,.slice p1 (nkA+(1+nkB)) c1,.slice none 0 0,.slice p2 (niA+niB) c2] (0,0) _ rfl hfin Tryz.underlying71 rfl size71
      exact AllReadyH.nil
     exact AllReadyH.nil
    exact AllReadyH.nil
   exact AllReadyH.nil
  refine AllReadyH.cons (o:=opnpe6) rfl (fun KK hKK=>?_) ?_
  ·
   clear kk0;generalize W0.alloc (.cells #[.string key] 9)=W1 at *;have kk1:=(Kept.refl W1).alloc (.cells #[.slice ipA niA icA,.slice ipB niB icB] 49);have J2:=J1.trans kk1;have hg2:=heap_alloc_new W1 (.cells #[.slice ipA niA icA,.slice ipB niB icB] 49);have h3_2:=kk1.block hg3;go_simp;refine hKK.out _ _ ?_ (fun hHeld=>?_)
   ·(try dsimp only)
    exact HSA.out _ J2
   clear hKK KK;try simp only[Act.put,sbd1,sbd2,sbd3]
   refine wpAnyH_ready (rs:=[6]) (by kernel_rfl) (by simp) ?_;refine AllReadyH.cons (o:=opnpe2) rfl (fun KK hKK=>?_) ?_
   ·
    clear kk1;generalize W1.alloc (.cells #[.slice ipA niA icA,.slice ipB niB icB] 49)=W2 at *;have kk2:=(Kept.refl W2).alloc (.cells #[.slice kpA nkA kcA,.slice (some ⟨W0.heap.size,0,none⟩) 1 1,.slice kpB nkB kcB] 22);have J3:=J2.trans kk2;have hg1:=heap_alloc_new W2 (.cells #[.slice kpA nkA kcA,.slice (some ⟨W0.heap.size,0,none⟩) 1 1,.slice kpB nkB kcB] 22);have h2_3:=kk2.block hg2;have h3_3:=kk2.block h3_2;go_simp;refine hKK.out _ _ ?_ (fun hHeld=>?_)
    ·(try dsimp only)
     exact HSA.out _ J3
    clear hKK KK;try simp only[Act.put,sbd1,sbd2,sbd3]
    refine wpAnyH_ready (rs:=[7]) (by kernel_rfl) (by simp) ?_;refine AllReadyH.cons (o:=opnpe10) rfl (fun KK hKK=>?_) ?_
    ·
     clear kk2;generalize W2.alloc (.cells #[.slice kpA nkA kcA,.slice (some ⟨W0.heap.size,0,none⟩) 1 1,.slice kpB nkB kcB] 22)=W3 at *;go_simp;go_at_call 147;(with_reducible refine (HC1.out _ W2.heap.size W0.heap.size J3 hg1 h3_3).mono ?_);rintro e W4 ⟨p1,c1,rfl,O1,kk3⟩;have J4:=J3.trans kk3;have B1:=J3.size;have h2_4:=kk3.block h2_3;go_wp2_with fail;refine hKK.out _ _ ?_ (fun hHeld=>?_)
     ·(try dsimp only)
      exact HSA.out _ J4
     clear hKK KK;try simp only[Act.put,sbd1,sbd2,sbd3]
     refine wpAnyH_ready (rs:=[13]) (by kernel_rfl) (by simp) ?_;refine AllReadyH.cons (o:=opnpe4) rfl (fun KK hKK=>?_) ?_
     ·
      go_simp;go_at_call 149;(with_reducible refine (HC2.out _ W1.heap.size J4 h2_4).mono ?_);rintro e W5 ⟨p2,c2,rfl,O2,kk4⟩;have J5:=J4.trans kk4;have O1z:=O1.kept kk4;have B2:=J4.size;have Rz:=R0.kept J5;obtain⟨⟨g0,f0⟩,⟨g1,f1⟩,⟨g2,f2⟩,⟨g3,f3⟩,hfin⟩:=ready4 Rz.out (.bool false) (.slice p1 (nkA+(1+nkB)) c1) (.slice none 0 0) (.slice p2 (niA+niB) c2);go_wp2_with fail;refine hKK.out _ _ ?_ (fun hHeld=>?_)
      ·(try dsimp only)
       exact HSA.out _ J5
      clear hKK KK;try simp only[Act.put,sbd1,sbd2,sbd3]
      refine wpAnyH_take (i:=14) (oi:=opnpe11) (v:=?_) rfl (by kernel_rfl) (by kernel_rfl) (by kernel_rfl) (fun _ _ _ h=>h) (Or.inl ⟨by rfl,?_⟩) (by assumption) ?_;rotate_left
      ·intro w hSw
       (try dsimp only at hSw);go_simp;all_goals with_reducible rfl
      try simp only[Act.put,sbd1,sbd2,sbd3]
      refine wpAnyH_ready (rs:=[15]) (by kernel_rfl) (by simp) ?_;refine AllReadyH.cons (o:=opnpe0) rfl (fun KK hKK=>?_) ?_
      ·
       go_simp;refine hKK.out _ _ ?_ (fun hHeld=>?_)
       ·(try dsimp only)
        have q:=HSA.out _ J5;rw[← cell_st4 W5 (b:=w.heap.size+1+1) (b2:=w.heap.size) (by omega) 1 (.bool false) (.slice p1 (nkA+(1+nkB)) c1) (.slice none 0 0) (.slice p2 (niA+niB) c2),← cell_st4 W5 (b:=w.heap.size+1+1) (b2:=w.heap.size+1) (by omega) 1 (.bool false) (.slice p1 (nkA+(1+nkB)) c1) (.slice none 0 0) (.slice p2 (niA+niB) c2),← cell_st4 W5 (b:=w.heap.size+1+1) (b2:=w.heap.size) (by omega) 3 (.bool false) (.slice p1 (nkA+(1+nkB)) c1) (.slice none 0 0) (.slice p2 (niA+niB) c2),← cell_st4 W5 (b:=w.heap.size+1+1) (b2:=w.heap.size+1) (by omega) 3 (.bool false) (.slice p1 (nkA+(1+nkB)) c1) (.slice none 0 0) (.slice p2 (niA+niB) c2)]at q;exact q
       clear hKK KK;try simp only[Act.put,sbd1,sbd2,sbd3]
       refine wpAnyH_done (by kernel_rfl) ?_ _;have hlt:=R0.lt;have hB1:=Nat.lt_of_lt_of_le hlt B1;have hB2:=Nat.lt_of_lt_of_le hlt B2;have NF:NV ((((W5.setCell ⟨w.heap.size+1+1,0,none⟩ (.bool false)).setCell ⟨w.heap.size+1+1,1,none⟩ (.slice p1 (nkA+(1+nkB)) c1)).setCell ⟨w.heap.size+1+1,2,none⟩ (.slice none 0 0)).setCell ⟨w.heap.size+1+1,3,none⟩ (.slice p2 (niA+niB) c2)) false p1 (nkA+(1+nkB)) c1 none 0 0 p2 (niA+niB) c2 ⟨false,xa.ks++([key]++xb.ks),[],xa.is++xb.is⟩:=⟨rfl,(O1z.st4 hB1 _ _ _ _).rw,⟨rfl,Nat.le_refl _,Nat.zero_le _,.inl ⟨rfl,rfl⟩⟩,(O2.st4 hB2 _ _ _ _).rw,(O1z.st4 hB1 _ _ _ _).rx,Rx.none _ _,(O2.st4 hB2 _ _ _ _).rx⟩;have KF:Kept w ((((W5.setCell ⟨w.heap.size+1+1,0,none⟩ (.bool false)).setCell ⟨w.heap.size+1+1,1,none⟩ (.slice p1 (nkA+(1+nkB)) c1)).setCell ⟨w.heap.size+1+1,2,none⟩ (.slice none 0 0)).setCell ⟨w.heap.size+1+1,3,none⟩ (.slice p2 (niA+niB) c2)):=(K0.trans J5).st4 (by omega) _ _ _ _;generalize ((((W5.setCell ⟨w.heap.size+1+1,0,none⟩ (.bool false)).setCell ⟨w.heap.size+1+1,1,none⟩ (.slice p1 (nkA+(1+nkB)) c1)).setCell ⟨w.heap.size+1+1,2,none⟩ (.slice none 0 0)).setCell ⟨w.heap.size+1+1,3,none⟩ (.slice p2 (niA+niB) c2))=WF at *;go_wp2;refine bodyPost_ret (v:=.agg #[.bool false,.slice p1 (nkA+(1+nkB)) c1,.slice none 0 0,.slice p2 (niA+niB) c2]) ?_ rfl ⟨_,_,_,_,_,_,_,_,_,rfl,NF,KF⟩;exact results_cell_row (p:=6) rfl _ _ (w.heap.size+1+1) 71 #[.bool false,.slice p1 (nkA+(1+nkB)) c1,.slice none 0 0,.slice p2 (niA+niB) c2] (0,0) _ rfl hfin Tryz.underlying71 rfl size71
      exact AllReadyH.nil
     exact AllReadyH.nil
    exact AllReadyH.nil
   exact AllReadyH.nil
  exact AllReadyH.nil
 refine AllReadyH.cons (o:=opnpe6) rfl (fun KK hKK=>?_) ?_
 ·
  have kk0:=(Kept.refl W0).alloc (.cells #[.slice ipA niA icA,.slice ipB niB icB] 49);have J1:=J0.trans kk0;have hg2:=heap_alloc_new W0 (.cells #[.slice ipA niA icA,.slice ipB niB icB] 49);go_simp;refine hKK.out _ _ ?_ (fun hHeld=>?_)
  ·(try dsimp only)
   exact HSA.out _ J1
  clear hKK KK;try simp only[Act.put,sbd1,sbd2,sbd3]
  refine wpAnyH_ready (rs:=[3]) (by kernel_rfl) (by simp) ?_;refine AllReadyH.cons (o:=opnpe12) rfl (fun KK hKK=>?_) ?_
  ·
   clear kk0;generalize W0.alloc (.cells #[.slice ipA niA icA,.slice ipB niB icB] 49)=W1 at *;have kk1:=(Kept.refl W1).alloc (.cells #[.string key] 9);have J2:=J1.trans kk1;have hg3:=heap_alloc_new W1 (.cells #[.string key] 9);have h2_2:=kk1.block hg2;go_simp;refine hKK.out _ _ ?_ (fun hHeld=>?_)
   ·(try dsimp only)
    exact HSA.out _ J2
   clear hKK KK;try simp only[Act.put,sbd1,sbd2,sbd3]
   refine wpAnyH_ready (rs:=[6]) (by kernel_rfl) (by simp) ?_;refine AllReadyH.cons (o:=opnpe2) rfl (fun KK hKK=>?_) ?_
   ·
    clear kk1;generalize W1.alloc (.cells #[.string key] 9)=W2 at *;have kk2:=(Kept.refl W2).alloc (.cells #[.slice kpA nkA kcA,.slice (some ⟨W1.heap.size,0,none⟩) 1 1,.slice kpB nkB kcB] 22);have J3:=J2.trans kk2;have hg1:=heap_alloc_new W2 (.cells #[.slice kpA nkA kcA,.slice (some ⟨W1.heap.size,0,none⟩) 1 1,.slice kpB nkB kcB] 22);have h2_3:=kk2.block h2_2;have h3_3:=kk2.block hg3;go_simp;refine hKK.out _ _ ?_ (fun hHeld=>?_)
    ·(try dsimp only)
     exact HSA.out _ J3
    clear hKK KK;try simp only[Act.put,sbd1,sbd2,sbd3]
    refine wpAnyH_ready (rs:=[7]) (by kernel_rfl) (by simp) ?_;refine AllReadyH.cons (o:=opnpe10) rfl (fun KK hKK=>?_) ?_
    ·
     clear kk2;generalize W2.alloc (.cells #[.slice kpA nkA kcA,.slice (some ⟨W1.heap.size,0,none⟩) 1 1,.slice kpB nkB kcB] 22)=W3 at *;go_simp;go_at_call 147;(with_reducible refine (HC1.out _ W2.heap.size W1.heap.size J3 hg1 h3_3).mono ?_);rintro e W4 ⟨p1,c1,rfl,O1,kk3⟩;have J4:=J3.trans kk3;have B1:=J3.size;have h2_4:=kk3.block h2_3;go_wp2_with fail;refine hKK.out _ _ ?_ (fun hHeld=>?_)
     ·(try dsimp only)
      exact HSA.out _ J4
     clear hKK KK;try simp only[Act.put,sbd1,sbd2,sbd3]
     refine wpAnyH_ready (rs:=[13]) (by kernel_rfl) (by simp) ?_;refine AllReadyH.cons (o:=opnpe4) rfl (fun KK hKK=>?_) ?_
     ·
      go_simp;go_at_call 149;(with_reducible refine (HC2.out _ W0.heap.size J4 h2_4).mono ?_);rintro e W5 ⟨p2,c2,rfl,O2,kk4⟩;have J5:=J4.trans kk4;have O1z:=O1.kept kk4;have B2:=J4.size;have Rz:=R0.kept J5;obtain⟨⟨g0,f0⟩,⟨g1,f1⟩,⟨g2,f2⟩,⟨g3,f3⟩,hfin⟩:=ready4 Rz.out (.bool false) (.slice p1 (nkA+(1+nkB)) c1) (.slice none 0 0) (.slice p2 (niA+niB) c2);go_wp2_with fail;refine hKK.out _ _ ?_ (fun hHeld=>?_)
      ·(try dsimp only)
       exact HSA.out _ J5
      clear hKK KK;try simp only[Act.put,sbd1,sbd2,sbd3]
      refine wpAnyH_take (i:=14) (oi:=opnpe11) (v:=?_) rfl (by kernel_rfl) (by kernel_rfl) (by kernel_rfl) (fun _ _ _ h=>h) (Or.inl ⟨by rfl,?_⟩) (by assumption) ?_;rotate_left
      ·intro w hSw
       (try dsimp only at hSw);go_simp;all_goals with_reducible rfl
      try simp only[Act.put,sbd1,sbd2,sbd3]
      refine wpAnyH_ready (rs:=[15]) (by kernel_rfl) (by simp) ?_;refine AllReadyH.cons (o:=opnpe0) rfl (fun KK hKK=>?_) ?_
      ·
       go_simp;refine hKK.out _ _ ?_ (fun hHeld=>?_)
       ·(try dsimp only)
        have q:=HSA.out _ J5;rw[← cell_st4 W5 (b:=w.heap.size+1+1) (b2:=w.heap.size) (by omega) 1 (.bool false) (.slice p1 (nkA+(1+nkB)) c1) (.slice none 0 0) (.slice p2 (niA+niB) c2),← cell_st4 W5 (b:=w.heap.size+1+1) (b2:=w.heap.size+1) (by omega) 1 (.bool false) (.slice p1 (nkA+(1+nkB)) c1) (.slice none 0 0) (.slice p2 (niA+niB) c2),← cell_st4 W5 (b:=w.heap.size+1+1) (b2:=w.heap.size) (by omega) 3 (.bool false) (.slice p1 (nkA+(1+nkB)) c1) (.slice none 0 0) (.slice p2 (niA+niB) c2),← cell_st4 W5 (b:=w.heap.size+1+1) (b2:=w.heap.size+1) (by omega) 3 (.bool false) (.slice p1 (nkA+(1+nkB)) c1) (.slice none 0 0) (.slice p2 (niA+niB) c2)]at q;exact q
       clear hKK KK;try simp only[Act.put,sbd1,sbd2,sbd3]
       refine wpAnyH_done (by kernel_rfl) ?_ _;have hlt:=R0.lt;have hB1:=Nat.lt_of_lt_of_le hlt B1;have hB2:=Nat.lt_of_lt_of_le hlt B2;have NF:NV ((((W5.setCell ⟨w.heap.size+1+1,0,none⟩ (.bool false)).setCell ⟨w.heap.size+1+1,1,none⟩ (.slice p1 (nkA+(1+nkB)) c1)).setCell ⟨w.heap.size+1+1,2,none⟩ (.slice none 0 0)).setCell ⟨w.heap.size+1+1,3,none⟩ (.slice p2 (niA+niB) c2)) false p1 (nkA+(1+nkB)) c1 none 0 0 p2 (niA+niB) c2 ⟨false,xa.ks++([key]++xb.ks),[],xa.is++xb.is⟩:=⟨rfl,(O1z.st4 hB1 _ _ _ _).rw,⟨rfl,Nat.le_refl _,Nat.zero_le _,.inl ⟨rfl,rfl⟩⟩,(O2.st4 hB2 _ _ _ _).rw,(O1z.st4 hB1 _ _ _ _).rx,Rx.none _ _,(O2.st4 hB2 _ _ _ _).rx⟩;have KF:Kept w ((((W5.setCell ⟨w.heap.size+1+1,0,none⟩ (.bool false)).setCell ⟨w.heap.size+1+1,1,none⟩ (.slice p1 (nkA+(1+nkB)) c1)).setCell ⟨w.heap.size+1+1,2,none⟩ (.slice none 0 0)).setCell ⟨w.heap.size+1+1,3,none⟩ (.slice p2 (niA+niB) c2)):=(K0.trans J5).st4 (by omega) _ _ _ _;generalize ((((W5.setCell ⟨w.heap.size+1+1,0,none⟩ (.bool false)).setCell ⟨w.heap.size+1+1,1,none⟩ (.slice p1 (nkA+(1+nkB)) c1)).setCell ⟨w.heap.size+1+1,2,none⟩ (.slice none 0 0)).setCell ⟨w.heap.size+1+1,3,none⟩ (.slice p2 (niA+niB) c2))=WF at *;go_wp2;refine bodyPost_ret (v:=.agg #[.bool false,.slice p1 (nkA+(1+nkB)) c1,.slice none 0 0,.slice p2 (niA+niB) c2]) ?_ rfl ⟨_,_,_,_,_,_,_,_,_,rfl,NF,KF⟩;exact results_cell_row (p:=6) rfl _ _ (w.heap.size+1+1) 71 #[.bool false,.slice p1 (nkA+(1+nkB)) c1,.slice none 0 0,.slice p2 (niA+niB) c2] (0,0) _ rfl hfin Tryz.underlying71 rfl size71
      exact AllReadyH.nil
     exact AllReadyH.nil
    exact AllReadyH.nil
   exact AllReadyH.nil
  exact AllReadyH.nil
 exact AllReadyH.nil
end Go.Proofs.YtafgecaeiodmiaaGreatDoor.N