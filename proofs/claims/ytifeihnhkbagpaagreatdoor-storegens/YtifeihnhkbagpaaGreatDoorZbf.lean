/- Joined. -/
import Derived.Test.YtifeihnhkbagpaaGreatDoorZbb
import Derived.Test.YtifeihnhkbagpaaGreatDoorZbe
set_option maxHeartbeats 8000000
set_option maxRecDepth 100000
namespace Go.Proofs.YtifeihnhkbagpaaGreatDoor.N
open ChangeShapes WideShapes ChangeAt RowKit
theorem bJ{α:Type}(l:List α)(i:Nat)(a:α):l.toArray.setIfInBounds i a=(l.set i a).toArray:=by simp
theorem bK{α:Type}(x:α)(l:List α)(a:α):(x :: l).set 0 a=a :: l:=rfl
theorem bL{α:Type}(x:α)(l:List α)(i:Nat)(a:α):(x :: l).set (i+1) a=x :: l.set i a:=rfl
abbrev BQ:Oper:={ dst:=none,op:=.store 121 (.tmp 6) (.tmp 36),type:=0,pos:= "node.go:242",after:=#[⟨14,.data⟩,⟨13,.chain⟩,⟨0,.phase⟩,⟨1,.phase⟩,⟨2,.phase⟩,⟨3,.phase⟩,⟨4,.phase⟩,⟨5,.phase⟩,⟨6,.phase⟩,⟨7,.phase⟩,⟨8,.phase⟩,⟨9,.phase⟩,⟨10,.phase⟩,⟨11,.phase⟩,⟨12,.phase⟩,⟨13,.phase⟩,⟨14,.phase⟩],guard:=none }
abbrev FU:Oper:={ dst:=none,op:=.store 121 (.tmp 6) (.tmp 21),type:=0,pos:= "node.go:236",after:=#[⟨12,.data⟩,⟨11,.chain⟩,⟨0,.phase⟩,⟨1,.phase⟩,⟨2,.phase⟩,⟨3,.phase⟩,⟨4,.phase⟩,⟨5,.phase⟩,⟨6,.phase⟩,⟨7,.phase⟩,⟨8,.phase⟩,⟨9,.phase⟩,⟨10,.phase⟩,⟨11,.phase⟩,⟨12,.phase⟩],guard:=none }
abbrev FV:Oper:={ dst:=some 28,op:=.buildSlice 305 3 #[(0,.tmp 23),(1,.tmp 25),(2,.tmp 27)],type:=305,pos:= "node.go:242",after:=#[⟨1,.data⟩,⟨3,.data⟩,⟨5,.data⟩],guard:=none }
abbrev FW:Oper:={ dst:=some 20,op:=.call { callee:=.value (.func 218),args:=#[.tmp 19],argTypes:=#[307] },type:=119,pos:= "node.go:239",after:=#[⟨10,.data⟩,⟨5,.chain⟩],guard:=none }
abbrev BR:Oper:={ dst:=some 35,op:=.call { callee:=.value (.func 219),args:=#[.tmp 34],argTypes:=#[309] },type:=94,pos:= "node.go:244",after:=#[⟨12,.data⟩,⟨7,.chain⟩],guard:=none }
abbrev FX:Oper:={ dst:=some 21,op:=.build 121 #[(0,.const (Go.Value.bool true)),(1,.tmp 14),(2,.tmp 20)],type:=121,pos:= "node.go:236",after:=#[⟨5,.data⟩,⟨11,.data⟩],guard:=none }
abbrev BS:Oper:={ dst:=some 34,op:=.buildSlice 309 2 #[(0,.tmp 31),(1,.tmp 33)],type:=309,pos:= "node.go:242",after:=#[⟨9,.data⟩,⟨11,.data⟩],guard:=none }
abbrev Ol:Oper:={ dst:=some 13,op:=.buildSlice 305 2 #[(0,.tmp 10),(1,.tmp 12)],type:=305,pos:= "node.go:236",after:=#[⟨1,.data⟩,⟨3,.data⟩],guard:=none }
abbrev FY:Oper:={ dst:=some 14,op:=.call { callee:=.value (.func 217),args:=#[.tmp 13],argTypes:=#[305] },type:=49,pos:= "node.go:238",after:=#[⟨4,.data⟩],guard:=none }
abbrev FZ:Oper:={ dst:=some 19,op:=.buildSlice 307 2 #[(0,.tmp 16),(1,.tmp 18)],type:=307,pos:= "node.go:236",after:=#[⟨7,.data⟩,⟨9,.data⟩],guard:=none }
abbrev wV:Oper:={ dst:=some 29,op:=.call { callee:=.value (.func 217),args:=#[.tmp 28],argTypes:=#[305] },type:=49,pos:= "node.go:243",after:=#[⟨6,.data⟩],guard:=none }
abbrev wW:Oper:={ dst:=some 36,op:=.build 121 #[(1,.tmp 29),(3,.tmp 35)],type:=121,pos:= "node.go:242",after:=#[⟨7,.data⟩,⟨13,.data⟩],guard:=none }
abbrev IX:Oper:={ dst:=some 25,op:=.buildSlice 49 1 #[(0,.tmp 24)],type:=49,pos:= "node.go:242",after:=#[⟨2,.data⟩],guard:=none }
abbrev Sl:Oper:={ dst:=some 16,op:=.load 119 (.tmp 15),type:=119,pos:= "node.go:236",after:=#[⟨6,.data⟩],guard:=none }
abbrev Sn:Oper:={ dst:=some 18,op:=.load 119 (.tmp 17),type:=119,pos:= "node.go:236",after:=#[⟨8,.data⟩],guard:=none }
abbrev Sq:Oper:={ dst:=some 33,op:=.load 94 (.tmp 32),type:=94,pos:= "node.go:242",after:=#[⟨10,.data⟩],guard:=none }
abbrev Sr:Oper:={ dst:=some 12,op:=.load 49 (.tmp 11),type:=49,pos:= "node.go:236",after:=#[⟨2,.data⟩],guard:=none }
abbrev Su:Oper:={ dst:=some 23,op:=.load 49 (.tmp 22),type:=49,pos:= "node.go:242",after:=#[⟨0,.data⟩],guard:=none }
abbrev Sv:Oper:={ dst:=some 27,op:=.load 49 (.tmp 26),type:=49,pos:= "node.go:242",after:=#[⟨4,.data⟩],guard:=none }
abbrev Sw:Oper:={ dst:=some 31,op:=.load 94 (.tmp 30),type:=94,pos:= "node.go:242",after:=#[⟨8,.data⟩],guard:=none }
abbrev Sy:Oper:={ dst:=some 10,op:=.load 49 (.tmp 9),type:=49,pos:= "node.go:236",after:=#[⟨0,.data⟩],guard:=none }
abbrev Sz:Oper:={ dst:=some 11,op:=.fieldAddr 121 (.tmp 5) 1,type:=0,pos:= "node.go:236",after:=#[],guard:=none }
abbrev SB:Oper:={ dst:=some 15,op:=.fieldAddr 121 (.tmp 3) 2,type:=0,pos:= "node.go:236",after:=#[],guard:=none }
abbrev SC:Oper:={ dst:=some 17,op:=.fieldAddr 121 (.tmp 5) 2,type:=0,pos:= "node.go:236",after:=#[],guard:=none }
abbrev SE:Oper:={ dst:=some 22,op:=.fieldAddr 121 (.tmp 3) 1,type:=0,pos:= "node.go:242",after:=#[],guard:=none }
abbrev SF:Oper:={ dst:=some 26,op:=.fieldAddr 121 (.tmp 5) 1,type:=0,pos:= "node.go:242",after:=#[],guard:=none }
abbrev SG:Oper:={ dst:=some 30,op:=.fieldAddr 121 (.tmp 3) 3,type:=0,pos:= "node.go:242",after:=#[],guard:=none }
abbrev SH:Oper:={ dst:=some 32,op:=.fieldAddr 121 (.tmp 5) 3,type:=0,pos:= "node.go:242",after:=#[],guard:=none }
abbrev SI:Oper:={ dst:=some 9,op:=.fieldAddr 121 (.tmp 3) 1,type:=0,pos:= "node.go:236",after:=#[],guard:=none }
abbrev SL:Oper:={ dst:=some 24,op:=.move (.tmp 1),type:=9,pos:= "node.go:242",after:=#[],guard:=none }
variable {W:World}{sz g n1 c1 n2 c2 t:Nat}{p1 p2:Option Addr}
theorem F8{L1 L2:List Value}(h:W.heap[g]? = some (.cells #[.slice p1 n1 c1,.slice p2 n2 c2] t))(r1:Rw W sz p1 n1 c1 L1)(r2:Rw W sz p2 n2 c2 L2)(z1:p1=none->c1=0)(z2:p2=none->c2=0)(o1:∀ u∈L1,u.oneCell'=true)(o2:∀ u∈L2,u.oneCell'=true):yK W sz g 0 [⟨p1,n1,c1,L1⟩,⟨p2,n2,c2,L2⟩]:=by
 intro i q hq;rw[cell_of_row _ _ _ _ _ _ h,aaj];match i,hq with
 | 0,hq=>simp at hq;subst hq;exact⟨rfl,r1,z1,o1⟩
 | 1,hq=>simp at hq;subst hq;exact⟨rfl,r2,z2,o2⟩
 | i+2,hq=>simp at hq
theorem Om{n3 c3:Nat}{p3:Option Addr}{L1 L2 L3:List Value}(h:W.heap[g]? = some (.cells #[.slice p1 n1 c1,.slice p2 n2 c2,.slice p3 n3 c3] t))(r1:Rw W sz p1 n1 c1 L1)(r2:Rw W sz p2 n2 c2 L2)(r3:Rw W sz p3 n3 c3 L3)(z1:p1=none->c1=0)(z2:p2=none->c2=0)(z3:p3=none->c3=0)(o1:∀ u∈L1,u.oneCell'=true)(o2:∀ u∈L2,u.oneCell'=true)(o3:∀ u∈L3,u.oneCell'=true):yK W sz g 0 [⟨p1,n1,c1,L1⟩,⟨p2,n2,c2,L2⟩,⟨p3,n3,c3,L3⟩]:=by
 intro i q hq;rw[cell_of_row _ _ _ _ _ _ h,aaj];match i,hq with
 | 0,hq=>simp at hq;subst hq;exact⟨rfl,r1,z1,o1⟩
 | 1,hq=>simp at hq;subst hq;exact⟨rfl,r2,z2,o2⟩
 | 2,hq=>simp at hq;subst hq;exact⟨rfl,r3,z3,o3⟩
 | i+3,hq=>simp at hq
theorem uM(a b:List ByteArray):dA a++dA b=dA (a++b):=by unfold dA;rw[List.map_append]
theorem wX(a b:List Int):aO a++aO b=aO (a++b):=by unfold aO;rw[List.map_append]
theorem SN(a b:List Vl):dQ a++dQ b=dQ (a++b):=by unfold dQ;rw[List.flatMap_append]
theorem aj(W:World){b b2:Nat}(h:b2≠b)(j:Nat)(v0 v1 v2 v3:Value):((((W.setCell ⟨b,0,none⟩ v0).setCell ⟨b,1,none⟩ v1).setCell ⟨b,2,none⟩ v2).setCell ⟨b,3,none⟩ v3).cell? ⟨b2,j,none⟩=W.cell? ⟨b2,j,none⟩:=by
 unfold World.cell?;simp only[aG W h]
variable {w:World}{gH jd iM gm iX iG:Option Addr}{aV gI eH je dG iN aT gq eG iY dC iH:Nat}{l2:Bool}{xa xb:Nd}
set_option linter.unusedSimpArgs false in
theorem KQ(ha:NZ w true gH aV gI jd eH je iM dG iN xa)(hb:NZ w l2 gm aT gq iX eG iY iG dC iH xb)(key:ByteArray)(s1:aV<=1000)(s2:aT<=1000)(s3:eH<=1000)(s4:eG<=1000):
 Calls Tryz.prog 181 #[.agg #[.bool true,.slice gH aV gI,.slice jd eH je,.slice iM dG iN],.string key,.agg #[.bool l2,.slice gm aT gq,.slice iX eG iY,.slice iG dC iH]] w fun e w'=>∃ kp nk kc vp nv vc ip ni ic,e=.returned (.agg #[.bool true,.slice kp nk kc,.slice vp nv vc,.slice ip ni ic])/\NV w' true kp nk kc vp nv vc ip ni ic ⟨true,xa.ks++xb.ks,xa.vs++xb.vs,[]⟩/\Kept w w':=by
 obtain⟨o1,ho1⟩:∃ o:Obj,o=.cells #[.bool true,.slice gH aV gI,.slice jd eH je,.slice iM dG iN] 121:=⟨_,rfl⟩;obtain⟨o2,ho2⟩:∃ o:Obj,o=.cells #[.bool l2,.slice gm aT gq,.slice iX eG iY,.slice iG dC iH] 121:=⟨_,rfl⟩;obtain⟨o3,ho3⟩:∃ o:Obj,o=.cells #[.bool false,.slice none 0 0,.slice none 0 0,.slice none 0 0] 121:=⟨_,rfl⟩;have K0:Kept w (((w.alloc o1).alloc o2).alloc o3).drew:=((((Kept.refl w).alloc _).alloc _).alloc _).drew;have P0:C4 (((w.alloc o1).alloc o2).alloc o3).drew w.heap.size 121 (.bool true) (.slice gH aV gI) (.slice jd eH je) (.slice iM dG iN):=by subst ho1;exact ((C4.alloc w 121 _ _ _ _).kept (((Kept.refl _).alloc _).alloc _)).drew
 have Q0:C4 (((w.alloc o1).alloc o2).alloc o3).drew (w.heap.size+1) 121 (.bool l2) (.slice gm aT gq) (.slice iX eG iY) (.slice iG dC iH):=by subst ho2;rw[<- size_alloc w o1];exact ((C4.alloc _ 121 _ _ _ _).kept ((Kept.refl _).alloc _)).drew
 have R0:C4 (((w.alloc o1).alloc o2).alloc o3).drew (w.heap.size+1+1) 121 (.bool false) (.slice none 0 0) (.slice none 0 0) (.slice none 0 0):=by subst ho3;rw[show w.heap.size+1+1=((w.alloc o1).alloc o2).heap.size by rw[size_alloc,size_alloc]];exact (C4.alloc _ 121 _ _ _ _).drew
 subst ho1;subst ho2;subst ho3;have HL1:Hid (xa.leaf=true):=ha.nv.hl;have Xk:=ha.kept K0;have Xl:=hb.kept K0;obtain⟨c00,ZM,ZN,c03⟩:=P0.cs;clear ha hb;go_enter Tryz.func181,Tryz.ntmps181;go_wp2_with fail;generalize (((w.alloc (.cells #[.bool true,.slice gH aV gI,.slice jd eH je,.slice iM dG iN] 121)).alloc (.cells #[.bool l2,.slice gm aT gq,.slice iX eG iY,.slice iG dC iH] 121)).alloc (.cells #[.bool false,.slice none 0 0,.slice none 0 0,.slice none 0 0] 121))=V0 at *;have ZA:Hid (NZ V0.drew true gH aV gI jd eH je iM dG iN xa):=Xk;have ZB:Hid (NZ V0.drew l2 gm aT gq iX eG iY iG dC iH xb):=Xl;clear Xk Xl c00 ZM ZN c03;have LQ:Hid (∀ (W:World) (g:Nat),Kept V0.drew W->W.heap[g]? = some (.cells #[.slice gH aV gI,.slice gm aT gq] 49)->Calls Tryz.prog 217 #[.slice (some ⟨g,0,none⟩) 2 2] W fun e w'=>∃ p c,e=.returned (.slice p (aV+aT) c)/\Own w' W.heap.size 9 1 p (aV+aT) c (dA (xa.ks++xb.ks))/\Kept W w'):=fun W g hW hg=>by
  have q:=DN (m:=2) (mc:=2) (F8 hg (hW.rw ZA.out.nv.k) (hW.rw ZB.out.nv.k) ZA.out.kz ZB.out.kz (eQ _) (eQ _)) rfl (by decide) (by simp[jH];omega);simpa[jH,BP,uM] using q
 have BU:Hid (∀ (W:World) (g:Nat),Kept V0.drew W->W.heap[g]? = some (.cells #[.slice jd eH je,.slice iX eG iY] 119)->Calls Tryz.prog 218 #[.slice (some ⟨g,0,none⟩) 2 2] W fun e w'=>∃ p c,e=.returned (.slice p (eH+eG) c)/\Own w' W.heap.size 77 3 p (eH+eG) c (dQ (xa.vs++xb.vs))/\Kept W w'):=fun W g hW hg=>by
  have q:=Oi (m:=2) (mc:=2) (F8 hg (hW.rw ZA.out.nv.v) (hW.rw ZB.out.nv.v) ZA.out.vz ZB.out.vz (fQ _) (fQ _)) rfl (by decide) (by simp[jH];omega);simpa[jH,BP,SN] using q
 have HSA:Hid (∀ W,Kept V0.drew W->W.cell? ⟨w.heap.size,1,none⟩=some (.slice gH aV gI)/\W.cell? ⟨w.heap.size+1,1,none⟩=some (.slice gm aT gq)/\W.cell? ⟨w.heap.size,2,none⟩=some (.slice jd eH je)/\W.cell? ⟨w.heap.size+1,2,none⟩=some (.slice iX eG iY)):=by
  intro W hW;exact⟨(P0.kept hW).cs.2.1,(Q0.kept hW).cs.2.1,(P0.kept hW).cs.2.2.1,(Q0.kept hW).cs.2.2.1⟩
 have J0:Kept V0.drew V0.drew:=Kept.refl V0.drew;clear P0 Q0;refine wp_region_held_drew (S:=(fun W=>W.cell? ⟨w.heap.size,1,none⟩=some (.slice gH aV gI)/\W.cell? ⟨w.heap.size+1,1,none⟩=some (.slice gm aT gq)/\W.cell? ⟨w.heap.size,2,none⟩=some (.slice jd eH je)/\W.cell? ⟨w.heap.size+1,2,none⟩=some (.slice iX eG iY))) (by kernel_rfl) ?_ fun _=>?_
 ·exact HSA.out _ J0
 generalize V0.drew=W0 at *;refine tkk (v:=?_) 0 SI ?_ ?_;rotate_left
 ·intro w hSw
  (try dsimp only at hSw);go_simp;all_goals with_reducible rfl
 try simp only[Act.put,bJ,bK,bL]
 refine tkk (v:=?_) 1 Sy ?_ ?_;rotate_left
 ·intro w hSw
  (try dsimp only at hSw);go_simp;all_goals with_reducible rfl
 try simp only[Act.put,bJ,bK,bL]
 refine tkk (v:=?_) 2 Sz ?_ ?_;rotate_left
 ·intro w hSw
  (try dsimp only at hSw);go_simp;all_goals with_reducible rfl
 try simp only[Act.put,bJ,bK,bL]
 refine tkk (v:=?_) 3 Sr ?_ ?_;rotate_left
 ·intro w hSw
  (try dsimp only at hSw);go_simp;all_goals with_reducible rfl
 try simp only[Act.put,bJ,bK,bL]
 refine tkk (v:=?_) 6 SB ?_ ?_;rotate_left
 ·intro w hSw
  (try dsimp only at hSw);go_simp;all_goals with_reducible rfl
 try simp only[Act.put,bJ,bK,bL]
 refine tkk (v:=?_) 7 Sl ?_ ?_;rotate_left
 ·intro w hSw
  (try dsimp only at hSw);go_simp;all_goals with_reducible rfl
 try simp only[Act.put,bJ,bK,bL]
 refine tkk (v:=?_) 8 SC ?_ ?_;rotate_left
 ·intro w hSw
  (try dsimp only at hSw);go_simp;all_goals with_reducible rfl
 try simp only[Act.put,bJ,bK,bL]
 refine tkk (v:=?_) 9 Sn ?_ ?_;rotate_left
 ·intro w hSw
  (try dsimp only at hSw);go_simp;all_goals with_reducible rfl
 try simp only[Act.put,bJ,bK,bL]
 refine rdk [4,10] ?_;refine AllReadyH.cons (o:=Ol) rfl (fun KK ai=>?_) ?_
 ·
  have yM:=(Kept.refl W0).alloc (.cells #[.slice gH aV gI,.slice gm aT gq] 49);have J1:=J0.trans yM;have hg1:=heap_alloc_new W0 (.cells #[.slice gH aV gI,.slice gm aT gq] 49);go_simp;refine ai.out _ _ ?_ fun _=>?_
  ·(try dsimp only)
   exact HSA.out _ J1
  clear ai KK;try simp only[Act.put,bJ,bK,bL]
  refine rdk [5,10] ?_;refine AllReadyH.cons (o:=FY) rfl (fun KK ai=>?_) ?_
  ·
   clear yM;generalize W0.alloc (.cells #[.slice gH aV gI,.slice gm aT gq] 49)=W1 at *;go_simp;go_at_call 217;(with_reducible refine (LQ.out _ W0.heap.size J1 hg1).mono ?_);rintro e W2 ⟨p1,c1,rfl,O1,ng⟩;have J2:=J1.trans ng;have B1:=J1.size;go_wp2_with fail;refine ai.out _ _ ?_ fun _=>?_
   ·(try dsimp only)
    exact HSA.out _ J2
   clear ai KK;try simp only[Act.put,bJ,bK,bL]
   refine rdk [10] ?_;refine AllReadyH.cons (o:=FZ) rfl (fun KK ai=>?_) ?_
   ·
    have gu:=(Kept.refl W2).alloc (.cells #[.slice jd eH je,.slice iX eG iY] 119);have J3:=J2.trans gu;have hg2:=heap_alloc_new W2 (.cells #[.slice jd eH je,.slice iX eG iY] 119);have ZO:=O1.kept gu;go_simp;refine ai.out _ _ ?_ fun _=>?_
    ·(try dsimp only)
     exact HSA.out _ J3
    clear ai KK;try simp only[Act.put,bJ,bK,bL]
    refine rdk [11] ?_;refine AllReadyH.cons (o:=FW) rfl (fun KK ai=>?_) ?_
    ·
     clear gu;generalize W2.alloc (.cells #[.slice jd eH je,.slice iX eG iY] 119)=W3 at *;go_simp;go_at_call 218;(with_reducible refine (BU.out _ W2.heap.size J3 hg2).mono ?_);rintro e W4 ⟨p2,c2,rfl,O2,eX⟩;have J4:=J3.trans eX;have Al:=ZO.kept eX;have B2:=J3.size;have Rz:=R0.kept J4;obtain⟨⟨g0,f0⟩,⟨g1,f1⟩,⟨g2,f2⟩,⟨g3,f3⟩,hfin⟩:=aD Rz.out (.bool true) (.slice p1 (aV+aT) c1) (.slice p2 (eH+eG) c2) (.slice none 0 0);go_wp2_with fail;refine ai.out _ _ ?_ fun _=>?_
     ·(try dsimp only)
      exact HSA.out _ J4
     clear ai KK;try simp only[Act.put,bJ,bK,bL]
     refine tkk (v:=?_) 12 FX ?_ ?_;rotate_left
     ·intro w hSw
      (try dsimp only at hSw);go_simp;all_goals with_reducible rfl
     try simp only[Act.put,bJ,bK,bL]
     refine rdk [13] ?_;refine AllReadyH.cons (o:=FU) rfl (fun KK ai=>?_) ?_
     ·
      go_simp;refine ai.out _ _ ?_ fun _=>?_
      ·(try dsimp only)
       have q:=HSA.out _ J4;rw[<- aj W4 (b:=w.heap.size+1+1) (b2:=w.heap.size) (by omega) 1 (.bool true) (.slice p1 (aV+aT) c1) (.slice p2 (eH+eG) c2) (.slice none 0 0),<- aj W4 (b:=w.heap.size+1+1) (b2:=w.heap.size+1) (by omega) 1 (.bool true) (.slice p1 (aV+aT) c1) (.slice p2 (eH+eG) c2) (.slice none 0 0),<- aj W4 (b:=w.heap.size+1+1) (b2:=w.heap.size) (by omega) 2 (.bool true) (.slice p1 (aV+aT) c1) (.slice p2 (eH+eG) c2) (.slice none 0 0),<- aj W4 (b:=w.heap.size+1+1) (b2:=w.heap.size+1) (by omega) 2 (.bool true) (.slice p1 (aV+aT) c1) (.slice p2 (eH+eG) c2) (.slice none 0 0)]at q;exact q
      clear ai KK;try simp only[Act.put,bJ,bK,bL]
      refine wpAnyH_done (by kernel_rfl) ?_ _;have hlt:=R0.lt;have hB1:=aas hlt B1;have hB2:=aas hlt B2;have NF:NV ((((W4.setCell ⟨w.heap.size+1+1,0,none⟩ (.bool true)).setCell ⟨w.heap.size+1+1,1,none⟩ (.slice p1 (aV+aT) c1)).setCell ⟨w.heap.size+1+1,2,none⟩ (.slice p2 (eH+eG) c2)).setCell ⟨w.heap.size+1+1,3,none⟩ (.slice none 0 0)) true p1 (aV+aT) c1 p2 (eH+eG) c2 none 0 0 ⟨true,xa.ks++xb.ks,xa.vs++xb.vs,[]⟩:=⟨rfl,(Al.bS hB1 _ _ _ _).rw,(O2.bS hB2 _ _ _ _).rw,⟨rfl,aac _,aag _,.inl ⟨rfl,rfl⟩⟩,(Al.bS hB1 _ _ _ _).rx,(O2.bS hB2 _ _ _ _).rx,Rx.none _ _⟩;have KF:Kept w ((((W4.setCell ⟨w.heap.size+1+1,0,none⟩ (.bool true)).setCell ⟨w.heap.size+1+1,1,none⟩ (.slice p1 (aV+aT) c1)).setCell ⟨w.heap.size+1+1,2,none⟩ (.slice p2 (eH+eG) c2)).setCell ⟨w.heap.size+1+1,3,none⟩ (.slice none 0 0)):=(K0.trans J4).bS (by omega) _ _ _ _;generalize ((((W4.setCell ⟨w.heap.size+1+1,0,none⟩ (.bool true)).setCell ⟨w.heap.size+1+1,1,none⟩ (.slice p1 (aV+aT) c1)).setCell ⟨w.heap.size+1+1,2,none⟩ (.slice p2 (eH+eG) c2)).setCell ⟨w.heap.size+1+1,3,none⟩ (.slice none 0 0))=WF at *;go_wp2;refine bodyPost_ret (v:=.agg #[.bool true,.slice p1 (aV+aT) c1,.slice p2 (eH+eG) c2,.slice none 0 0]) ?_ rfl ⟨_,_,_,_,_,_,_,_,_,rfl,NF,KF⟩;exact results_cell_row (p:=6) rfl _ _ (w.heap.size+1+1) 121 #[.bool true,.slice p1 (aV+aT) c1,.slice p2 (eH+eG) c2,.slice none 0 0] (0,0) _ rfl hfin Tryz.underlying121 rfl aN
     exact AllReadyH.nil
    exact AllReadyH.nil
   exact AllReadyH.nil
  refine AllReadyH.cons (o:=FZ) rfl (fun KK ai=>?_) ?_
  ·
   clear yM;generalize W0.alloc (.cells #[.slice gH aV gI,.slice gm aT gq] 49)=W1 at *;have ng:=(Kept.refl W1).alloc (.cells #[.slice jd eH je,.slice iX eG iY] 119);have J2:=J1.trans ng;have hg2:=heap_alloc_new W1 (.cells #[.slice jd eH je,.slice iX eG iY] 119);have ZP:=ng.block hg1;go_simp;refine ai.out _ _ ?_ fun _=>?_
   ·(try dsimp only)
    exact HSA.out _ J2
   clear ai KK;try simp only[Act.put,bJ,bK,bL]
   refine rdk [5] ?_;refine AllReadyH.cons (o:=FY) rfl (fun KK ai=>?_) ?_
   ·
    clear ng;generalize W1.alloc (.cells #[.slice jd eH je,.slice iX eG iY] 119)=W2 at *;go_simp;go_at_call 217;(with_reducible refine (LQ.out _ W0.heap.size J2 ZP).mono ?_);rintro e W3 ⟨p1,c1,rfl,O1,gu⟩;have J3:=J2.trans gu;have B1:=J2.size;have F9:=gu.block hg2;go_wp2_with fail;refine ai.out _ _ ?_ fun _=>?_
    ·(try dsimp only)
     exact HSA.out _ J3
    clear ai KK;try simp only[Act.put,bJ,bK,bL]
    refine rdk [11] ?_;refine AllReadyH.cons (o:=FW) rfl (fun KK ai=>?_) ?_
    ·
     go_simp;go_at_call 218;(with_reducible refine (BU.out _ W1.heap.size J3 F9).mono ?_);rintro e W4 ⟨p2,c2,rfl,O2,eX⟩;have J4:=J3.trans eX;have Al:=O1.kept eX;have B2:=J3.size;have Rz:=R0.kept J4;obtain⟨⟨g0,f0⟩,⟨g1,f1⟩,⟨g2,f2⟩,⟨g3,f3⟩,hfin⟩:=aD Rz.out (.bool true) (.slice p1 (aV+aT) c1) (.slice p2 (eH+eG) c2) (.slice none 0 0);go_wp2_with fail;refine ai.out _ _ ?_ fun _=>?_
     ·(try dsimp only)
      exact HSA.out _ J4
     clear ai KK;try simp only[Act.put,bJ,bK,bL]
     refine tkk (v:=?_) 12 FX ?_ ?_;rotate_left
     ·intro w hSw
      (try dsimp only at hSw);go_simp;all_goals with_reducible rfl
     try simp only[Act.put,bJ,bK,bL]
     refine rdk [13] ?_;refine AllReadyH.cons (o:=FU) rfl (fun KK ai=>?_) ?_
     ·
      go_simp;refine ai.out _ _ ?_ fun _=>?_
      ·(try dsimp only)
       have q:=HSA.out _ J4;rw[<- aj W4 (b:=w.heap.size+1+1) (b2:=w.heap.size) (by omega) 1 (.bool true) (.slice p1 (aV+aT) c1) (.slice p2 (eH+eG) c2) (.slice none 0 0),<- aj W4 (b:=w.heap.size+1+1) (b2:=w.heap.size+1) (by omega) 1 (.bool true) (.slice p1 (aV+aT) c1) (.slice p2 (eH+eG) c2) (.slice none 0 0),<- aj W4 (b:=w.heap.size+1+1) (b2:=w.heap.size) (by omega) 2 (.bool true) (.slice p1 (aV+aT) c1) (.slice p2 (eH+eG) c2) (.slice none 0 0),<- aj W4 (b:=w.heap.size+1+1) (b2:=w.heap.size+1) (by omega) 2 (.bool true) (.slice p1 (aV+aT) c1) (.slice p2 (eH+eG) c2) (.slice none 0 0)]at q;exact q
      clear ai KK;try simp only[Act.put,bJ,bK,bL]
      refine wpAnyH_done (by kernel_rfl) ?_ _;have hlt:=R0.lt;have hB1:=aas hlt B1;have hB2:=aas hlt B2;have NF:NV ((((W4.setCell ⟨w.heap.size+1+1,0,none⟩ (.bool true)).setCell ⟨w.heap.size+1+1,1,none⟩ (.slice p1 (aV+aT) c1)).setCell ⟨w.heap.size+1+1,2,none⟩ (.slice p2 (eH+eG) c2)).setCell ⟨w.heap.size+1+1,3,none⟩ (.slice none 0 0)) true p1 (aV+aT) c1 p2 (eH+eG) c2 none 0 0 ⟨true,xa.ks++xb.ks,xa.vs++xb.vs,[]⟩:=⟨rfl,(Al.bS hB1 _ _ _ _).rw,(O2.bS hB2 _ _ _ _).rw,⟨rfl,aac _,aag _,.inl ⟨rfl,rfl⟩⟩,(Al.bS hB1 _ _ _ _).rx,(O2.bS hB2 _ _ _ _).rx,Rx.none _ _⟩;have KF:Kept w ((((W4.setCell ⟨w.heap.size+1+1,0,none⟩ (.bool true)).setCell ⟨w.heap.size+1+1,1,none⟩ (.slice p1 (aV+aT) c1)).setCell ⟨w.heap.size+1+1,2,none⟩ (.slice p2 (eH+eG) c2)).setCell ⟨w.heap.size+1+1,3,none⟩ (.slice none 0 0)):=(K0.trans J4).bS (by omega) _ _ _ _;generalize ((((W4.setCell ⟨w.heap.size+1+1,0,none⟩ (.bool true)).setCell ⟨w.heap.size+1+1,1,none⟩ (.slice p1 (aV+aT) c1)).setCell ⟨w.heap.size+1+1,2,none⟩ (.slice p2 (eH+eG) c2)).setCell ⟨w.heap.size+1+1,3,none⟩ (.slice none 0 0))=WF at *;go_wp2;refine bodyPost_ret (v:=.agg #[.bool true,.slice p1 (aV+aT) c1,.slice p2 (eH+eG) c2,.slice none 0 0]) ?_ rfl ⟨_,_,_,_,_,_,_,_,_,rfl,NF,KF⟩;exact results_cell_row (p:=6) rfl _ _ (w.heap.size+1+1) 121 #[.bool true,.slice p1 (aV+aT) c1,.slice p2 (eH+eG) c2,.slice none 0 0] (0,0) _ rfl hfin Tryz.underlying121 rfl aN
     exact AllReadyH.nil
    exact AllReadyH.nil
   exact AllReadyH.nil
  exact AllReadyH.nil
 refine AllReadyH.cons (o:=FZ) rfl (fun KK ai=>?_) ?_
 ·
  have yM:=(Kept.refl W0).alloc (.cells #[.slice jd eH je,.slice iX eG iY] 119);have J1:=J0.trans yM;have hg2:=heap_alloc_new W0 (.cells #[.slice jd eH je,.slice iX eG iY] 119);go_simp;refine ai.out _ _ ?_ fun _=>?_
  ·(try dsimp only)
   exact HSA.out _ J1
  clear ai KK;try simp only[Act.put,bJ,bK,bL]
  refine rdk [4] ?_;refine AllReadyH.cons (o:=Ol) rfl (fun KK ai=>?_) ?_
  ·
   clear yM;generalize W0.alloc (.cells #[.slice jd eH je,.slice iX eG iY] 119)=W1 at *;have ng:=(Kept.refl W1).alloc (.cells #[.slice gH aV gI,.slice gm aT gq] 49);have J2:=J1.trans ng;have hg1:=heap_alloc_new W1 (.cells #[.slice gH aV gI,.slice gm aT gq] 49);have Vv:=ng.block hg2;go_simp;refine ai.out _ _ ?_ fun _=>?_
   ·(try dsimp only)
    exact HSA.out _ J2
   clear ai KK;try simp only[Act.put,bJ,bK,bL]
   refine rdk [5] ?_;refine AllReadyH.cons (o:=FY) rfl (fun KK ai=>?_) ?_
   ·
    clear ng;generalize W1.alloc (.cells #[.slice gH aV gI,.slice gm aT gq] 49)=W2 at *;go_simp;go_at_call 217;(with_reducible refine (LQ.out _ W1.heap.size J2 hg1).mono ?_);rintro e W3 ⟨p1,c1,rfl,O1,gu⟩;have J3:=J2.trans gu;have B1:=J2.size;have F9:=gu.block Vv;go_wp2_with fail;refine ai.out _ _ ?_ fun _=>?_
    ·(try dsimp only)
     exact HSA.out _ J3
    clear ai KK;try simp only[Act.put,bJ,bK,bL]
    refine rdk [11] ?_;refine AllReadyH.cons (o:=FW) rfl (fun KK ai=>?_) ?_
    ·
     go_simp;go_at_call 218;(with_reducible refine (BU.out _ W0.heap.size J3 F9).mono ?_);rintro e W4 ⟨p2,c2,rfl,O2,eX⟩;have J4:=J3.trans eX;have Al:=O1.kept eX;have B2:=J3.size;have Rz:=R0.kept J4;obtain⟨⟨g0,f0⟩,⟨g1,f1⟩,⟨g2,f2⟩,⟨g3,f3⟩,hfin⟩:=aD Rz.out (.bool true) (.slice p1 (aV+aT) c1) (.slice p2 (eH+eG) c2) (.slice none 0 0);go_wp2_with fail;refine ai.out _ _ ?_ fun _=>?_
     ·(try dsimp only)
      exact HSA.out _ J4
     clear ai KK;try simp only[Act.put,bJ,bK,bL]
     refine tkk (v:=?_) 12 FX ?_ ?_;rotate_left
     ·intro w hSw
      (try dsimp only at hSw);go_simp;all_goals with_reducible rfl
     try simp only[Act.put,bJ,bK,bL]
     refine rdk [13] ?_;refine AllReadyH.cons (o:=FU) rfl (fun KK ai=>?_) ?_
     ·
      go_simp;refine ai.out _ _ ?_ fun _=>?_
      ·(try dsimp only)
       have q:=HSA.out _ J4;rw[<- aj W4 (b:=w.heap.size+1+1) (b2:=w.heap.size) (by omega) 1 (.bool true) (.slice p1 (aV+aT) c1) (.slice p2 (eH+eG) c2) (.slice none 0 0),<- aj W4 (b:=w.heap.size+1+1) (b2:=w.heap.size+1) (by omega) 1 (.bool true) (.slice p1 (aV+aT) c1) (.slice p2 (eH+eG) c2) (.slice none 0 0),<- aj W4 (b:=w.heap.size+1+1) (b2:=w.heap.size) (by omega) 2 (.bool true) (.slice p1 (aV+aT) c1) (.slice p2 (eH+eG) c2) (.slice none 0 0),<- aj W4 (b:=w.heap.size+1+1) (b2:=w.heap.size+1) (by omega) 2 (.bool true) (.slice p1 (aV+aT) c1) (.slice p2 (eH+eG) c2) (.slice none 0 0)]at q;exact q
      clear ai KK;try simp only[Act.put,bJ,bK,bL]
      refine wpAnyH_done (by kernel_rfl) ?_ _;have hlt:=R0.lt;have hB1:=aas hlt B1;have hB2:=aas hlt B2;have NF:NV ((((W4.setCell ⟨w.heap.size+1+1,0,none⟩ (.bool true)).setCell ⟨w.heap.size+1+1,1,none⟩ (.slice p1 (aV+aT) c1)).setCell ⟨w.heap.size+1+1,2,none⟩ (.slice p2 (eH+eG) c2)).setCell ⟨w.heap.size+1+1,3,none⟩ (.slice none 0 0)) true p1 (aV+aT) c1 p2 (eH+eG) c2 none 0 0 ⟨true,xa.ks++xb.ks,xa.vs++xb.vs,[]⟩:=⟨rfl,(Al.bS hB1 _ _ _ _).rw,(O2.bS hB2 _ _ _ _).rw,⟨rfl,aac _,aag _,.inl ⟨rfl,rfl⟩⟩,(Al.bS hB1 _ _ _ _).rx,(O2.bS hB2 _ _ _ _).rx,Rx.none _ _⟩;have KF:Kept w ((((W4.setCell ⟨w.heap.size+1+1,0,none⟩ (.bool true)).setCell ⟨w.heap.size+1+1,1,none⟩ (.slice p1 (aV+aT) c1)).setCell ⟨w.heap.size+1+1,2,none⟩ (.slice p2 (eH+eG) c2)).setCell ⟨w.heap.size+1+1,3,none⟩ (.slice none 0 0)):=(K0.trans J4).bS (by omega) _ _ _ _;generalize ((((W4.setCell ⟨w.heap.size+1+1,0,none⟩ (.bool true)).setCell ⟨w.heap.size+1+1,1,none⟩ (.slice p1 (aV+aT) c1)).setCell ⟨w.heap.size+1+1,2,none⟩ (.slice p2 (eH+eG) c2)).setCell ⟨w.heap.size+1+1,3,none⟩ (.slice none 0 0))=WF at *;go_wp2;refine bodyPost_ret (v:=.agg #[.bool true,.slice p1 (aV+aT) c1,.slice p2 (eH+eG) c2,.slice none 0 0]) ?_ rfl ⟨_,_,_,_,_,_,_,_,_,rfl,NF,KF⟩;exact results_cell_row (p:=6) rfl _ _ (w.heap.size+1+1) 121 #[.bool true,.slice p1 (aV+aT) c1,.slice p2 (eH+eG) c2,.slice none 0 0] (0,0) _ rfl hfin Tryz.underlying121 rfl aN
     exact AllReadyH.nil
    exact AllReadyH.nil
   exact AllReadyH.nil
  exact AllReadyH.nil
 exact AllReadyH.nil
set_option linter.unusedSimpArgs false in
theorem Ga(ha:NZ w false gH aV gI jd eH je iM dG iN xa)(hb:NZ w l2 gm aT gq iX eG iY iG dC iH xb)(key:ByteArray)(s1:aV<=1000)(s2:aT<=1000)(s5:dG<=1000)(s6:dC<=1000):
 Calls Tryz.prog 181 #[.agg #[.bool false,.slice gH aV gI,.slice jd eH je,.slice iM dG iN],.string key,.agg #[.bool l2,.slice gm aT gq,.slice iX eG iY,.slice iG dC iH]] w fun e w'=>∃ kp nk kc vp nv vc ip ni ic,e=.returned (.agg #[.bool false,.slice kp nk kc,.slice vp nv vc,.slice ip ni ic])/\NV w' false kp nk kc vp nv vc ip ni ic ⟨false,xa.ks++([key]++xb.ks),[],xa.is++xb.is⟩/\Kept w w':=by
 obtain⟨o1,ho1⟩:∃ o:Obj,o=.cells #[.bool false,.slice gH aV gI,.slice jd eH je,.slice iM dG iN] 121:=⟨_,rfl⟩;obtain⟨o2,ho2⟩:∃ o:Obj,o=.cells #[.bool l2,.slice gm aT gq,.slice iX eG iY,.slice iG dC iH] 121:=⟨_,rfl⟩;obtain⟨o3,ho3⟩:∃ o:Obj,o=.cells #[.bool false,.slice none 0 0,.slice none 0 0,.slice none 0 0] 121:=⟨_,rfl⟩;have K0:Kept w (((w.alloc o1).alloc o2).alloc o3).drew:=((((Kept.refl w).alloc _).alloc _).alloc _).drew;have P0:C4 (((w.alloc o1).alloc o2).alloc o3).drew w.heap.size 121 (.bool false) (.slice gH aV gI) (.slice jd eH je) (.slice iM dG iN):=by subst ho1;exact ((C4.alloc w 121 _ _ _ _).kept (((Kept.refl _).alloc _).alloc _)).drew
 have Q0:C4 (((w.alloc o1).alloc o2).alloc o3).drew (w.heap.size+1) 121 (.bool l2) (.slice gm aT gq) (.slice iX eG iY) (.slice iG dC iH):=by subst ho2;rw[<- size_alloc w o1];exact ((C4.alloc _ 121 _ _ _ _).kept ((Kept.refl _).alloc _)).drew
 have R0:C4 (((w.alloc o1).alloc o2).alloc o3).drew (w.heap.size+1+1) 121 (.bool false) (.slice none 0 0) (.slice none 0 0) (.slice none 0 0):=by subst ho3;rw[show w.heap.size+1+1=((w.alloc o1).alloc o2).heap.size by rw[size_alloc,size_alloc]];exact (C4.alloc _ 121 _ _ _ _).drew
 subst ho1;subst ho2;subst ho3;have HL1:Hid (xa.leaf=false):=ha.nv.hl;have Xk:=ha.kept K0;have Xl:=hb.kept K0;obtain⟨c00,ZM,ZN,c03⟩:=P0.cs;clear ha hb;go_enter Tryz.func181,Tryz.ntmps181;go_wp2_with fail;generalize (((w.alloc (.cells #[.bool false,.slice gH aV gI,.slice jd eH je,.slice iM dG iN] 121)).alloc (.cells #[.bool l2,.slice gm aT gq,.slice iX eG iY,.slice iG dC iH] 121)).alloc (.cells #[.bool false,.slice none 0 0,.slice none 0 0,.slice none 0 0] 121))=V0 at *;have ZA:Hid (NZ V0.drew false gH aV gI jd eH je iM dG iN xa):=Xk;have ZB:Hid (NZ V0.drew l2 gm aT gq iX eG iY iG dC iH xb):=Xl;clear Xk Xl c00 ZM ZN c03;have LQ:Hid (∀ (W:World) (g g3:Nat),Kept V0.drew W->W.heap[g]? = some (.cells #[.slice gH aV gI,.slice (some ⟨g3,0,none⟩) 1 1,.slice gm aT gq] 49)->W.heap[g3]? = some (.cells #[.string key] 9)->Calls Tryz.prog 217 #[.slice (some ⟨g,0,none⟩) 3 3] W fun e w'=>∃ p c,e=.returned (.slice p (aV+(1+aT)) c)/\Own w' W.heap.size 9 1 p (aV+(1+aT)) c (dA (xa.ks++([key]++xb.ks)))/\Kept W w'):=fun W g g3 hW hg hg3=>by
  have r3:Rw W 1 (some ⟨g3,0,none⟩) 1 1 (dA [key]):=⟨rfl,aac _,(by decide),.inr ⟨_,_,rfl,fun j u hj=>by rw[cell_of_row _ _ _ _ _ _ hg3,aaj];simpa[dA] using hj⟩⟩;have q:=DN (m:=3) (mc:=3) (Om hg (hW.rw ZA.out.nv.k) r3 (hW.rw ZB.out.nv.k) ZA.out.kz (fun h=>by cases h) ZB.out.kz (eQ _) (eQ _) (eQ _)) rfl (by decide) (by simp[jH];omega);simpa[jH,BP,uM] using q
 have BU:Hid (∀ (W:World) (g:Nat),Kept V0.drew W->W.heap[g]? = some (.cells #[.slice iM dG iN,.slice iG dC iH] 94)->Calls Tryz.prog 219 #[.slice (some ⟨g,0,none⟩) 2 2] W fun e w'=>∃ p c,e=.returned (.slice p (dG+dC) c)/\Own w' W.heap.size 3 1 p (dG+dC) c (aO (xa.is++xb.is))/\Kept W w'):=fun W g hW hg=>by
  have q:=Oj (m:=2) (mc:=2) (F8 hg (hW.rw ZA.out.nv.i) (hW.rw ZB.out.nv.i) ZA.out.iz ZB.out.iz (lg _) (lg _)) rfl (by decide) (by simp[jH];omega);simpa[jH,BP,wX] using q
 have HSA:Hid (∀ W,Kept V0.drew W->W.cell? ⟨w.heap.size,1,none⟩=some (.slice gH aV gI)/\W.cell? ⟨w.heap.size+1,1,none⟩=some (.slice gm aT gq)/\W.cell? ⟨w.heap.size,3,none⟩=some (.slice iM dG iN)/\W.cell? ⟨w.heap.size+1,3,none⟩=some (.slice iG dC iH)):=by
  intro W hW;exact⟨(P0.kept hW).cs.2.1,(Q0.kept hW).cs.2.1,(P0.kept hW).cs.2.2.2,(Q0.kept hW).cs.2.2.2⟩
 have J0:Kept V0.drew V0.drew:=Kept.refl V0.drew;clear P0 Q0;refine wp_region_held_drew (S:=(fun W=>W.cell? ⟨w.heap.size,1,none⟩=some (.slice gH aV gI)/\W.cell? ⟨w.heap.size+1,1,none⟩=some (.slice gm aT gq)/\W.cell? ⟨w.heap.size,3,none⟩=some (.slice iM dG iN)/\W.cell? ⟨w.heap.size+1,3,none⟩=some (.slice iG dC iH))) (by kernel_rfl) ?_ fun _=>?_
 ·exact HSA.out _ J0
 generalize V0.drew=W0 at *;refine tkk (v:=?_) 0 SE ?_ ?_;rotate_left
 ·intro w hSw
  (try dsimp only at hSw);go_simp;all_goals with_reducible rfl
 try simp only[Act.put,bJ,bK,bL]
 refine tkk (v:=?_) 1 Su ?_ ?_;rotate_left
 ·intro w hSw
  (try dsimp only at hSw);go_simp;all_goals with_reducible rfl
 try simp only[Act.put,bJ,bK,bL]
 refine tkk (v:=?_) 2 SL ?_ ?_;rotate_left
 ·intro w hSw
  (try dsimp only at hSw);go_simp;all_goals with_reducible rfl
 try simp only[Act.put,bJ,bK,bL]
 refine tkk (v:=?_) 4 SF ?_ ?_;rotate_left
 ·intro w hSw
  (try dsimp only at hSw);go_simp;all_goals with_reducible rfl
 try simp only[Act.put,bJ,bK,bL]
 refine tkk (v:=?_) 5 Sv ?_ ?_;rotate_left
 ·intro w hSw
  (try dsimp only at hSw);go_simp;all_goals with_reducible rfl
 try simp only[Act.put,bJ,bK,bL]
 refine tkk (v:=?_) 8 SG ?_ ?_;rotate_left
 ·intro w hSw
  (try dsimp only at hSw);go_simp;all_goals with_reducible rfl
 try simp only[Act.put,bJ,bK,bL]
 refine tkk (v:=?_) 9 Sw ?_ ?_;rotate_left
 ·intro w hSw
  (try dsimp only at hSw);go_simp;all_goals with_reducible rfl
 try simp only[Act.put,bJ,bK,bL]
 refine tkk (v:=?_) 10 SH ?_ ?_;rotate_left
 ·intro w hSw
  (try dsimp only at hSw);go_simp;all_goals with_reducible rfl
 try simp only[Act.put,bJ,bK,bL]
 refine tkk (v:=?_) 11 Sq ?_ ?_;rotate_left
 ·intro w hSw
  (try dsimp only at hSw);go_simp;all_goals with_reducible rfl
 try simp only[Act.put,bJ,bK,bL]
 refine rdk [3,12] ?_;refine AllReadyH.cons (o:=IX) rfl (fun KK ai=>?_) ?_
 ·
  have yM:=(Kept.refl W0).alloc (.cells #[.string key] 9);have J1:=J0.trans yM;have hg3:=heap_alloc_new W0 (.cells #[.string key] 9);go_simp;refine ai.out _ _ ?_ fun _=>?_
  ·(try dsimp only)
   exact HSA.out _ J1
  clear ai KK;try simp only[Act.put,bJ,bK,bL]
  refine rdk [6,12] ?_;refine AllReadyH.cons (o:=FV) rfl (fun KK ai=>?_) ?_
  ·
   clear yM;generalize W0.alloc (.cells #[.string key] 9)=W1 at *;have ng:=(Kept.refl W1).alloc (.cells #[.slice gH aV gI,.slice (some ⟨W0.heap.size,0,none⟩) 1 1,.slice gm aT gq] 49);have J2:=J1.trans ng;have hg1:=heap_alloc_new W1 (.cells #[.slice gH aV gI,.slice (some ⟨W0.heap.size,0,none⟩) 1 1,.slice gm aT gq] 49);have SQ:=ng.block hg3;go_simp;refine ai.out _ _ ?_ fun _=>?_
   ·(try dsimp only)
    exact HSA.out _ J2
   clear ai KK;try simp only[Act.put,bJ,bK,bL]
   refine rdk [7,12] ?_;refine AllReadyH.cons (o:=wV) rfl (fun KK ai=>?_) ?_
   ·
    clear ng;generalize W1.alloc (.cells #[.slice gH aV gI,.slice (some ⟨W0.heap.size,0,none⟩) 1 1,.slice gm aT gq] 49)=W2 at *;go_simp;go_at_call 217;(with_reducible refine (LQ.out _ W1.heap.size W0.heap.size J2 hg1 SQ).mono ?_);rintro e W3 ⟨p1,c1,rfl,O1,gu⟩;have J3:=J2.trans gu;have B1:=J2.size;go_wp2_with fail;refine ai.out _ _ ?_ fun _=>?_
    ·(try dsimp only)
     exact HSA.out _ J3
    clear ai KK;try simp only[Act.put,bJ,bK,bL]
    refine rdk [12] ?_;refine AllReadyH.cons (o:=BS) rfl (fun KK ai=>?_) ?_
    ·
     have eX:=(Kept.refl W3).alloc (.cells #[.slice iM dG iN,.slice iG dC iH] 94);have J4:=J3.trans eX;have hg2:=heap_alloc_new W3 (.cells #[.slice iM dG iN,.slice iG dC iH] 94);have ZQ:=O1.kept eX;go_simp;refine ai.out _ _ ?_ fun _=>?_
     ·(try dsimp only)
      exact HSA.out _ J4
     clear ai KK;try simp only[Act.put,bJ,bK,bL]
     refine rdk [13] ?_;refine AllReadyH.cons (o:=BR) rfl (fun KK ai=>?_) ?_
     ·
      clear eX;generalize W3.alloc (.cells #[.slice iM dG iN,.slice iG dC iH] 94)=W4 at *;go_simp;go_at_call 219;(with_reducible refine (BU.out _ W3.heap.size J4 hg2).mono ?_);rintro e W5 ⟨p2,c2,rfl,O2,Oo⟩;have J5:=J4.trans Oo;have Al:=ZQ.kept Oo;have B2:=J4.size;have Rz:=R0.kept J5;obtain⟨⟨g0,f0⟩,⟨g1,f1⟩,⟨g2,f2⟩,⟨g3,f3⟩,hfin⟩:=aD Rz.out (.bool false) (.slice p1 (aV+(1+aT)) c1) (.slice none 0 0) (.slice p2 (dG+dC) c2);go_wp2_with fail;refine ai.out _ _ ?_ fun _=>?_
      ·(try dsimp only)
       exact HSA.out _ J5
      clear ai KK;try simp only[Act.put,bJ,bK,bL]
      refine tkk (v:=?_) 14 wW ?_ ?_;rotate_left
      ·intro w hSw
       (try dsimp only at hSw);go_simp;all_goals with_reducible rfl
      try simp only[Act.put,bJ,bK,bL]
      refine rdk [15] ?_;refine AllReadyH.cons (o:=BQ) rfl (fun KK ai=>?_) ?_
      ·
       go_simp;refine ai.out _ _ ?_ fun _=>?_
       ·(try dsimp only)
        have q:=HSA.out _ J5;rw[<- aj W5 (b:=w.heap.size+1+1) (b2:=w.heap.size) (by omega) 1 (.bool false) (.slice p1 (aV+(1+aT)) c1) (.slice none 0 0) (.slice p2 (dG+dC) c2),<- aj W5 (b:=w.heap.size+1+1) (b2:=w.heap.size+1) (by omega) 1 (.bool false) (.slice p1 (aV+(1+aT)) c1) (.slice none 0 0) (.slice p2 (dG+dC) c2),<- aj W5 (b:=w.heap.size+1+1) (b2:=w.heap.size) (by omega) 3 (.bool false) (.slice p1 (aV+(1+aT)) c1) (.slice none 0 0) (.slice p2 (dG+dC) c2),<- aj W5 (b:=w.heap.size+1+1) (b2:=w.heap.size+1) (by omega) 3 (.bool false) (.slice p1 (aV+(1+aT)) c1) (.slice none 0 0) (.slice p2 (dG+dC) c2)]at q;exact q
       clear ai KK;try simp only[Act.put,bJ,bK,bL]
       refine wpAnyH_done (by kernel_rfl) ?_ _;have hlt:=R0.lt;have hB1:=aas hlt B1;have hB2:=aas hlt B2;have NF:NV ((((W5.setCell ⟨w.heap.size+1+1,0,none⟩ (.bool false)).setCell ⟨w.heap.size+1+1,1,none⟩ (.slice p1 (aV+(1+aT)) c1)).setCell ⟨w.heap.size+1+1,2,none⟩ (.slice none 0 0)).setCell ⟨w.heap.size+1+1,3,none⟩ (.slice p2 (dG+dC) c2)) false p1 (aV+(1+aT)) c1 none 0 0 p2 (dG+dC) c2 ⟨false,xa.ks++([key]++xb.ks),[],xa.is++xb.is⟩:=⟨rfl,(Al.bS hB1 _ _ _ _).rw,⟨rfl,aac _,aag _,.inl ⟨rfl,rfl⟩⟩,(O2.bS hB2 _ _ _ _).rw,(Al.bS hB1 _ _ _ _).rx,Rx.none _ _,(O2.bS hB2 _ _ _ _).rx⟩;have KF:Kept w ((((W5.setCell ⟨w.heap.size+1+1,0,none⟩ (.bool false)).setCell ⟨w.heap.size+1+1,1,none⟩ (.slice p1 (aV+(1+aT)) c1)).setCell ⟨w.heap.size+1+1,2,none⟩ (.slice none 0 0)).setCell ⟨w.heap.size+1+1,3,none⟩ (.slice p2 (dG+dC) c2)):=(K0.trans J5).bS (by omega) _ _ _ _;generalize ((((W5.setCell ⟨w.heap.size+1+1,0,none⟩ (.bool false)).setCell ⟨w.heap.size+1+1,1,none⟩ (.slice p1 (aV+(1+aT)) c1)).setCell ⟨w.heap.size+1+1,2,none⟩ (.slice none 0 0)).setCell ⟨w.heap.size+1+1,3,none⟩ (.slice p2 (dG+dC) c2))=WF at *;go_wp2;refine bodyPost_ret (v:=.agg #[.bool false,.slice p1 (aV+(1+aT)) c1,.slice none 0 0,.slice p2 (dG+dC) c2]) ?_ rfl ⟨_,_,_,_,_,_,_,_,_,rfl,NF,KF⟩;exact results_cell_row (p:=6) rfl _ _ (w.heap.size+1+1) 121 #[.bool false,.slice p1 (aV+(1+aT)) c1,.slice none 0 0,.slice p2 (dG+dC) c2] (0,0) _ rfl hfin Tryz.underlying121 rfl aN
      exact AllReadyH.nil
     exact AllReadyH.nil
    exact AllReadyH.nil
   refine AllReadyH.cons (o:=BS) rfl (fun KK ai=>?_) ?_
   ·
    clear ng;generalize W1.alloc (.cells #[.slice gH aV gI,.slice (some ⟨W0.heap.size,0,none⟩) 1 1,.slice gm aT gq] 49)=W2 at *;have gu:=(Kept.refl W2).alloc (.cells #[.slice iM dG iN,.slice iG dC iH] 94);have J3:=J2.trans gu;have hg2:=heap_alloc_new W2 (.cells #[.slice iM dG iN,.slice iG dC iH] 94);have ZR:=gu.block hg1;have Oq:=gu.block SQ;go_simp;refine ai.out _ _ ?_ fun _=>?_
    ·(try dsimp only)
     exact HSA.out _ J3
    clear ai KK;try simp only[Act.put,bJ,bK,bL]
    refine rdk [7] ?_;refine AllReadyH.cons (o:=wV) rfl (fun KK ai=>?_) ?_
    ·
     clear gu;generalize W2.alloc (.cells #[.slice iM dG iN,.slice iG dC iH] 94)=W3 at *;go_simp;go_at_call 217;(with_reducible refine (LQ.out _ W1.heap.size W0.heap.size J3 ZR Oq).mono ?_);rintro e W4 ⟨p1,c1,rfl,O1,eX⟩;have J4:=J3.trans eX;have B1:=J3.size;have Ot:=eX.block hg2;go_wp2_with fail;refine ai.out _ _ ?_ fun _=>?_
     ·(try dsimp only)
      exact HSA.out _ J4
     clear ai KK;try simp only[Act.put,bJ,bK,bL]
     refine rdk [13] ?_;refine AllReadyH.cons (o:=BR) rfl (fun KK ai=>?_) ?_
     ·
      go_simp;go_at_call 219;(with_reducible refine (BU.out _ W2.heap.size J4 Ot).mono ?_);rintro e W5 ⟨p2,c2,rfl,O2,Oo⟩;have J5:=J4.trans Oo;have Al:=O1.kept Oo;have B2:=J4.size;have Rz:=R0.kept J5;obtain⟨⟨g0,f0⟩,⟨g1,f1⟩,⟨g2,f2⟩,⟨g3,f3⟩,hfin⟩:=aD Rz.out (.bool false) (.slice p1 (aV+(1+aT)) c1) (.slice none 0 0) (.slice p2 (dG+dC) c2);go_wp2_with fail;refine ai.out _ _ ?_ fun _=>?_
      ·(try dsimp only)
       exact HSA.out _ J5
      clear ai KK;try simp only[Act.put,bJ,bK,bL]
      refine tkk (v:=?_) 14 wW ?_ ?_;rotate_left
      ·intro w hSw
       (try dsimp only at hSw);go_simp;all_goals with_reducible rfl
      try simp only[Act.put,bJ,bK,bL]
      refine rdk [15] ?_;refine AllReadyH.cons (o:=BQ) rfl (fun KK ai=>?_) ?_
      ·
       go_simp;refine ai.out _ _ ?_ fun _=>?_
       ·(try dsimp only)
        have q:=HSA.out _ J5;rw[<- aj W5 (b:=w.heap.size+1+1) (b2:=w.heap.size) (by omega) 1 (.bool false) (.slice p1 (aV+(1+aT)) c1) (.slice none 0 0) (.slice p2 (dG+dC) c2),<- aj W5 (b:=w.heap.size+1+1) (b2:=w.heap.size+1) (by omega) 1 (.bool false) (.slice p1 (aV+(1+aT)) c1) (.slice none 0 0) (.slice p2 (dG+dC) c2),<- aj W5 (b:=w.heap.size+1+1) (b2:=w.heap.size) (by omega) 3 (.bool false) (.slice p1 (aV+(1+aT)) c1) (.slice none 0 0) (.slice p2 (dG+dC) c2),<- aj W5 (b:=w.heap.size+1+1) (b2:=w.heap.size+1) (by omega) 3 (.bool false) (.slice p1 (aV+(1+aT)) c1) (.slice none 0 0) (.slice p2 (dG+dC) c2)]at q;exact q
       clear ai KK;try simp only[Act.put,bJ,bK,bL]
       refine wpAnyH_done (by kernel_rfl) ?_ _;have hlt:=R0.lt;have hB1:=aas hlt B1;have hB2:=aas hlt B2;have NF:NV ((((W5.setCell ⟨w.heap.size+1+1,0,none⟩ (.bool false)).setCell ⟨w.heap.size+1+1,1,none⟩ (.slice p1 (aV+(1+aT)) c1)).setCell ⟨w.heap.size+1+1,2,none⟩ (.slice none 0 0)).setCell ⟨w.heap.size+1+1,3,none⟩ (.slice p2 (dG+dC) c2)) false p1 (aV+(1+aT)) c1 none 0 0 p2 (dG+dC) c2 ⟨false,xa.ks++([key]++xb.ks),[],xa.is++xb.is⟩:=⟨rfl,(Al.bS hB1 _ _ _ _).rw,⟨rfl,aac _,aag _,.inl ⟨rfl,rfl⟩⟩,(O2.bS hB2 _ _ _ _).rw,(Al.bS hB1 _ _ _ _).rx,Rx.none _ _,(O2.bS hB2 _ _ _ _).rx⟩;have KF:Kept w ((((W5.setCell ⟨w.heap.size+1+1,0,none⟩ (.bool false)).setCell ⟨w.heap.size+1+1,1,none⟩ (.slice p1 (aV+(1+aT)) c1)).setCell ⟨w.heap.size+1+1,2,none⟩ (.slice none 0 0)).setCell ⟨w.heap.size+1+1,3,none⟩ (.slice p2 (dG+dC) c2)):=(K0.trans J5).bS (by omega) _ _ _ _;generalize ((((W5.setCell ⟨w.heap.size+1+1,0,none⟩ (.bool false)).setCell ⟨w.heap.size+1+1,1,none⟩ (.slice p1 (aV+(1+aT)) c1)).setCell ⟨w.heap.size+1+1,2,none⟩ (.slice none 0 0)).setCell ⟨w.heap.size+1+1,3,none⟩ (.slice p2 (dG+dC) c2))=WF at *;go_wp2;refine bodyPost_ret (v:=.agg #[.bool false,.slice p1 (aV+(1+aT)) c1,.slice none 0 0,.slice p2 (dG+dC) c2]) ?_ rfl ⟨_,_,_,_,_,_,_,_,_,rfl,NF,KF⟩;exact results_cell_row (p:=6) rfl _ _ (w.heap.size+1+1) 121 #[.bool false,.slice p1 (aV+(1+aT)) c1,.slice none 0 0,.slice p2 (dG+dC) c2] (0,0) _ rfl hfin Tryz.underlying121 rfl aN
      exact AllReadyH.nil
     exact AllReadyH.nil
    exact AllReadyH.nil
   exact AllReadyH.nil
  refine AllReadyH.cons (o:=BS) rfl (fun KK ai=>?_) ?_
  ·
   clear yM;generalize W0.alloc (.cells #[.string key] 9)=W1 at *;have ng:=(Kept.refl W1).alloc (.cells #[.slice iM dG iN,.slice iG dC iH] 94);have J2:=J1.trans ng;have hg2:=heap_alloc_new W1 (.cells #[.slice iM dG iN,.slice iG dC iH] 94);have SQ:=ng.block hg3;go_simp;refine ai.out _ _ ?_ fun _=>?_
   ·(try dsimp only)
    exact HSA.out _ J2
   clear ai KK;try simp only[Act.put,bJ,bK,bL]
   refine rdk [6] ?_;refine AllReadyH.cons (o:=FV) rfl (fun KK ai=>?_) ?_
   ·
    clear ng;generalize W1.alloc (.cells #[.slice iM dG iN,.slice iG dC iH] 94)=W2 at *;have gu:=(Kept.refl W2).alloc (.cells #[.slice gH aV gI,.slice (some ⟨W0.heap.size,0,none⟩) 1 1,.slice gm aT gq] 49);have J3:=J2.trans gu;have hg1:=heap_alloc_new W2 (.cells #[.slice gH aV gI,.slice (some ⟨W0.heap.size,0,none⟩) 1 1,.slice gm aT gq] 49);have F9:=gu.block hg2;have Oq:=gu.block SQ;go_simp;refine ai.out _ _ ?_ fun _=>?_
    ·(try dsimp only)
     exact HSA.out _ J3
    clear ai KK;try simp only[Act.put,bJ,bK,bL]
    refine rdk [7] ?_;refine AllReadyH.cons (o:=wV) rfl (fun KK ai=>?_) ?_
    ·
     clear gu;generalize W2.alloc (.cells #[.slice gH aV gI,.slice (some ⟨W0.heap.size,0,none⟩) 1 1,.slice gm aT gq] 49)=W3 at *;go_simp;go_at_call 217;(with_reducible refine (LQ.out _ W2.heap.size W0.heap.size J3 hg1 Oq).mono ?_);rintro e W4 ⟨p1,c1,rfl,O1,eX⟩;have J4:=J3.trans eX;have B1:=J3.size;have Ot:=eX.block F9;go_wp2_with fail;refine ai.out _ _ ?_ fun _=>?_
     ·(try dsimp only)
      exact HSA.out _ J4
     clear ai KK;try simp only[Act.put,bJ,bK,bL]
     refine rdk [13] ?_;refine AllReadyH.cons (o:=BR) rfl (fun KK ai=>?_) ?_
     ·
      go_simp;go_at_call 219;(with_reducible refine (BU.out _ W1.heap.size J4 Ot).mono ?_);rintro e W5 ⟨p2,c2,rfl,O2,Oo⟩;have J5:=J4.trans Oo;have Al:=O1.kept Oo;have B2:=J4.size;have Rz:=R0.kept J5;obtain⟨⟨g0,f0⟩,⟨g1,f1⟩,⟨g2,f2⟩,⟨g3,f3⟩,hfin⟩:=aD Rz.out (.bool false) (.slice p1 (aV+(1+aT)) c1) (.slice none 0 0) (.slice p2 (dG+dC) c2);go_wp2_with fail;refine ai.out _ _ ?_ fun _=>?_
      ·(try dsimp only)
       exact HSA.out _ J5
      clear ai KK;try simp only[Act.put,bJ,bK,bL]
      refine tkk (v:=?_) 14 wW ?_ ?_;rotate_left
      ·intro w hSw
       (try dsimp only at hSw);go_simp;all_goals with_reducible rfl
      try simp only[Act.put,bJ,bK,bL]
      refine rdk [15] ?_;refine AllReadyH.cons (o:=BQ) rfl (fun KK ai=>?_) ?_
      ·
       go_simp;refine ai.out _ _ ?_ fun _=>?_
       ·(try dsimp only)
        have q:=HSA.out _ J5;rw[<- aj W5 (b:=w.heap.size+1+1) (b2:=w.heap.size) (by omega) 1 (.bool false) (.slice p1 (aV+(1+aT)) c1) (.slice none 0 0) (.slice p2 (dG+dC) c2),<- aj W5 (b:=w.heap.size+1+1) (b2:=w.heap.size+1) (by omega) 1 (.bool false) (.slice p1 (aV+(1+aT)) c1) (.slice none 0 0) (.slice p2 (dG+dC) c2),<- aj W5 (b:=w.heap.size+1+1) (b2:=w.heap.size) (by omega) 3 (.bool false) (.slice p1 (aV+(1+aT)) c1) (.slice none 0 0) (.slice p2 (dG+dC) c2),<- aj W5 (b:=w.heap.size+1+1) (b2:=w.heap.size+1) (by omega) 3 (.bool false) (.slice p1 (aV+(1+aT)) c1) (.slice none 0 0) (.slice p2 (dG+dC) c2)]at q;exact q
       clear ai KK;try simp only[Act.put,bJ,bK,bL]
       refine wpAnyH_done (by kernel_rfl) ?_ _;have hlt:=R0.lt;have hB1:=aas hlt B1;have hB2:=aas hlt B2;have NF:NV ((((W5.setCell ⟨w.heap.size+1+1,0,none⟩ (.bool false)).setCell ⟨w.heap.size+1+1,1,none⟩ (.slice p1 (aV+(1+aT)) c1)).setCell ⟨w.heap.size+1+1,2,none⟩ (.slice none 0 0)).setCell ⟨w.heap.size+1+1,3,none⟩ (.slice p2 (dG+dC) c2)) false p1 (aV+(1+aT)) c1 none 0 0 p2 (dG+dC) c2 ⟨false,xa.ks++([key]++xb.ks),[],xa.is++xb.is⟩:=⟨rfl,(Al.bS hB1 _ _ _ _).rw,⟨rfl,aac _,aag _,.inl ⟨rfl,rfl⟩⟩,(O2.bS hB2 _ _ _ _).rw,(Al.bS hB1 _ _ _ _).rx,Rx.none _ _,(O2.bS hB2 _ _ _ _).rx⟩;have KF:Kept w ((((W5.setCell ⟨w.heap.size+1+1,0,none⟩ (.bool false)).setCell ⟨w.heap.size+1+1,1,none⟩ (.slice p1 (aV+(1+aT)) c1)).setCell ⟨w.heap.size+1+1,2,none⟩ (.slice none 0 0)).setCell ⟨w.heap.size+1+1,3,none⟩ (.slice p2 (dG+dC) c2)):=(K0.trans J5).bS (by omega) _ _ _ _;generalize ((((W5.setCell ⟨w.heap.size+1+1,0,none⟩ (.bool false)).setCell ⟨w.heap.size+1+1,1,none⟩ (.slice p1 (aV+(1+aT)) c1)).setCell ⟨w.heap.size+1+1,2,none⟩ (.slice none 0 0)).setCell ⟨w.heap.size+1+1,3,none⟩ (.slice p2 (dG+dC) c2))=WF at *;go_wp2;refine bodyPost_ret (v:=.agg #[.bool false,.slice p1 (aV+(1+aT)) c1,.slice none 0 0,.slice p2 (dG+dC) c2]) ?_ rfl ⟨_,_,_,_,_,_,_,_,_,rfl,NF,KF⟩;exact results_cell_row (p:=6) rfl _ _ (w.heap.size+1+1) 121 #[.bool false,.slice p1 (aV+(1+aT)) c1,.slice none 0 0,.slice p2 (dG+dC) c2] (0,0) _ rfl hfin Tryz.underlying121 rfl aN
      exact AllReadyH.nil
     exact AllReadyH.nil
    exact AllReadyH.nil
   exact AllReadyH.nil
  exact AllReadyH.nil
 refine AllReadyH.cons (o:=BS) rfl (fun KK ai=>?_) ?_
 ·
  have yM:=(Kept.refl W0).alloc (.cells #[.slice iM dG iN,.slice iG dC iH] 94);have J1:=J0.trans yM;have hg2:=heap_alloc_new W0 (.cells #[.slice iM dG iN,.slice iG dC iH] 94);go_simp;refine ai.out _ _ ?_ fun _=>?_
  ·(try dsimp only)
   exact HSA.out _ J1
  clear ai KK;try simp only[Act.put,bJ,bK,bL]
  refine rdk [3] ?_;refine AllReadyH.cons (o:=IX) rfl (fun KK ai=>?_) ?_
  ·
   clear yM;generalize W0.alloc (.cells #[.slice iM dG iN,.slice iG dC iH] 94)=W1 at *;have ng:=(Kept.refl W1).alloc (.cells #[.string key] 9);have J2:=J1.trans ng;have hg3:=heap_alloc_new W1 (.cells #[.string key] 9);have Vv:=ng.block hg2;go_simp;refine ai.out _ _ ?_ fun _=>?_
   ·(try dsimp only)
    exact HSA.out _ J2
   clear ai KK;try simp only[Act.put,bJ,bK,bL]
   refine rdk [6] ?_;refine AllReadyH.cons (o:=FV) rfl (fun KK ai=>?_) ?_
   ·
    clear ng;generalize W1.alloc (.cells #[.string key] 9)=W2 at *;have gu:=(Kept.refl W2).alloc (.cells #[.slice gH aV gI,.slice (some ⟨W1.heap.size,0,none⟩) 1 1,.slice gm aT gq] 49);have J3:=J2.trans gu;have hg1:=heap_alloc_new W2 (.cells #[.slice gH aV gI,.slice (some ⟨W1.heap.size,0,none⟩) 1 1,.slice gm aT gq] 49);have F9:=gu.block Vv;have Oq:=gu.block hg3;go_simp;refine ai.out _ _ ?_ fun _=>?_
    ·(try dsimp only)
     exact HSA.out _ J3
    clear ai KK;try simp only[Act.put,bJ,bK,bL]
    refine rdk [7] ?_;refine AllReadyH.cons (o:=wV) rfl (fun KK ai=>?_) ?_
    ·
     clear gu;generalize W2.alloc (.cells #[.slice gH aV gI,.slice (some ⟨W1.heap.size,0,none⟩) 1 1,.slice gm aT gq] 49)=W3 at *;go_simp;go_at_call 217;(with_reducible refine (LQ.out _ W2.heap.size W1.heap.size J3 hg1 Oq).mono ?_);rintro e W4 ⟨p1,c1,rfl,O1,eX⟩;have J4:=J3.trans eX;have B1:=J3.size;have Ot:=eX.block F9;go_wp2_with fail;refine ai.out _ _ ?_ fun _=>?_
     ·(try dsimp only)
      exact HSA.out _ J4
     clear ai KK;try simp only[Act.put,bJ,bK,bL]
     refine rdk [13] ?_;refine AllReadyH.cons (o:=BR) rfl (fun KK ai=>?_) ?_
     ·
      go_simp;go_at_call 219;(with_reducible refine (BU.out _ W0.heap.size J4 Ot).mono ?_);rintro e W5 ⟨p2,c2,rfl,O2,Oo⟩;have J5:=J4.trans Oo;have Al:=O1.kept Oo;have B2:=J4.size;have Rz:=R0.kept J5;obtain⟨⟨g0,f0⟩,⟨g1,f1⟩,⟨g2,f2⟩,⟨g3,f3⟩,hfin⟩:=aD Rz.out (.bool false) (.slice p1 (aV+(1+aT)) c1) (.slice none 0 0) (.slice p2 (dG+dC) c2);go_wp2_with fail;refine ai.out _ _ ?_ fun _=>?_
      ·(try dsimp only)
       exact HSA.out _ J5
      clear ai KK;try simp only[Act.put,bJ,bK,bL]
      refine tkk (v:=?_) 14 wW ?_ ?_;rotate_left
      ·intro w hSw
       (try dsimp only at hSw);go_simp;all_goals with_reducible rfl
      try simp only[Act.put,bJ,bK,bL]
      refine rdk [15] ?_;refine AllReadyH.cons (o:=BQ) rfl (fun KK ai=>?_) ?_
      ·
       go_simp;refine ai.out _ _ ?_ fun _=>?_
       ·(try dsimp only)
        have q:=HSA.out _ J5;rw[<- aj W5 (b:=w.heap.size+1+1) (b2:=w.heap.size) (by omega) 1 (.bool false) (.slice p1 (aV+(1+aT)) c1) (.slice none 0 0) (.slice p2 (dG+dC) c2),<- aj W5 (b:=w.heap.size+1+1) (b2:=w.heap.size+1) (by omega) 1 (.bool false) (.slice p1 (aV+(1+aT)) c1) (.slice none 0 0) (.slice p2 (dG+dC) c2),<- aj W5 (b:=w.heap.size+1+1) (b2:=w.heap.size) (by omega) 3 (.bool false) (.slice p1 (aV+(1+aT)) c1) (.slice none 0 0) (.slice p2 (dG+dC) c2),<- aj W5 (b:=w.heap.size+1+1) (b2:=w.heap.size+1) (by omega) 3 (.bool false) (.slice p1 (aV+(1+aT)) c1) (.slice none 0 0) (.slice p2 (dG+dC) c2)]at q;exact q
       clear ai KK;try simp only[Act.put,bJ,bK,bL]
       refine wpAnyH_done (by kernel_rfl) ?_ _;have hlt:=R0.lt;have hB1:=aas hlt B1;have hB2:=aas hlt B2;have NF:NV ((((W5.setCell ⟨w.heap.size+1+1,0,none⟩ (.bool false)).setCell ⟨w.heap.size+1+1,1,none⟩ (.slice p1 (aV+(1+aT)) c1)).setCell ⟨w.heap.size+1+1,2,none⟩ (.slice none 0 0)).setCell ⟨w.heap.size+1+1,3,none⟩ (.slice p2 (dG+dC) c2)) false p1 (aV+(1+aT)) c1 none 0 0 p2 (dG+dC) c2 ⟨false,xa.ks++([key]++xb.ks),[],xa.is++xb.is⟩:=⟨rfl,(Al.bS hB1 _ _ _ _).rw,⟨rfl,aac _,aag _,.inl ⟨rfl,rfl⟩⟩,(O2.bS hB2 _ _ _ _).rw,(Al.bS hB1 _ _ _ _).rx,Rx.none _ _,(O2.bS hB2 _ _ _ _).rx⟩;have KF:Kept w ((((W5.setCell ⟨w.heap.size+1+1,0,none⟩ (.bool false)).setCell ⟨w.heap.size+1+1,1,none⟩ (.slice p1 (aV+(1+aT)) c1)).setCell ⟨w.heap.size+1+1,2,none⟩ (.slice none 0 0)).setCell ⟨w.heap.size+1+1,3,none⟩ (.slice p2 (dG+dC) c2)):=(K0.trans J5).bS (by omega) _ _ _ _;generalize ((((W5.setCell ⟨w.heap.size+1+1,0,none⟩ (.bool false)).setCell ⟨w.heap.size+1+1,1,none⟩ (.slice p1 (aV+(1+aT)) c1)).setCell ⟨w.heap.size+1+1,2,none⟩ (.slice none 0 0)).setCell ⟨w.heap.size+1+1,3,none⟩ (.slice p2 (dG+dC) c2))=WF at *;go_wp2;refine bodyPost_ret (v:=.agg #[.bool false,.slice p1 (aV+(1+aT)) c1,.slice none 0 0,.slice p2 (dG+dC) c2]) ?_ rfl ⟨_,_,_,_,_,_,_,_,_,rfl,NF,KF⟩;exact results_cell_row (p:=6) rfl _ _ (w.heap.size+1+1) 121 #[.bool false,.slice p1 (aV+(1+aT)) c1,.slice none 0 0,.slice p2 (dG+dC) c2] (0,0) _ rfl hfin Tryz.underlying121 rfl aN
      exact AllReadyH.nil
     exact AllReadyH.nil
    exact AllReadyH.nil
   exact AllReadyH.nil
  exact AllReadyH.nil
 exact AllReadyH.nil
