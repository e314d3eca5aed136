/- Joined. -/
import Derived.Test.YtifeihnhkbagpaaGreatDoorZba
set_option maxHeartbeats 4000000
set_option maxRecDepth 100000
namespace Go.Proofs.YtifeihnhkbagpaaGreatDoor.N
open ChangeShapes WideShapes ChangeAt RowKit
theorem bT{α:Type}(l:List α)(i:Nat)(a:α):l.toArray.setIfInBounds i a=(l.set i a).toArray:=by simp
theorem bU{α:Type}(x:α)(l:List α)(a:α):(x :: l).set 0 a=a :: l:=rfl
theorem bV{α:Type}(x:α)(l:List α)(i:Nat)(a:α):(x :: l).set (i+1) a=x :: l.set i a:=rfl
abbrev Nv:Oper:={ dst:=some 3,op:=.assign (.tmp 79),type:=9,pos:= "node.go:204",after:=#[⟨24,.data⟩,⟨25,.chain⟩,⟨0,.phase⟩,⟨1,.phase⟩,⟨2,.phase⟩,⟨3,.phase⟩,⟨4,.phase⟩,⟨5,.phase⟩,⟨6,.phase⟩,⟨7,.phase⟩,⟨8,.phase⟩,⟨9,.phase⟩,⟨10,.phase⟩,⟨11,.phase⟩,⟨12,.phase⟩,⟨13,.phase⟩,⟨14,.phase⟩,⟨15,.phase⟩,⟨16,.phase⟩,⟨17,.phase⟩,⟨18,.phase⟩,⟨19,.phase⟩,⟨20,.phase⟩,⟨21,.phase⟩,⟨22,.phase⟩,⟨23,.phase⟩,⟨24,.phase⟩,⟨25,.phase⟩],guard:=none }
abbrev Ny:Oper:={ dst:=some 2,op:=.assign (.tmp 78),type:=260,pos:= "node.go:204",after:=#[⟨23,.data⟩,⟨22,.chain⟩,⟨0,.phase⟩,⟨1,.phase⟩,⟨2,.phase⟩,⟨3,.phase⟩,⟨4,.phase⟩,⟨5,.phase⟩,⟨6,.phase⟩,⟨7,.phase⟩,⟨8,.phase⟩,⟨9,.phase⟩,⟨10,.phase⟩,⟨11,.phase⟩,⟨12,.phase⟩,⟨13,.phase⟩,⟨14,.phase⟩,⟨15,.phase⟩,⟨16,.phase⟩,⟨17,.phase⟩,⟨18,.phase⟩,⟨19,.phase⟩,⟨20,.phase⟩,⟨21,.phase⟩,⟨22,.phase⟩,⟨23,.phase⟩,⟨24,.textOnly .lateStores⟩],guard:=none }
abbrev Nz:Oper:={ dst:=some 77,op:=.call { callee:=.value (.func 148),args:=#[.tmp 76],argTypes:=#[121] },type:=121,pos:= "node.go:206",after:=#[⟨21,.data⟩,⟨10,.chain⟩],guard:=none }
abbrev NB:Oper:={ dst:=some 78,op:=.buildSlice 260 2 #[(0,.tmp 65),(1,.tmp 77)],type:=260,pos:= "node.go:204",after:=#[⟨10,.data⟩,⟨22,.data⟩],guard:=none }
abbrev NC:Oper:={ dst:=some 65,op:=.call { callee:=.value (.func 148),args:=#[.tmp 64],argTypes:=#[121] },type:=121,pos:= "node.go:205",after:=#[⟨9,.data⟩],guard:=none }
abbrev ND:Oper:={ dst:=some 70,op:=.slice 49 (.tmp 67) (some (.tmp 69)) none none,type:=49,pos:= "node.go:204",after:=#[⟨12,.data⟩,⟨14,.data⟩],guard:=none }
abbrev NG:Oper:={ dst:=some 75,op:=.slice 94 (.tmp 72) (some (.tmp 74)) none none,type:=94,pos:= "node.go:204",after:=#[⟨17,.data⟩,⟨19,.data⟩],guard:=none }
abbrev NH:Oper:={ dst:=some 58,op:=.slice 49 (.tmp 56) none (some (.tmp 57)) none,type:=49,pos:= "node.go:204",after:=#[⟨1,.data⟩,⟨2,.data⟩],guard:=none }
abbrev NI:Oper:={ dst:=some 63,op:=.slice 94 (.tmp 60) none (some (.tmp 62)) none,type:=94,pos:= "node.go:204",after:=#[⟨5,.data⟩,⟨7,.data⟩],guard:=none }
abbrev NJ:Oper:={ dst:=some 76,op:=.build 121 #[(1,.tmp 70),(3,.tmp 75)],type:=121,pos:= "node.go:204",after:=#[⟨15,.data⟩,⟨20,.data⟩],guard:=none }
abbrev Ih:Oper:={ dst:=some 64,op:=.build 121 #[(1,.tmp 58),(3,.tmp 63)],type:=121,pos:= "node.go:204",after:=#[⟨3,.data⟩,⟨8,.data⟩],guard:=none }
abbrev Ii:Oper:={ dst:=some 69,op:=.binOp .add 3 (.tmp 68) (.const (Go.Value.int .i64 1)) 3,type:=3,pos:= "node.go:204",after:=#[⟨13,.data⟩],guard:=none }
abbrev Ij:Oper:={ dst:=some 74,op:=.binOp .add 3 (.tmp 73) (.const (Go.Value.int .i64 1)) 3,type:=3,pos:= "node.go:204",after:=#[⟨18,.data⟩],guard:=none }
abbrev Ik:Oper:={ dst:=some 62,op:=.binOp .add 3 (.tmp 61) (.const (Go.Value.int .i64 1)) 3,type:=3,pos:= "node.go:204",after:=#[⟨6,.data⟩],guard:=none }
abbrev Il:Oper:={ dst:=some 79,op:=.move (.tmp 5),type:=9,pos:= "node.go:204",after:=#[⟨25,.gcOnly .lateStores⟩],guard:=none }
abbrev Im:Oper:={ dst:=some 67,op:=.load 49 (.tmp 66),type:=49,pos:= "node.go:204",after:=#[⟨11,.data⟩],guard:=none }
abbrev Io:Oper:={ dst:=some 72,op:=.load 94 (.tmp 71),type:=94,pos:= "node.go:204",after:=#[⟨16,.data⟩],guard:=none }
abbrev Ip:Oper:={ dst:=some 56,op:=.load 49 (.tmp 55),type:=49,pos:= "node.go:204",after:=#[⟨0,.data⟩],guard:=none }
abbrev Iq:Oper:={ dst:=some 60,op:=.load 94 (.tmp 59),type:=94,pos:= "node.go:204",after:=#[⟨4,.data⟩],guard:=none }
abbrev Ir:Oper:={ dst:=some 55,op:=.fieldAddr 121 (.tmp 1) 1,type:=0,pos:= "node.go:204",after:=#[],guard:=none }
abbrev Iu:Oper:={ dst:=some 59,op:=.fieldAddr 121 (.tmp 1) 3,type:=0,pos:= "node.go:204",after:=#[],guard:=none }
abbrev Iw:Oper:={ dst:=some 66,op:=.fieldAddr 121 (.tmp 1) 1,type:=0,pos:= "node.go:204",after:=#[],guard:=none }
abbrev Iy:Oper:={ dst:=some 71,op:=.fieldAddr 121 (.tmp 1) 3,type:=0,pos:= "node.go:204",after:=#[],guard:=none }
abbrev Iz:Oper:={ dst:=some 57,op:=.move (.tmp 4),type:=3,pos:= "node.go:204",after:=#[],guard:=none }
abbrev IA:Oper:={ dst:=some 61,op:=.move (.tmp 4),type:=3,pos:= "node.go:204",after:=#[],guard:=none }
abbrev IB:Oper:={ dst:=some 68,op:=.move (.tmp 4),type:=3,pos:= "node.go:204",after:=#[],guard:=none }
abbrev IE:Oper:={ dst:=some 73,op:=.move (.tmp 4),type:=3,pos:= "node.go:204",after:=#[],guard:=none }
variable {w:World}{sz n c:Nat}{p:Option Addr}{cs:List Value}
theorem Rw.take(h:Rw w sz p n c cs)(k:Nat)(hk:k<=n):Rw w sz p k c (cs.take (k*sz)):=by
 refine⟨?_,aad hk h.le,h.cap,?_⟩
 ·rw[aam,h.len]
  exact Nat.min_eq_left (Nat.mul_le_mul_right _ hk)
 ·rcases h.out with⟨e1,e2⟩|⟨b,o,e1,e2⟩
  ·exact .inl ⟨e1,by omega⟩
  ·refine .inr ⟨b,o,e1,fun j u hu=>e2 j u ?_⟩
   rw[aaT]at hu;split at hu
   ·exact hu
   ·cases hu
theorem qN{b o:Nat}(hc:∀ j u,cs[j]? = some u->w.cell? ⟨b,o+j,none⟩=some u)(hl:cs.length=n*sz)(hn:n<=c)(hm:c<=maxLen)(k:Nat)(hk:k<=n):Rw w sz (some ⟨b,o+k*sz,none⟩) (n-k) (c-k) (cs.drop (k*sz)):=by
 refine⟨?_,by omega,by omega,.inr ⟨_,_,rfl,fun j u hu=>?_⟩⟩
 ·rw[aaw,hl,Nat.sub_mul]
 ·rw[aaZ]at hu
  rw[Nat.add_assoc];exact hc _ u hu
theorem uD(ks:List ByteArray)(m:Nat):dA (ks.take m)=(dA ks).take (m*1):=by
 unfold dA;rw[aay,List.map_take]
theorem uE(ks:List ByteArray)(m:Nat):dA (ks.drop m)=(dA ks).drop (m*1):=by
 unfold dA;rw[aay,List.map_drop]
theorem yD(ks:List Int)(m:Nat):aO (ks.take m)=(aO ks).take (m*1):=by
 unfold aO;rw[aay,List.map_take]
theorem uF(ks:List Int)(m:Nat):aO (ks.drop m)=(aO ks).drop (m*1):=by
 unfold aO;rw[aay,List.map_drop]
structure NZ (w:World) (l:Bool) (kp:Option Addr) (nk kc:Nat) (vp:Option Addr) (nv vc:Nat) (ip:Option Addr) (ni ic:Nat) (x:Nd):Prop where
 nv:NV w l kp nk kc vp nv vc ip ni ic x
 kz:kp=none->kc=0
 vz:vp=none->vc=0
 iz:ip=none->ic=0
variable {l:Bool}{kp vp ip:Option Addr}{nk kc nv vc ni ic:Nat}{x:Nd}
theorem NZ.kept{w':World}(h:NZ w l kp nk kc vp nv vc ip ni ic x)(k:Kept w w'):NZ w' l kp nk kc vp nv vc ip ni ic x:=⟨h.nv.kept k,h.kz,h.vz,h.iz⟩
theorem Own.z{B:Nat}{e:TypeId}(k:Own w B e sz p n c cs):p=none->c=0:=by
 intro h;rcases k.cases with⟨_,_,h2,_⟩|⟨g,cur,h2,_⟩
 ·exact h2
 ·rw[h]at h2;cases h2
def Nd.fst (x:Nd) (m:Nat):Nd:=if x.leaf=true then ⟨true,x.ks.take m,x.vs.take m,[]⟩ else ⟨false,x.ks.take m,[],x.is.take (m+1)⟩
def Nd.snd (x:Nd) (m:Nat):Nd:=if x.leaf=true then ⟨true,x.ks.drop m,x.vs.drop m,[]⟩ else ⟨false,x.ks.drop (m+1),[],x.is.drop (m+1)⟩
theorem yE(h:NV w l kp nk kc vp nv vc ip ni ic x)(g:Good x)(hs:x.put.length<=237):
 Calls Tryz.prog 182 #[.agg #[.bool l,.slice kp nk kc,.slice vp nv vc,.slice ip ni ic]] w fun e w'=>∃ (g:Nat) (kp':Option Addr) (aY:Nat) (bO:Option Addr) (wD eO:Nat) (kY:Option Addr) (wE kZ:Nat),e=.returned (.tuple #[.slice (some ⟨g,0,none⟩) 1 1,.string ⟨#[]⟩])/\C4 w' g 121 (.bool l) (.slice kp' nk aY) (.slice bO wD eO) (.slice kY wE kZ)/\NV w' l kp' nk aY bO wD eO kY wE kZ x/\Kept w w':=by
  have HW:Hid (∀ W,Kept w W->Calls Tryz.prog 144 #[.agg #[.bool l,.slice kp nk kc,.slice vp nv vc,.slice ip ni ic]] W fun e w'=>∃ kp' aY bO wD eO kY wE kZ,e=.returned (.agg #[.bool l,.slice kp' nk aY,.slice bO wD eO,.slice kY wE kZ])/\Own w' W.heap.size 9 1 kp' nk aY (dA x.ks)/\Own w' W.heap.size 77 3 bO wD eO (dQ x.vs)/\Own w' W.heap.size 3 1 kY wE kZ (aO x.is)/\Kept W w'):=fun W hW=>gz (h.kept hW) g
  have HLF:Hid (x.leaf=l):=h.hl;have HP:Hid (∀ (W:World) (kp:Option Addr) (nk kc:Nat) (vp:Option Addr) (nv vc:Nat) (ip:Option Addr) (ni ic:Nat),NV W l kp nk kc vp nv vc ip ni ic x->Calls Tryz.prog 180 #[.agg #[.bool l,.slice kp nk kc,.slice vp nv vc,.slice ip ni ic]] W fun e w'=>e=.returned (.string (bs x.put))/\Kept W w'):=fun W kp nk kc vp nv vc ip ni ic h=>fB h g
  have K0:Kept w (w.alloc (.cells #[.bool l,.slice kp nk kc,.slice vp nv vc,.slice ip ni ic] 121)):=(Kept.refl w).alloc _;have X0:=C4.alloc w 121 (.bool l) (.slice kp nk kc) (.slice vp nv vc) (.slice ip ni ic);have S0:=size_alloc w (.cells #[.bool l,.slice kp nk kc,.slice vp nv vc,.slice ip ni ic] 121);have hz:=au x.put;rw[<- hz]at hs;generalize bs x.put=s at *;have hs2:(s.size:Int)<=237:=by omega
  clear h g hz;go_enter Tryz.func182,Tryz.ntmps182;go_wp2_with (first
    | (go_at_call 144
       (with_reducible refine (HW.out _ K0).mono ?_)
       rintro e v1 ⟨ja,fT,nE,lq,pV,sO,mg,nX,rfl,O1,O2,O3,k1⟩
       have X1:=X0.kept k1
       have K1:=K0.trans k1
       rw[S0]at O1 O2 O3
       obtain⟨⟨g0,f0⟩,⟨g1,f1⟩,⟨g2,f2⟩,⟨g3,f3⟩,hfin⟩:=aD X1.out (.bool l) (.slice ja nk fT) (.slice nE lq pV) (.slice sO mg nX)
       have V1:NV _ l ja nk fT nE lq pV sO mg nX x:=(NV.of HLF.out (O1.bS (aaK _) (.bool l) (.slice ja nk fT) (.slice nE lq pV) (.slice sO mg nX)) (O2.bS (aaK _) _ _ _ _) (O3.bS (aaK _) _ _ _ _))
       have K2:=K1.bS (aac _) (.bool l) (.slice ja nk fT) (.slice nE lq pV) (.slice sO mg nX)
       have c4:C4 _ w.heap.size 121 (.bool l) (.slice ja nk fT) (.slice nE lq pV) (.slice sO mg nX):=⟨hfin⟩
       obtain⟨y0,y1,y2,y3⟩:=c4.cs
       clear HW X0 K0 S0 O1 O2 O3 k1 X1 K1 hfin)
    | (go_at_call 180
       (with_reducible refine (HP.out _ _ _ _ _ _ _ _ _ _ V1).mono ?_)
       rintro e v2 ⟨rfl,k2⟩
       have K3:=K2.trans k2
       have V2:=V1.kept k2
       obtain⟨a0,a1,a2,a3⟩:=(c4.kept k2).cs
       clear HP K2 c4 V1 g0 f0 g1 f1 g2 f2 g3 f3 y0 y1 y2 y3 k2))
  go_ret2;exact⟨_,_,_,_,_,_,_,_,_,rfl,C4.alloc v2 121 _ _ _ _,V2.kept ((Kept.refl v2).alloc _),K3.trans ((Kept.refl v2).alloc _)⟩
theorem Kw(h:NV w true kp nk kc vp nv vc ip ni ic x)(g:Good x)(hbig:237<x.put.length):
 Calls Tryz.prog 182 #[.agg #[.bool true,.slice kp nk kc,.slice vp nv vc,.slice ip ni ic]] w fun e w'=>∃ (g m:Nat) (key:ByteArray) (gH:Option Addr) (aV gI:Nat) (jd:Option Addr) (eH je:Nat) (iM:Option Addr) (dG iN:Nat) (gm:Option Addr) (aT gq:Nat) (iX:Option Addr) (eG iY:Nat) (iG:Option Addr) (dC iH:Nat),e=.returned (.tuple #[.slice (some ⟨g,0,none⟩) 2 2,.string key])/\x.ks[m]? = some key/\Mid x 0 m/\w'.heap[g]? = some (.cells #[.bool true,.slice gH aV gI,.slice jd eH je,.slice iM dG iN,.bool true,.slice gm aT gq,.slice iX eG iY,.slice iG dC iH] 121)/\NZ w' true gH aV gI jd eH je iM dG iN (x.fst m)/\NZ w' true gm aT gq iX eG iY iG dC iH (x.snd m)/\Kept w w':=by
  have pW:3<=nk:=by have:=nZ g hbig;have:=h.nk;omega
  have hn2:¬ (nk:Int)<2:=by omega
  have hf:nk<=120:=by have:=g.few;have:=h.nk;omega
  have HW:Hid (∀ W,Kept w W->Calls Tryz.prog 144 #[.agg #[.bool true,.slice kp nk kc,.slice vp nv vc,.slice ip ni ic]] W fun e w'=>∃ kp' aY bO wD eO kY wE kZ,e=.returned (.agg #[.bool true,.slice kp' nk aY,.slice bO wD eO,.slice kY wE kZ])/\Own w' W.heap.size 9 1 kp' nk aY (dA x.ks)/\Own w' W.heap.size 77 3 bO wD eO (dQ x.vs)/\Own w' W.heap.size 3 1 kY wE kZ (aO x.is)/\Kept W w'):=fun W hW=>gz (h.kept hW) g
  have HLF:Hid (x.leaf=true):=h.hl;have HKL:Hid (x.ks.length=nk):=h.nk;have G:Hid _:=g;have HP:Hid (∀ (W:World) (kp:Option Addr) (nk kc:Nat) (vp:Option Addr) (nv vc:Nat) (ip:Option Addr) (ni ic:Nat),NV W true kp nk kc vp nv vc ip ni ic x->Calls Tryz.prog 180 #[.agg #[.bool true,.slice kp nk kc,.slice vp nv vc,.slice ip ni ic]] W fun e w'=>e=.returned (.string (bs x.put))/\Kept W w'):=fun W kp nk kc vp nv vc ip ni ic h=>fB h g
  have HMI:Hid (∀ (W:World) (kp:Option Addr) (kc:Nat) (vp:Option Addr) (nv vc:Nat) (ip:Option Addr) (ni ic:Nat),NV W true kp nk kc vp nv vc ip ni ic x->Calls Tryz.prog 220 #[.agg #[.bool true,.slice kp nk kc,.slice vp nv vc,.slice ip ni ic]] W fun e w'=>∃ m:Nat,e=.returned (.int .i64 (m:Nat))/\Mid x 0 m/\Kept W w'):=fun W kp kc vp nv vc ip ni ic h=>wF h g (by omega)
  have K0:Kept w (w.alloc (.cells #[.bool true,.slice kp nk kc,.slice vp nv vc,.slice ip ni ic] 121)):=(Kept.refl w).alloc _;have X0:=C4.alloc w 121 (.bool true) (.slice kp nk kc) (.slice vp nv vc) (.slice ip ni ic);have S0:=size_alloc w (.cells #[.bool true,.slice kp nk kc,.slice vp nv vc,.slice ip ni ic] 121);have hz:=au x.put;rw[<- hz]at hbig;generalize bs x.put=s at *;have hs2:¬ (s.size:Int)<=237:=by omega
  clear h g hz;go_enter Tryz.func182,Tryz.ntmps182;go_wp2_with (first
    | (go_at_call 144
       (with_reducible refine (HW.out _ K0).mono ?_)
       rintro e v1 ⟨ja,fT,nE,lq,pV,sO,mg,nX,rfl,O1,O2,O3,k1⟩
       have X1:=X0.kept k1
       have K1:=K0.trans k1
       rw[S0]at O1 O2 O3
       obtain⟨⟨g0,f0⟩,⟨g1,f1⟩,⟨g2,f2⟩,⟨g3,f3⟩,hfin⟩:=aD X1.out (.bool true) (.slice ja nk fT) (.slice nE lq pV) (.slice sO mg nX)
       have V1:NV _ true ja nk fT nE lq pV sO mg nX x:=(NV.of HLF.out (O1.bS (aaK _) (.bool true) (.slice ja nk fT) (.slice nE lq pV) (.slice sO mg nX)) (O2.bS (aaK _) _ _ _ _) (O3.bS (aaK _) _ _ _ _))
       have K2:=K1.bS (aac _) (.bool true) (.slice ja nk fT) (.slice nE lq pV) (.slice sO mg nX)
       have c4:C4 _ w.heap.size 121 (.bool true) (.slice ja nk fT) (.slice nE lq pV) (.slice sO mg nX):=⟨hfin⟩
       obtain⟨y0,y1,y2,y3⟩:=c4.cs
       clear HW X0 K0 S0 O1 O2 O3 k1 X1 K1 hfin)
    | (go_at_call 180
       (with_reducible refine (HP.out _ _ _ _ _ _ _ _ _ _ V1).mono ?_)
       rintro e v2 ⟨rfl,k2⟩
       have K3:=K2.trans k2
       have V2:=V1.kept k2
       have d4:=c4.kept k2
       obtain⟨a0,a1,a2,a3⟩:=d4.cs
       clear HP K2 c4 V1 g0 f0 g1 f1 g2 f2 g3 f3 y0 y1 y2 y3 k2)
    | (go_at_call 220
       (with_reducible refine (HMI.out _ _ _ _ _ _ _ _ _ V2).mono ?_)
       rintro e v3 ⟨m,rfl,Vk,k3⟩
       have HM:Hid (Mid x 0 m):=Vk
       have hm:m<nk:=(by have:=Vk.lt;have:=HKL.out;omega)
       have hm':(m:Int)<(nk:Int):=(by omega)
       have K4:=K3.trans k3
       have V3:=V2.kept k3
       have e4:=d4.kept k3
       obtain⟨kb,ko,rfl,hkc⟩:=V3.k.some (by omega)
       obtain⟨key,Vm⟩:∃ key,x.ks[m]? = some key:=⟨_,aae (by have:=HKL.out;omega)⟩
       have HKY:Hid (x.ks[m]? = some key):=Vm
       have ck:=hkc m _ (vE Vm)
       have HKC:Hid (∀ j u,(dA x.ks)[j]? = some u->v3.cell? ⟨kb,ko+j,none⟩=some u):=hkc
       obtain⟨z0,z1,z2,z3⟩:=e4.cs
       clear HMI K3 V2 d4 a0 a1 a2 a3 k3 Vk hkc Vm))
  have hv2:=(G.out.lv HLF.out).1;obtain rfl:lq=nk:=by rw[<- V3.nv,hv2,HKL.out]
  obtain⟨vb,vo,rfl,Cm⟩:=V3.v.some (by omega);have HVC:Hid (∀ j u,(dQ x.vs)[j]? = some u->v3.cell? ⟨vb,vo+j,none⟩=some u):=Cm;have hkl:=V3.k.le;have hvl:=V3.v.le;have q1:(m:Int)<=(fT:Int):=by omega
  have q2:(m:Int)<=(pV:Int):=by omega
  have q3:(m:Int)<=(lq:Int):=by omega
  have q4:(lq:Int)<=(fT:Int):=by omega
  have q5:(lq:Int)<=(pV:Int):=by omega
  have q6:(0:Int)<=(m:Int):=by omega
  have HCA:Hid (∀ W,Kept v3 W->Calls Tryz.prog 148 #[.agg #[.bool true,.slice (some ⟨kb,ko,none⟩) m fT,.slice (some ⟨vb,vo,none⟩) m pV,.slice none 0 0]] W fun e w'=>∃ kp' aY bO eO kY kZ,e=.returned (.agg #[.bool true,.slice kp' m aY,.slice bO m eO,.slice kY 0 kZ])/\Own w' W.heap.size 9 1 kp' m aY (dA (x.ks.take m))/\Own w' W.heap.size 77 3 bO m eO (dQ (x.vs.take m))/\Own w' W.heap.size 3 1 kY 0 kZ (aO [])/\Kept W w'):=fun W hW=>by
    have r1:=(hW.rw V3.k).take m (by omega);have r2:=(hW.rw V3.v).take m (by omega);rw[<- uD]at r1;rw[yu]at r2;exact gW r1 r2 ⟨rfl,aac _,aag _,.inl ⟨rfl,rfl⟩⟩ (eQ _) (fQ _) (lg _) (by omega) (by omega) (by omega)
  have HCB:Hid (∀ W,Kept v3 W->Calls Tryz.prog 148 #[.agg #[.bool true,.slice (some ⟨kb,ko+m,none⟩) (lq-m) (fT-m),.slice (some ⟨vb,vo+m*3,none⟩) (lq-m) (pV-m),.slice none 0 0]] W fun e w'=>∃ kp' aY bO eO kY kZ,e=.returned (.agg #[.bool true,.slice kp' (lq-m) aY,.slice bO (lq-m) eO,.slice kY 0 kZ])/\Own w' W.heap.size 9 1 kp' (lq-m) aY (dA (x.ks.drop m))/\Own w' W.heap.size 77 3 bO (lq-m) eO (dQ (x.vs.drop m))/\Own w' W.heap.size 3 1 kY 0 kZ (aO [])/\Kept W w'):=fun W hW=>by
    have r1:=qN (fun j u hj=>hW.cell (HKC.out j u hj)) V3.k.len V3.k.le V3.k.cap m (by omega);have r2:=qN (fun j u hj=>hW.cell (HVC.out j u hj)) V3.v.len V3.v.le V3.v.cap m (by omega);rw[<- uE,aay]at r1;rw[yw]at r2;exact gW r1 r2 ⟨rfl,aac _,aag _,.inl ⟨rfl,rfl⟩⟩ (eQ _) (fQ _) (lg _) (by omega) (by omega) (by omega)
  have KD:Kept v3 v3.drew:=(Kept.refl v3).drew;have HSA:Hid (∀ W,Kept v3 W->W.cell? ⟨w.heap.size,1,none⟩=some (.slice (some ⟨kb,ko,none⟩) lq fT)/\W.cell? ⟨w.heap.size,2,none⟩=some (.slice (some ⟨vb,vo,none⟩) lq pV)):=by
    intro W hW;exact⟨(e4.kept hW).cs.2.1,(e4.kept hW).cs.2.2.1⟩
  clear Cm z0 z1 z2 z3 ck e4 V3 hkl hvl hm hv2;go_region_held3 (fun W=>W.cell? ⟨w.heap.size,1,none⟩=some (.slice (some ⟨kb,ko,none⟩) lq fT)/\W.cell? ⟨w.heap.size,2,none⟩=some (.slice (some ⟨vb,vo,none⟩) lq pV)) (exact HSA.out _ (by first | assumption | exact Kept.alloc (by assumption) _)) (first
    | (go_at_call 148
       (with_reducible refine (HCA.out _ KD).mono ?_)
       rintro e v4 ⟨gH,gI,jd,je,iM,iN,rfl,A1,A2,A3,k4⟩
       have J1:=KD.trans k4
       clear HCA)
    | (go_at_call 148
       (with_reducible refine (HCB.out _ J1).mono ?_)
       rintro e v5 ⟨gm,gq,iX,iY,iG,iH,rfl,B1,B2,B3,k5⟩
       have J2:=J1.trans k5
       clear J1))
  go_wp2;go_ret2;have e1:x.fst m=⟨true,x.ks.take m,x.vs.take m,[]⟩:=by unfold Nd.fst;rw[aao HLF.out]
  have e2:x.snd m=⟨true,x.ks.drop m,x.vs.drop m,[]⟩:=by unfold Nd.snd;rw[aao HLF.out]
  have kA:=k5.alloc (.cells #[.bool true,.slice gH m gI,.slice jd m je,.slice iM 0 iN,.bool true,.slice gm (lq-m) gq,.slice iX (lq-m) iY,.slice iG 0 iH] 121);have kB:=(Kept.refl v5).alloc (.cells #[.bool true,.slice gH m gI,.slice jd m je,.slice iM 0 iN,.bool true,.slice gm (lq-m) gq,.slice iX (lq-m) iY,.slice iG 0 iH] 121);exact⟨_,m,key,_,_,_,_,_,_,_,_,_,_,_,_,_,_,_,_,_,_,rfl,HKY.out,HM.out,heap_alloc_new v5 _,(by rw[e1];exact⟨(NV.of rfl (A1.kept kA) (A2.kept kA) (A3.kept kA)),A1.z,A2.z,A3.z⟩),(by rw[e2];exact⟨(NV.of rfl (B1.kept kB) (B2.kept kB) (B3.kept kB)),B1.z,B2.z,B3.z⟩),K4.trans (J2.trans kB)⟩
theorem _root_.Go.Proofs.YtifeihnhkbagpaaGreatDoor.tkk{P:Program}{ops:Array Oper}{Q:Exit->Act->World->Prop}{md:Region.Mode}{S:World->Prop}{v:Value}{fuel:Nat}{listed:Array Bool}{a:Act}{w:World}(i:Nat)(oi:Oper)(hy:∀ w,S w->(execOp a.eval oi).run P w=.ok (.value v) w)(h:wpAnyH P md ops Q S fuel (listed.setIfInBounds i true) (a.put oi.dst v) w)(hi:ops[i]? = some oi:=by exact rfl)(hs:Region.noSelect ops=true:=by kernel_rfl)(hf:Region.free md ops listed i=true:=by kernel_rfl)(hr:(Region.ready md ops listed).contains i=true:=by kernel_rfl)(hQ:∀ c a w,Q (.panic c) (a.put oi.dst v) w->Q (.panic c) a w:=by exact fun _ _ _ h=>h)(hw:Region.wanted oi (yielded ops a.tmps)=true:=by rfl)(hS:S w:=by assumption):wpAnyH P md ops Q S (fuel+1) listed a w:=wpAnyH_take hi hs hf hr hQ (Or.inl ⟨hw,hy⟩) hS h
theorem _root_.Go.Proofs.YtifeihnhkbagpaaGreatDoor.rdk{P:Program}{ops:Array Oper}{Q:Exit->Act->World->Prop}{md:Region.Mode}{S:World->Prop}{fuel:Nat}{listed:Array Bool}{a:Act}{w:World}(rs:List Nat)(h:AllReadyH P md ops Q S fuel listed a w rs)(hr:Region.ready md ops listed=rs:=by kernel_rfl)(hn:rs≠[]:=by simp):wpAnyH P md ops Q S (fuel+1) listed a w:=wpAnyH_ready hr hn h
theorem FI(h:NV w false kp nk kc vp nv vc ip ni ic x)(g:Good x)(hbig:237<x.put.length):
 Calls Tryz.prog 182 #[.agg #[.bool false,.slice kp nk kc,.slice vp nv vc,.slice ip ni ic]] w fun e w'=>∃ (g m:Nat) (key:ByteArray) (gH:Option Addr) (aV gI:Nat) (jd:Option Addr) (eH je:Nat) (iM:Option Addr) (dG iN:Nat) (gm:Option Addr) (aT gq:Nat) (iX:Option Addr) (eG iY:Nat) (iG:Option Addr) (dC iH:Nat),e=.returned (.tuple #[.slice (some ⟨g,0,none⟩) 2 2,.string key])/\x.ks[m]? = some key/\Mid x 0 m/\w'.heap[g]? = some (.cells #[.bool false,.slice gH aV gI,.slice jd eH je,.slice iM dG iN,.bool false,.slice gm aT gq,.slice iX eG iY,.slice iG dC iH] 121)/\NZ w' false gH aV gI jd eH je iM dG iN (x.fst m)/\NZ w' false gm aT gq iX eG iY iG dC iH (x.snd m)/\Kept w w':=by
  have pW:3<=nk:=by have:=nZ g hbig;have:=h.nk;omega
  have hn2:¬ (nk:Int)<2:=by omega
  have hf:nk<=120:=by have:=g.few;have:=h.nk;omega
  have HW:Hid (∀ W,Kept w W->Calls Tryz.prog 144 #[.agg #[.bool false,.slice kp nk kc,.slice vp nv vc,.slice ip ni ic]] W fun e w'=>∃ kp' aY bO wD eO kY wE kZ,e=.returned (.agg #[.bool false,.slice kp' nk aY,.slice bO wD eO,.slice kY wE kZ])/\Own w' W.heap.size 9 1 kp' nk aY (dA x.ks)/\Own w' W.heap.size 77 3 bO wD eO (dQ x.vs)/\Own w' W.heap.size 3 1 kY wE kZ (aO x.is)/\Kept W w'):=fun W hW=>gz (h.kept hW) g
  have HLF:Hid (x.leaf=false):=h.hl;have HKL:Hid (x.ks.length=nk):=h.nk;have G:Hid _:=g;have HP:Hid (∀ (W:World) (kp:Option Addr) (nk kc:Nat) (vp:Option Addr) (nv vc:Nat) (ip:Option Addr) (ni ic:Nat),NV W false kp nk kc vp nv vc ip ni ic x->Calls Tryz.prog 180 #[.agg #[.bool false,.slice kp nk kc,.slice vp nv vc,.slice ip ni ic]] W fun e w'=>e=.returned (.string (bs x.put))/\Kept W w'):=fun W kp nk kc vp nv vc ip ni ic h=>fB h g
  have HMI:Hid (∀ (W:World) (kp:Option Addr) (kc:Nat) (vp:Option Addr) (nv vc:Nat) (ip:Option Addr) (ni ic:Nat),NV W false kp nk kc vp nv vc ip ni ic x->Calls Tryz.prog 220 #[.agg #[.bool false,.slice kp nk kc,.slice vp nv vc,.slice ip ni ic]] W fun e w'=>∃ m:Nat,e=.returned (.int .i64 (m:Nat))/\Mid x 0 m/\Kept W w'):=fun W kp kc vp nv vc ip ni ic h=>wF h g (by omega)
  have K0:Kept w (w.alloc (.cells #[.bool false,.slice kp nk kc,.slice vp nv vc,.slice ip ni ic] 121)):=(Kept.refl w).alloc _;have X0:=C4.alloc w 121 (.bool false) (.slice kp nk kc) (.slice vp nv vc) (.slice ip ni ic);have S0:=size_alloc w (.cells #[.bool false,.slice kp nk kc,.slice vp nv vc,.slice ip ni ic] 121);have hz:=au x.put;rw[<- hz]at hbig;generalize bs x.put=s at *;have hs2:¬ (s.size:Int)<=237:=by omega
  clear h g hz;go_enter Tryz.func182,Tryz.ntmps182;go_wp2_with (first
    | (go_at_call 144
       (with_reducible refine (HW.out _ K0).mono ?_)
       rintro e v1 ⟨ja,fT,nE,lq,pV,sO,mg,nX,rfl,O1,O2,O3,k1⟩
       have X1:=X0.kept k1
       have K1:=K0.trans k1
       rw[S0]at O1 O2 O3
       obtain⟨⟨g0,f0⟩,⟨g1,f1⟩,⟨g2,f2⟩,⟨g3,f3⟩,hfin⟩:=aD X1.out (.bool false) (.slice ja nk fT) (.slice nE lq pV) (.slice sO mg nX)
       have V1:NV _ false ja nk fT nE lq pV sO mg nX x:=(NV.of HLF.out (O1.bS (aaK _) (.bool false) (.slice ja nk fT) (.slice nE lq pV) (.slice sO mg nX)) (O2.bS (aaK _) _ _ _ _) (O3.bS (aaK _) _ _ _ _))
       have K2:=K1.bS (aac _) (.bool false) (.slice ja nk fT) (.slice nE lq pV) (.slice sO mg nX)
       have c4:C4 _ w.heap.size 121 (.bool false) (.slice ja nk fT) (.slice nE lq pV) (.slice sO mg nX):=⟨hfin⟩
       obtain⟨y0,y1,y2,y3⟩:=c4.cs
       clear HW X0 K0 S0 O1 O2 O3 k1 X1 K1 hfin)
    | (go_at_call 180
       (with_reducible refine (HP.out _ _ _ _ _ _ _ _ _ _ V1).mono ?_)
       rintro e v2 ⟨rfl,k2⟩
       have K3:=K2.trans k2
       have V2:=V1.kept k2
       have d4:=c4.kept k2
       obtain⟨a0,a1,a2,a3⟩:=d4.cs
       clear HP K2 c4 V1 g0 f0 g1 f1 g2 f2 g3 f3 y0 y1 y2 y3 k2)
    | (go_at_call 220
       (with_reducible refine (HMI.out _ _ _ _ _ _ _ _ _ V2).mono ?_)
       rintro e v3 ⟨m,rfl,Vk,k3⟩
       have HM:Hid (Mid x 0 m):=Vk
       have hm:m<nk:=(by have:=Vk.lt;have:=HKL.out;omega)
       have hm':(m:Int)<(nk:Int):=(by omega)
       have K4:=K3.trans k3
       have V3:=V2.kept k3
       have e4:=d4.kept k3
       obtain⟨kb,ko,rfl,hkc⟩:=V3.k.some (by omega)
       obtain⟨key,Vm⟩:∃ key,x.ks[m]? = some key:=⟨_,aae (by have:=HKL.out;omega)⟩
       have HKY:Hid (x.ks[m]? = some key):=Vm
       have ck:=hkc m _ (vE Vm)
       have HKC:Hid (∀ j u,(dA x.ks)[j]? = some u->v3.cell? ⟨kb,ko+j,none⟩=some u):=hkc
       obtain⟨z0,z1,z2,z3⟩:=e4.cs
       clear HMI K3 V2 d4 a0 a1 a2 a3 k3 Vk hkc Vm))
  have hv2:=(G.out.li HLF.out).1;have hni:mg=nk+1:=by rw[<- V3.ni,hv2,HKL.out]
  obtain⟨ib,io,rfl,Cm⟩:=V3.i.some (by omega);have HVC:Hid (∀ j u,(aO x.is)[j]? = some u->v3.cell? ⟨ib,io+j,none⟩=some u):=Cm;have hkl:=V3.k.le;have hvl:=V3.i.le;have q1:(m:Int)<=(fT:Int):=by omega
  have q1b:(m:Int)+1<=(fT:Int):=by omega
  have q2:(m:Int)+1<=(nX:Int):=by omega
  have q3:(m:Int)+1<=(nk:Int):=by omega
  have q4:(nk:Int)<=(fT:Int):=by omega
  have q5:(mg:Int)<=(nX:Int):=by omega
  have q7:(m:Int)+1<=(mg:Int):=by omega
  have q11:(m:Int)<(nk:Int):=by omega
  have q8:(0:Int)<=(m:Int)+1:=by omega
  have q9:IntKind.i64.wrap ((m:Int)+1)=(m:Int)+1:=by rw[IntKind.wrap_i64];omega
  have hi1:¬ nX=m+1:=by omega
  have q10:((m:Int)+1).toNat=m+1:=by omega
  have q6:(0:Int)<=(m:Int):=by omega
  have HCA:Hid (∀ W,Kept v3 W->Calls Tryz.prog 148 #[.agg #[.bool false,.slice (some ⟨kb,ko,none⟩) m fT,.slice none 0 0,.slice (some ⟨ib,io,none⟩) (m+1) nX]] W fun e w'=>∃ kp' aY bO eO kY kZ,e=.returned (.agg #[.bool false,.slice kp' m aY,.slice bO 0 eO,.slice kY (m+1) kZ])/\Own w' W.heap.size 9 1 kp' m aY (dA (x.ks.take m))/\Own w' W.heap.size 77 3 bO 0 eO (dQ [])/\Own w' W.heap.size 3 1 kY (m+1) kZ (aO (x.is.take (m+1)))/\Kept W w'):=fun W hW=>by
    have r1:=(hW.rw V3.k).take m (by omega);have r2:=(hW.rw V3.i).take (m+1) (by omega);rw[<- uD]at r1;rw[<- yD]at r2;exact gW r1 ⟨rfl,aac _,aag _,.inl ⟨rfl,rfl⟩⟩ r2 (eQ _) (fQ _) (lg _) (by omega) (by omega) (by omega)
  by_cases hk1:fT=m+1
  · subst hk1
    have q12:(m:Int)<=(m:Int)+1:=by omega
    have HCB:Hid (∀ W,Kept v3 W->Calls Tryz.prog 148 #[.agg #[.bool false,.slice (some ⟨kb,ko,none⟩) (nk-(m+1)) 0,.slice none 0 0,.slice (some ⟨ib,io+(m+1),none⟩) (mg-(m+1)) (nX-(m+1))]] W fun e w'=>∃ kp' aY bO eO kY kZ,e=.returned (.agg #[.bool false,.slice kp' (nk-(m+1)) aY,.slice bO 0 eO,.slice kY (mg-(m+1)) kZ])/\Own w' W.heap.size 9 1 kp' (nk-(m+1)) aY (dA (x.ks.drop (m+1)))/\Own w' W.heap.size 77 3 bO 0 eO (dQ [])/\Own w' W.heap.size 3 1 kY (mg-(m+1)) kZ (aO (x.is.drop (m+1)))/\Kept W w'):=fun W hW=>by
      have r1:Rw W 1 (some ⟨kb,ko,none⟩) (nk-(m+1)) 0 (dA (x.ks.drop (m+1))):=⟨by rw[iK,aaw,HKL.out,aay],by omega,aag _,.inr ⟨kb,ko,rfl,fun j u hj=>by rw[aaO (by rw[HKL.out];omega)]at hj;simp[dA]at hj⟩⟩;have r2:=qN (fun j u hj=>hW.cell (HVC.out j u hj)) V3.i.len V3.i.le V3.i.cap (m+1) (by omega);rw[<- uF,aay]at r2;exact gW r1 ⟨rfl,aac _,aag _,.inl ⟨rfl,rfl⟩⟩ r2 (eQ _) (fQ _) (lg _) (by omega) (by omega) (by omega)
    have KD:Kept v3 v3.drew:=(Kept.refl v3).drew;have HSA:Hid (∀ W,Kept v3 W->W.cell? ⟨w.heap.size,1,none⟩=some (.slice (some ⟨kb,ko,none⟩) nk (m+1))/\W.cell? ⟨w.heap.size,3,none⟩=some (.slice (some ⟨ib,io,none⟩) mg nX)):=by
      intro W hW;exact⟨(e4.kept hW).cs.2.1,(e4.kept hW).cs.2.2.2⟩
    clear Cm z0 z1 z2 z3 ck e4 V3 hkl hvl hm hni hv2;refine wp_region_held_drew (S:=(fun W=>W.cell? ⟨w.heap.size,1,none⟩=some (.slice (some ⟨kb,ko,none⟩) nk (m+1))/\W.cell? ⟨w.heap.size,3,none⟩=some (.slice (some ⟨ib,io,none⟩) mg nX))) (by kernel_rfl) ?_ fun _=>?_
    · exact HSA.out _ KD
    refine tkk (v:=?_) 0 Ir ?_ ?_;rotate_left
    · intro w hSw
      (try dsimp only at hSw);go_simp;all_goals with_reducible rfl
    try simp only[Act.put,bT,bU,bV]
    refine tkk (v:=?_) 1 Ip ?_ ?_;rotate_left
    · intro w hSw
      (try dsimp only at hSw);go_simp;all_goals with_reducible rfl
    try simp only[Act.put,bT,bU,bV]
    refine tkk (v:=?_) 2 Iz ?_ ?_;rotate_left
    · intro w hSw
      (try dsimp only at hSw);go_simp;all_goals with_reducible rfl
    try simp only[Act.put,bT,bU,bV]
    refine tkk (v:=?_) 3 NH ?_ ?_;rotate_left
    · intro w hSw
      (try dsimp only at hSw);go_simp;all_goals with_reducible rfl
    try simp only[Act.put,bT,bU,bV]
    refine tkk (v:=?_) 4 Iu ?_ ?_;rotate_left
    · intro w hSw
      (try dsimp only at hSw);go_simp;all_goals with_reducible rfl
    try simp only[Act.put,bT,bU,bV]
    refine tkk (v:=?_) 5 Iq ?_ ?_;rotate_left
    · intro w hSw
      (try dsimp only at hSw);go_simp;all_goals with_reducible rfl
    try simp only[Act.put,bT,bU,bV]
    refine tkk (v:=?_) 6 IA ?_ ?_;rotate_left
    · intro w hSw
      (try dsimp only at hSw);go_simp;all_goals with_reducible rfl
    try simp only[Act.put,bT,bU,bV]
    refine tkk (v:=?_) 7 Ik ?_ ?_;rotate_left
    · intro w hSw
      (try dsimp only at hSw);go_simp;all_goals with_reducible rfl
    try simp only[Act.put,bT,bU,bV]
    refine tkk (v:=?_) 8 NI ?_ ?_;rotate_left
    · intro w hSw
      (try dsimp only at hSw);go_simp;all_goals with_reducible rfl
    try simp only[Act.put,bT,bU,bV]
    refine tkk (v:=?_) 9 Ih ?_ ?_;rotate_left
    · intro w hSw
      (try dsimp only at hSw);go_simp;all_goals with_reducible rfl
    try simp only[Act.put,bT,bU,bV]
    refine tkk (v:=?_) 11 Iw ?_ ?_;rotate_left
    · intro w hSw
      (try dsimp only at hSw);go_simp;all_goals with_reducible rfl
    try simp only[Act.put,bT,bU,bV]
    refine tkk (v:=?_) 12 Im ?_ ?_;rotate_left
    · intro w hSw
      (try dsimp only at hSw);go_simp;all_goals with_reducible rfl
    try simp only[Act.put,bT,bU,bV]
    refine tkk (v:=?_) 13 IB ?_ ?_;rotate_left
    · intro w hSw
      (try dsimp only at hSw);go_simp;all_goals with_reducible rfl
    try simp only[Act.put,bT,bU,bV]
    refine tkk (v:=?_) 14 Ii ?_ ?_;rotate_left
    · intro w hSw
      (try dsimp only at hSw);go_simp;all_goals with_reducible rfl
    try simp only[Act.put,bT,bU,bV]
    refine tkk (v:=?_) 15 ND ?_ ?_;rotate_left
    · intro w hSw
      (try dsimp only at hSw);go_simp;all_goals with_reducible rfl
    try simp only[Act.put,bT,bU,bV]
    refine tkk (v:=?_) 16 Iy ?_ ?_;rotate_left
    · intro w hSw
      (try dsimp only at hSw);go_simp;all_goals with_reducible rfl
    try simp only[Act.put,bT,bU,bV]
    refine tkk (v:=?_) 17 Io ?_ ?_;rotate_left
    · intro w hSw
      (try dsimp only at hSw);go_simp;all_goals with_reducible rfl
    try simp only[Act.put,bT,bU,bV]
    refine tkk (v:=?_) 18 IE ?_ ?_;rotate_left
    · intro w hSw
      (try dsimp only at hSw);go_simp;all_goals with_reducible rfl
    try simp only[Act.put,bT,bU,bV]
    refine tkk (v:=?_) 19 Ij ?_ ?_;rotate_left
    · intro w hSw
      (try dsimp only at hSw);go_simp;all_goals with_reducible rfl
    try simp only[Act.put,bT,bU,bV]
    refine tkk (v:=?_) 20 NG ?_ ?_;rotate_left
    · intro w hSw
      (try dsimp only at hSw);go_simp;all_goals with_reducible rfl
    try simp only[Act.put,bT,bU,bV]
    refine tkk (v:=?_) 21 NJ ?_ ?_;rotate_left
    · intro w hSw
      (try dsimp only at hSw);go_simp;all_goals with_reducible rfl
    try simp only[Act.put,bT,bU,bV]
    refine tkk (v:=?_) 24 Il ?_ ?_;rotate_left
    · intro w hSw
      (try dsimp only at hSw);go_simp;all_goals with_reducible rfl
    try simp only[Act.put,bT,bU,bV]
    refine rdk [10] ?_;refine AllReadyH.cons (o:=NC) rfl (fun KK ai=>?_) ?_
    ·
      go_simp
      go_at_call 148
      (with_reducible refine (HCA.out _ KD).mono ?_)
      rintro e v4 ⟨gH,gI,jd,je,iM,iN,rfl,A1,A2,A3,k4⟩
      have J1:=KD.trans k4
      clear HCA
      go_wp2_with fail
      refine ai.out _ _ ?_ fun _=>?_
      · (try dsimp only)
        exact HSA.out _ (by first | assumption | exact Kept.alloc (by assumption) _)
      clear ai KK
      try simp only[Act.put,bT,bU,bV]
      refine rdk [22] ?_
      refine AllReadyH.cons (o:=Nz) rfl (fun KK ai=>?_) ?_
      ·
        go_simp
        go_at_call 148
        (with_reducible refine (HCB.out _ J1).mono ?_)
        rintro e v5 ⟨gm,gq,iX,iY,iG,iH,rfl,B1,B2,B3,k5⟩
        have J2:=J1.trans k5
        clear J1
        go_wp2_with fail
        refine ai.out _ _ ?_ fun _=>?_
        · (try dsimp only)
          exact HSA.out _ (by first | assumption | exact Kept.alloc (by assumption) _)
        clear ai KK
        try simp only[Act.put,bT,bU,bV]
        refine rdk [23] ?_
        refine AllReadyH.cons (o:=NB) rfl (fun KK ai=>?_) ?_
        ·
          go_simp
          refine ai.out _ _ ?_ fun _=>?_
          · (try dsimp only)
            exact HSA.out _ (by first | assumption | exact Kept.alloc (by assumption) _)
          clear ai KK
          try simp only[Act.put,bT,bU,bV]
          refine tkk (v:=?_) 25 Ny ?_ ?_
          rotate_left
          · intro w hSw
            (try dsimp only at hSw);go_simp;all_goals with_reducible rfl
          try simp only[Act.put,bT,bU,bV]
          refine tkk (v:=?_) 26 Nv ?_ ?_
          rotate_left
          · intro w hSw
            (try dsimp only at hSw);go_simp;all_goals with_reducible rfl
          try simp only[Act.put,bT,bU,bV]
          refine wpAnyH_done (by kernel_rfl) ?_ _
          go_wp2
          go_ret2
          have e1:x.fst m=⟨false,x.ks.take m,[],x.is.take (m+1)⟩:=by unfold Nd.fst;rw[aai (by rw[HLF.out];decide)]
          have e2:x.snd m=⟨false,x.ks.drop (m+1),[],x.is.drop (m+1)⟩:=by unfold Nd.snd;rw[aai (by rw[HLF.out];decide)]
          have kA:=k5.alloc (.cells #[.bool false,.slice gH m gI,.slice jd 0 je,.slice iM (m+1) iN,.bool false,.slice gm (nk-(m+1)) gq,.slice iX 0 iY,.slice iG (mg-(m+1)) iH] 121)
          have kB:=(Kept.refl v5).alloc (.cells #[.bool false,.slice gH m gI,.slice jd 0 je,.slice iM (m+1) iN,.bool false,.slice gm (nk-(m+1)) gq,.slice iX 0 iY,.slice iG (mg-(m+1)) iH] 121)
          exact⟨_,m,key,_,_,_,_,_,_,_,_,_,_,_,_,_,_,_,_,_,_,rfl,HKY.out,HM.out,heap_alloc_new v5 _,(by rw[e1];exact⟨(NV.of rfl (A1.kept kA) (A2.kept kA) (A3.kept kA)),A1.z,A2.z,A3.z⟩),(by rw[e2];exact⟨(NV.of rfl (B1.kept kB) (B2.kept kB) (B3.kept kB)),B1.z,B2.z,B3.z⟩),K4.trans (J2.trans kB)⟩
        exact AllReadyH.nil
      exact AllReadyH.nil
    exact AllReadyH.nil
  · skip
    have HCB:Hid (∀ W,Kept v3 W->Calls Tryz.prog 148 #[.agg #[.bool false,.slice (some ⟨kb,ko+(m+1),none⟩) (nk-(m+1)) (fT-(m+1)),.slice none 0 0,.slice (some ⟨ib,io+(m+1),none⟩) (mg-(m+1)) (nX-(m+1))]] W fun e w'=>∃ kp' aY bO eO kY kZ,e=.returned (.agg #[.bool false,.slice kp' (nk-(m+1)) aY,.slice bO 0 eO,.slice kY (mg-(m+1)) kZ])/\Own w' W.heap.size 9 1 kp' (nk-(m+1)) aY (dA (x.ks.drop (m+1)))/\Own w' W.heap.size 77 3 bO 0 eO (dQ [])/\Own w' W.heap.size 3 1 kY (mg-(m+1)) kZ (aO (x.is.drop (m+1)))/\Kept W w'):=fun W hW=>by
      have r1:=qN (fun j u hj=>hW.cell (HKC.out j u hj)) V3.k.len V3.k.le V3.k.cap (m+1) (by omega);have r2:=qN (fun j u hj=>hW.cell (HVC.out j u hj)) V3.i.len V3.i.le V3.i.cap (m+1) (by omega);rw[<- uE,aay]at r1;rw[<- uF,aay]at r2;exact gW r1 ⟨rfl,aac _,aag _,.inl ⟨rfl,rfl⟩⟩ r2 (eQ _) (fQ _) (lg _) (by omega) (by omega) (by omega)
    have KD:Kept v3 v3.drew:=(Kept.refl v3).drew;have HSA:Hid (∀ W,Kept v3 W->W.cell? ⟨w.heap.size,1,none⟩=some (.slice (some ⟨kb,ko,none⟩) nk fT)/\W.cell? ⟨w.heap.size,3,none⟩=some (.slice (some ⟨ib,io,none⟩) mg nX)):=by
      intro W hW;exact⟨(e4.kept hW).cs.2.1,(e4.kept hW).cs.2.2.2⟩
    clear Cm z0 z1 z2 z3 ck e4 V3 hkl hvl hm hni hv2;refine wp_region_held_drew (S:=(fun W=>W.cell? ⟨w.heap.size,1,none⟩=some (.slice (some ⟨kb,ko,none⟩) nk fT)/\W.cell? ⟨w.heap.size,3,none⟩=some (.slice (some ⟨ib,io,none⟩) mg nX))) (by kernel_rfl) ?_ fun _=>?_
    · exact HSA.out _ KD
    refine tkk (v:=?_) 0 Ir ?_ ?_;rotate_left
    · intro w hSw
      (try dsimp only at hSw);go_simp;all_goals with_reducible rfl
    try simp only[Act.put,bT,bU,bV]
    refine tkk (v:=?_) 1 Ip ?_ ?_;rotate_left
    · intro w hSw
      (try dsimp only at hSw);go_simp;all_goals with_reducible rfl
    try simp only[Act.put,bT,bU,bV]
    refine tkk (v:=?_) 2 Iz ?_ ?_;rotate_left
    · intro w hSw
      (try dsimp only at hSw);go_simp;all_goals with_reducible rfl
    try simp only[Act.put,bT,bU,bV]
    refine tkk (v:=?_) 3 NH ?_ ?_;rotate_left
    · intro w hSw
      (try dsimp only at hSw);go_simp;all_goals with_reducible rfl
    try simp only[Act.put,bT,bU,bV]
    refine tkk (v:=?_) 4 Iu ?_ ?_;rotate_left
    · intro w hSw
      (try dsimp only at hSw);go_simp;all_goals with_reducible rfl
    try simp only[Act.put,bT,bU,bV]
    refine tkk (v:=?_) 5 Iq ?_ ?_;rotate_left
    · intro w hSw
      (try dsimp only at hSw);go_simp;all_goals with_reducible rfl
    try simp only[Act.put,bT,bU,bV]
    refine tkk (v:=?_) 6 IA ?_ ?_;rotate_left
    · intro w hSw
      (try dsimp only at hSw);go_simp;all_goals with_reducible rfl
    try simp only[Act.put,bT,bU,bV]
    refine tkk (v:=?_) 7 Ik ?_ ?_;rotate_left
    · intro w hSw
      (try dsimp only at hSw);go_simp;all_goals with_reducible rfl
    try simp only[Act.put,bT,bU,bV]
    refine tkk (v:=?_) 8 NI ?_ ?_;rotate_left
    · intro w hSw
      (try dsimp only at hSw);go_simp;all_goals with_reducible rfl
    try simp only[Act.put,bT,bU,bV]
    refine tkk (v:=?_) 9 Ih ?_ ?_;rotate_left
    · intro w hSw
      (try dsimp only at hSw);go_simp;all_goals with_reducible rfl
    try simp only[Act.put,bT,bU,bV]
    refine tkk (v:=?_) 11 Iw ?_ ?_;rotate_left
    · intro w hSw
      (try dsimp only at hSw);go_simp;all_goals with_reducible rfl
    try simp only[Act.put,bT,bU,bV]
    refine tkk (v:=?_) 12 Im ?_ ?_;rotate_left
    · intro w hSw
      (try dsimp only at hSw);go_simp;all_goals with_reducible rfl
    try simp only[Act.put,bT,bU,bV]
    refine tkk (v:=?_) 13 IB ?_ ?_;rotate_left
    · intro w hSw
      (try dsimp only at hSw);go_simp;all_goals with_reducible rfl
    try simp only[Act.put,bT,bU,bV]
    refine tkk (v:=?_) 14 Ii ?_ ?_;rotate_left
    · intro w hSw
      (try dsimp only at hSw);go_simp;all_goals with_reducible rfl
    try simp only[Act.put,bT,bU,bV]
    refine tkk (v:=?_) 15 ND ?_ ?_;rotate_left
    · intro w hSw
      (try dsimp only at hSw);go_simp;all_goals with_reducible rfl
    try simp only[Act.put,bT,bU,bV]
    refine tkk (v:=?_) 16 Iy ?_ ?_;rotate_left
    · intro w hSw
      (try dsimp only at hSw);go_simp;all_goals with_reducible rfl
    try simp only[Act.put,bT,bU,bV]
    refine tkk (v:=?_) 17 Io ?_ ?_;rotate_left
    · intro w hSw
      (try dsimp only at hSw);go_simp;all_goals with_reducible rfl
    try simp only[Act.put,bT,bU,bV]
    refine tkk (v:=?_) 18 IE ?_ ?_;rotate_left
    · intro w hSw
      (try dsimp only at hSw);go_simp;all_goals with_reducible rfl
    try simp only[Act.put,bT,bU,bV]
    refine tkk (v:=?_) 19 Ij ?_ ?_;rotate_left
    · intro w hSw
      (try dsimp only at hSw);go_simp;all_goals with_reducible rfl
    try simp only[Act.put,bT,bU,bV]
    refine tkk (v:=?_) 20 NG ?_ ?_;rotate_left
    · intro w hSw
      (try dsimp only at hSw);go_simp;all_goals with_reducible rfl
    try simp only[Act.put,bT,bU,bV]
    refine tkk (v:=?_) 21 NJ ?_ ?_;rotate_left
    · intro w hSw
      (try dsimp only at hSw);go_simp;all_goals with_reducible rfl
    try simp only[Act.put,bT,bU,bV]
    refine tkk (v:=?_) 24 Il ?_ ?_;rotate_left
    · intro w hSw
      (try dsimp only at hSw);go_simp;all_goals with_reducible rfl
    try simp only[Act.put,bT,bU,bV]
    refine rdk [10] ?_;refine AllReadyH.cons (o:=NC) rfl (fun KK ai=>?_) ?_
    ·
      go_simp
      go_at_call 148
      (with_reducible refine (HCA.out _ KD).mono ?_)
      rintro e v4 ⟨gH,gI,jd,je,iM,iN,rfl,A1,A2,A3,k4⟩
      have J1:=KD.trans k4
      clear HCA
      go_wp2_with fail
      refine ai.out _ _ ?_ fun _=>?_
      · (try dsimp only)
        exact HSA.out _ (by first | assumption | exact Kept.alloc (by assumption) _)
      clear ai KK
      try simp only[Act.put,bT,bU,bV]
      refine rdk [22] ?_
      refine AllReadyH.cons (o:=Nz) rfl (fun KK ai=>?_) ?_
      ·
        go_simp
        go_at_call 148
        (with_reducible refine (HCB.out _ J1).mono ?_)
        rintro e v5 ⟨gm,gq,iX,iY,iG,iH,rfl,B1,B2,B3,k5⟩
        have J2:=J1.trans k5
        clear J1
        go_wp2_with fail
        refine ai.out _ _ ?_ fun _=>?_
        · (try dsimp only)
          exact HSA.out _ (by first | assumption | exact Kept.alloc (by assumption) _)
        clear ai KK
        try simp only[Act.put,bT,bU,bV]
        refine rdk [23] ?_
        refine AllReadyH.cons (o:=NB) rfl (fun KK ai=>?_) ?_
        ·
          go_simp
          refine ai.out _ _ ?_ fun _=>?_
          · (try dsimp only)
            exact HSA.out _ (by first | assumption | exact Kept.alloc (by assumption) _)
          clear ai KK
          try simp only[Act.put,bT,bU,bV]
          refine tkk (v:=?_) 25 Ny ?_ ?_
          rotate_left
          · intro w hSw
            (try dsimp only at hSw);go_simp;all_goals with_reducible rfl
          try simp only[Act.put,bT,bU,bV]
          refine tkk (v:=?_) 26 Nv ?_ ?_
          rotate_left
          · intro w hSw
            (try dsimp only at hSw);go_simp;all_goals with_reducible rfl
          try simp only[Act.put,bT,bU,bV]
          refine wpAnyH_done (by kernel_rfl) ?_ _
          go_wp2
          go_ret2
          have e1:x.fst m=⟨false,x.ks.take m,[],x.is.take (m+1)⟩:=by unfold Nd.fst;rw[aai (by rw[HLF.out];decide)]
          have e2:x.snd m=⟨false,x.ks.drop (m+1),[],x.is.drop (m+1)⟩:=by unfold Nd.snd;rw[aai (by rw[HLF.out];decide)]
          have kA:=k5.alloc (.cells #[.bool false,.slice gH m gI,.slice jd 0 je,.slice iM (m+1) iN,.bool false,.slice gm (nk-(m+1)) gq,.slice iX 0 iY,.slice iG (mg-(m+1)) iH] 121)
          have kB:=(Kept.refl v5).alloc (.cells #[.bool false,.slice gH m gI,.slice jd 0 je,.slice iM (m+1) iN,.bool false,.slice gm (nk-(m+1)) gq,.slice iX 0 iY,.slice iG (mg-(m+1)) iH] 121)
          exact⟨_,m,key,_,_,_,_,_,_,_,_,_,_,_,_,_,_,_,_,_,_,rfl,HKY.out,HM.out,heap_alloc_new v5 _,(by rw[e1];exact⟨(NV.of rfl (A1.kept kA) (A2.kept kA) (A3.kept kA)),A1.z,A2.z,A3.z⟩),(by rw[e2];exact⟨(NV.of rfl (B1.kept kB) (B2.kept kB) (B3.kept kB)),B1.z,B2.z,B3.z⟩),K4.trans (J2.trans kB)⟩
        exact AllReadyH.nil
      exact AllReadyH.nil
    exact AllReadyH.nil
theorem vG(h:NV w l kp nk kc vp nv vc ip ni ic x)(g:Good x)(hbig:237<x.put.length):
 Calls Tryz.prog 182 #[.agg #[.bool l,.slice kp nk kc,.slice vp nv vc,.slice ip ni ic]] w fun e w'=>∃ (g m:Nat) (key:ByteArray) (gH:Option Addr) (aV gI:Nat) (jd:Option Addr) (eH je:Nat) (iM:Option Addr) (dG iN:Nat) (gm:Option Addr) (aT gq:Nat) (iX:Option Addr) (eG iY:Nat) (iG:Option Addr) (dC iH:Nat),e=.returned (.tuple #[.slice (some ⟨g,0,none⟩) 2 2,.string key])/\x.ks[m]? = some key/\Mid x 0 m/\w'.heap[g]? = some (.cells #[.bool l,.slice gH aV gI,.slice jd eH je,.slice iM dG iN,.bool l,.slice gm aT gq,.slice iX eG iY,.slice iG dC iH] 121)/\NZ w' l gH aV gI jd eH je iM dG iN (x.fst m)/\NZ w' l gm aT gq iX eG iY iG dC iH (x.snd m)/\Kept w w':=by
 cases l with
 | true=>exact Kw h g hbig
 | false=>exact FI h g hbig
theorem pG(n:Nat):1<=(ae n).length:=by
 have:=tQ n;cases h:ae n with
 | nil=>exact absurd h this
 | cons a b=>simp
theorem FJ(x:Nd)(i:Nat):1<=x.sz i:=by
 unfold Nd.sz Nd.item dW;have:=pG (x.ks[i]?.getD ⟨#[]⟩).size;rw[aah,aah];omega
theorem yF(g:Good x)(h:x.leaf=false){i:Nat}(hi:i<x.ks.length):x.sz i<=68:=by
 unfold Nd.sz Nd.item;rw[aai (by rw[h];decide),aah];obtain⟨k,hk⟩:∃ k,x.ks[i]? = some k:=⟨_,aae hi⟩;obtain⟨v,hv⟩:∃ v,x.is[i+1]? = some v:=⟨_,aae (by have:=(g.li h).1;omega)⟩;obtain⟨q,rfl,hq⟩:=g.ik v (aak hv);rw[hk,hv];have a:=dK k (g.small k (aak hk));have b:=aP q (by omega);simp only[Option.getD_some,Int.toNat_natCast];omega
theorem Vn(g:Good x)(h:237<x.put.length):x.gr 1<x.gr 0:=by
 have hn:=nZ g h;rw[jB]at h;have hh:=ky g;have t1:x.tot 1=x.sz 0:=by rw[Nd.bA,Nd.kC,aaj]
 have t2:x.tot 2=x.sz 0+x.sz 1:=by rw[Nd.bA,t1]
 have m2:=x.qM (show 2<=x.ks.length by omega);have p0:=FJ x 0;have p1:=FJ x 1;cases hl:x.leaf with
 | true=>
  rw[Nd.uC hl,Nd.uC hl,t1,Nd.kC];omega
 | false=>
  have q0:=yF g hl (show 0<x.ks.length by omega);rw[Nd.jA hl,Nd.jA hl,t1,t2,Nd.kC];omega
variable {m:Nat}
theorem Mid.up(g:Good x)(h:237<x.put.length)(hm:Mid x 0 m):Mid x 1 m:=by
 have hn:=nZ g h;have h1:=Vn g h;have h0:m≠0:=by
  rintro rfl;have:=hm.after 1 (by omega) (by omega);omega
 exact⟨by omega,hm.lt,fun j _ h=>hm.before j (aag _) h,hm.after⟩
theorem Mid.all(hm:Mid x 0 m){j:Nat}(hj:j<x.ks.length):x.gr m<=x.gr j:=by
 by_cases h:j<m
 ·exact aa3 (hm.before j (aag _) h)
 ·exact hm.after j (by omega) hj
theorem kD(h:x.leaf=true)(m:Nat):x.fst m=⟨true,x.ks.take m,x.vs.take m,[]⟩:=by unfold Nd.fst;rw[aao h]
theorem mi(h:x.leaf=true)(m:Nat):x.snd m=⟨true,x.ks.drop m,x.vs.drop m,[]⟩:=by unfold Nd.snd;rw[aao h]
theorem gY(h:x.leaf=false)(m:Nat):x.fst m=⟨false,x.ks.take m,[],x.is.take (m+1)⟩:=by unfold Nd.fst;rw[aai (by rw[h];decide)]
theorem iR(h:x.leaf=false)(m:Nat):x.snd m=⟨false,x.ks.drop (m+1),[],x.is.drop (m+1)⟩:=by unfold Nd.snd;rw[aai (by rw[h];decide)]
theorem Ky(g:Good x)(h:x.leaf=true)(m:Nat):(⟨true,(x.fst m).ks++(x.snd m).ks,(x.fst m).vs++(x.snd m).vs,[]⟩:Nd)=x:=by
 rw[kD h,mi h];simp only[aax];obtain⟨l,ks,vs,is⟩:=x;simp only at h;subst h;have:=(g.lv rfl).2;simp only at this;subst this;rfl
theorem FK(g:Good x)(h:x.leaf=false){m:Nat}{key:ByteArray}(hk:x.ks[m]? = some key):(⟨false,(x.fst m).ks++([key]++(x.snd m).ks),[],(x.fst m).is++(x.snd m).is⟩:Nd)=x:=by
 rw[gY h,iR h];simp only[aax];have e:x.ks.take m++([key]++x.ks.drop (m+1))=x.ks:=by
  have e1:x.ks.take (m+1)=x.ks.take m++[key]:=by rw[aaP,hk];rfl
  rw[<- aap,<- e1,aax]
 rw[e];obtain⟨l,ks,vs,is⟩:=x;simp only at h;subst h;have:=(g.li rfl).2;simp only at this;subst this;rfl
theorem uG(g:Good x){m:Nat}(hm:m<x.ks.length):Good (x.fst m):=by
 have hf:=g.few;cases h:x.leaf with
 | true=>
  rw[kD h];have hv:=(g.lv h).1;refine⟨?_,fun k hk=>g.small k (aaJ hk),fun _=>⟨?_,rfl⟩,(fun e=>by cases e),fun v hv=>g.ok v (aaJ hv),(fun i hi=>by cases hi)⟩
  ·show (x.ks.take m).length<=120;rw[aam];omega
  ·show (x.vs.take m).length=(x.ks.take m).length;rw[aam,aam,hv]
 | false=>
  rw[gY h];have hv:=(g.li h).1;refine⟨?_,fun k hk=>g.small k (aaJ hk),(fun e=>by cases e),fun _=>⟨?_,rfl⟩,(fun i hi=>by cases hi),fun v hv=>g.ik v (aaJ hv)⟩
  ·show (x.ks.take m).length<=120;rw[aam];omega
  ·show (x.is.take (m+1)).length=(x.ks.take m).length+1;rw[aam,aam,hv];omega
theorem uH(g:Good x){m:Nat}(hm:m<x.ks.length):Good (x.snd m):=by
 have hf:=g.few;cases h:x.leaf with
 | true=>
  rw[mi h];have hv:=(g.lv h).1;refine⟨?_,fun k hk=>g.small k (aaA hk),fun _=>⟨?_,rfl⟩,(fun e=>by cases e),fun v hv=>g.ok v (aaA hv),(fun i hi=>by cases hi)⟩
  ·show (x.ks.drop m).length<=120;rw[aaw];omega
  ·show (x.vs.drop m).length=(x.ks.drop m).length;rw[aaw,aaw,hv]
 | false=>
  rw[iR h];have hv:=(g.li h).1;refine⟨?_,fun k hk=>g.small k (aaA hk),(fun e=>by cases e),fun _=>⟨?_,rfl⟩,(fun i hi=>by cases hi),fun v hv=>g.ik v (aaA hv)⟩
  ·show (x.ks.drop (m+1)).length<=120;rw[aaw];omega
  ·show (x.is.drop (m+1)).length=(x.ks.drop (m+1)).length+1;rw[aaw,aaw,hv];omega
theorem BH(m:Nat):∀ i,i<=m->(x.fst m).tot i=x.tot i:=by
 have item:∀ i,i<m->(x.fst m).sz i=x.sz i:=by
  intro i hi;unfold Nd.sz Nd.item;cases h:x.leaf with
  | true=>
   rw[kD h];simp only[aaT,aao hi,if_true]
  | false=>
   rw[gY h];simp only[aaT,aao hi,aao (show i+1<m+1 by omega),Bool.false_eq_true,if_false]
 intro i;induction i with
 | zero=>intro _;rfl
 | succ i ih=>
  intro hi;rw[Nd.bA,Nd.bA,ih (by omega),item i (by omega)]
theorem BI(h:x.leaf=true)(m:Nat):∀ i,(x.snd m).tot i+x.tot m=x.tot (m+i):=by
 have item:∀ i,(x.snd m).sz i=x.sz (m+i):=by
  intro i;unfold Nd.sz Nd.item;rw[mi h];simp only[aaZ,h,if_true]
 intro i;induction i with
 | zero=>rw[Nd.kC,aaj];rfl
 | succ i ih=>rw[Nd.bA,item,<- Nat.add_assoc,Nd.bA,<- ih];omega
theorem rM(h:x.leaf=false)(m:Nat):∀ i,(x.snd m).tot i+x.tot (m+1)=x.tot (m+1+i):=by
 have item:∀ i,(x.snd m).sz i=x.sz (m+1+i):=by
  intro i;unfold Nd.sz Nd.item;rw[iR h];simp only[aaZ,h,Nat.add_assoc,Bool.false_eq_true,if_false]
 intro i;induction i with
 | zero=>rw[Nd.kC,aaj,Nat.add_zero]
 | succ i ih=>
  have e:=Nd.bA x (m+1+i);rw[Nd.bA (x.snd m),item,<- Nat.add_assoc,e,<- ih];omega
theorem oh(g:Good x):x.head.length<=4:=by
 unfold Nd.head;have h1:(ae x.ks.length).length=1:=by rw[aK (by have:=g.few;omega)];rfl
 rw[aah,h1];cases h:x.leaf with
 | true=>simp
 | false=>
  obtain⟨v,hv⟩:∃ v,x.is[0]? = some v:=⟨_,aae (by have:=(g.li h).1;omega)⟩;obtain⟨q,rfl,hq⟩:=g.ik v (aak hv);have b:=aP q (by omega);rw[hv,aai (by decide)];simp only[Option.getD_some,Int.toNat_natCast];omega
theorem Kz(g:Good x){m:Nat}(hm:Mid x 0 m)(hT:x.tot x.ks.length<=351):(x.fst m).put.length<=237/\(x.snd m).put.length<=237:=by
 have hgr:x.gr m<=233:=by
  by_cases hs:x.tot x.ks.length<=233
  ·have:=x.TV (i:=m) (aa3 hm.lt)
   omega
  ·have bP:∀ k,x.tot x.ks.length-233<=x.tot k->∃ j,1<=j/\j<=k/\x.tot x.ks.length-233<=x.tot j/\x.tot (j-1)<x.tot x.ks.length-233:=by
    intro k;induction k with
    | zero=>intro h;rw[Nd.kC]at h;omega
    | succ k ih=>
     intro h;by_cases h2:x.tot x.ks.length-233<=x.tot k
     ·obtain⟨j,a,b,c⟩:=ih h2
      exact⟨j,a,by omega,c⟩
     ·exact⟨k+1,by omega,aac _,h,(by show x.tot k<x.tot x.ks.length-233;omega)⟩
   obtain⟨j,h1,h2,h3,h4⟩:=bP x.ks.length (by omega);obtain⟨i,rfl⟩:∃ i,j=i+1:=⟨j-1,by omega⟩;rw[Nat.add_sub_cancel]at h4;have h5:x.sz i<=115:=ku g i (by omega);have h6:=x.bA i;have h7:i+1≠x.ks.length:=by intro e;rw[e]at h6;omega
   have h8:=hm.all (show i+1<x.ks.length by omega);have h9:=x.qM (show i+1<=i+1+1 by omega);cases hl:x.leaf with
   | true=>rw[Nd.uC hl (i+1)]at h8;omega
   | false=>rw[Nd.jA hl (i+1)]at h8;omega
 have ga:=uG g hm.lt;have gb:=uH g hm.lt;have ha:=oh ga;have hb:=oh gb;rw[jB,jB];cases hl:x.leaf with
 | true=>
  have la:(x.fst m).ks.length=m:=by rw[kD hl];show (x.ks.take m).length=m;rw[aam];have:=hm.lt;omega
  have lb:(x.snd m).ks.length=x.ks.length-m:=by rw[mi hl];exact aaw
  have t1:=BH (x:=x) m m (aac _);have t2:=BI hl m (x.ks.length-m);rw[show m+(x.ks.length-m)=x.ks.length by have:=hm.lt;omega]at t2;rw[Nd.uC hl]at hgr;rw[la,lb];omega
 | false=>
  have la:(x.fst m).ks.length=m:=by rw[gY hl];show (x.ks.take m).length=m;rw[aam];have:=hm.lt;omega
  have lb:(x.snd m).ks.length=x.ks.length-(m+1):=by rw[iR hl];exact aaw
  have t1:=BH (x:=x) m m (aac _);have t2:=rM hl m (x.ks.length-(m+1));rw[show m+1+(x.ks.length-(m+1))=x.ks.length by have:=hm.lt;omega]at t2;rw[Nd.jA hl]at hgr;rw[la,lb];omega
def dB (ks:List ByteArray):Nat:=(ks.map fun k=>(dW k).length).sum
def fo (vs:List Vl):Nat:=(vs.map fun v=>(ll v).length).sum
def kP (is:List Int):Nat:=(is.map fun i=>(ae i.toNat).length).sum
theorem dP(a b:List ByteArray):dB (a++b)=dB a+dB b:=by unfold dB;rw[List.map_append,List.sum_append_nat]
theorem kE(a b:List Vl):fo (a++b)=fo a+fo b:=by unfold fo;rw[List.map_append,List.sum_append_nat]
theorem om(a b:List Int):kP (a++b)=kP a+kP b:=by unfold kP;rw[List.map_append,List.sum_append_nat]
theorem uI(a:ByteArray):dB [a]=(dW a).length:=by simp[dB]
theorem Dw(a:Vl):fo [a]=(ll a).length:=by simp[fo]
theorem NK(a:Int):kP [a]=(ae a.toNat).length:=by simp[kP]
theorem NL(hl:x.leaf=true)(hv:x.vs.length=x.ks.length):∀ i,i<=x.ks.length->x.tot i=dB (x.ks.take i)+fo (x.vs.take i):=by
 intro i;induction i with
 | zero=>intro _;rfl
 | succ i ih=>
  intro hi;have h1:x.ks[i]? = some x.ks[i]:=aae (by omega);have h2:x.vs[i]? = some (x.vs[i]'(by omega)):=aae (by omega);rw[Nd.bA,ih (by omega),aaP,aaP,h1,h2,Option.toList_some,Option.toList_some,dP,kE,uI,Dw];unfold Nd.sz Nd.item;rw[aao hl,h1,h2,aah,Option.getD_some,Option.getD_some];omega
theorem KE(hl:x.leaf=false)(hv:x.is.length=x.ks.length+1):∀ i,i<=x.ks.length->x.tot i=dB (x.ks.take i)+kP ((x.is.drop 1).take i):=by
 intro i;induction i with
 | zero=>intro _;rfl
 | succ i ih=>
  intro hi;have h1:x.ks[i]? = some x.ks[i]:=aae (by omega);have h2:x.is[i+1]? = some (x.is[i+1]'(by omega)):=aae (by omega);have h3:(x.is.drop 1)[i]? = some (x.is[i+1]'(by omega)):=by rw[aaZ,Nat.add_comm 1 i,h2]
  rw[Nd.bA,ih (by omega),aaP,aaP,h1,h3,Option.toList_some,Option.toList_some,dP,om,uI,NK];unfold Nd.sz Nd.item;rw[aai (by rw[hl];decide),h1,h2,aah,Option.getD_some,Option.getD_some];omega
theorem NM(ks:List ByteArray)(i:Nat)(k:ByteArray):dB (ins ks i k)=dB ks+(dW k).length:=by
 have e:dB ks=dB (ks.take i)+dB (ks.drop i):=by
  have:=congrArg dB (aax i ks).symm;rw[this,dP]
 rw[e];unfold ins;rw[dP,<- List.singleton_append,dP,uI];omega
theorem NN(ks:List Vl)(i:Nat)(k:Vl):fo (ins ks i k)=fo ks+(ll k).length:=by
 have e:fo ks=fo (ks.take i)+fo (ks.drop i):=by
  have:=congrArg fo (aax i ks).symm;rw[this,kE]
 rw[e];unfold ins;rw[kE,<- List.singleton_append,kE,Dw];omega
theorem Dx:∀ (ks:List Vl) (i:Nat) (k:Vl),fo (ks.set i k)<=fo ks+(ll k).length
 | [],i,k=>by simp[fo]
 | a :: r,0,k=>by simp[fo];omega
 | a :: r,i+1,k=>by
  have:=Dx r i k;simp[fo]at this ⊢;omega
theorem NQ(ks:List ByteArray)(k:ByteArray)(h:k.size<=64):dB (iA ks k)<=dB ks+65:=by
 unfold iA;split
 ·omega
 ·rw[NM]
  have:=dK k h;omega
theorem KG(ks:List ByteArray)(vs:List Vl)(k:ByteArray)(v:Vl)(h:BD v):fo (jr ks vs k v)<=fo vs+50:=by
 have:=kg v h;unfold jr;split
 ·have:=Dx vs (bP k ks) v
  omega
 ·rw[NN]
  omega
end Go.Proofs.YtifeihnhkbagpaaGreatDoor.N
namespace Go.Proofs.YtifeihnhkbagpaaGreatDoor.B
open Go.Proofs.YtifeihnhkbagpaaGreatDoor.N
abbrev Mk:=ByteArray×Option Vl
abbrev En:=ByteArray×Vl
abbrev Pm:=Nat->Option Nd
def R (a b:Mk):Prop:=if a.2.isNone=true/\b.2.isSome=true then sl b.1 a.1=false else sl a.1 b.1=true
def iT (x:Nd):List Mk:=(x.ks.zip x.vs).map fun p=>(p.1,some p.2)
def post (f:Nat->List Mk) (K:List ByteArray) (C:List Int):List Mk:=(K.zip C).flatMap fun p=>(p.1,none) :: f p.2.toNat
def pre (f:Nat->List Mk) (C:List Int) (K:List ByteArray):List Mk:=(C.zip K).flatMap fun p=>f p.1.toNat++[(p.2,none)]
def kF (f:Nat->List Mk) (S:List Int) (K:List ByteArray):List Mk:=match S with
 | []=>[]
 | c :: r=>f c.toNat++post f K r
def TW (f:Nat->List Mk) (x:Nd):List Mk:=kF f x.is x.ks
def iB (M:Pm):Nat->Nd->List Mk
 | 0,x=>iT x
 | d+1,x=>TW (fun n=>match M n with | some y=>iB M d y | none=>[]) x
def fm (M:Pm) (d n:Nat):List Mk:=match M n with | some y=>iB M d y | none=>[]
theorem dH(M:Pm)(x:Nd):iB M 0 x=iT x:=rfl
theorem gZ(M:Pm)(d:Nat)(x:Nd):iB M (d+1) x=TW (fm M d) x:=rfl
variable {M:Pm}{n:Nat}{y:Nd}
theorem aH(h:M n=some y)(d:Nat):fm M d n=iB M d y:=by unfold fm;rw[h]
def mq (M:Pm):Nat->Nd->List Nat
 | 0,_=>[]
 | d+1,x=>x.is.flatMap fun c=>c.toNat :: (match M c.toNat with | some y=>mq M d y | none=>[])
def pg (M:Pm) (d n:Nat):List Nat:=n :: (match M n with | some y=>mq M d y | none=>[])
theorem fI(M:Pm)(d:Nat)(x:Nd):mq M (d+1) x=x.is.flatMap fun c=>pg M d c.toNat:=rfl
theorem aZ(h:M n=some y)(d:Nat):pg M d n=n :: mq M d y:=by unfold pg;rw[h]
def jC (M:Pm):Nat->Nd->Prop
 | 0,x=>x.leaf=true/\N.Good x
 | d+1,x=>x.leaf=false/\N.Good x/\∀ c∈x.is,∃ y,M c.toNat=some y/\y.ks≠[]/\y.put.length<=237/\jC M d y
def Wf (M:Pm) (d n:Nat):Prop:=∃ y,M n=some y/\y.ks≠[]/\y.put.length<=237/\jC M d y
theorem Ae(M:Pm)(d:Nat)(x:Nd):jC M (d+1) x=(x.leaf=false/\N.Good x/\∀ c∈x.is,Wf M d c.toNat):=rfl
variable {d:Nat}{x:Nd}
theorem jC.good(h:jC M d x):N.Good x:=by
 cases d with
 | zero=>exact h.2
 | succ d=>exact h.2.1
theorem jC.leaf{M:Pm}{d:Nat}{x:Nd}(h:jC M d x):x.leaf=decide (d=0):=by
 cases d with
 | zero=>exact h.1
 | succ d=>rw[h.1];simp
theorem jP{α β:Type}{f g:α->List β}:∀ {l:List α},(∀ a∈l,f a=g a)->l.flatMap f=l.flatMap g
 | [],_=>rfl
 | a :: l,h=>by rw[List.flatMap_cons,List.flatMap_cons,h a List.mem_cons_self,jP fun b hb=>h b (List.mem_cons_of_mem _ hb)]
theorem yG{M M':Pm}:∀ (d:Nat) (x:Nd),(∀ q∈mq M d x,M' q=M q)->mq M' d x=mq M d x/\iB M' d x=iB M d x/\(jC M d x->jC M' d x)
 | 0,x,_=>⟨rfl,rfl,id⟩
 | d+1,x,h=>by
  have sub:∀ c∈x.is,pg M' d c.toNat=pg M d c.toNat/\fm M' d c.toNat=fm M d c.toNat/\(Wf M d c.toNat->Wf M' d c.toNat):=by
   intro c hc;have hin:∀ q∈pg M d c.toNat,M' q=M q:=fun q hq=>h q (by rw[fI];exact List.mem_flatMap.2 ⟨c,hc,hq⟩)
   have h0:M' c.toNat=M c.toNat:=hin _ (by unfold pg;exact List.mem_cons_self);cases hm:M c.toNat with
   | none=>
    rw[hm]at h0;refine⟨?_,?_,?_⟩
    ·unfold pg;rw[hm,h0]
    ·unfold fm;rw[hm,h0]
    ·rintro⟨y,hy,_⟩;rw[hm]at hy;cases hy
   | some y=>
    rw[hm]at h0;obtain⟨e1,e2,e3⟩:=yG d y (fun q hq=>hin q (by rw[aZ hm];exact List.mem_cons_of_mem _ hq));refine⟨by rw[aZ hm,aZ h0,e1],by rw[aH hm,aH h0,e2],?_⟩;rintro⟨y',hy,a,b,c⟩;rw[hm]at hy;obtain rfl:=aaq hy;exact⟨y,h0,a,b,e3 c⟩
  refine⟨?_,?_,?_⟩
  ·rw[fI,fI]
   exact jP fun c hc=>(sub c hc).1
  ·rw[gZ,gZ]
   unfold TW kF;cases hi:x.is with
   | nil=>rfl
   | cons c r=>
    rw[hi]at sub;show fm M' d c.toNat++post (fm M' d) x.ks r=fm M d c.toNat++post (fm M d) x.ks r;rw[(sub c List.mem_cons_self).2.1];congr 1;unfold post;refine jP fun p hp=>?_
    rw[(sub p.2 (List.mem_cons_of_mem _ (List.of_mem_zip hp).2)).2.1]
  ·rw[Ae,Ae]
   rintro⟨a,b,c⟩;exact⟨a,b,fun q hq=>(sub q hq).2.2 (c q hq)⟩
theorem yH(f:Nat->List Mk)(L L':List Int)(K K':List ByteArray)(h:L.length=K.length):pre f (L++L') (K++K')=pre f L K++pre f L' K':=by
 unfold pre;rw[List.zip_append h,List.flatMap_append]
theorem Dy(f:Nat->List Mk)(L L':List Int)(K K':List ByteArray)(h:K.length=L.length):post f (K++K') (L++L')=post f K L++post f K' L':=by
 unfold post;rw[List.zip_append h,List.flatMap_append]
theorem IG(f:Nat->List Mk)(c:Int)(k:ByteArray):pre f [c] [k]=f c.toNat++[(k,none)]:=by simp[pre]
theorem pre_nil(f:Nat->List Mk):pre f [] []=[]:=rfl
theorem post_nil(f:Nat->List Mk):post f [] []=[]:=rfl
theorem uJ(f:Nat->List Mk):∀ (L:List Int) (KL:List ByteArray) (S:List Int) (SK:List ByteArray) (Rr:List Int) (KR:List ByteArray),KL.length=L.length->SK.length+1=S.length ->
  kF f (L++S++Rr) (KL++SK++KR)=pre f L KL++kF f S SK++post f KR Rr
 | [],[],c :: r,SK,Rr,KR,_,h2=>by
  simp only[aau,Nat.add_right_cancel_iff]at h2;simp[kF,pre,Dy f r Rr SK KR h2]
 | [],[],[],SK,_,_,_,h2=>by simp at h2
 | [],_ :: _,_,_,_,_,h,_=>by simp at h
 | _ :: _,[],_,_,_,_,h,_=>by simp at h
 | l :: L,k :: KL,S,SK,Rr,KR,h,h2=>by
  have ih:=uJ f L KL S SK Rr KR (by simpa using h) h2;have e1:kF f (l :: L++S++Rr) (k :: KL++SK++KR)=f l.toNat++(k,none) :: kF f (L++S++Rr) (KL++SK++KR):=by
   have hne:L++S++Rr≠[]:=by
    intro e;have:=congrArg List.length e;simp only[aah,aaQ]at this;omega
   cases hl:L++S++Rr with
   | nil=>exact absurd hl hne
   | cons a r=>rw[List.cons_append,List.cons_append,hl];simp[kF,post]
  have e2:pre f (l :: L) (k :: KL)=f l.toNat++(k,none) :: pre f L KL:=by simp[pre]
  rw[e1,ih,e2];simp
theorem uK(f:Nat->List Mk)(c:Int):kF f [c] []=f c.toNat:=by simp[kF,post]
theorem yI(f:Nat->List Mk)(b c:Int)(k:ByteArray):kF f [b,c] [k]=f b.toNat++(k,none) :: f c.toNat:=by simp[kF,post]
theorem KH(f:Nat->List Mk)(A B:List Int)(KA KB:List ByteArray)(k:ByteArray)(ha:KA.length+1=A.length)(hb:KB.length+1=B.length):kF f (A++B) (KA++([k]++KB))=kF f A KA++(k,none) :: kF f B KB:=by
 obtain⟨b,r,rfl⟩:∃ b r,B=b :: r:=by cases B with | nil=>simp at hb | cons b r=>exact⟨b,r,rfl⟩
 have h:=uJ f [] [] A KA (b :: r) ([k]++KB) rfl ha;simp only[List.nil_append,pre_nil]at h;rw[h];simp[post,kF]
def bN (l:List Mk):List En:=l.filterMap fun m=>m.2.map fun v=>(m.1,v)
theorem bR(a b:List Mk):bN (a++b)=bN a++bN b:=by simp[bN]
theorem uL(k:ByteArray)(l:List Mk):bN ((k,none) :: l)=bN l:=by simp[bN]
theorem gJ(x:Nd):bN (iT x)=x.ks.zip x.vs:=by
 unfold bN iT;rw[List.filterMap_map];have:((fun m:Mk=>m.2.map fun v=>(m.1,v)) ∘ fun p:En=>((p.1,some p.2):Mk))=some:=by funext p;rfl
 rw[this,List.filterMap_some]
theorem wS{l:List Mk}{e:En}(h:e∈bN l):(e.1,some e.2)∈l:=by
 unfold bN at h;obtain⟨m,hm,he⟩:=List.mem_filterMap.1 h;obtain⟨k,o⟩:=m;cases o with
 | none=>cases he
 | some v=>simp at he;subst he;exact hm
