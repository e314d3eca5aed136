/- Joined. -/
import Derived.Test.YtifeihnhkbagpaaGreatDoorZax
import Derived.Deep.AppendLies
set_option maxHeartbeats 2000000
set_option maxRecDepth 100000
namespace Go.Proofs.YtifeihnhkbagpaaGreatDoor.N
open ChangeShapes WideShapes ChangeAt RowKit
theorem FD(a b:List Int):aO (a++b)=aO a++aO b:=by simp[aO]
theorem ob(p:Option Addr)(n c:Nat):(Value.slice p n c).ownBlock=blk p:=by cases p <;> rfl
theorem pF(s:ByteArray)(h:s.size<=100000)(w:World):Calls Tryz.prog 233 #[.string s] w fun e w'=>e=.returned (.string (bs (ae s.size++un s)))/\Kept w w':=by
 have a:=Ke (un s) (by rw[dL];exact h) w;rwa [rH,dL]at a
def ll (v:Vl):List Nat:=if v.p<0 then ae 0++(ae v.d.size++un v.d) else ae 1++(ae v.p.toNat++ae v.l.toNat)
def dW (k:ByteArray):List Nat:=ae k.size++un k
theorem aP(n:Nat)(h:n<=16432):(ae n).length<=3:=gD 2 n (by omega)
theorem dK(k:ByteArray)(h:k.size<=64):(dW k).length<=65:=by
 unfold dW;rw[aah,dL,aK (by omega)];simp;omega
theorem kg(v:Vl)(h:BD v):(ll v).length<=50:=by
 unfold ll;rcases h with⟨h1,h2,h3⟩|⟨h1,p,l,h2,h3,h4,h5,h6⟩
 ·rw[aao (by omega),aK (by omega),aK (by omega)]
  simp[dL];omega
 ·rw[aai (by omega),aK (by omega),h2,h4]
  have a:=aP p (by omega);have b:=aP l (by omega);simp;omega
variable {w:World}{kb ko nk kc ni ic nv vc i:Nat}{k:ByteArray}
theorem FE{ib io:Nat}{vp:Option Addr}{q:Nat}(hi:i<nk)(hi2:i+1<ni)(hnk:nk<=1000)(hc:w.cell? ⟨kb,ko+i,none⟩=some (.string k))(hc2:w.cell? ⟨ib,io+(i+1),none⟩=some (.int .i64 q))(hks:k.size<=64)(hq:q<=16432):
 Calls Tryz.prog 216 #[.agg #[.bool false,.slice (some ⟨kb,ko,none⟩) nk kc,.slice vp nv vc,.slice (some ⟨ib,io,none⟩) ni ic],.int .i64 i] w fun e w'=>e=.returned (.string (bs (dW k++ae q)))/\Kept w w':=by
  have HT:Hid (∀ W,Calls Tryz.prog 233 #[.string k] W fun e w'=>e=.returned (.string (bs (dW k)))/\Kept W w'):=fun W=>pF k (by omega) W
  have HN:Hid (∀ W,Calls Tryz.prog 215 #[.int .i64 q] W fun e w'=>e=.returned (.string (bs (ae q)))/\Kept W w'):=fun W=>eY q (by omega) W
  have hap:=eU (dW k) (ae q);have z1:=dK k hks;have z2:=aP q hq;rw[<- au]at z1 z2;generalize bs (dW k)=s1 at *;generalize bs (ae q)=s2 at *;have HA:Hid (s1++s2=bs (dW k++ae q)):=hap;clear hap;have hi':(i:Int)<(nk:Int):=by omega
  have Xg:(i:Int)+1<(ni:Int):=by omega
  have u1:IntKind.i64.wrap ((i:Int)+1)=(i:Int)+1:=by rw[IntKind.wrap_i64];omega
  have u2:((i:Int)+1).toNat=i+1:=by omega
  have y1:¬ 9223372036854775807<s1.size+s2.size:=by omega
  have k0:Kept w (w.alloc (.cells #[.bool false,.slice (some ⟨kb,ko,none⟩) nk kc,.slice vp nv vc,.slice (some ⟨ib,io,none⟩) ni ic] 121)):=(Kept.refl w).alloc _;have X0:=C4.alloc w 121 (.bool false) (.slice (some ⟨kb,ko,none⟩) nk kc) (.slice vp nv vc) (.slice (some ⟨ib,io,none⟩) ni ic);have c0:=k0.cell hc;have c1:=k0.cell hc2;go_enter Tryz.func216,Tryz.ntmps216;go_wp2_with (first
    | (go_at_call 233
       (with_reducible refine (HT.out _).mono ?_)
       rintro e v1 ⟨rfl,k1⟩
       have X1:=X0.kept k1
       have d1:=k1.cell c1
       obtain⟨a0,a1,a2,a3⟩:=X1.cs)
    | (go_at_call 215
       (with_reducible refine (HN.out _).mono ?_)
       rintro e v2 ⟨rfl,k2⟩))
  go_ret;rw[HA.out];exact⟨rfl,(k0.trans k1).trans k2⟩
variable {vb vo:Nat}{ip:Option Addr}{d:ByteArray}
theorem Ku(hi:i<nk)(hi2:i<nv)(hc:w.cell? ⟨kb,ko+i,none⟩=some (.string k))(hc0:w.cell? ⟨vb,vo+i*3,none⟩=some (.string d))(hc1:w.cell? ⟨vb,vo+i*3+1,none⟩=some (.int .i64 (-1)))(hc2:w.cell? ⟨vb,vo+i*3+2,none⟩=some (.int .i64 0))(hks:k.size<=64)(hd:d.size<=48):
 Calls Tryz.prog 216 #[.agg #[.bool true,.slice (some ⟨kb,ko,none⟩) nk kc,.slice (some ⟨vb,vo,none⟩) nv vc,.slice ip ni ic],.int .i64 i] w fun e w'=>e=.returned (.string (bs (dW k++(ae 0++(ae d.size++un d)))))/\Kept w w':=by
  have HT:Hid (∀ W,Calls Tryz.prog 233 #[.string k] W fun e w'=>e=.returned (.string (bs (dW k)))/\Kept W w'):=fun W=>pF k (by omega) W
  have HD:Hid (∀ W,Calls Tryz.prog 233 #[.string d] W fun e w'=>e=.returned (.string (bs (ae d.size++un d)))/\Kept W w'):=fun W=>pF d (by omega) W
  have HN:Hid (∀ W,Calls Tryz.prog 215 #[.int .i64 0] W fun e w'=>e=.returned (.string (bs (ae 0)))/\Kept W w'):=fun W=>eY 0 (by omega) W
  have hap:bs (dW k)++bs (ae 0)++bs (ae d.size++un d)=bs (dW k++(ae 0++(ae d.size++un d))):=by rw[eU,eU,aap]
  have z1:=dK k hks;have z2:=aP 0 (by omega);have z3:(ae d.size++un d).length<=60:=by rw[aah,dL];have:=aP d.size (by omega);omega
  rw[<- au]at z1 z2 z3;generalize bs (dW k)=s1 at *;generalize bs (ae 0)=s2 at *;generalize bs (ae d.size++un d)=s3 at *;have HA:Hid (s1++s2++s3=bs (dW k++(ae 0++(ae d.size++un d)))):=hap;clear hap;have hi':(i:Int)<(nk:Int):=by omega
  have Xg:(i:Int)<(nv:Int):=by omega
  have y1:¬ 9223372036854775807<s1.size+s2.size:=by omega
  have y2:¬ 9223372036854775807<s1.size+s2.size+s3.size:=by omega
  have k0:Kept w (w.alloc (.cells #[.bool true,.slice (some ⟨kb,ko,none⟩) nk kc,.slice (some ⟨vb,vo,none⟩) nv vc,.slice ip ni ic] 121)):=(Kept.refl w).alloc _;have X0:=C4.alloc w 121 (.bool true) (.slice (some ⟨kb,ko,none⟩) nk kc) (.slice (some ⟨vb,vo,none⟩) nv vc) (.slice ip ni ic);have c0:=k0.cell hc;have c1:=k0.cell hc0;have c2:=k0.cell hc1;have c3:=k0.cell hc2;go_enter Tryz.func216,Tryz.ntmps216;go_wp2_with (first
    | (go_at_call 233
       (with_reducible refine (HT.out _).mono ?_)
       rintro e v1 ⟨rfl,k1⟩
       have X1:=X0.kept k1
       have d1:=k1.cell c1
       have d2:=k1.cell c2
       have d3:=k1.cell c3
       obtain⟨a0,a1,a2,a3⟩:=X1.cs
       clear HT
       have Y1:=(C3.alloc v1 77 (.string d) (.int .i64 (-1)) (.int .i64 0)).drew
       obtain⟨b0,b1,b2⟩:=Y1.cs))
  go_region_held3 (fun W=>W.cell? ⟨v1.heap.size,0,none⟩=some (.string d)) (go_keep) (first
    | (go_at_call 215
       (with_reducible refine (HN.out _).mono ?_)
       rintro e v2 ⟨rfl,k2⟩
       have Y2:=Y1.kept k2
       have e0:=Y2.cs.1)
    | (go_at_call 233
       (with_reducible refine (HD.out _).mono ?_)
       rintro e v3 ⟨rfl,k3⟩
       have Y3:=Y2.kept k3
       have f0:=Y3.cs.1))
  go_wp2;go_ret;rw[HA.out];exact⟨rfl,(((k0.trans k1).trans ((Kept.refl v1).alloc _).drew).trans k2).trans k3⟩
theorem FH{p l:Nat}(hi:i<nk)(hi2:i<nv)(hc:w.cell? ⟨kb,ko+i,none⟩=some (.string k))(hc0:w.cell? ⟨vb,vo+i*3,none⟩=some (.string d))(hc1:w.cell? ⟨vb,vo+i*3+1,none⟩=some (.int .i64 p))(hc2:w.cell? ⟨vb,vo+i*3+2,none⟩=some (.int .i64 l))(hks:k.size<=64)(hp:p<=16432)(hl:l<=16432):
 Calls Tryz.prog 216 #[.agg #[.bool true,.slice (some ⟨kb,ko,none⟩) nk kc,.slice (some ⟨vb,vo,none⟩) nv vc,.slice ip ni ic],.int .i64 i] w fun e w'=>e=.returned (.string (bs (dW k++(ae 1++(ae p++ae l)))))/\Kept w w':=by
  have HT:Hid (∀ W,Calls Tryz.prog 233 #[.string k] W fun e w'=>e=.returned (.string (bs (dW k)))/\Kept W w'):=fun W=>pF k (by omega) W
  have HN:Hid (∀ W,Calls Tryz.prog 215 #[.int .i64 1] W fun e w'=>e=.returned (.string (bs (ae 1)))/\Kept W w'):=fun W=>eY 1 (by omega) W
  have HP:Hid (∀ W,Calls Tryz.prog 215 #[.int .i64 p] W fun e w'=>e=.returned (.string (bs (ae p)))/\Kept W w'):=fun W=>eY p (by omega) W
  have HL:Hid (∀ W,Calls Tryz.prog 215 #[.int .i64 l] W fun e w'=>e=.returned (.string (bs (ae l)))/\Kept W w'):=fun W=>eY l (by omega) W
  have hap:bs (dW k)++bs (ae 1)++bs (ae p)++bs (ae l)=bs (dW k++(ae 1++(ae p++ae l))):=by rw[eU,eU,eU,aap,aap]
  have z1:=dK k hks;have z2:=aP 1 (by omega);have z3:=aP p hp;have z4:=aP l hl;rw[<- au]at z1 z2 z3 z4;generalize bs (dW k)=s1 at *;generalize bs (ae 1)=s2 at *;generalize bs (ae p)=s3 at *;generalize bs (ae l)=s4 at *;have HA:Hid (s1++s2++s3++s4=bs (dW k++(ae 1++(ae p++ae l)))):=hap;clear hap;have hi':(i:Int)<(nk:Int):=by omega
  have Xg:(i:Int)<(nv:Int):=by omega
  have y1:¬ 9223372036854775807<s1.size+s2.size:=by omega
  have y2:¬ 9223372036854775807<s1.size+s2.size+s3.size:=by omega
  have y3:¬ 9223372036854775807<s1.size+s2.size+s3.size+s4.size:=by omega
  have y0:¬ ((p:Int)<0):=by omega
  have k0:Kept w (w.alloc (.cells #[.bool true,.slice (some ⟨kb,ko,none⟩) nk kc,.slice (some ⟨vb,vo,none⟩) nv vc,.slice ip ni ic] 121)):=(Kept.refl w).alloc _;have X0:=C4.alloc w 121 (.bool true) (.slice (some ⟨kb,ko,none⟩) nk kc) (.slice (some ⟨vb,vo,none⟩) nv vc) (.slice ip ni ic);have c0:=k0.cell hc;have c1:=k0.cell hc0;have c2:=k0.cell hc1;have c3:=k0.cell hc2;go_enter Tryz.func216,Tryz.ntmps216;go_wp2_with (first
    | (go_at_call 233
       (with_reducible refine (HT.out _).mono ?_)
       rintro e v1 ⟨rfl,k1⟩
       have X1:=X0.kept k1
       have d1:=k1.cell c1
       have d2:=k1.cell c2
       have d3:=k1.cell c3
       obtain⟨a0,a1,a2,a3⟩:=X1.cs
       clear HT
       have Y1:=(C3.alloc v1 77 (.string d) (.int .i64 p) (.int .i64 l)).drew
       obtain⟨b0,b1,b2⟩:=Y1.cs))
  go_region_held3 (fun W=>W.cell? ⟨v1.heap.size,1,none⟩=some (.int .i64 p)/\W.cell? ⟨v1.heap.size,2,none⟩=some (.int .i64 l)) (go_keep) (first
    | (go_at_call 215
       (with_reducible refine (HN.out _).mono ?_)
       rintro e v2 ⟨rfl,k2⟩
       clear HN
       have Y2:=Y1.kept k2
       obtain⟨_,e1,e2⟩:=Y2.cs)
    | (go_at_call 215
       (with_reducible refine (HP.out _).mono ?_)
       rintro e v3 ⟨rfl,k3⟩
       clear HP
       have Y3:=Y2.kept k3
       obtain⟨_,f1,f2⟩:=Y3.cs)
    | (go_at_call 215
       (with_reducible refine (HL.out _).mono ?_)
       rintro e v4 ⟨rfl,k4⟩
       have Y4:=Y3.kept k4
       obtain⟨_,g1,g2⟩:=Y4.cs))
  go_wp2;go_ret;rw[HA.out];exact⟨rfl,((((k0.trans k1).trans ((Kept.refl v1).alloc _).drew).trans k2).trans k3).trans k4⟩
