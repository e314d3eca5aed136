/- Joined. -/
import Derived.Test.YtifeihnhkbagpaaGreatDoorZbs
import Derived.Test.YtifeihnhkbagpaaGreatDoorZbu
import Derived.Deep.CutRange
set_option maxRecDepth 100000
set_option maxHeartbeats 4000000
namespace Go.Proofs.YtifeihnhkbagpaaGreatDoor.T
open ChangeShapes WideShapes ChangeAt RowKit
open Go.Proofs.YtifeihnhkbagpaaGreatDoor.D (Dk aa fJ)
open B (En upd)
open N (Kept)
variable {B s:Nat}{W W':World}
theorem Gv.kept{m:Xm}{l:List En}(h:Gv B W s m l)(k:Kept W W'):Gv B W' s m l:=by
 obtain⟨t,p,M,r,Y,P,hS,hV,hC,hbs⟩:=h.out;exact⟨t,p,M,r,Y,P,hS.kept k,hV.kept k,hC,hbs⟩
variable {g:Nat}
theorem Gv.aa1{d n c gen:Nat}{dk:Dk}(h:Se B W s d g n c gen dk)(hB:B<=W.heap.size)(hB0:1<B)(hL:S.gU W):Gv B W s ⟨n,d,g,dk,gen,-1,fun _=>none⟩ []:=by
 obtain⟨t,p,hS,hT,hV,b1,b2⟩:=h.out;exact⟨t,p,_,-1,fun _=>none,fun _=>[],hS,⟨hT,hV,.inl ⟨rfl,rfl,fun _=>rfl⟩,b2,hB,hB0,hL⟩,zC _ rfl _,b1⟩
structure Gc (w W:World) (s b g i:Nat):Prop where
 out:∃ dk c,Fn 900 c dk/\c<=9+3*i/\Gv w.heap.size W s ⟨900,b,g,dk,i+1,-1,fun _=>none⟩ []
 k:Kept w W
structure Gp (w W:World) (s b g x i:Nat):Prop where
 out:∃ dk c l,(Fn 900 c dk/\c<=9+3*x)/\l.length<=i/\Gv w.heap.size W s ⟨900,b,g,dk,x+1,-1,fun _=>none⟩ l
 k:Kept w W
variable {w:World}
theorem Gp.kept{b x i:Nat}(h:Gp w W s b g x i)(k:Kept W W'):Gp w W' s b g x i:=by
 obtain⟨dk,c,l,h1,h2,h3⟩:=h.out;exact⟨⟨dk,c,l,h1,h2,h3.kept k⟩,h.k.trans k⟩
theorem LW(hL:S.gU w){pa:Option Addr}{na ca:Nat}(A:Yp w pa na)(many:Int):Calls Tryz.prog 6 #[.slice pa na ca,.int .i64 many] w fun e w'=>e=.returned (.bool true)/\Kept w w':=by
 have h:fJ 0 w (.slice none 0 0) []:=⟨none,0,rfl,aac _,aag _,fun j hj=>by cases hj⟩;have a1:Calls Tryz.prog 8 #[.int .i64 900,.slice none 0 0] w _:=D.dN 900 (by omega) h (aag _) (aag _) (by intro _ h;cases h);have hpos:=hL.pos;have a2:Hid (∀ W,Kept w W->Calls Tryz.prog 9 #[] W fun e w'=>e=.returned (.bool true)/\Kept W w'):=fun W q=>GD (aC hL q)
 have a3:Hid (∀ W b g,aa w.heap.size W b g (Dk.new 900 [])->Kept w W->Calls Tryz.prog 10 #[.pointer (some ⟨b,0,none⟩)] W fun e w'=>∃ s,e=.returned (.tuple #[.pointer (some ⟨s,0,none⟩),.int .i64 0])/\Gc w w' s b g 0):=fun W b g hD q=>by
  refine (EE hD q.size (by decide) (by decide)).mono ?_;rintro e w' ⟨s,dk,rfl,a1,a2,o⟩;have kk:Kept w w':=⟨q.out.trans o.below⟩;exact⟨s,rfl,⟨dk,9,a2.fn,by omega,Gv.aa1 a1 kk.size hpos (aC hL kk)⟩,kk⟩
 have a4:Hid (∀ W s b g i,Gc w W s b g i->i<100->Calls Tryz.prog 15 #[.pointer (some ⟨s,0,none⟩)] W fun e w'=>e=.returned (.int .i64 0)/\Gc w w' s b g (i+1)):=fun W s b g i hc hi=>by
  obtain⟨dk,c,h1,h2,h3⟩:=hc.out;refine (Ck h3 rfl h1 (by omega) (by show i+1<3000;omega)).mono ?_;rintro e w' ⟨rfl,⟨dk',q1,q2⟩,q3⟩;exact⟨rfl,⟨dk',c+3,q1,by omega,q2⟩,⟨hc.k.out.trans q3⟩⟩
 have a5:Hid (∀ W s b g i,Gc w W s b g i->Calls Tryz.prog 26 #[.pointer (some ⟨s,0,none⟩)] W fun e w'=>e=.returned (.int .i64 (lf0 900:Nat))/\w'=W):=fun W s b g i hc=>by
  obtain⟨dk,c,h1,h2,h3⟩:=hc.out;exact GI h3
 have a6:Hid (∀ W s b g x i kx tx,Gp w W s b g x i->i<30->kx.size<=5->tx.size<=702->Calls Tryz.prog 17 #[.pointer (some ⟨s,0,none⟩),.string kx,.string tx] W fun e w'=>e=.returned (.int .i64 0)/\Gp w w' s b g x (i+1)):=fun W s b g x i kx tx hp hi h5 h6=>by
  obtain⟨dk,c,l,h1,h2,h3⟩:=hp.out;refine (GH h3 kx tx (by omega) h6 (by show 5*l.length+40<=900;omega)).mono ?_;rintro e w' ⟨rfl,⟨v,q1⟩,q2⟩;have:=xw kx [(kx,v)] l;simp only[aau,aaQ]at this;exact⟨rfl,⟨dk,c,_,h1,by omega,q1⟩,⟨hp.k.out.trans q2⟩⟩
 have a7:Hid (∀ W s b g x i,Gp w W s b g x i->Calls Tryz.prog 16 #[.pointer (some ⟨s,0,none⟩)] W fun e w'=>e=.returned (.tuple #[])/\Gc w w' s b g x):=fun W s b g x i hp=>by
  obtain⟨dk,c,l,h1,h2,h3⟩:=hp.out;refine (GJ h3 h1.1.Df.up rfl).mono ?_;rintro e w' ⟨rfl,q1,q2⟩;exact⟨rfl,⟨dk,c,h1.1,h1.2,q1⟩,⟨hp.k.out.trans q2⟩⟩
 have a8:Hid (∀ W s b g i,Gc w W s b g i->Calls Tryz.prog 27 #[.pointer (some ⟨s,0,none⟩)] W fun e w'=>e=.returned (.int .u64 ((i:Int)+1))/\Gc w w' s b g i):=fun W s b g i hc=>by
  obtain⟨dk,c,h1,h2,h3⟩:=hc.out;refine (LJ h3).mono ?_;rintro e w' ⟨rfl,k⟩;exact⟨by show _=Ending.returned (.int .u64 ((i:Int)+1));simp,⟨dk,c,h1,h2,h3.kept k⟩,hc.k.trans k⟩
 have a9:Hid (∀ W s b g i,Gc w W s b g i->Calls Tryz.prog 20 #[.pointer (some ⟨s,0,none⟩),.slice none 0 0] W fun e w'=>e=.returned (.bool true)/\Kept w w'):=fun W s b g i hc=>by
  obtain⟨dk,c,h1,h2,h3⟩:=hc.out;obtain⟨t,p,M,r,Y,P,hS,hV,hC,hbs⟩:=h3.out;obtain⟨rfl,rfl⟩:=vO hV.tr;refine (all_none hS hV.EO).mono ?_;rintro e w' ⟨rfl,k⟩;exact⟨rfl,hc.k.trans k⟩
 have HK:Hid (∀ W (a:Int) (k v:ByteArray) (b:Int),Calls Tryz.prog 12 #[.agg #[.int .i64 a,.string k,.string v,.int .i64 b]] W fun e w'=>(∃ x,e=.returned (.string x)/\x.size<=5)/\Kept W w'):=fun W a k v b=>TH W a k v b
 have HX:Hid (∀ W (a:Int) (k v:ByteArray) (b:Int),Calls Tryz.prog 18 #[.agg #[.int .i64 a,.string k,.string v,.int .i64 b]] W fun e w'=>(∃ x,e=.returned (.string x)/\x.size<=702)/\Kept W w'):=fun W a k v b=>Qg W a k v b
 obtain⟨ab,ao,aw,ak,av,al,aem,aat,ac0,ac1,ac2,ac3⟩:=A;have HA:Hid (∀ W,Kept w W->∀ j,j<na->W.cell? ⟨ab,ao+j*4,none⟩=some (.int .i64 (aw j))/\W.cell? ⟨ab,ao+j*4+1,none⟩=some (.string (ak j))/\W.cell? ⟨ab,ao+j*4+2,none⟩=some (.string (av j))/\W.cell? ⟨ab,ao+j*4+3,none⟩=some (.int .i64 (al j))):=fun W k j hj=>⟨k.cell (ac0 j hj),k.cell (ac1 j hj),k.cell (ac2 j hj),k.cell (ac3 j hj)⟩
 have HAt:Hid (0<na->pa=some ⟨ab,ao,none⟩):=aat;obtain⟨x,hx8,ex⟩:=Yq many;have hx7:(x:Int)<=7:=by omega
 clear h hpos hL ac0 ac1 ac2 ac3 aat;generalize Dk.new 900 []=dn at a1 a3;generalize lf0 900=lf at a5;go_enter Tryz.func6,Tryz.ntmps6;go_wp2_with (first
  | (go_at_call 8;(with_reducible refine a1.mono ?_);rintro e w1 ⟨b,g,rfl,D1,k1⟩;have K1:Kept w w1:=⟨k1.out⟩;have g2:=a2.out _ K1;have HD1:Hid (aa w.heap.size w1 b g dn):=D1;clear a1 a2 D1 k1)
  | (go_at_call 9;(with_reducible refine g2.mono ?_);rintro e w2 ⟨rfl,k2⟩;have g3:=a3.out _ b g (D.Kept.dk ⟨k2.out⟩ HD1.out) (K1.trans k2);clear g2 HD1 a3)
  | (go_at_call 10;(with_reducible refine g3.mono ?_);rintro e w3 ⟨s,rfl,S3⟩;have HS3:Hid (Gc w w3 s b g 0):=S3;clear g3 S3))
 clear K1;go_loopg [6,9] x (fun gg ev iv wx=>∃ i:Nat,ev=.int .i64 0/\iv=.int .u64 (i:Nat)/\Hid (gg=x-i)/\i<=x/\Hid (Gc w wx s b g i));case atStart=>exact⟨0,rfl,rfl,rfl,aag _,HS3⟩
 case round=>
  obtain⟨i,rfl,rfl,hg,hix,HI⟩:=hrel;clear HS3;by_cases h1:(i:Int)<(x:Int)
  ·have g4:=a4.out wr s b g i HI.out (by omega)
   go_wp2_with (go_at_call 15;(with_reducible refine g4.mono ?_);rintro e w4 ⟨rfl,S4⟩;have HS4:Hid (Gc w w4 s b g (i+1)):=S4;clear g4 S4);go_roundg (x-(i+1));case measure=>rw[hg.out];omega
   case rel=>exact⟨i+1,rfl,by go_num,rfl,by omega,HS4⟩
  ·obtain rfl:i=x:=by omega
   have g5:=a5.out wr s b g i HI.out;clear a4;go_wp2_with (go_at_call 26;(with_reducible refine g5.mono ?_);rintro e w5 ⟨rfl,hw5⟩;rw[hw5];clear hw5 g5);have HP0:Hid (Gp w wr s b g i 0):=by
    obtain⟨dk,c,q1,q2,q3⟩:=HI.out.out;exact⟨⟨dk,c,[],⟨q1,q2⟩,aac _,q3⟩,HI.out.k⟩
   clear HI;go_loopg [6,11] 30 (fun gg ev iv wx=>∃ j:Nat,ev=.int .i64 0/\iv=.int .i64 (j:Nat)/\Hid (gg=30-j)/\j<=30/\Hid (Gp w wx s b g i j));case atStart=>exact⟨0,rfl,rfl,rfl,aag _,HP0⟩
   case round=>
    obtain⟨j,rfl,rfl,hg2,aep,HJ⟩:=hrel;clear HP0;by_cases h2:(j:Int)<(na:Int)
    ·by_cases h3:(j:Int)<30
     ·obtain rfl:=HAt.out (by omega)
      have HSA:Hid (∀ W',Kept w W'->W'.cell? ⟨ab,ao+j*4,none⟩=some (.int .i64 (aw j))/\W'.cell? ⟨ab,ao+j*4+1,none⟩=some (.string (ak j))/\W'.cell? ⟨ab,ao+j*4+2,none⟩=some (.string (av j))/\W'.cell? ⟨ab,ao+j*4+3,none⟩=some (.int .i64 (al j))):=fun W' k=>HA.out W' k j (by omega)
      have gK:Hid (∀ W,Calls Tryz.prog 12 #[.agg #[.int .i64 (aw j),.string (ak j),.string (av j),.int .i64 (al j)]] W fun e w'=>(∃ x,e=.returned (.string x)/\x.size<=5)/\Kept W w'):=fun W=>HK.out W _ _ _ _
      have gX:Hid (∀ W,Calls Tryz.prog 18 #[.agg #[.int .i64 (aw j),.string (ak j),.string (av j),.int .i64 (al j)]] W fun e w'=>(∃ x,e=.returned (.string x)/\x.size<=702)/\Kept W w'):=fun W=>HX.out W _ _ _ _
      have gP:Hid (∀ W kx tx,Kept wr W->kx.size<=5->tx.size<=702->Calls Tryz.prog 17 #[.pointer (some ⟨s,0,none⟩),.string kx,.string tx] W fun e w'=>e=.returned (.int .i64 0)/\Gp w w' s b g i (j+1)):=fun W kx tx k h5 h6=>a6.out W s b g i j kx tx (HJ.out.kept k) (by omega) h5 h6
      have HKr:Hid (Kept w wr):=HJ.out.k;obtain⟨c0,c1,c2,c3⟩:=HSA.out wr HKr.out;generalize aw j=z0 at *;generalize ak j=z1 at *;generalize av j=z2 at *;generalize al j=z3 at *;go_upto_region 14 with fail
      have KD:Kept w wr.drew:=HKr.out.trans ((Kept.refl _).drew);have LD:Hid (Kept wr wr.drew):=(Kept.refl wr).drew;clear c0 c1 c2 c3;go_region_held3 (fun W'=>W'.cell? ⟨ab,ao+j*4,none⟩=some (.int .i64 z0)/\W'.cell? ⟨ab,ao+j*4+1,none⟩=some (.string z1)/\W'.cell? ⟨ab,ao+j*4+2,none⟩=some (.string z2)/\W'.cell? ⟨ab,ao+j*4+3,none⟩=some (.int .i64 z3)) (exact HSA.out _ (by assumption)) (first
       | (go_at_call 12;(with_reducible refine (gK.out _).mono ?_);rintro e v1 ⟨⟨kx,rfl,hkx⟩,q1⟩;have J1:=KD.trans q1;have L1:Hid (Kept wr v1):=LD.out.trans q1;have H1:Hid (kx.size<=5):=hkx;clear q1 KD LD gK hkx)
       | (go_at_call 18;(with_reducible refine (gX.out _).mono ?_);rintro e v2 ⟨⟨tx,rfl,htx⟩,q2⟩;have J2:=J1.trans q2;have g6:=gP.out v2 kx tx (L1.out.trans q2) H1.out htx;clear q2 J1 L1 gX htx)
       | (go_at_call 17;(with_reducible refine g6.mono ?_);rintro e v3 ⟨rfl,P3⟩;have J3:=P3.k;have HP3:Hid (Gp w v3 s b g i (j+1)):=P3;clear J2 g6 P3))
      clear HJ;go_wp2;go_roundg (30-(j+1));case measure=>rw[hg2.out];omega
      case rel=>exact⟨j+1,rfl,by go_num,rfl,by omega,HP3⟩
     ·have g7:=a7.out wr s b g i j HJ.out
      clear HJ;go_wp2_with (first
       | (go_at_call 16;(with_reducible refine g7.mono ?_);rintro e v7 ⟨rfl,P7⟩;have g8:=a8.out _ s b g i P7;clear g7 P7)
       | (go_at_call 27;(with_reducible refine g8.mono ?_);rintro e v8 ⟨rfl,P8⟩;have g5:=a5.out _ s b g i P8;have g9:=a9.out _ s b g i P8;clear g8 P8)
       | (go_at_call 26;(with_reducible refine g5.mono ?_);rintro e v9 ⟨rfl,Yv⟩;rw[Yv];clear Yv g5)
       | (go_at_call 20;(with_reducible refine g9.mono ?_);rintro e v10 ⟨rfl,K10⟩;clear g9))
      go_ret;exact⟨by first | rfl | decide | simp,K10⟩
    ·have g7:=a7.out wr s b g i j HJ.out
     clear HJ;go_wp2_with (first
      | (go_at_call 16;(with_reducible refine g7.mono ?_);rintro e v7 ⟨rfl,P7⟩;have g8:=a8.out _ s b g i P7;clear g7 P7)
      | (go_at_call 27;(with_reducible refine g8.mono ?_);rintro e v8 ⟨rfl,P8⟩;have g5:=a5.out _ s b g i P8;have g9:=a9.out _ s b g i P8;clear g8 P8)
      | (go_at_call 26;(with_reducible refine g5.mono ?_);rintro e v9 ⟨rfl,Yv⟩;rw[Yv];clear Yv g5)
      | (go_at_call 20;(with_reducible refine g9.mono ?_);rintro e v10 ⟨rfl,K10⟩;clear g9))
     go_ret;exact⟨by first | rfl | decide | simp,K10⟩
