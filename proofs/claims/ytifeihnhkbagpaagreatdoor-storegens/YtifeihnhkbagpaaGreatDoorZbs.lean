/- Joined. -/
import Derived.Test.YtifeihnhkbagpaaGreatDoorZbr
import Derived.Deep.SlicePairs
set_option maxRecDepth 100000
set_option maxHeartbeats 1000000
namespace Go.Proofs.YtifeihnhkbagpaaGreatDoor.T
open Go.ChangeShapes Go.WideShapes Go.ChangeAt Go.RowKit Go.Deep
open N (Kept)
structure Yp (W:World) (p:Option Addr) (n:Nat) where
 b:Nat
 o:Nat
 what:Nat->Int
 k:Nat->ByteArray
 v:Nat->ByteArray
 wide:Nat->Int
 max:n<=9223372036854775807
 at_:0<n->p=some ⟨b,o,none⟩
 c0:∀ j,j<n->W.cell? ⟨b,o+j*4,none⟩=some (.int .i64 (what j))
 c1:∀ j,j<n->W.cell? ⟨b,o+j*4+1,none⟩=some (.string (k j))
 c2:∀ j,j<n->W.cell? ⟨b,o+j*4+2,none⟩=some (.string (v j))
 c3:∀ j,j<n->W.cell? ⟨b,o+j*4+3,none⟩=some (.int .i64 (wide j))
theorem Qf:Tryz.prog.cellsOf 33=4:=by kernel_rfl
theorem Wm:Tryz.prog.cellsOf 9=1:=by kernel_rfl
theorem cells3:Tryz.prog.cellsOf 3=1:=by kernel_rfl
theorem add_add'(a:Addr)(j k:Nat):(a.add j).add k=a.add (j+k):=by
 obtain⟨b,off,spot⟩:=a;by_cases hj:j=0
 ·subst hj;simp[Addr.add]
 ·by_cases hk:k=0
  ·subst hk;simp[Addr.add]
  ·simp[Addr.add,hj,hk,Nat.add_assoc]
variable {W:World}{v:Value}
theorem TG{a:Addr}(h:W.cell? (a.add 0)=some v):a=⟨a.block,a.off,none⟩:=by
 have h1:=h;obtain⟨b,off,spot⟩:=a;simp only[Addr.add,if_true]at h1;cases spot with
 | none=>rfl
 | some q=>
  unfold World.cell? at h1;split at h1
  ·simp at h1
  ·cases h1
theorem Qn{H:Type}{enc:TypeId×Value->H}{base:Nat}{d:DataW H}{ps:List MemPlace}(hv:Value.okWide Tryz.prog W .any base 22 v)(h:DataW.Trod enc Tryz.prog W 0 (fun _=>true) true 22 v d ps):∃ p n cap,v=.slice p n cap/\Nonempty (Yp W p n):=by
 obtain⟨p,n,cap,rfl⟩:=okWide_slice Tryz.underlying22 hv;refine⟨p,n,cap,rfl,?_⟩;obtain⟨fuel,hf⟩:=h;have hf':DataW.trod enc Tryz.prog W 0 (fun _=>true) true fuel 22 [.slice p n cap]=some (d,ps):=by simpa[Value.cells] using hf
 rcases open_slice Tryz.underlying22 hf' with⟨h0,_⟩|⟨a,len,cap',m,k,D,Pl,hcs,_,hl,hm,hmm,_,hall⟩
 ·simp at h0
  obtain⟨rfl,rfl,rfl⟩:=h0;exact⟨0,0,fun _=>0,fun _=>⟨#[]⟩,fun _=>⟨#[]⟩,fun _=>0,by omega,fun h=>absurd h (by omega),fun j hj=>absurd hj (by omega),fun j hj=>absurd hj (by omega),fun j hj=>absurd hj (by omega),fun j hj=>absurd hj (by omega)⟩
 ·simp at hcs
  obtain⟨rfl,rfl,rfl⟩:=hcs;simp only[if_true]at hmm;subst hmm;have hmax:m<=9223372036854775807:=by unfold maxLen at hm;omega
  have key:∀ i,∃ x:Int×ByteArray×ByteArray×Int,i<n->W.cell? (a.add (i*4))=some (.int .i64 x.1)/\W.cell? (a.add (i*4+1))=some (.string x.2.1)/\W.cell? (a.add (i*4+2))=some (.string x.2.2.1)/\W.cell? (a.add (i*4+3))=some (.int .i64 x.2.2.2):=by
   intro i;by_cases hi:i<n
   ·obtain⟨cs',h1,h2⟩:=hall i (by omega)
    rw[Qf]at h1;obtain⟨_,hlen,hcell⟩:=World.cells?_some h1;obtain⟨xs,k',_,hxy,_,hxl,hf⟩:=DataW.trod_struct Tryz.underlying33 h2;match cs',hlen,xs,hxl with
    | [v0,v1,v2,v3],_,[y0,y1,y2,y3],_=>
     have g0:=hf 0 _ rfl;have g1:=hf 1 _ rfl;have g2:=hf 2 _ rfl;have g3:=hf 3 _ rfl;simp[cells3,Wm]at g0 g1 g2 g3;obtain⟨z0,e0,_,_⟩:=DataW.trod_int Tryz.underlying3 g0;obtain⟨s1,e1,_,_⟩:=DataW.trod_string Tryz.underlying9 g1;obtain⟨s2,e2,_,_⟩:=DataW.trod_string Tryz.underlying9 g2;obtain⟨z3,e3,_,_⟩:=DataW.trod_int Tryz.underlying3 g3;simp only[List.cons.injEq,and_true]at e0 e1 e2 e3;subst e0 e1 e2 e3;have q0:=hcell 0 (by omega);have q1:=hcell 1 (by omega);have q2:=hcell 2 (by omega);have q3:=hcell 3 (by omega);rw[add_add']at q0 q1 q2 q3;exact⟨(z0,s1,s2,z3),fun _=>⟨by simpa using q0,by simpa using q1,by simpa using q2,by simpa using q3⟩⟩
   ·exact⟨(0,⟨#[]⟩,⟨#[]⟩,0),fun e=>absurd e hi⟩
  obtain⟨X,hX⟩:=Classical.axiomOfChoice key;have hk:∀ j,j<n->a=⟨a.block,a.off,none⟩/\W.cell? ⟨a.block,a.off+j*4,none⟩=some (.int .i64 (X j).1)/\W.cell? ⟨a.block,a.off+j*4+1,none⟩=some (.string (X j).2.1)/\W.cell? ⟨a.block,a.off+j*4+2,none⟩=some (.string (X j).2.2.1)/\W.cell? ⟨a.block,a.off+j*4+3,none⟩=some (.int .i64 (X j).2.2.2):=by
   intro j hj;obtain⟨c0,c1,c2,c3⟩:=hX j hj;have hsp:=TG (by have:=(hX 0 (by omega)).1;rwa [Nat.zero_mul]at this);rw[hsp,Addr.add_lit]at c0 c1 c2 c3;exact⟨hsp,c0,by rw[Nat.add_assoc];exact c1,by rw[Nat.add_assoc];exact c2,by rw[Nat.add_assoc];exact c3⟩
  exact⟨a.block,a.off,fun j=>(X j).1,fun j=>(X j).2.1,fun j=>(X j).2.2.1,fun j=>(X j).2.2.2,by omega,fun h=>by rw[<- (hk 0 h).1],fun j hj=>(hk j hj).2.1,fun j hj=>(hk j hj).2.2.1,fun j hj=>(hk j hj).2.2.2.1,fun j hj=>(hk j hj).2.2.2.2⟩
open N (C4)
theorem Yq(a:Int):∃ x:Nat,x<8/\bits .and .i64 a 7=(x:Int):=by
 have key:(BitVec.ofInt 64 a &&& BitVec.ofInt 64 7).toNat=(a % ((2 ^ 64:Nat):Int)).toNat % 2 ^ 3:=by
  rw[BitVec.toNat_and,BitVec.toNat_ofInt,show (BitVec.ofInt 64 7).toNat=2 ^ 3-1 by decide,Nat.and_two_pow_sub_one_eq_mod]
 have hl:=Nat.mod_lt (a % ((2 ^ 64:Nat):Int)).toNat (Nat.two_pow_pos 3);refine⟨(a % ((2 ^ 64:Nat):Int)).toNat % 2 ^ 3,hl,?_⟩;show IntKind.i64.wrap ((BitVec.ofInt 64 a &&& BitVec.ofInt 64 7).toNat:Nat)=_;rw[key,IntKind.wrap_i64];omega
theorem TH(w:World)(a:Int)(k v:ByteArray)(b:Int):Calls Tryz.prog 12 #[.agg #[.int .i64 a,.string k,.string v,.int .i64 b]] w fun e w'=>(∃ x,e=.returned (.string x)/\x.size<=5)/\Kept w w':=by
 have K0:Kept w (w.alloc (.cells #[.int .i64 a,.string k,.string v,.int .i64 b] 33)):=(Kept.refl w).alloc _;obtain⟨x0,x1,x2,x3⟩:=(C4.alloc w 33 (.int .i64 a) (.string k) (.string v) (.int .i64 b)).cs;obtain⟨mn,hm0,hm1,hm4⟩:∃ mn:Nat,min (k.size:Int) 5=(mn:Int)/\mn<=k.size/\mn<=5:=⟨min k.size 5,by omega,by omega,by omega⟩;have hm2:(0:Int)<=(mn:Int):=by omega
 have YF:(mn:Int)<=(k.size:Int):=by omega
 have HZ:Hid ((k.extract 0 mn).size<=5):=by show _<=_;rw[ByteArray.size_extract];omega
 clear hm1 hm4;go_enter Tryz.func12,Tryz.ntmps12;go_wp2;go_ret;exact⟨⟨_,rfl,HZ.out⟩,K0⟩
theorem Qg(w:World)(a:Int)(k v:ByteArray)(b:Int):Calls Tryz.prog 18 #[.agg #[.int .i64 a,.string k,.string v,.int .i64 b]] w fun e w'=>(∃ x,e=.returned (.string x)/\x.size<=702)/\Kept w w':=by
 have K0:Kept w (w.alloc (.cells #[.int .i64 a,.string k,.string v,.int .i64 b] 33)):=(Kept.refl w).alloc _;obtain⟨x0,x1,x2,x3⟩:=(C4.alloc w 33 (.int .i64 a) (.string k) (.string v) (.int .i64 b)).cs;obtain⟨mn,hm0,hm1,hm4⟩:∃ mn:Nat,min (v.size:Int) 20=(mn:Int)/\mn<=v.size/\mn<=20:=⟨min v.size 20,by omega,by omega,by omega⟩;have hm2:(0:Int)<=(mn:Int):=by omega
 have YF:(mn:Int)<=(v.size:Int):=by omega
 have HZ:Hid ((v.extract 0 mn).size<=20):=by show _<=_;rw[ByteArray.size_extract];omega
 obtain⟨n,hn,en⟩:=Yq b;have hn':(n:Int)<=7:=by omega
 clear hm1 hm4;obtain⟨C,hC⟩:∃ C:ByteArray,(⟨#[48,49,50,51,52,53,54,55,56,57,48,49,50,51,52,53,54,55,56,57,48,49,50,51,52,53,54,55,56,57,48,49,50,51,52,53,54,55,56,57]⟩:ByteArray)=C:=⟨_,rfl⟩;have hCs:C.size=40:=by rw[<- hC];rfl
 go_enter Tryz.func18,Tryz.ntmps18;rw[hC];go_wp2;go_loopg [3,4] n (fun gg tv iv wx=>∃ (i:Nat) (x:ByteArray),tv=.string x/\iv=.int .i64 i/\Hid (gg=n-i)/\i<=n/\x.size<=20+70*i/\Hid (wx=w.alloc (.cells #[.int .i64 a,.string k,.string v,.int .i64 b] 33)));case atStart=>exact⟨0,_,rfl,rfl,rfl,aag _,by have:=HZ.out;omega,rfl⟩
 case round=>
  obtain⟨i,x,rfl,rfl,hg,hin,hx,hw⟩:=hrel;obtain rfl:=hw.out;clear hw;by_cases h1:(i:Int)<(n:Int)
  ·obtain⟨mm,hq0,hq1,hq4⟩:∃ mm:Nat,min (x.size:Int) 30=(mm:Int)/\mm<=x.size/\mm<=30:=⟨min x.size 30,by omega,by omega,by omega⟩
   have hq2:(0:Int)<=(mm:Int):=by omega
   have hq3:(mm:Int)<=(x.size:Int):=by omega
   have HY:Hid ((x++(C++x.extract 0 mm)).size<=20+70*(i+1)):=by show _<=_;rw[ByteArray.size_append,ByteArray.size_append,ByteArray.size_extract];omega
   have hz:(x.extract 0 mm).size<=30:=by rw[ByteArray.size_extract];omega
   go_wp2;go_roundg (n-(i+1));case measure=>rw[hg.out];omega
   case rel=>exact⟨i+1,_,rfl,by go_num,rfl,by omega,HY.out,rfl⟩
  ·have YJ:x.size<=702:=by omega
   go_wp2;go_ret;exact⟨⟨x,rfl,YJ⟩,K0⟩
open Go.Proofs.YtifeihnhkbagpaaGreatDoor.D (Dk)
open B (Pm En Tree)
open G (keysOf)
theorem vO{M:Pm}{r:Int}(h:Tree M r []):r=-1/\M=fun _=>none:=by
 rcases h with⟨h1,_,h2⟩|⟨d,n,_,hT,hc⟩
 ·exact⟨h1,funext h2⟩
 ·have:=hT.many.1
  rw[hc]at this;have:=Nat.two_pow_pos d;simp only[aaQ]at *;omega
variable {m:Xm}
theorem Jn{P:ByteArray->List Nat}(h:Cv m [] P):m.Y=fun _=>none:=by
 funext k;cases hk:m.Y k with
 | none=>rfl
 | some x=>obtain⟨e,he,_⟩:=h.all k x hk;cases he
theorem zC(m:Xm)(hY:m.Y=fun _=>none)(P:ByteArray->List Nat):Cv m [] P:=⟨(fun e he=>by cases he),(fun e he=>by cases he),fun k x hx=>by rw[hY]at hx;cases hx⟩
variable {B c:Nat}{w:World}
theorem Qh{p:Nat}(h:Pv B w p m (fun _=>none))(hY:m.Y=fun _=>none)(hr:m.root=-1)(hf:Fn m.n c m.dk)(hc:c<30000)(hg:m.gen<3000)(hB:B<=w.heap.size) :
  ∃ dk',Fn m.n (c+3) dk'/\Calls Tryz.prog 35 #[.pointer (some ⟨p,0,none⟩),.int .i64 (-1)] w fun r w'=>r=.returned (.int .i64 0)/\Pv B w' p { m with dk:=dk',gen:=m.gen+1 } (fun _=>none)/\G.On B w w':=by
 obtain⟨q,hG,hm,⟨e1,e2,e3,e4,e5⟩,hfr,hu,hn,hk⟩:=h.out;have hfn:Fn m.n c q.disk:=by rw[e2];exact hf
 have Yr:q.fresh=fun _=>none:=funext fun k=>by rw[hfr k];unfold sP;rw[hY]
 have hkeys:keysOf q.fresh=[]:=by
  rw[Yr];unfold keysOf;simp
 have TD:P.oV (q.gen+1) (-1):=by unfold P.oV;omega
 obtain⟨d1,d',w1,w2,ok,f⟩:=G.wh hG hB hfn.ok (by omega) e4 (fun k=>by rw[Yr];unfold G.nG;simp[G.bG.zero]) (by omega) (-1) TD hfn.Df (hfn.live _) (fun k hk'=>by rw[hkeys]at hk';cases hk') (by rw[hfn.len];exact h.two);rw[hkeys]at ok;refine⟨d',⟨w2.Df,by rw[w2.len,w1.len,hfn.len],by rw[w2.cuts,w1.cuts,hfn.cuts],by rw[w2.fails,w1.fails,hfn.fails],ok⟩,f.mono ?_⟩;rintro r w' ⟨rfl,hG',o⟩;have hcut:d'.cuts=[]:=by rw[w2.cuts,w1.cuts,hfn.cuts]
 refine⟨rfl,⟨⟨_,hG',hm,⟨by show q.gen+1=m.gen+1;rw[e1],rfl,by show (-1:Int)=m.root;rw[hr],rfl,fun k=>?_⟩,fun k=>?_,fun k wN=>?_,fun k wN=>?_,fun k wN=>?_⟩,(fun k x hx=>by cases hx),(fun k x hx=>by have hx':m.Y k=some x:=hx;rw[hY]at hx';cases hx'),⟨by show m.gen+1<4000;omega,hcut⟩,h.few,h.two⟩,o⟩
 ·show (if (q.fresh k).isSome then none else q.held k)=none
  rw[e5 k];simp
 ·show none=sP _ _ k
  unfold sP;show none=m.Y k;rw[hY]
 ·show q.un k=_
  rw[hn k wN];rfl
 ·show q.un k=_
  rw[hn k wN];rfl
 ·show q.un k=_
  rw[hn k wN];unfold pQ;rw[hY];simp
variable {s:Nat}
theorem Ck(h:Gv B w s m [])(hr:m.root=-1)(hf:Fn m.n c m.dk)(hc:c<30000)(hg:m.gen<3000):
 Calls Tryz.prog 15 #[.pointer (some ⟨s,0,none⟩)] w fun e w'=>e=.returned (.int .i64 0)/\(∃ dk',Fn m.n (c+3) dk'/\Gv B w' s { m with dk:=dk',gen:=m.gen+1 } [])/\Below B w w':=by
 obtain⟨t,p,M,r,Y,P,hS,hV,hC,hbs⟩:=h.out;obtain⟨rfl,rfl⟩:=vO hV.tr;have hY:Y=fun _=>none:=Jn hC
 subst hY;obtain⟨dk',fn,f⟩:=Qh (m:={ m with Y:=fun _=>none }) (hV.pv.kept ((Kept.refl w).drew)) rfl hr hf hc hg hV.bw;have f1:=bE hS;have f2:=oF (hV.EO.kept ((Kept.refl w).drew));obtain⟨c0,c1,c2,c3,c4⟩:=hS.cs;have HS:Hid (bB w s m.d p t 0 false):=hS;have HX:Hid (∀ W,Pv B W p { m with Y:=fun _=>none,dk:=dk',gen:=m.gen+1 } (fun _=>none)->G.On B w.drew W->∃ dk',Fn m.n (c+3) dk'/\Gv B W s { m with dk:=dk',gen:=m.gen+1 } []):=fun W hp o=>by
  have o':G.On B w W:=⟨(Below.refl B w).drew.trans o.below,o.rows⟩;exact⟨dk',fn,⟨t,p,_,-1,fun _=>none,P,hS.on o',⟨hV.EO.on o',hp,.inl ⟨rfl,rfl,fun _=>rfl⟩,hV.bt,aad hV.bw o'.size,hV.b0,eZ hV.Ur o' hV.b0⟩,zC _ rfl _,hbs⟩⟩
 clear h hV hC fn hf hc hg hr hS;go_enter Tryz.func15,Tryz.ntmps15;go_wp2_with (go_at_call 25;(with_reducible refine f1.mono ?_);rintro e w1 ⟨rfl,hw1⟩;rw[hw1];clear hw1);go_region_held3 (fun W=>W.cell? ⟨s,1,none⟩=some (.pointer (some ⟨p,0,none⟩))/\W.cell? ⟨s,2,none⟩=some (.pointer (some ⟨t,0,none⟩))) (first | trivial | go_keep | exact e12) (first
  | (go_at_call 36;(with_reducible refine f2.mono ?_);rintro e w1 ⟨rfl,hw1⟩;rw[hw1];clear hw1)
  | (go_at_call 35;(with_reducible refine f.mono ?_);rintro e w2 ⟨rfl,V2,o2⟩;have S2:bB w2 s m.d p t 0 false:=bB.on (W:=w.drew) ⟨HS.out.out⟩ o2;obtain⟨x0,x1,x2,x3,x4⟩:=S2.cs;have xf:=S2.fz 3;have S3:=S2.ui 0;obtain⟨z0,z1,z2,z3,z4⟩:=S3.cs;have zf:=S3.fz 4;have S4:=S3.V9 false;obtain⟨u0,u1,u2,u3,u4⟩:=S4.cs;have e12:(w2.setCell ⟨s,3,none⟩ (.int .i64 0)).cell? ⟨s,1,none⟩=some (.pointer (some ⟨p,0,none⟩))/\(w2.setCell ⟨s,3,none⟩ (.int .i64 0)).cell? ⟨s,2,none⟩=some (.pointer (some ⟨t,0,none⟩)):=⟨z1,z2⟩;have HF:Hid ((∃ dk',Fn m.n (c+3) dk'/\Gv B ((w2.setCell ⟨s,3,none⟩ (.int .i64 0)).setCell ⟨s,4,none⟩ (.bool false)) s { m with dk:=dk',gen:=m.gen+1 } [])/\Below B w ((w2.setCell ⟨s,3,none⟩ (.int .i64 0)).setCell ⟨s,4,none⟩ (.bool false))):=(by obtain⟨dk2,fn2,gv⟩:=HX.out _ V2 o2;exact⟨⟨dk2,fn2,(gv.turn (fun t p hS=>hS.ui 0) (lN _ _ _ _)).turn (fun t p hS=>hS.V9 false) (lN _ _ _ _)⟩,((((Below.refl B w).drew).trans o2.below).setCell hbs _).setCell hbs _⟩);clear V2 o2 S2 S3 S4))
 all_goals go_wp2
 all_goals go_ret
 all_goals exact⟨rfl,HF.out⟩
def lf0 (n:Nat):Nat:=S.cnt n (fun k=>decide (k<2))
theorem GI(h:Gv B w s m []):Calls Tryz.prog 26 #[.pointer (some ⟨s,0,none⟩)] w fun e w'=>e=.returned (.int .i64 (lf0 m.n:Nat))/\w'=w:=by
 obtain⟨t,p,M,r,Y,P,hS,hV,hC,hbs⟩:=h.out;obtain⟨rfl,rfl⟩:=vO hV.tr;have hY:Y=fun _=>none:=Jn hC
 subst hY;obtain⟨q,hG,hm,_,_,hu,_⟩:=hV.pv.out;have f:=G.lG hG;have e:S.cnt q.m q.ut=lf0 m.n:=by
  rw[hm];exact S.vg fun k hk=>by rw[hu k hk];unfold pQ;simp
 rw[e]at f;obtain⟨c0,c1,c2,c3,c4⟩:=hS.cs;generalize lf0 m.n=z at *;clear hV hC hG hu hm e hS;go_enter Tryz.func26,Tryz.ntmps26;go_wp2_with (go_at_call 43;(with_reducible refine f.mono ?_);rintro e w1 ⟨rfl,hw1⟩;rw[hw1];clear hw1);go_ret;exact⟨rfl,rfl⟩
variable {l:List En}
theorem LJ(h:Gv B w s m l):Calls Tryz.prog 27 #[.pointer (some ⟨s,0,none⟩)] w fun e w'=>e=.returned (.int .u64 m.gen)/\Kept w w':=by
 obtain⟨t,p,M,r,Y,P,hS,hV,hC,hbs⟩:=h.out;obtain⟨q,hG,hm,e1,_⟩:=hV.pv.out;have:=AY hS hG;rw[e1.1]at this;exact this
theorem GJ(h:Gv B w s m l)(hd:m.dk.dead=false)(hr:m.root=-1):
 Calls Tryz.prog 16 #[.pointer (some ⟨s,0,none⟩)] w fun e w'=>e=.returned (.tuple #[])/\Gv B w' s m []/\Below B w w':=by
 obtain⟨t,p,M,r,Y,P,hS,hV,hC,hbs⟩:=h.out;obtain⟨q,⟨a,a1,a2,hG⟩,hm,e1,_⟩:=hV.pv.out;have f1:Calls Tryz.prog 22 #[.pointer (some ⟨m.d,0,none⟩)] w fun e w'=>e=.returned (.bool false)/\w'=w:=by
  have:=D.dX hG.disk;rw[a1,e1.2.1]at this;rw[hd]at this;exact this
 have f2:=hV.pv.Rf hV.bw;obtain⟨c0,c1,c2,c3,c4⟩:=hS.cs;have HS:Hid (bB w s m.d p t 0 false/\B<=s/\B<=w.heap.size/\1<B/\S.gU w):=⟨hS,hbs,hV.bw,hV.b0,hV.Ur⟩;have f3:Hid (∀ W,Pv B W p { m with Y:=fun _=>none } (fun _=>none)->bB W s m.d p t 0 false->Calls Tryz.prog 38 #[.pointer (some ⟨s,0,none⟩)] W fun e w'=>e=.returned (.tuple #[])/\∃ t,bB w' s m.d p t 0 false/\dI w' t p (-1)/\W.heap.size<=t/\W.grownBy w' (some s)):=fun W hp hs=>by
  obtain⟨q',hG',_,e',_⟩:=hp.out;have:=zz hs.out hG';have e3:q'.root=-1:=by rw[e'.2.2.1];exact hr
  rw[e3]at this;exact this
 clear h hV hC hG hm e1 hS hd hr;go_enter Tryz.func16,Tryz.ntmps16;go_wp2_with (first
  | (go_at_call 22;(with_reducible refine f1.mono ?_);rintro e w1 ⟨rfl,hw1⟩;rw[hw1];clear hw1)
  | (go_at_call 37;(with_reducible refine f2.mono ?_);rintro e w2 ⟨rfl,V2,o2⟩;have S2:=HS.out.1.on o2;have g3:=f3.out _ V2 S2;have LU:Hid (Pv B w2 p { m with Y:=fun _=>none } (fun _=>none)/\G.On B w w2/\bB w2 s m.d p t 0 false):=⟨V2,o2,S2⟩;clear f2 V2 o2 S2 f3)
  | (go_at_call 38;(with_reducible refine g3.mono ?_);rintro e w3 ⟨rfl,t3,S3,T3,ht3,YL⟩;obtain⟨z0,z1,z2,z3,z4⟩:=S3.cs;have zf:=S3.fz 3;have HF:Hid (Gv B w3 s m []/\Below B w w3):=(by
    have hb3:Below B w2 w3:=(Below.refl B w2).grown YL (aad HS.out.2.2.1 LU.out.2.1.size) (fun k e=>(by injection e with e;have:=HS.out.2.1;omega))
    have hbw:=LU.out.2.1.below.trans hb3
    refine⟨⟨t3,p,_,-1,fun _=>none,fun _=>[],S3,⟨T3,LU.out.1.ap (Ap.grown YL (fun b e=>?_)),.inl ⟨rfl,rfl,fun _=>rfl⟩,aad HS.out.2.2.1 (aad LU.out.2.1.size ht3),aad HS.out.2.2.1 (aad LU.out.2.1.size YL.size),HS.out.2.2.2.1,G.eZ HS.out.2.2.2.2 hbw HS.out.2.2.2.1⟩,zC _ rfl _,HS.out.2.1⟩,hbw⟩
    injection e with e
    subst e
    exact⟨_,_,_,LU.out.2.2.out,by decide⟩);clear g3 S3 T3 YL ht3))
 first | go_end0 | refine bodyPost_ret (results_none rfl _ _ _) rfl ?_
 exact⟨rfl,HF.out.1.turn (fun t p hS=>hS.ui 0) (lN _ _ _ _),HF.out.2.setCell HS.out.2.1 _⟩
