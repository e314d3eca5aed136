/- Joined. -/
import Derived.Test.YtifeihnhkbagpaaGreatDoorZbm
import Derived.Test.YtifeihnhkbagpaaGreatDoorZbn
set_option maxRecDepth 100000
set_option maxHeartbeats 2000000
namespace Go.Proofs.YtifeihnhkbagpaaGreatDoor.T
open ChangeShapes WideShapes ChangeAt RowKit
open B (ig fF fm Pm pt kG Stp nI Ext Pn RZ jC us Lv Sg Pf Mk En R upd Tr Tree bN path bF iI iU cA cC got kH Wf wY uN jE wT)
open N (Nd NV NZ Nw Rw Rx Own Kept dA dQ aO Vl C4 C3 Up blk bP gG jG iA jr nW pU BD)
theorem Ld(w:World)(d:ByteArray)(hd:d.size<=48):Calls Tryz.prog 92 #[.agg #[.string d,.int .i64 (-1),.int .i64 0]] w fun e w'=>e=.returned (.bool true)/\Kept w w':=by
 have K0:Kept w (w.alloc (.cells #[.string d,.int .i64 (-1),.int .i64 0] 77)):=(Kept.refl w).alloc _;obtain⟨x0,x1,x2⟩:=(C3.alloc w 77 (.string d) (.int .i64 (-1)) (.int .i64 0)).cs;have h1:(d.size:Int)<=48:=by omega
 go_enter Tryz.func92,Tryz.ntmps92;go_wp2;go_ret;exact⟨rfl,K0⟩
theorem Gs(w:World)(p l:Nat)(hp:p<=16383)(h1:49<=l)(h2:l<=65536):Calls Tryz.prog 92 #[.agg #[.string ⟨#[]⟩,.int .i64 p,.int .i64 l]] w fun e w'=>e=.returned (.bool true)/\Kept w w':=by
 have K0:Kept w (w.alloc (.cells #[.string ⟨#[]⟩,.int .i64 p,.int .i64 l] 77)):=(Kept.refl w).alloc _;obtain⟨x0,x1,x2⟩:=(C3.alloc w 77 (.string ⟨#[]⟩) (.int .i64 p) (.int .i64 l)).cs;have e0:¬ (p:Int)=-1:=by omega
 have e1:(0:Int)<=(p:Int):=by omega
 have e2:(p:Int)<16384:=by omega
 have e3:(48:Int)<(l:Int):=by omega
 have e4:(l:Int)<=65536:=by omega
 go_enter Tryz.func92,Tryz.ntmps92;go_wp2;go_ret;exact⟨by first | rfl | simp[e1,e2,e3,e4],K0⟩
theorem Ex(w:World){v:Vl}(hv:BD v):Calls Tryz.prog 92 #[.agg #[.string v.d,.int .i64 v.p,.int .i64 v.l]] w fun e w'=>e=.returned (.bool true)/\Kept w w':=by
 rcases hv with⟨h1,h2,h3⟩|⟨h1,p,l,h2,h3,h4,h5,h6⟩
 ·rw[h1,h2];exact Ld w v.d h3
 ·rw[h1,h2,h4];exact Gs w p l h3 h5 (by omega)
theorem Le(key:ByteArray):iA [] key=[key]:=by simp[iA,gG,N.ins,bP]
theorem Lf(key:ByteArray)(v:Vl):jr [] [] key v=[v]:=by simp[jr,gG,N.ins,bP]
theorem Tk(key:ByteArray):jG [] [] key=⟨⟨#[]⟩,-1,0⟩:=by simp[jG,gG]
theorem Tm(key:ByteArray):gG key []=false:=by simp[gG]
variable {key:ByteArray}
theorem Lg{v:Vl}(hk:key.size<=64)(hv:BD v):N.Good ⟨true,[key],[v],[]⟩/\(⟨true,[key],[v],[]⟩:Nd).put.length<=237:=by
 have g:N.Good ⟨true,[key],[v],[]⟩:=⟨by simp,fun k h=>by simp at h;rw[h];exact hk,fun _=>⟨rfl,rfl⟩,(fun e=>by cases e),fun x h=>by simp at h;rw[h];exact hv,fun i h=>by cases h⟩;refine⟨g,?_⟩;rw[jE g rfl];have h1:=wT [key] (fun k h=>by simp at h;rw[h];exact hk);have h2:N.fo [v]<=50:=by
  have:=N.kg _ hv;simp[N.fo];omega
 simp at h1;show 1+N.dB [key] + N.fo [v]<=237;omega
variable {B t p:Nat}{w:World}{m:Xm}{M:Pm}
theorem AV(key:ByteArray){v:Vl}(hT:dI w t p (-1))(Tf:B<=t)(hV:Pv B w p m M)(hM:∀ q,M q=none)(hB:B<=w.heap.size)(hL:S.gU w)(hk:key.size<=64)(hv:BD v):
 Calls Tryz.prog 61 #[.pointer (some ⟨t,0,none⟩),.string key,.agg #[.string v.d,.int .i64 v.p,.int .i64 v.l]] w (Px 0 B t p m (-1) M [(key,v)] ⟨⟨#[]⟩,-1,0⟩ false w):=by
 obtain⟨g1,g2⟩:=Lg (key:=key) hk hv;refine Ew (ks':=[key]) (vs':=[v]) hT hB hk (fun W _=>Ex W hv) (fun W k=>?_);refine (I7 (key:=key) (hT.kept k)).mono ?_;rintro e w1 ⟨rfl,rfl⟩;refine⟨none,0,0,true,none,0,0,none,0,0,none,0,0,rfl,⟨fun W1 _=>Bu W1,fun W1 _=>?_,fun W1 kp' mm aY Gr eO k1 hN=>?_⟩,Kept.refl _⟩
 ·have:=N.Dt (w:=W1) (l:=true) (kp:=none) (vp:=none) (ip:=none) (n:=0) (kc:=0) (vc:=0) (ni:=0) (ic:=0) (ks:=[]) (vs:=[]) ⟨rfl,aac _,aag _,.inl ⟨rfl,rfl⟩⟩ ⟨rfl,aac _,aag _,.inl ⟨rfl,rfl⟩⟩ (by omega) key v
  rw[Le,Lf,Tk,Tm]at this;exact this
 ·exact replace_nil ((hT.kept k).kept k1) Tf ((hV.kept k).kept k1) hM (aad hB (aad k.size k1.size)) (aC (aC hL k) k1) hN rfl g1 g2
variable {n:Nat}
theorem Tn{d:Nat}{L:List Sm}{s:Stp}{q:Option Addr}{cap len:Nat}(hs:(path M key d n)[d]? = some s)(ER:L.map Sm.wZ=path M key d n)(hW:EN w q len cap L)(hp:Pf M key 0 s (cA M d ((path M key d n).take d)) (cC M d ((path M key d n).take d))) :
  ∃ z:Sm,L[d]? = some z/\z.x=s.x/\NV w z.l z.kp z.nk z.kc z.vp z.nk z.vc z.ip z.ni z.ic s.x/\z.nv=z.nk/\z.nk<=120:=by
 have e:=hs;rw[<- ER,List.getElem?_map]at e;cases hz:L[d]? with
 | none=>rw[hz]at e;cases e
 | some z=>
  rw[hz]at e;have ez:z.wZ=s:=aaq e;have ex:z.x=s.x:=by rw[<- ez];rfl
  have hn:=hW.ok z (aak hz);have g:=hp.wf.good;have hl:=(g.lv hp.wf.1).1;unfold Sm.ok at hn;rw[ex]at hn;have a:=hn.nk;have b:=hn.nv;have Nn:z.nv=z.nk:=by omega
  refine⟨z,rfl,ex,?_,Nn,by have:=g.few;omega⟩;rw[Nn]at hn;exact hn
variable {root:Int}{l:List En}
theorem PD(key:ByteArray){v:Vl}(hT:dI w t p root)(Tf:B<=t)(hV:Pv B w p m M)(h:Tree M root l)(hB:B<=w.heap.size)(hB0:1<B)(hL:S.gU w)(hk:key.size<=64)(hv:BD v):
 Calls Tryz.prog 61 #[.pointer (some ⟨t,0,none⟩),.string key,.agg #[.string v.d,.int .i64 v.p,.int .i64 v.l]] w (Px (if l=[] then 0 else 23) B t p m root M (upd key [(key,v)] l) (had key l) (got key l).isSome w):=by
 rcases h with⟨rfl,rfl,hM⟩|⟨dd,n,rfl,hTr,rfl⟩
 ·rw[aao rfl]
  exact AV key hT Tf hV hM hB hL hk hv
 ·have hdd:=wY hTr (fun k x hx=>(hV.wU k x hx).2.1) hV.few
  have hne:bN (fm M dd n)≠[]:=fun e=>by
   have:=(Tr.many hTr).1;rw[e]at this;have:0<2 ^ dd:=Nat.pow_pos (by decide);simp at *
  rw[aai hne];have Eu:=hTr.pf key;have VT:=Po Eu (by omega);have hpl:=bF M key dd n;obtain⟨s,hs⟩:∃ s,(path M key dd n)[dd]? = some s:=⟨_,aae (by omega)⟩;obtain⟨_,hps⟩:=iI dd n [] [] Eu dd s hs;rw[Nat.sub_self,List.nil_append,aaM]at hps;have hg:=kH dd n [] [] Eu s hs;have e1:had key (bN (fm M dd n))=jG s.x.ks s.x.vs key:=by
   unfold had;rw[hg];split
   ·rfl
   ·rename_i hi;unfold jG;rw[aai hi];rfl
  have e2:(got key (bN (fm M dd n))).isSome=gG key s.x.ks:=by
   rw[hg];split
   ·rename_i hi;rw[hi];rfl
   ·rename_i hi;simp at hi;rw[hi];rfl
  rw[e1,e2];refine Ew (ks':=iA s.x.ks key) (vs':=jr s.x.ks s.x.vs key v) hT hB hk (fun W _=>Ex W hv) (fun W k=>?_);refine (Ef (hT.kept k) (hV.kept k) VT (by omega) (fun s hs=>by rw[ig]at hs;rw[<- aaq hs];rfl)).mono ?_;rintro e w1 ⟨q,c,L,rfl,ER,hW,k1⟩;obtain⟨z,hz,YH,hN,Nn,hnk⟩:=Tn hs ER hW hps;refine⟨q,_,c,z.l,z.kp,z.nk,z.kc,z.vp,z.nv,z.vc,z.ip,z.ni,z.ic,rfl,⟨fun W1 k2=>nV (k:=dd) (hW.kept k2) (by omega) hpl hz,fun W1 k2=>?_,fun W1 kp' mm aY Gr eO k2 hN2=>?_⟩,k1⟩
  ·rw[Nn]
   exact N.Dt (hN.kept k2).k (hN.kept k2).v (by omega) key v
  ·refine Cf (d:=dd) (((hT.kept k).kept k1).kept k2) Tf (((hV.kept k).kept k1).kept k2) (aad hB (aad k.size (aad k1.size k2.size))) hB0 (aC (aC (aC hL k) k1) k2) (hW.kept k2) hpl ER hTr (by omega) hN2 (fun s' hs'=>?_)
   rw[hs]at hs';obtain rfl:=aaq hs';exact (hps.start hk v hv).1
open B (nJ pK su ou yN oz)
def yn (m:Xm):Nat:=su (fun q=>if (m.Y q).isSome=true then 1 else 0) m.n
variable {M':Pm}
theorem Tp{k:Nat}(h:Er m M M' k)(ht:Tree M root l):m.n<=2*l.length-1+k+2+yn m:=by
 obtain⟨a,b,c⟩:=h.out;have h1:m.n<=su (fun q=>us M' q+(if (m.Y q).isSome=true then 1 else 0)) m.n+2:=by
  have key:∀ k,k<=m.n->k<=su (fun q=>us M' q+(if (m.Y q).isSome=true then 1 else 0)) k+2:=by
   intro k;induction k with
   | zero=>intro _;omega
   | succ k ih=>
    intro hk;have h3:=ih (by omega);simp only[su];by_cases h2:2<=k
    ·have h4:=h.full k h2 (by omega)
     have h5:1<=us M' k+(if (m.Y k).isSome=true then 1 else 0):=by
      unfold pQ at h4;unfold us;cases e1:(M' k).isSome <;> cases e2:(m.Y k).isSome <;> simp[e1,e2]at h4 ⊢
      omega
     omega
    ·omega
  exact key m.n (aac _)
 rw[yN]at h1;have h2:=pK m.n ht;have h3:nJ M' m.n=nJ M m.n+su (fun q=>a.count q) m.n:=by
  unfold nJ;rw[<- yN];exact ou fun q _=>c q
 have h4:=(oz a m.n).1;unfold yn;unfold nJ at h2 h3;omega
structure Vw (B:Nat) (W:World) (t p:Nat) (m:Xm) (root:Int) (M:Pm) (l:List En):Prop where
 EO:dI W t p root
 pv:Pv B W p m M
 tr:Tree M root l
 bt:B<=t
 bw:B<=W.heap.size
 b0:1<B
 Ur:S.gU W
variable {W W':World}
theorem Vw.kept(h:Vw B W t p m root M l)(k:Kept W W'):Vw B W' t p m root M l:=⟨h.EO.kept k,h.pv.kept k,h.tr,h.bt,aad h.bw k.size,h.b0,aC h.Ur k⟩
theorem Vw.readable(h:Vw B W t p m root M l):Ev M root l:=Ev.of h.tr (fun k x hx=>(h.pv.wU k x hx).2.1) h.pv.few
theorem Vw.tx{r:Int}{l':List En}(h:Vw B W t p m root M l)(x:Tx B t W W')(hT:dI W' t p r)(hV:Pv B W' p m M')(ht:Tree M' r l'):Vw B W' t p m r M' l':=⟨hT,hV,ht,h.bt,aad h.bw x.size,h.b0,G.eZ h.Ur x.below h.b0⟩
theorem Vw.put(h:Vw B W t p m root M l)(key:ByteArray){v:Vl}(hk:key.size<=64)(hv:N.BD v)(hm:2*l.length-1+(if l=[] then 0 else 23)+2+yn m<m.n):
 Calls Tryz.prog 61 #[.pointer (some ⟨t,0,none⟩),.string key,.agg #[.string v.d,.int .i64 v.p,.int .i64 v.l]] W fun e w'=>e=.returned (.tuple #[.agg #[.string (had key l).d,.int .i64 (had key l).p,.int .i64 (had key l).l],.bool (got key l).isSome,.int .i64 0])/\(∃ M' r,Vw B w' t p m r M' (upd key [(key,v)] l))/\Tx B t W w':=by
 refine (PD key h.EO h.bt h.pv h.tr h.bw h.b0 h.Ur hk hv).mono ?_;rintro e w' (⟨rfl,M',r,tr,T5,V5,x5⟩|⟨rfl,M',er,_⟩)
 ·exact⟨rfl,⟨M',r,h.tx x5 T5 V5 tr⟩,x5⟩
 ·have:=Tp er h.tr;omega
theorem Vw.get(h:Vw B W t p m root M l)(key:ByteArray):
 Calls Tryz.prog 40 #[.pointer (some ⟨t,0,none⟩),.string key] W fun e w'=>e=.returned (.tuple #[.agg #[.string (had key l).d,.int .i64 (had key l).p,.int .i64 (had key l).l],.bool (got key l).isSome,.int .i64 0])/\Kept W w':=Pw key h.EO h.pv h.readable
open N (bs ae)
def Jd (m:Xm) (M:Pm):Nat:=S.cnt m.n (pQ m M)
def Xm.put (m:Xm) (n:Nat) (x:ByteArray):Xm:={ m with Y:=G.eB m.Y n ⟨4,(n:Nat),m.gen+1,x⟩ }
def Xm.del (m:Xm) (n:Nat):Xm:={ m with Y:=G.oM m.Y n }
theorem Ci(m:Xm)(M:Pm)(n:Nat)(x:ByteArray)(k:Nat):pQ (m.put n x) M k=S.aS (pQ m M) n k:=by
 unfold pQ S.aS Xm.put G.eB;by_cases e:k=n
 ·subst e;simp
 ·rw[aai e];dsimp only;rw[aai e]
theorem Tq(hM:M n=none)(x:ByteArray)(k:Nat):sP (m.put n x) M k=G.eB (sP m M) n ⟨4,(n:Nat),m.gen+1,x⟩ k:=by
 unfold sP Xm.put G.eB;by_cases e:k=n
 ·subst e;rw[hM];simp
 ·dsimp only;rw[aai e,aai e]
theorem Je(h2:2<=n)(hM:M n=none)(k:Nat):pQ (m.del n) M k=S.bQ (pQ m M) n k:=by
 unfold pQ S.bQ Xm.del G.oM;by_cases e:k=n
 ·subst e;simp[hM];omega
 ·dsimp only;rw[aai e,aai e]
theorem Tt(hM:M n=none)(k:Nat):sP (m.del n) M k=G.oM (sP m M) n k:=by
 unfold sP Xm.del G.oM;by_cases e:k=n
 ·subst e;rw[hM];simp
 ·dsimp only;rw[aai e,aai e]
theorem Tu(hn:n<m.n)(ht:pQ m M n=false)(x:ByteArray):Jd m M=Jd (m.put n x) M+1:=by
 unfold Jd;rw[S.tu hn ht,show (m.put n x).n=m.n from rfl];congr 1;exact S.vg fun k _=>(Ci m M n x k).symm
theorem Tv(h:0<Jd m M):∃ n,fO M m=some n:=by
 cases hf:fO M m with
 | some n=>exact⟨n,rfl⟩
 | none=>
  have:Jd m M=0:=by
   unfold Jd S.cnt;rw[List.countP_eq_zero];intro k hk;have:=List.find?_eq_none.1 hf k hk;simpa using this
  omega
theorem PG(h:fO M m=some n):pQ m M n=false:=by simpa using List.find?_some h
theorem Pv.PH(h:Pv B w p m M)(hB:B<=w.heap.size)(hL:S.gU w)(x:ByteArray)(hx:x.size<=237)(hf:fO M m=some n):
 Calls Tryz.prog 128 #[.pointer (some ⟨p,0,none⟩),.int .i64 4,.string x] w fun e w'=>e=.returned (.tuple #[.int .i64 n,.int .i64 0])/\Pv B w' p (m.put n x) M/\G.On B w w':=by
 obtain⟨h1,h2,h3,h4,h5⟩:=il hf;obtain⟨q,hG,hm,hg,hfr,hu,hn,hk⟩:=h.out;have hr:S.jf q.ut q.m 2 (n:Nat):=.inl ⟨n,rfl,h1,by rw[hm];exact h2,by rw[hu n h2];exact PG hf,fun j a b=>by rw[hu j (by omega)];exact h5 j b⟩;refine (G.M3 hG hB hL n hr (by rw[hm];exact h2) 4 x (by have:=h.fine.1;rw[hg.1];omega) (by decide) (by decide) hx).mono ?_;rintro e w' ⟨rfl,hG',o⟩;refine⟨rfl,⟨⟨_,hG',hm,hg,fun k=>?_,fun k wN=>?_,fun k wN=>?_,hk⟩,fun k y hy=>?_,fun k y hy=>?_,h.fine,h.few,h.two⟩,o⟩
 ·rw[Tq h3,<- hg.1,show sP m M=q.fresh from (funext hfr).symm];rfl
 ·rw[Ci];exact nN hu k wN
 ·rw[Ci];exact nN hn k wN
 ·obtain⟨a,b,c,d⟩:=h.wU k y hy
  refine⟨a,b,c,?_⟩;have e:k≠n:=by rintro rfl;rw[h3]at hy;cases hy
  show G.eB m.Y n _ k=none;unfold G.eB;rw[aai e];exact d
 ·have hy':G.eB m.Y n ⟨4,(n:Nat),m.gen+1,x⟩ k=some y:=hy
  unfold G.eB at hy';by_cases e:k=n
  ·subst e;exact⟨h1,h2⟩
  ·rw[aai e]at hy';exact h.dm k y hy'
theorem Pv.Lh(h:Pv B w p m M)(hB:B<=w.heap.size){x:G.bG}(hx:m.Y n=some x):
 Calls Tryz.prog 112 #[.pointer (some ⟨p,0,none⟩),.int .i64 n] w fun e w'=>e=.returned (.tuple #[])/\Pv B w' p (m.del n) M/\G.On B w w':=by
 obtain⟨q,hG,hm,hg,hf,hu,hn,hk⟩:=h.out;obtain⟨r1,r2⟩:=h.dm n x hx;have hM:M n=none:=by
  cases e:M n with
  | none=>rfl
  | some y=>have:=(h.wU n y e).2.2.2;rw[hx]at this;cases this
 refine (G.zU hG hB n r1 (by rw[hm];exact r2)).mono ?_;rintro e w' ⟨rfl,hG',o⟩;have hs:(q.fresh n).isSome=true:=by rw[hf];unfold sP;rw[hM,hx];rfl
 have e1:q.drop n={ q with un:=S.bQ q.un n,ut:=S.bQ q.ut n,fresh:=G.oM q.fresh n }:=by unfold G.Pq.drop;rw[aao hs]
 rw[e1]at hG';refine⟨rfl,⟨⟨_,hG',hm,hg,fun k=>?_,fun k wN=>?_,fun k wN=>?_,hk⟩,fun k y hy=>?_,fun k y hy=>?_,h.fine,h.few,h.two⟩,o⟩
 ·rw[Tt hM,show sP m M=q.fresh from (funext hf).symm]
 ·rw[Je r1 hM];exact lH hu k wN
 ·rw[Je r1 hM];exact lH hn k wN
 ·obtain⟨a,b,c,d⟩:=h.wU k y hy
  refine⟨a,b,c,?_⟩;show G.oM m.Y n k=none;unfold G.oM;split
  ·rfl
  ·exact d
 ·have hy':G.oM m.Y n k=some y:=hy
  unfold G.oM at hy';by_cases e:k=n
  ·rw[aao e]at hy';cases hy'
  ·rw[aai e]at hy';exact h.dm k y hy'
def nM:List Nat->Nat
 | []=>0
 | n :: _=>n+1
def zw (Y:Nat->Option G.bG) (g:Nat):List Nat->List Nat->Prop
 | [],t=>t=[]
 | n :: ns,t=>t≠[]/\(ns=[]↔t.length<=234)/\Y n=some ⟨4,(n:Nat),g,bs (ae (nM ns)++t.take 234)⟩/\zw Y g ns (t.drop 234)
theorem zw.ext{Y Y':Nat->Option G.bG}{g:Nat}:∀ {ns t:List Nat},zw Y g ns t->(∀ n∈ns,Y' n=Y n)->zw Y' g ns t
 | [],_,h,_=>h
 | n :: ns,t,⟨a,b,c,d⟩,e=>⟨a,b,by rw[e n (by simp)];exact c,zw.ext d (fun k hk=>e k (by simp[hk]))⟩
theorem zw.some{Y:Nat->Option G.bG}{g:Nat}:∀ {ns t:List Nat},zw Y g ns t->∀ n∈ns,∃ x,Y n=some x
 | [],_,_,n,hn=>by cases hn
 | k :: ns,t,⟨a,b,c,d⟩,n,hn=>by
  rcases aaW.1 hn with rfl | hn
  ·exact⟨_,c⟩
  ·exact zw.some d n hn
theorem zw.len{Y:Nat->Option G.bG}{g:Nat}:∀ {ns t:List Nat},zw Y g ns t->ns.length=Ch.need t.length
 | [],_,h=>by have h':=h;unfold zw at h';subst h';rfl
 | n :: ns,t,⟨a,b,c,d⟩=>by
  have:=zw.len d;have h1:=List.length_pos_iff.2 a;rw[aau,this,aaw];unfold Ch.need;omega
structure Cp (B:Nat) (w wx:World) (p:Nat) (m:Xm) (M:Pm) (t:List Nat) (j:Nat) (ns:List Nat) (Y:Nat->Option G.bG):Prop where
 pv:Pv B wx p { m with Y:=Y } M
 ch:zw Y (m.gen+1) ns (t.drop j)
 nd:ns.Nodup
 old:∀ k,k∉ns->Y k=m.Y k
 new:∀ k∈ns,m.Y k=none
 room:Jd m M=Jd { m with Y:=Y } M+ns.length
 on:G.On B w wx
variable {wx:World}{t ns:List Nat}{j:Nat}{Y:Nat->Option G.bG}
theorem Cp.PI(h:Cp B w wx p m M t j ns Y):nM ns<=1024:=by
 cases ns with
 | nil=>exact aag _
 | cons n r=>
  obtain⟨x,hx⟩:=h.ch.some n (by simp);have h1:=(h.pv.dm n x hx).2;have h2:=h.pv.few;dsimp only at h1 h2;show n+1<=1024;omega
theorem Cp.Jf(h:Cp B w wx p m M t j ns Y):ns=[]↔t.length<=j:=by
 have:=h.ch;cases ns with
 | nil=>
  unfold zw at this;have h2:(t.drop j).length=0:=by rw[this];rfl
  rw[aaw]at h2;simp;omega
 | cons n r=>
  have h2:=List.length_pos_iff.2 this.1;rw[aaw]at h2;simp;omega
theorem Cp.step{a:Nat}(h:Cp B w wx p m M t (a+234) ns Y)(ha:a<t.length)(hf:fO M { m with Y:=Y }=some n){wy:World}(hv:Pv B wy p (Xm.put { m with Y:=Y } n (bs (ae (nM ns)++(t.drop a).take 234))) M)(ho:G.On B wx wy):Cp B w wy p m M t a (n :: ns) (G.eB Y n ⟨4,(n:Nat),m.gen+1,bs (ae (nM ns)++(t.drop a).take 234)⟩):=by
 obtain⟨f1,f2,f3,f4,f5⟩:=il hf;dsimp only at f2 f4;have hnn:n∉ns:=fun hn=>by
  obtain⟨x,hx⟩:=h.ch.some n hn;rw[hx]at f4;cases f4
 refine⟨hv,⟨?_,?_,?_,?_⟩,List.nodup_cons.2 ⟨hnn,h.nd⟩,?_,?_,?_,h.on.trans ho⟩
 ·intro e
  have:(t.drop a).length=0:=by rw[e];rfl
  rw[aaw]at this;omega
 ·rw[h.Jf,aaw];omega
 ·unfold G.eB;rw[aao rfl]
 ·rw[List.drop_drop]
  refine h.ch.ext (fun k hk=>?_);unfold G.eB;rw[aai (by rintro rfl;exact hnn hk)]
 ·intro k hk
  unfold G.eB;rw[aai (by rintro rfl;exact hk (by simp))];exact h.old k (fun hk'=>hk (by simp[hk']))
 ·intro k hk
  rcases aaW.1 hk with rfl | hk
  ·rw[<- h.old k hnn];exact f4
  ·exact h.new k hk
 ·rw[h.room,Tu (m:={ m with Y:=Y }) f2 (PG hf) (bs (ae (nM ns)++(t.drop a).take 234)),aau]
  show Jd (Xm.put { m with Y:=Y } n _) M+1+ns.length=Jd (Xm.put { m with Y:=Y } n _) M+(ns.length+1);omega
def Yi (B:Nat) (w:World) (p:Nat) (m:Xm) (M:Pm) (t:List Nat) (e:Ending) (w':World):Prop:=
 ∃ (n:Nat) (ns:List Nat) (Y:Nat->Option G.bG),e=.returned (.tuple #[.int .i64 (n:Nat),.int .i64 0])/\Cp B w w' p m M t 0 (n :: ns) Y
theorem Li(h:Pv B w p m M)(hB:B<=w.heap.size)(hB0:1<B)(hL:S.gU w)(t:List Nat)(h0:0<t.length)(h1:t.length<=65536)(hr:Ch.need t.length<=Jd m M):
 Calls Tryz.prog 91 #[.pointer (some ⟨p,0,none⟩),.string (bs t)] w (Yi B w p m M t):=by
 have fl:=Ch.yc t.length h0 h1;have fn:=Ch.Km t.length (by omega);have hsz:(bs t).size=t.length:=N.au t;obtain⟨kk,hkk⟩:∃ kk,Ch.need t.length=kk:=⟨_,rfl⟩;have hk1:1<=kk/\kk<=300/\t.length<=234*kk/\234*(kk-1)<t.length:=by rw[<- hkk];unfold Ch.need;omega
 have YI:Hid (Cp B w w p m M t (234*kk) [] m.Y):=⟨h,by unfold zw;exact aaO (by omega),List.nodup_nil,fun k _=>rfl,(fun k hk=>by cases hk),by simp,G.On.refl _ _⟩;have HN:Hid (∀ (x:Nat) (W:World),x<=1024->Calls Tryz.prog 111 #[.int .u64 (x:Nat)] W fun e w'=>e=.returned (.string (bs (ae x)))/\Kept W w'):=fun x W hx=>N.qE x (by omega) W
 have HA:Hid (∀ (j:Nat) (ns:List Nat) (Y:Nat->Option G.bG) (W:World),Cp B w W p m M t (234*(j+1)) ns Y->j+1<=kk->∃ n,∀ W',Kept W W'->Calls Tryz.prog 128 #[.pointer (some ⟨p,0,none⟩),.int .i64 4,.string (bs (ae (nM ns))++bs ((t.drop (234*j)).take 234))] W' fun e w'=>e=.returned (.tuple #[.int .i64 (n:Nat),.int .i64 0])/\Cp B w w' p m M t (234*j) (n :: ns) (G.eB Y n ⟨4,(n:Nat),m.gen+1,bs (ae (nM ns)++(t.drop (234*j)).take 234)⟩)):=by
  intro j ns Y W hC hj;have hlen:=hC.ch.len;rw[aaw]at hlen;have hroom:=hC.room;have hfr:0<Jd { m with Y:=Y } M:=by
   have:ns.length+1<=kk:=by rw[hlen,<- hkk];unfold Ch.need;omega
   omega
  obtain⟨n,hf⟩:=Tv hfr;refine⟨n,fun W' k=>?_⟩;rw[N.eU];have hx:=hC.PI;refine ((hC.pv.kept k).PH (aad hB (aad hC.on.size k.size)) (aC (eZ hL hC.on hB0) k) _ ?_ hf).mono ?_
  ·rw[N.au,aah,aam]
   have:=N.gD 1 (nM ns) (by omega);omega
  ·rintro e w' ⟨rfl,hv,o⟩
   have e1:234*(j+1)=234*j+234:=by omega
   rw[e1]at hC;exact⟨rfl,hC.step (by omega) hf hv ((G.On.ax ⟨k.out⟩ (aad hB hC.on.size)).trans o)⟩
 have HT:Hid (∀ j,(bs t).extract (234*j) (min (234*j+234) t.length)=bs ((t.drop (234*j)).take 234)):=fun j=>by
  show _=_;rw[N.jK];congr 1;by_cases hj:234*j+234<=t.length
  ·rw[Nat.min_eq_left hj];congr 1;omega
  ·rw[Nat.min_eq_right (by omega),aaz (by rw[aaw];omega),aaz (by rw[aaw];omega)]
 rw[hkk]at fn;clear h hB hB0 hL hr hkk;have HLen:Hid (t.length=(bs t).size):=hsz.symm;rw[<- hsz]at fl fn h0 h1 HT hk1;clear hsz;obtain⟨st,hst⟩:∃ st,bs t=st:=⟨_,rfl⟩;rw[hst]at fl fn h0 h1 HT hk1 HLen ⊢;clear hst;obtain⟨k1,k2,k3,k4⟩:=hk1;go_enter Tryz.func91,Tryz.ntmps91;go_wp2_with (first
  | (go_at_call 126;(with_reducible refine (fl _).mono ?_);rintro e w1 ⟨rfl,hw1⟩;rw[hw1];clear hw1)
  | (go_at_call 127;(with_reducible refine (fn _).mono ?_);rintro e w1 ⟨rfl,hw1⟩;rw[hw1];clear hw1))
 clear fl fn;go_loopg [6,7] kk (fun gg fv av wx=>∃ (j:Nat) (ns:List Nat) (Y:Nat->Option G.bG) (fx a:Int),fv=.int .i64 fx/\av=.int .i64 a/\Hid (gg=j)/\Hid (j<=kk)/\Hid (fx+1=(nM ns:Nat))/\Hid (a=234*(j:Int)-234)/\Hid (Cp B w wx p m M t (234*j) ns Y));case atStart=>exact⟨kk,[],m.Y,-1,_,rfl,rfl,rfl,aac _,rfl,by show _=_;omega,YI⟩
 case round=>
  obtain⟨j,ns,Y,fx,a,rfl,rfl,hg,hj,hfx,ha,HC⟩:=hrel;clear YI;cases j with
  | zero=>
   have ha1:¬ (0:Int)<=a:=by have:=ha.out;omega
   obtain⟨n,r,rfl⟩:∃ n r,ns=n :: r:=by
    cases ns with
    | nil=>have:=HC.out.Jf.1 rfl;have:=HLen.out;omega
    | cons n r=>exact⟨n,r,rfl⟩
   have hfn:fx=(n:Int):=by have:=hfx.out;simp[nM]at this;omega
   subst hfn;clear hfx ha;go_wp2;go_ret2;exact⟨n,r,Y,rfl,HC.out⟩
  | succ j=>
   obtain⟨n,fA⟩:=HA.out j ns Y wr HC.out hj.out;have hx:=HC.out.PI;have hT:=HT.out j;obtain⟨A,hA⟩:∃ A:Nat,234*j=A:=⟨_,rfl⟩;have haA:a=(A:Int):=by have:=ha.out;omega
   subst haA;have hAl:A<st.size:=by
    have:=hj.out;have:j<=kk-1:=by omega
    have:234*j<=234*(kk-1):=Nat.mul_le_mul_left _ this;omega
   rw[hA]at fA hT;obtain⟨H,hH⟩:∃ H:Nat,min (A+234) st.size=H:=⟨_,rfl⟩;rw[hH]at hT;have hH1:min ((A:Int)+234) (st.size:Int)=(H:Int):=by omega
   have hH2:(A:Int)<=(H:Int):=by omega
   have hH3:(H:Int)<=(st.size:Int):=by omega
   have Uw:(0:Int)<=(A:Int):=by omega
   have e4:IntKind.i64.wrap ((A:Int)+234)=(A:Int)+234:=by rw[IntKind.wrap_i64];omega
   have e5:IntKind.i64.wrap ((A:Int)-234)=(A:Int)-234:=by rw[IntKind.wrap_i64];omega
   have fN:=HN.out (nM ns) wr hx;obtain⟨x,YJ⟩:∃ x:Nat,nM ns=x:=⟨_,rfl⟩;have Yj:=hfx.out;rw[YJ]at fN hx Yj;have e2:IntKind.i64.wrap (fx+1)=(x:Int):=by rw[IntKind.wrap_i64];omega
   have HFA:Hid (∀ W',Kept wr W'->Calls Tryz.prog 128 #[.pointer (some ⟨p,0,none⟩),.int .i64 4,.string (bs (ae (nM ns))++bs ((t.drop A).take 234))] W' fun e w'=>e=.returned (.tuple #[.int .i64 (n:Nat),.int .i64 0])/\Cp B w w' p m M t A (n :: ns) (G.eB Y n ⟨4,(n:Nat),m.gen+1,bs (ae (nM ns)++(t.drop A).take 234)⟩)):=fA;rw[<- hT,YJ]at HFA;have HJ:Hid (234*j=A):=hA;clear fA hA hT hH hfx Yj ha HA HC hAl;have hz1:(bs (ae x)).size<=2:=by rw[N.au];exact N.gD 1 x (by omega)
   generalize bs (ae x)=z at fN HFA hz1;go_wp2_with (first
    | (go_at_call 111;(with_reducible refine fN.mono ?_);rintro e w2 ⟨rfl,k2⟩;have g3:=HFA.out _ k2;clear fN HFA)
    | (go_at_call 128;(with_reducible refine g3.mono ?_);rintro e w3 ⟨rfl,C3⟩;have HC3:Hid (Cp B w w3 p m M t A (n :: ns) (G.eB Y n ⟨4,(n:Nat),m.gen+1,bs (ae x++(t.drop A).take 234)⟩)):=C3;clear g3 C3))
   go_roundg j;case measure=>have:=hg.out;omega
   case rel=>exact⟨j,n :: ns,_,(n:Int),(A:Int)-234,rfl,rfl,rfl,Nat.le_of_succ_le hj.out,rfl,by show _=_;have:=HJ.out;omega,by rw[HJ.out];exact HC3⟩
def Jg (t:TypeId):Prop:=t=66\/t=60\/t=145\/t=106\/t=161\/t=53
structure Aq (S:Nat) (w w':World):Prop where
 cells:∀ (k:Nat) (cs:Array Value) (t:TypeId) (fr:Nat×Nat),w.heap[k]? = some (.cells cs t fr)->Jg t->w'.heap[k]? = some (.cells cs t fr)
 maps:∀ (k:Nat) (es:Array MapEntry) (c:Nat),k<S->w.heap[k]? = some (.map es c)->w'.heap[k]? = some (.map es c)
variable {w':World}
theorem Aq.ax{S:Nat}(k:Kept w w'):Aq S w w':=⟨fun _ _ _ _ h _=>k.block h,fun _ _ _ _ h=>k.block h⟩
variable {r:Option Nat}
theorem Aq.grown{S:Nat}(hg:w.grownBy w' r)(hr:∀ b,r=some b->∃ cs t fr,w.heap[b]? = some (.cells cs t fr)/\¬ Jg t):Aq S w w':=by
 refine⟨fun k cs t fr h hp=>(hg.block k (aaa.1 h).1 (fun e=>?_)).trans h,fun k es c _ h=>(hg.block k (aaa.1 h).1 (fun e=>?_)).trans h⟩
 ·obtain⟨cs',t',fr',hb,hn⟩:=hr k e.symm
  rw[h]at hb;injection hb with hb
  injection hb with _ e2 _
  exact hn (e2▸hp)
 ·obtain⟨cs',t',fr',hb,hn⟩:=hr k e.symm
  rw[h]at hb;injection hb with hb
  cases hb
variable {b:Nat}
theorem Aq.one{S:Nat}(o:G.One b w w'){es:Array MapEntry}{c:Nat}(hb:w.heap[b]? = some (.map es c))(hS:S<=b):Aq S w w':=
 ⟨fun k cs t fr h _=>(o.block k (G.fM h hb)).trans h,fun k es' c' hk h=>(o.block k (by omega)).trans h⟩
structure Fr (B S:Nat) (w w':World):Prop where
 on:G.On B w w'
 maps:∀ (k:Nat) (es:Array MapEntry) (c:Nat),S<=k->w.heap[k]? = some (.map es c)->w'.heap[k]? = some (.map es c)
variable {a c:World}
theorem Fr.trans{S:Nat}{b:World}(h:Fr B S a b)(k:Fr B S b c):Fr B S a c:=⟨h.on.trans k.on,fun x es q hx hm=>k.maps x es q hx (h.maps x es q hx hm)⟩
theorem Fr.grown{S:Nat}(h:Fr B S w W)(hg:W.grownBy W' r)(hr:∀ b,r=some b->w.heap.size<=b)(hB:B<=w.heap.size):Fr B S w W':=by
 have key:∀ {k:Nat} {o o':Obj},w.heap[k]? = some o->W.heap[k]? = some o'->W'.heap[k]? = some o':=fun {k o o'} h1 h2=>(hg.block k (aaa.1 h2).1 (fun e=>by
  have:=hr k e.symm
  have:=(aaa.1 h1).1
  omega)).trans h2
 exact⟨⟨h.on.below.grown hg (aad hB h.on.size) (fun k e=>aad hB (hr k e)),fun b cs t fr hb hc=>key hb (h.on.rows b cs t fr hb hc)⟩,fun k es c hk hm=>key hm (h.maps k es c hk hm)⟩
structure Ct (B S:Nat) (I:World->Prop) (w w':World):Prop where
 i:I w'
 f:Fr B S w w'
variable {I:World->Prop}
theorem Ct.size{S:Nat}(h:Ct B S I w w'):w.heap.size<=w'.heap.size:=h.f.on.size
theorem Ct.trans{S:Nat}{b:World}(h:Ct B S I a b)(k:Ct B S I b c):Ct B S I a c:=⟨k.i,h.f.trans k.f⟩
structure mZ (S:Nat) (I:World->Prop):Prop where
 out:∀ W W',I W->Aq S W W'->I W'
theorem Ct.grown{S:Nat}(R:mZ S I)(h:Ct B S I w W)(hB:B<=w.heap.size)(hg:W.grownBy W' r)(hr:∀ b,r=some b->w.heap.size<=b/\∃ cs t fr,W.heap[b]? = some (.cells cs t fr)/\¬ Jg t):Ct B S I w W':=
 ⟨R.out _ _ h.i (Aq.grown hg (fun b e=>(hr b e).2)),h.f.grown hg (fun b e=>(hr b e).1) hB⟩
theorem Ct.start{S:Nat}(hi:I w):Ct B S I w w:=⟨hi,⟨G.On.refl _ _,fun _ _ _ _ h=>h⟩⟩
theorem Ct.kept{S:Nat}(R:mZ S I)(h:Ct B S I w W)(hB:B<=w.heap.size)(k:Kept W W'):Ct B S I w W':=
 h.grown R hB (k.grown none) (fun b e=>by cases e)
theorem Ct.one{S:Nat}(R:mZ S I)(h:Ct B S I w W)(hB:B<=w.heap.size)(o:G.One b W W'){es:Array MapEntry}{c:Nat}(hb:W.heap[b]? = some (.map es c))(hS:S<=b)(hw:w.heap.size<=b):Ct B S I w W':=by
 refine⟨R.out _ _ h.i (Aq.one o hb hS),⟨⟨h.f.on.below.trans (o.below B (by omega)),fun k cs t fr hk hc=>?_⟩,fun k es' c' hk hm=>?_⟩⟩
 ·have h1:=h.f.on.rows k cs t fr hk hc
  exact (o.block k (G.fM h1 hb)).trans h1
 ·have h1:=(aaa.1 hm).1
  exact (o.block k (by omega)).trans (h.f.maps k es' c' hk hm)
theorem zy(w:World)(b:Nat)(v0 v1 v2 v3:Value):w.grownBy ((((w.setCell ⟨b,0,none⟩ v0).setCell ⟨b,1,none⟩ v1).setCell ⟨b,2,none⟩ v2).setCell ⟨b,3,none⟩ v3) (some b):=
 ⟨rfl,rfl,rfl,by simp,fun k _ hk=>N.aG w (fun e=>hk (by rw[e])) v0 v1 v2 v3⟩
theorem uT(w:World)(b:Nat)(v0 v1 v2:Value):w.grownBy (((w.setCell ⟨b,0,none⟩ v0).setCell ⟨b,1,none⟩ v1).setCell ⟨b,2,none⟩ v2) (some b):=by
 refine⟨rfl,rfl,rfl,by simp,fun k _ hk=>?_⟩;have h:k≠b:=fun e=>hk (by rw[e])
 rw[heap_setCell_other _ ⟨b,2,none⟩ k _ h,heap_setCell_other _ ⟨b,1,none⟩ k _ h,heap_setCell_other _ ⟨b,0,none⟩ k _ h]
variable {a0 a1 a2:Value}
theorem Gt{t:TypeId}{a3:Value}(k:C4 w b t a0 a1 a2 a3)(o:G.On B w w')(ht:G.Calm t):C4 w' b t a0 a1 a2 a3:=⟨o.rows _ _ _ _ k.out ht⟩
theorem Gu{t:TypeId}(k:C3 w b t a0 a1 a2)(o:G.On B w w')(ht:G.Calm t):C3 w' b t a0 a1 a2:=⟨o.rows _ _ _ _ k.out ht⟩
structure VX (B S p:Nat) (I:World->Prop) (M:Pm):Prop where
 stay:mZ S I
 read:∀ (W:World) (kb n:Nat) (fr:Nat×Nat) (y:Nd),I W->B<=W.heap.size->M n=some y->W.heap[kb]? = some (.cells #[.int .i64 2,.int .i64 3] 3 fr) ->
  Calls Tryz.prog 131 #[.pointer (some ⟨p,0,none⟩),.int .i64 (n:Nat),.slice (some ⟨kb,0,none⟩) 2 2] W fun e w'=>(∃ xg:Nat,e=.returned (.tuple #[.agg #[.int .i64 (kindOf y),.int .i64 (n:Nat),.int .u64 (xg:Nat),.string (N.bs y.put)],.int .i64 0]))/\Ct B S I W w'
theorem Jh{S:Nat}{t:Nat}(R:VX B S p I M)(hT:dI w t p root)(hI:I w)(hB:B<=w.heap.size){y:Nd}(hy:M n=some y)(g:N.Good y)(hu:Up y.ks)(l:Bool)(hl:y.leaf=l):
 Calls Tryz.prog 94 #[.pointer (some ⟨t,0,none⟩),.int .i64 n] w fun e w'=>∃ kp nk kc vp nv vc ip ni ic,e=.returned (.tuple #[.agg #[.bool l,.slice kp nk kc,.slice vp nv vc,.slice ip ni ic],.int .i64 0])/\NV w' l kp nk kc vp nv vc ip ni ic y/\Ct B S I w w'/\Nw w.heap.size ip:=by
 have HN:Hid (∀ W,Kept w W->Calls Tryz.prog 57 #[.pointer (some ⟨t,0,none⟩)] W fun e w'=>e=.returned (.bool false)/\w'=W):=fun W k=>jR (hT.kept k)
 have HR:Hid (∀ W kb fr,Kept w W->W.heap[kb]? = some (.cells #[.int .i64 2,.int .i64 3] 3 fr)->Calls Tryz.prog 131 #[.pointer (some ⟨p,0,none⟩),.int .i64 n,.slice (some ⟨kb,0,none⟩) 2 2] W fun e w'=>(∃ xg:Nat,e=.returned (.tuple #[.agg #[.int .i64 (kindOf y),.int .i64 n,.int .u64 (xg:Nat),.string (N.bs y.put)],.int .i64 0]))/\Ct B S I W w'):=fun W kb fr k hk=>R.read W kb n fr y (R.stay.out _ _ hI (Aq.ax k)) (aad hB k.size) hy hk
 have HG:Hid (∀ W,Calls Tryz.prog 132 #[.string (N.bs y.put),.bool l] W fun e w'=>∃ kp nk kc vp nv vc ip ni ic,e=.returned (.tuple #[.agg #[.bool l,.slice kp nk kc,.slice vp nv vc,.slice ip ni ic],.int .i64 0])/\NV w' l kp nk kc vp nv vc ip ni ic y/\Kept W w'/\Nw W.heap.size ip):=fun W=>N.DU g g.few hu l hl
 have hkd:kindOf y=if l=true then 2 else 3:=by unfold kindOf;rw[hl]
 rw[hkd]at HR;have K0:Kept w (w.alloc (.cells #[.bool false,.slice none 0 0,.slice none 0 0,.slice none 0 0] 121)):=(Kept.refl w).alloc _;have R0:=C4.alloc w 121 (.bool false) (.slice none 0 0) (.slice none 0 0) (.slice none 0 0);have S0:=N.size_alloc w (.cells #[.bool false,.slice none 0 0,.slice none 0 0,.slice none 0 0] 121);obtain⟨c0,c1⟩:=(hT.kept K0).cs;generalize N.bs y.put=sx at *;have KB:Kept w ((w.alloc (.cells #[.bool false,.slice none 0 0,.slice none 0 0,.slice none 0 0] 121)).alloc (.cells #[.int .i64 2,.int .i64 3] 3)):=K0.alloc _;have hb:((w.alloc (.cells #[.bool false,.slice none 0 0,.slice none 0 0,.slice none 0 0] 121)).alloc (.cells #[.int .i64 2,.int .i64 3] 3)).heap[(w.alloc (.cells #[.bool false,.slice none 0 0,.slice none 0 0,.slice none 0 0] 121)).heap.size]? = some (.cells #[.int .i64 2,.int .i64 3] 3 (0,0)):=heap_alloc_new _ _;rw[S0]at hb;have RB:C4 ((w.alloc (.cells #[.bool false,.slice none 0 0,.slice none 0 0,.slice none 0 0] 121)).alloc (.cells #[.int .i64 2,.int .i64 3] 3)) w.heap.size 121 (.bool false) (.slice none 0 0) (.slice none 0 0) (.slice none 0 0):=R0.kept ((Kept.refl _).alloc _);have HCB:Hid (Ct B S I w ((w.alloc (.cells #[.bool false,.slice none 0 0,.slice none 0 0,.slice none 0 0] 121)).alloc (.cells #[.int .i64 2,.int .i64 3] 3))):=(Ct.start hI).kept R.stay hB KB;have HB:Hid (B<=w.heap.size):=hB;have Us:Hid (mZ S I):=R.stay;clear hkd hl hu g hy hI hT R hB;cases l with
 | true=>
  simp only[if_true]at HR;go_enter Tryz.func94,Tryz.ntmps94;go_wp2_with (first
   | (go_at_call 57;(with_reducible refine (HN.out _ K0).mono ?_);rintro e w1 ⟨rfl,hw1⟩;rw[hw1];clear hw1)
   | (go_at_call 131;(with_reducible refine (HR.out _ _ _ KB hb).mono ?_);rintro e w2 ⟨⟨xg,rfl⟩,k2⟩;have K2:=HCB.out.trans k2;have R2:=Gt RB k2.f.on fU;have P2:=P.Pg.alloc w2 2 (n:Nat) xg sx 157;have K3:Kept w2 (w2.alloc (.cells #[.int .i64 2,.int .i64 n,.int .u64 (xg:Nat),.string sx] 157)):=(Kept.refl _).alloc _;have R3:=R2.kept K3;obtain⟨y0,y1,y2,y3⟩:=P2.cs;have EL:=K2.kept Us.out HB.out K3)
   | (go_at_call 132;(with_reducible refine (HG.out _).mono ?_);rintro e v4 ⟨kp,nk,kc,vp,nv,vc,ip,ni,ic,rfl,N4,k4,OJ⟩;have VA:Hid (Nw w.heap.size ip):=OJ.mono EL.size;clear OJ;have K4:=EL.kept Us.out HB.out k4;have R4:=R3.kept k4;have k5:=(Kept.refl v4).alloc (.cells #[.bool true,.slice kp nk kc,.slice vp nv vc,.slice ip ni ic] 121);have N5:=N4.kept k5;have R5:=R4.kept k5;have X5:=C4.alloc v4 121 (.bool true) (.slice kp nk kc) (.slice vp nv vc) (.slice ip ni ic);have K5:=K4.kept Us.out HB.out k5;obtain⟨x0,x1,x2,x3⟩:=X5.cs;obtain⟨⟨g0,f0⟩,⟨g1,f1⟩,⟨g2,f2⟩,⟨g3,f3⟩,hfin⟩:=N.aD R5.out (.bool true) (.slice kp nk kc) (.slice vp nv vc) (.slice ip ni ic)))
  have q1:=N5.other R5 (fun k hk=>N.aG _ hk (.bool true) (.slice kp nk kc) (.slice vp nv vc) (.slice ip ni ic));have q2:=K5.grown Us.out HB.out (zy _ w.heap.size (.bool true) (.slice kp nk kc) (.slice vp nv vc) (.slice ip ni ic)) (fun b e=>by injection e with e;subst e;exact⟨aac _,_,_,_,R5.out,by unfold Jg;decide⟩);generalize ((((World.setCell _ ⟨w.heap.size,0,none⟩ (.bool true)).setCell ⟨w.heap.size,1,none⟩ (.slice kp nk kc)).setCell ⟨w.heap.size,2,none⟩ (.slice vp nv vc)).setCell ⟨w.heap.size,3,none⟩ (.slice ip ni ic))=WF at hfin q1 q2 ⊢;refine bodyPost_ret (v:=.tuple #[.agg #[.bool true,.slice kp nk kc,.slice vp nv vc,.slice ip ni ic],.int .i64 0]) ?_ rfl ⟨_,_,_,_,_,_,_,_,_,rfl,q1,q2,VA.out⟩;exact N.af (p:=4) (u:=5) (ty:=121) rfl _ _ w.heap.size 121 #[.bool true,.slice kp nk kc,.slice vp nv vc,.slice ip ni ic] (0,0) _ rfl hfin Tryz.underlying121 rfl N.aN
 | false=>
  simp only[Bool.false_eq_true,if_false]at HR;go_enter Tryz.func94,Tryz.ntmps94;go_wp2_with (first
   | (go_at_call 57;(with_reducible refine (HN.out _ K0).mono ?_);rintro e w1 ⟨rfl,hw1⟩;rw[hw1];clear hw1)
   | (go_at_call 131;(with_reducible refine (HR.out _ _ _ KB hb).mono ?_);rintro e w2 ⟨⟨xg,rfl⟩,k2⟩;have K2:=HCB.out.trans k2;have R2:=Gt RB k2.f.on fU;have P2:=P.Pg.alloc w2 3 (n:Nat) xg sx 157;have K3:Kept w2 (w2.alloc (.cells #[.int .i64 3,.int .i64 n,.int .u64 (xg:Nat),.string sx] 157)):=(Kept.refl _).alloc _;have R3:=R2.kept K3;obtain⟨y0,y1,y2,y3⟩:=P2.cs;have EL:=K2.kept Us.out HB.out K3)
   | (go_at_call 132;(with_reducible refine (HG.out _).mono ?_);rintro e v4 ⟨kp,nk,kc,vp,nv,vc,ip,ni,ic,rfl,N4,k4,OJ⟩;have VA:Hid (Nw w.heap.size ip):=OJ.mono EL.size;clear OJ;have K4:=EL.kept Us.out HB.out k4;have R4:=R3.kept k4;have k5:=(Kept.refl v4).alloc (.cells #[.bool false,.slice kp nk kc,.slice vp nv vc,.slice ip ni ic] 121);have N5:=N4.kept k5;have R5:=R4.kept k5;have X5:=C4.alloc v4 121 (.bool false) (.slice kp nk kc) (.slice vp nv vc) (.slice ip ni ic);have K5:=K4.kept Us.out HB.out k5;obtain⟨x0,x1,x2,x3⟩:=X5.cs;obtain⟨⟨g0,f0⟩,⟨g1,f1⟩,⟨g2,f2⟩,⟨g3,f3⟩,hfin⟩:=N.aD R5.out (.bool false) (.slice kp nk kc) (.slice vp nv vc) (.slice ip ni ic)))
  have q1:=N5.other R5 (fun k hk=>N.aG _ hk (.bool false) (.slice kp nk kc) (.slice vp nv vc) (.slice ip ni ic));have q2:=K5.grown Us.out HB.out (zy _ w.heap.size (.bool false) (.slice kp nk kc) (.slice vp nv vc) (.slice ip ni ic)) (fun b e=>by injection e with e;subst e;exact⟨aac _,_,_,_,R5.out,by unfold Jg;decide⟩);generalize ((((World.setCell _ ⟨w.heap.size,0,none⟩ (.bool false)).setCell ⟨w.heap.size,1,none⟩ (.slice kp nk kc)).setCell ⟨w.heap.size,2,none⟩ (.slice vp nv vc)).setCell ⟨w.heap.size,3,none⟩ (.slice ip ni ic))=WF at hfin q1 q2 ⊢;refine bodyPost_ret (v:=.tuple #[.agg #[.bool false,.slice kp nk kc,.slice vp nv vc,.slice ip ni ic],.int .i64 0]) ?_ rfl ⟨_,_,_,_,_,_,_,_,_,rfl,q1,q2,VA.out⟩;exact N.af (p:=4) (u:=5) (ty:=121) rfl _ _ w.heap.size 121 #[.bool false,.slice kp nk kc,.slice vp nv vc,.slice ip ni ic] (0,0) _ rfl hfin Tryz.underlying121 rfl N.aN
end Go.Proofs.YtifeihnhkbagpaaGreatDoor.T
namespace Go.Proofs.YtifeihnhkbagpaaGreatDoor.Ch
open ChangeShapes WideShapes ChangeAt RowKit
open N (Kept Rd On bs ae)
theorem PK:G.Calm 215:=by unfold G.Calm D.Calm;decide
theorem Ey:G.Calm 213:=by unfold G.Calm D.Calm;decide
theorem PL:G.Calm 5:=by unfold G.Calm D.Calm;decide
variable {B L n:Nat}{I:World->Prop}{w:World}
theorem PM{p:Nat}(R:T.mZ L I)(hB:B<=w.heap.size)(hI:I w)(h2:2<=n)(hn:n<16384)(x:Nat)(hx:x<=16384)(t:List Nat)(ht:t.length<=1000)(xn:Int)(xg:Nat)(HR:Hid (∀ W kb fr,I W->B<=W.heap.size->W.heap[kb]? = some (.cells #[.int .i64 4] 3 fr)->Calls Tryz.prog 131 #[.pointer (some ⟨p,0,none⟩),.int .i64 n,.slice (some ⟨kb,0,none⟩) 1 1] W fun e w'=>e=.returned (.tuple #[.agg #[.int .i64 4,.int .i64 xn,.int .u64 xg,.string (bs (ae x++t))],.int .i64 0])/\T.Ct B L I W w')):
 Calls Tryz.prog 133 #[.pointer (some ⟨p,0,none⟩),.int .i64 n] w fun e w'=>e=.returned (.tuple #[.agg #[.int .i64 ((x:Int)-1),.string (bs t)],.int .i64 0])/\T.Ct B L I w w':=by
 have fm:=Dm n h2 hn;have K0:Kept w (w.alloc (.cells #[.int .i64 0,.string ⟨#[]⟩] 215)):=(Kept.refl w).alloc _;have R0:=C2.alloc w 215 (.int .i64 0) (.string ⟨#[]⟩);have S0:=size_alloc w (.cells #[.int .i64 0,.string ⟨#[]⟩] 215);have KB:Kept w ((w.alloc (.cells #[.int .i64 0,.string ⟨#[]⟩] 215)).alloc (.cells #[.int .i64 4] 3)):=K0.alloc _;have hb:((w.alloc (.cells #[.int .i64 0,.string ⟨#[]⟩] 215)).alloc (.cells #[.int .i64 4] 3)).heap[(w.alloc (.cells #[.int .i64 0,.string ⟨#[]⟩] 215)).heap.size]? = some (.cells #[.int .i64 4] 3 (0,0)):=heap_alloc_new _ _;rw[S0]at hb;have RB:C2 ((w.alloc (.cells #[.int .i64 0,.string ⟨#[]⟩] 215)).alloc (.cells #[.int .i64 4] 3)) w.heap.size 215 (.int .i64 0) (.string ⟨#[]⟩):=R0.kept ((Kept.refl _).alloc _);have HCB:Hid (T.Ct B L I w ((w.alloc (.cells #[.int .i64 0,.string ⟨#[]⟩] 215)).alloc (.cells #[.int .i64 4] 3))):=(T.Ct.start hI).kept R hB KB;have fR:=HR.out _ _ _ HCB.out.i (aad hB KB.size) hb;have HB:Hid (B<=w.heap.size/\T.mZ L I):=⟨hB,R⟩;have hrn:Hid (∀ W b,Rd W b (bs (ae x++t)) 0->Calls Tryz.prog 171 #[.pointer (some ⟨b,0,none⟩),.int .u64 16384] W fun e w'=>e=.returned (.int .u64 x)/\Rd w' b (bs t) 0/\On b W w'):=fun W b k=>N.Kc x (by omega) t (by omega) 16384 hx k
 have hrt:Hid (∀ W b,Rd W b (bs t) 0->Calls Tryz.prog 172 #[.pointer (some ⟨b,0,none⟩),.int .i64 ((bs t).size:Nat)] W fun e w'=>e=.returned (.string (bs t))/\(∃ s,Rd w' b s 0)/\On b W w'):=fun W b k=>by
  have:=N.vv t [] 0 (b:=b) (w:=W) (by rw[aaM];exact k);rw[N.au];refine this.mono ?_;rintro e w' ⟨rfl,k2,o⟩;exact⟨rfl,⟨_,k2⟩,o⟩
 generalize bs (ae x++t)=sx at *;generalize bs t=st at *;clear K0 HR h2 hn ht S0 R0 hb KB hB R hI;go_enter Tryz.func133,Tryz.ntmps133;go_wp2_with (first
  | (go_at_call 170;(with_reducible refine (fm _).mono ?_);rintro e w1 ⟨rfl,hw1⟩;rw[hw1];clear hw1)
  | (go_at_call 131;(with_reducible refine fR.mono ?_);rintro e w2 ⟨rfl,k2⟩;have K2:=HCB.out.trans k2;have R2:C2 w2 w.heap.size 215 (.int .i64 0) (.string ⟨#[]⟩):=⟨k2.f.on.rows _ _ _ _ RB.out PK⟩;have P2:=P.Pg.alloc w2 4 xn xg sx 157;have K3:Kept w2 (w2.alloc (.cells #[.int .i64 4,.int .i64 xn,.int .u64 xg,.string sx] 157)):=(Kept.refl _).alloc _;have R3:=R2.kept K3;obtain⟨y0,y1,y2,y3⟩:=P2.cs;have EL:=K2.kept HB.out.2 HB.out.1 K3;clear fR)
  | (go_at_call 168;(with_reducible refine (N.dN _ _).mono ?_);rintro e w4 ⟨rfl,r4,k4⟩;have HKO:Hid (∀ W W',Kept (w2.alloc (.cells #[.int .i64 4,.int .i64 xn,.int .u64 xg,.string sx] 157)) W->On (w2.alloc (.cells #[.int .i64 4,.int .i64 xn,.int .u64 xg,.string sx] 157)).heap.size W W'->Kept (w2.alloc (.cells #[.int .i64 4,.int .i64 xn,.int .u64 xg,.string sx] 157)) W'):=(fun W W' a b=>Rl a b (aac _));have HK4:Hid (Kept (w2.alloc (.cells #[.int .i64 4,.int .i64 xn,.int .u64 xg,.string sx] 157)) w4):=k4;have R4:=R3.kept k4;have hrb:=R3.lt;generalize (w2.alloc (.cells #[.int .i64 4,.int .i64 xn,.int .u64 xg,.string sx] 157)).heap.size=rb at *;have g5:=hrn.out _ _ r4)
  | (go_at_call 171;(with_reducible refine g5.mono ?_);rintro e w5 ⟨rfl,r5,o5⟩;have HK5:Hid (Kept (w2.alloc (.cells #[.int .i64 4,.int .i64 xn,.int .u64 xg,.string sx] 157)) w5):=HKO.out _ _ HK4.out o5;have R5:=R4.on o5 hrb;have g6:=N.lG r5;have g7:=hrt.out _ _ r5;clear g5)
  | (go_at_call 173;(with_reducible refine g6.mono ?_);rintro e w6 ⟨rfl,hw6⟩;rw[hw6];clear hw6)
  | (go_at_call 172;(with_reducible refine g7.mono ?_);rintro e w7 ⟨rfl,⟨s7,r7⟩,o7⟩;have K7:=EL.kept HB.out.2 HB.out.1 (HKO.out _ _ HK5.out o7);have R7:=R5.on o7 hrb;have g8:=N.bE r7;obtain⟨⟨z0,e0⟩,⟨z1,e1⟩,hfin⟩:=Vb R7.out (.int .i64 ((x:Int)-1)) (.string st);clear g7)
  | (go_at_call 174;(with_reducible refine g8.mono ?_);rintro e w8 ⟨rfl,hw8⟩;rw[hw8];clear hw8))
 have q2:T.Ct B L I w ((w7.setCell ⟨w.heap.size,0,none⟩ (.int .i64 ((x:Int)-1))).setCell ⟨w.heap.size,1,none⟩ (.string st)):=K7.grown HB.out.2 HB.out.1 (r:=some w.heap.size) ⟨rfl,rfl,rfl,by simp,fun k _ hk=>Rk w7 (fun e=>hk (by rw[e])) _ _⟩ (fun b e=>by injection e with e;subst e;exact⟨aac _,_,_,_,R7.out,by unfold T.Jg;decide⟩);generalize ((World.setCell _ ⟨w.heap.size,0,none⟩ (.int .i64 ((x:Int)-1))).setCell ⟨w.heap.size,1,none⟩ (.string st))=WF at hfin q2 ⊢;refine bodyPost_ret (v:=.tuple #[.agg #[.int .i64 ((x:Int)-1),.string st],.int .i64 0]) ?_ rfl ⟨rfl,q2⟩;exact P.af (p:=4) (u:=5) (ty:=215) rfl _ _ w.heap.size 215 #[.int .i64 ((x:Int)-1),.string st] (0,0) _ rfl hfin Tryz.underlying215 rfl Ni
theorem Lj(s:ByteArray)(k n:Nat)(hs:s.size=234)(hn:234<n)(hm:n<=65536):
 Calls Tryz.prog 134 #[.agg #[.int .i64 k,.string s],.int .i64 n] w fun e w'=>e=.returned (.bool true)/\Kept w w':=by
 obtain⟨c0,c1⟩:=(C2.alloc w 215 (.int .i64 k) (.string s)).cs;have K0:Kept w (w.alloc (.cells #[.int .i64 k,.string s] 215)):=(Kept.refl w).alloc _;have e1:min (n:Int) 234=234:=by omega
 have e2:¬ (n:Int)<=234:=by omega
 have e3:¬ (k:Int)=-1:=by omega
 go_enter Tryz.func134,Tryz.ntmps134;go_wp2;go_ret;exact⟨by first | rfl | simp[e2,e3],K0⟩
open T (mZ Ct zw nM kQ iq aF)
open N (Own Rw aO)
structure Bk (B L:Nat) (I:World->Prop) (w:World) (b:Nat) (acc:List UInt8) (W:World):Prop where
 b:Lib.IsBuilderF 213 5 w.heap.size b (Lib.byteCells acc) W
 c:Ct B L I w W
variable {W W':World}{b:Nat}{acc:List UInt8}
theorem Bk.turn(h:Bk B L I w b acc W)(hr:∀ (k:Nat) (cs:Array Value) (t:TypeId) (fr:Nat×Nat),W.heap[k]? = some (.cells cs t fr)->(t=213\/t=5)->W'.heap[k]? = some (.cells cs t fr))(c:Ct B L I w W'):Bk B L I w b acc W':=by
 have key:∀ p,Lib.BuilderAtF 213 5 w.heap.size b p (Lib.byteCells acc) W->Lib.BuilderAtF 213 5 w.heap.size b p (Lib.byteCells acc) W':=by
  rintro p ⟨h1,v,h2,h3,h4⟩;refine⟨h1,v,hr _ _ _ _ h2 (.inl rfl),⟨h3.1,?_⟩,h4⟩;rcases h3.2 with hn | ⟨g,cap,cur,fz,e,hb,hgg,rest⟩
  ·exact .inl hn
  ·exact .inr ⟨g,cap,cur,fz,e,hb,hr _ _ _ _ hgg (.inr rfl),rest⟩
 exact⟨h.b.elim (fun x=>.inl (key _ x)) (fun x=>.inr (key _ x)),c⟩
theorem Bk.ct(h:Bk B L I w b acc W)(k:Ct B L I W W'):Bk B L I w b acc W':=
 h.turn (fun _ _ _ _ hk ht=>k.f.on.rows _ _ _ _ hk (by rcases ht with rfl | rfl;exact Ey;exact PL)) (h.c.trans k)
theorem Bk.kept(R:mZ L I)(hB:B<=w.heap.size)(h:Bk B L I w b acc W)(k:Kept W W'):Bk B L I w b acc W':=
 h.turn (fun _ _ _ _ hk _=>k.block hk) (h.c.kept R hB k)
theorem Bk.start(R:mZ L I)(hB:B<=w.heap.size)(hI:I w):Bk B L I w w.heap.size [] (w.alloc (.cells #[.pointer none,.slice none 0 0] 213)):=
 ⟨.inl ⟨aac _,.slice none 0 0,heap_alloc_new w _,World.ownsRowF_nil _ _ _ _,by simp[Value.ownBlock]⟩,(Ct.start hI).kept R hB ((Kept.refl w).alloc _)⟩
theorem Bk.lt(h:Bk B L I w b acc W):∃ cs,W.heap[b]? = some (.cells cs 213 (0,0)):=by
 rcases h.b with⟨_,v,h2,_⟩|⟨_,v,h2,_⟩
 ·exact⟨_,h2⟩
 ·exact⟨_,h2⟩
variable {cs:Array Value}
theorem PN(R:mZ L I)(hB:B<=w.heap.size)(h:Ct B L I w W)(hb:W.heap[b]? = some (.cells cs 213 (0,0)))(hl:Below w.heap.size W W')(o:Lib.OthersKept 5 (some b) W W'):Ct B L I w W':=by
 have key:∀ {k:Nat} {ob:Obj},w.heap[k]? = some ob->W'.heap[k]? = W.heap[k]?:=fun {k ob} hk=>hl.block k (aaa.1 hk).1
 refine⟨R.out _ _ h.i ⟨fun k cs' t fr hk ht=>o k _ hk (fun e=>?_) (fun c fz e=>?_),fun k es c _ hk=>o k _ hk (fun e=>?_) (fun c fz e=>by cases e)⟩,⟨⟨h.f.on.below.trans (hl.mono hB),fun k cs' t fr hk hc=>(key hk).trans (h.f.on.rows k cs' t fr hk hc)⟩,fun k es c hk hm=>(key hm).trans (h.f.maps k es c hk hm)⟩⟩
 ·injection e with e
  subst e;rw[hb]at hk;injection hk with hk
  injection hk with _ e2 _
  subst e2;revert ht;unfold T.Jg;decide
 ·injection e with _ e2 _
  subst e2;revert ht;unfold T.Jg;decide
 ·injection e with e
  subst e;rw[hb]at hk;cases hk
theorem Bk.write(R:mZ L I)(hB:B<=w.heap.size)(h:Bk B L I w b acc W)(s:ByteArray)(hm:acc.length+s.size<=140737488355328):
 Calls Tryz.prog 135 #[.pointer (some ⟨b,0,none⟩),.string s] W fun e w'=>e=.returned (.tuple #[.int .i64 s.size,.nilIface])/\Bk B L I w b (acc++s.data.toList) w'/\Lib.OthersKept 5 (some b) W w':=by
 obtain⟨cs,hb⟩:=h.lt;refine (Tryz.Builder_WriteString_k _ _ _ s W h.b (by rw[Lib.byteCells_length];exact hm) h.c.size).mono ?_;rintro e w' ⟨rfl,h1,h2,h3⟩;exact⟨rfl,⟨by rw[Lib.byteCells_append];exact Or.inr h1,PN R hB h.c hb h2 h3⟩,h3⟩
theorem Bk.string(R:mZ L I)(hB:B<=w.heap.size)(h:Bk B L I w b acc W):
 Calls Tryz.prog 136 #[.pointer (some ⟨b,0,none⟩)] W fun e w'=>e=.returned (.string ⟨acc.toArray⟩)/\Ct B L I w w'/\Lib.OthersKept 5 (some b) W w':=by
 obtain⟨cs,hb⟩:=h.lt;refine (Tryz.Builder_String_any_k _ _ acc W h.b h.c.size).mono ?_;rintro e w' ⟨rfl,_,h2,h3⟩;exact⟨rfl,PN R hB h.c hb h2 h3,h3⟩
variable {c:Nat}{xs:List Value}
theorem Ji{q:Option Addr}(h:Own W B 3 1 q n c xs)(hb:W.heap[b]? = some (.cells cs 213 (0,0)))(o:Lib.OthersKept 5 (some b) W W'):Own W' B 3 1 q n c xs:=by
 refine⟨h.out.1,?_⟩;rcases h.out.2 with h0 | ⟨g,cap,cur,e1,a,h3,r⟩
 ·exact .inl h0
 ·refine .inr ⟨g,cap,cur,e1,a,o g _ h3 (fun e=>?_) (fun c fz e=>?_),r⟩
  ·injection e with e
   exact (G.aB h3 hb (by decide)) e
  ·injection e with _ e2 _
   exact absurd e2 (by decide)
theorem Bk.row{q:Nat}{p:Option Addr}(R:mZ L I)(hB:B<=w.heap.size)(h:Bk B L I w b acc W)(o:Own W w.heap.size 3 1 p n c xs)(hg:W.grownBy W' (Value.slice p n c).ownBlock){a0 a1:Value}(hl:C2 W q 215 a0 a1):Bk B L I w b acc W'/\C2 W' q 215 a0 a1:=by
 have ob:=iq o;have ne:∀ {k:Nat} {cs:Array Value} {t:TypeId} {fr:Nat×Nat},W.heap[k]? = some (.cells cs t fr)->t≠3->W'.heap[k]? = some (.cells cs t fr):=fun {k cs t fr} hk ht=>(hg.block k (aaa.1 hk).1 (fun e=>by
  obtain⟨_,cs',fr',h2⟩:=ob k e.symm
  exact (G.aB hk h2 ht) rfl)).trans hk
 refine⟨h.turn (fun k cs t fr hk ht=>ne hk (by rcases ht with rfl | rfl <;> decide)) (h.c.grown R hB hg (fun k e=>?_)),⟨ne hl.out (by decide)⟩⟩;obtain⟨h1,cs',fr',h2⟩:=ob k e;exact⟨h1,_,_,_,h2,by unfold T.Jg;decide⟩
def pz (l:List Nat):List Int:=l.map fun n:Nat=>(n:Int)
theorem Ty(l:List Nat)(n:Nat):aO (pz (l++[n]))=aO (pz l)++[.int .i64 n]:=by simp[pz,aO]
structure Wl (B L:Nat) (I:World->Prop) (w:World) (ns t:List Nat) (Y:Nat->Option G.bG) (g:Nat) (ds rs tt:List Nat) (a l:Int) (q:Option Addr) (c:Nat) (wx:World):Prop where
 sp:ds++rs=ns
 ch:zw Y g rs tt
 at_:a+1=(nM rs:Nat)
 lf:(rs≠[]->l=(tt.length:Nat))/\(rs=[]->l<=0)
 few:tt.length<=65536
 own:Own wx w.heap.size 3 1 q ds.length c (aO (pz ds))
 bk:∃ acc,Bk B L I w w.heap.size acc wx/\acc++tt.map UInt8.ofNat=t.map UInt8.ofNat
theorem PO(r tt:List Nat)(h0:tt≠[])(h:r=[]↔tt.length<=234)(hm:tt.length<=65536):
 Calls Tryz.prog 134 #[.agg #[.int .i64 ((nM r:Nat)-1:Int),.string (bs (tt.take 234))],.int .i64 tt.length] w fun e w'=>e=.returned (.bool true)/\Kept w w':=by
 have hs:(bs (tt.take 234)).size=min 234 tt.length:=by rw[N.au,aam]
 have:=h0;cases r with
 | nil=>
  have hl:=h.1 rfl;exact Kn (bs (tt.take 234)) tt.length (by omega) hl
 | cons k r=>
  have hl:¬ tt.length<=234:=fun e=>by have:=h.2 e;cases this
  rw[show ((nM (k :: r):Nat)-1:Int)=(k:Nat) by simp[nM]];exact Lj (bs (tt.take 234)) k tt.length (by omega) (by omega) hm
theorem PQ{p n0:Nat}{ns t:List Nat}{Y:Nat->Option G.bG}{g:Nat}(R:mZ L I)(hB:B<=w.heap.size)(hI:I w)(hC:zw Y g (n0 :: ns) t)(hp:∀ n∈n0 :: ns,n<1024)(ht:t.length<=65536)(HR:Hid (∀ (W:World) (n x:Nat) (tt:List Nat),I W->B<=W.heap.size->x<=1024->Y n=some ⟨4,(n:Nat),g,bs (ae x++tt)⟩->tt.length<=234->Calls Tryz.prog 133 #[.pointer (some ⟨p,0,none⟩),.int .i64 n] W fun e w'=>e=.returned (.tuple #[.agg #[.int .i64 ((x:Int)-1),.string (bs tt)],.int .i64 0])/\Ct B L I W w')):
 Calls Tryz.prog 96 #[.pointer (some ⟨p,0,none⟩),.int .i64 n0,.int .i64 t.length] w fun e w'=>∃ q c,e=.returned (.tuple #[.slice q (n0 :: ns).length c,.string (bs t),.int .i64 0])/\Own w' w.heap.size 3 1 q (n0 :: ns).length c (aO (pz (n0 :: ns)))/\Ct B L I w w':=by
 obtain⟨i3,hi,hz0,hz1,hz2⟩:=info_parts Yh;have h0:0<t.length:=List.length_pos_iff.2 hC.1;have fl:=yc t.length h0 ht;have HW0:Hid (Wl B L I w (n0 :: ns) t Y g [] (n0 :: ns) t (n0:Nat) (t.length:Nat) none 0 (w.alloc (.cells #[.pointer none,.slice none 0 0] 213))):=⟨rfl,hC,by simp[nM],⟨fun _=>rfl,fun e=>by cases e⟩,ht,T.lC _ _ _ _,[],Bk.start R hB hI,rfl⟩;have HN:Hid _:=hp;have HS:Hid (mZ L I/\B<=w.heap.size):=⟨R,hB⟩;have Eg:Hid ((n0 :: ns).length<=300):=by show _<=_;rw[hC.len];unfold need;omega
 clear hC hp hI R hB;obtain⟨nn,hnn⟩:∃ nn,n0 :: ns=nn:=⟨_,rfl⟩;rw[hnn]at HW0 HN Eg ⊢;clear hnn;go_enter Tryz.func96,Tryz.ntmps96;go_wp2_with (go_at_call 126;(with_reducible refine (fl _).mono ?_);rintro e w1 ⟨rfl,hw1⟩;rw[hw1];clear hw1);clear fl;go_loopg [1,9,11] nn.length (fun gg av pv lv wx=>∃ (ds rs tt:List Nat) (a l:Int) (q:Option Addr) (nd c:Nat),av=.int .i64 a/\pv=.slice q nd c/\lv=.int .i64 l/\Hid (gg=rs.length/\nd=ds.length)/\Hid (Wl B L I w nn t Y g ds rs tt a l q c wx));case atStart=>exact⟨[],nn,t,_,_,none,0,0,rfl,rfl,rfl,⟨rfl,rfl⟩,HW0⟩
 case round=>
  obtain⟨ds,rs,tt,a,l,q,nd,c,rfl,rfl,rfl,hg,HI⟩:=hrel;clear HW0;cases rs with
  | nil=>
   have hl:¬ (0:Int)<l:=by have:=HI.out.lf.2 rfl;omega
   obtain⟨acc,hb,hacc⟩:=HI.out.bk;have EP:tt=[]:=HI.out.ch;have hd:ds=nn:=by have:=HI.out.sp;simpa using this
   obtain⟨cs,hbb⟩:=hb.lt;have fs:=hb.string HS.out.1 HS.out.2;have e1:(⟨acc.toArray⟩:ByteArray)=bs t:=by
    rw[EP]at hacc;unfold N.bs;rw[<- hacc];simp
   rw[e1]at fs;have HO:Hid (∀ W',Lib.OthersKept 5 (some w.heap.size) wr W'->Own W' w.heap.size 3 1 q nd c (aO (pz nn))):=fun W' o=>by
    have:=Ji HI.out.own hbb o;rw[hd]at this;rw[hg.out.2,hd];exact this
   have HD:Hid (nd=nn.length):=by rw[hg.out.2,hd];rfl
   clear hb hacc EP hd hbb e1 HI;go_wp2_with (go_at_call 136;(with_reducible refine fs.mono ?_);rintro e w2 ⟨rfl,C2,o2⟩;have HF:Hid (Ct B L I w w2/\Own w2 w.heap.size 3 1 q nd c (aO (pz nn))):=⟨C2,HO.out _ o2⟩;clear fs C2 o2);go_ret3;have hD:=HD.out;subst hD;exact⟨q,c,rfl,HF.out.2,HF.out.1⟩
  | cons n r=>
   have ha:a=(n:Int):=by have:=HI.out.at_;simp[nM]at this;omega
   subst ha;have hl:l=(tt.length:Nat):=HI.out.lf.1 (by simp);subst hl;obtain⟨c1,c2,c3,c4⟩:=HI.out.ch;have htl:0<tt.length:=List.length_pos_iff.2 c1;have hl1:(0:Int)<(tt.length:Nat):=by omega
   obtain⟨acc,hb,hacc⟩:=HI.out.bk;have hx:nM r<=1024:=by
    cases r with
    | nil=>exact aag _
    | cons k r'=>
     have:k<1024:=HN.out k (by rw[<- HI.out.sp];simp);show k+1<=1024;omega
   have htf:=HI.out.few;have fR:=HR.out wr n (nM r) (tt.take 234) hb.c.i (aad HS.out.2 hb.c.size) hx c3 (by rw[aam];omega);have ff:=fun W=>PO (w:=W) r tt c1 c2 htf
   have hpl:(bs (tt.take 234)).size<=234:=by rw[N.au,aam];omega
   have hpd:Hid ((acc++(bs (tt.take 234)).data.toList)++(tt.drop 234).map UInt8.ofNat=t.map UInt8.ofNat):=by
    show _=_;rw[<- hacc,aap];congr 1;unfold N.bs;rw[<- List.map_append,aax]
   have hal:acc.length<=65536:=by have:=congrArg List.length hacc;simp at this;omega
   have hdl:nd<=300:=by have:=Eg.out;have h1:=congrArg List.length HI.out.sp;rw[aah]at h1;have:=hg.out.2;omega
   have e5:IntKind.i64.wrap ((tt.length:Int)-234)=(tt.length:Int)-234:=by rw[IntKind.wrap_i64];omega
   have U3:Hid (∀ wy q' c',Own wy w.heap.size 3 1 q' (nd+1) c' (aO (pz ds)++[.int .i64 n])->Bk B L I w w.heap.size (acc++(bs (tt.take 234)).data.toList) wy->Wl B L I w nn t Y g (ds++[n]) r (tt.drop 234) (((nM r:Nat):Int)-1) (((tt.length:Nat):Int)-234) q' c' wy):=fun wy q' c' h1 h2=>by
    refine⟨by rw[<- HI.out.sp];simp,c4,by omega,⟨fun e=>?_,fun e=>?_⟩,by rw[aaw];omega,?_,⟨_,h2,hpd.out⟩⟩
    ·have:¬ tt.length<=234:=fun h=>e (c2.2 h)
     rw[aaw];omega
    ·have:=c2.1 e
     omega
    ·rw[aah,List.length_singleton,<- hg.out.2,Ty]
     exact h1
   have HO:Hid (Own wr w.heap.size 3 1 q nd c (aO (pz ds))):=by rw[hg.out.2];exact HI.out.own
   have HB:Hid (Bk B L I w w.heap.size acc wr):=hb;generalize bs (tt.take 234)=pt at *;generalize ((nM r:Nat):Int)-1=nx at *;generalize tt.length=tl at *;clear HI hb hacc c1 c2 c3 c4 hx hpd HR htl;have hwb:w.heap.size<wr.heap.size:=by obtain⟨cs,hbb⟩:=HB.out.lt;exact (aaa.1 hbb).1
   go_wp2_with (first
    | (go_at_call 133;(with_reducible refine fR.mono ?_);rintro e w2 ⟨rfl,k2⟩;have B2:=HB.out.ct k2;have L2:=C2.alloc w2 215 (.int .i64 nx) (.string pt);have ka:Kept w2 (w2.alloc (.cells #[.int .i64 nx,.string pt] 215)):=(Kept.refl w2).alloc _;have B3:=B2.kept HS.out.1 HS.out.2 ka;have O3:=(kQ k2.f.on T.nD HO.out).kept ka;obtain⟨l0,l1⟩:=L2.cs;have hne:w2.heap.size≠w.heap.size:=(by have:=k2.size;omega);clear fR HB HO B2)
    | (go_at_call 134;(with_reducible refine (ff _).mono ?_);rintro e w4 ⟨rfl,k4⟩;have B4:=(B3.kept HS.out.1 HS.out.2 k4).kept HS.out.1 HS.out.2 ((Kept.refl w4).alloc (.cells #[.int .i64 n] 3));have L4:=L2.kept k4;have L4':=L4.kept ((Kept.refl w4).alloc (.cells #[.int .i64 n] 3));have O4:=(O3.kept k4).kept ((Kept.refl w4).alloc (.cells #[.int .i64 n] 3));obtain⟨m0,m1⟩:=L4.cs;have rV:=B4.c.size;clear ff B3 L2 O3)
    | (at_builtin;refine wpList_append_own _ rfl _ _ 94 rfl w.heap.size 3 i3 (.int .i64 0) 1 8 Tryz.underlying94 hi hz0 hz1 hz2 rfl (by decide) (.slice q nd c) nd (aO (pz ds)) rfl O4.out ⟨w4.heap.size,0,none⟩ 1 1 [.int .i64 n] rfl rfl (N.one_cell _ _ _) (N.one_one _ _) (by unfold maxLen;omega) (by omega) rV ?_;intro v' w5 o5 g5 _;obtain⟨q5,c5,rfl⟩:=aF o5;obtain⟨B5,L5⟩:=B4.row HS.out.1 HS.out.2 O4 g5 L4';have O5:Own w5 w.heap.size 3 1 q5 (nd+1) c5 (aO (pz ds)++[.int .i64 n]):=⟨o5⟩;obtain⟨u0,u1⟩:=L5.cs;have g6:=B5.write HS.out.1 HS.out.2 pt (by omega);obtain⟨cs5,hb5⟩:=B5.lt;clear o5 g5 B4 O4 L4')
    | (go_at_call 135;(with_reducible refine g6.mono ?_);rintro e w6 ⟨rfl,B6,o6⟩;have L6:=L5.others o6 hne;have O6:=Ji O5 hb5 o6;obtain⟨v0,v1⟩:=L6.cs;have HF:=U3.out w6 q5 c5 O6 B6;have HHF:Hid (Wl B L I w nn t Y g (ds++[n]) r (tt.drop 234) nx ((tl:Int)-234) q5 c5 w6):=HF;clear g6 B6 o6 B5 L5 O5 hb5 HF O6))
   go_roundg r.length;case measure=>have:=hg.out.1;simp at this;omega
   case rel=>exact⟨ds++[n],r,tt.drop 234,nx,(tl:Int)-234,q5,nd+1,c5,rfl,rfl,rfl,⟨rfl,by rw[aah,List.length_singleton,hg.out.2]⟩,HHF⟩
end Go.Proofs.YtifeihnhkbagpaaGreatDoor.Ch
namespace Go.Proofs.YtifeihnhkbagpaaGreatDoor.T
open ChangeShapes WideShapes ChangeAt RowKit
open B (Pm)
open N (Nd Kept C4)
open Go.Proofs.YtifeihnhkbagpaaGreatDoor.D (Ok whole)
open G (zW qZ bq)
def hl (H:Nat->Option G.bG):Nat->Nat
 | 0=>0
 | m+1=>hl H m+(if (H m).isSome=true then 1 else 0)
theorem Ut(H:Nat->Option G.bG):∀ m,hl H m<=m
 | 0=>aac _
 | m+1=>by
  have:=Ut H m;simp only[hl];split <;> omega
theorem PS{H:Nat->Option G.bG}{n:Nat}{x:G.bG}(h:H n=none):∀ m,hl (G.eB H n x) m=hl H m+(if n<m then 1 else 0)
 | 0=>rfl
 | m+1=>by
  simp only[hl,PS h m];by_cases e:m=n
  ·subst e
   rw[show G.eB H m x m=some x by simp[G.eB],h,aai (Nat.lt_irrefl _)];simp
  ·rw[show G.eB H n x m=H m by simp[G.eB,e]]
   by_cases e2:n<m
   ·rw[aao e2,aao (show n<m+1 by omega)];omega
   ·rw[aai e2,aai (show ¬ n<m+1 by omega)];omega
def PT (k xg:Nat) (y:Nd):G.bG:=⟨kindOf y,(k:Nat),xg,N.bs y.put⟩
structure Cg (B L:Nat) (W:World) (p d g m gen c:Nat) (root:Int) (M:Pm) (u:Nat->Bool):Prop where
 out:∃ (a:G.Ad) (q:G.Pq),(a.d=d/\a.g=g)/\(a.mf<L/\a.mh<L)/\G.GA B W p a q/\(q.gen=gen/\q.root=root/\q.m=m/\q.doubt=false)/\(∀ k,q.fresh k=none)/\(q.fails=q.disk.fails/\q.disk.cuts=[]/\zW q.disk/\q.disk.secs.length=m/\Ok (c+hl q.held m) q.disk) /\
  (∀ k y,M k=some y->∃ xg:Nat,xg<18446744073709551616/\q.disk.secs[k]? = some ⟨whole (bq (G.eB (fun _=>none) k (PT k xg y)) k),false,0⟩/\(q.held k=none\/q.held k=some (PT k xg y)))/\(∀ k,k<m->q.ut k=u k/\q.un k=u k/\q.uk k=u k)
 wU:∀ k x,M k=some x->2<=k/\k<m/\x.put.length<=237
 few:m<=1024/\c<=40000
variable {B L p:Nat}{a:G.Ad}{q:G.Pq}
theorem Uu{W W':World}(h:G.GA B W p a q)(hc:q.disk.cuts=[])(hm:a.mf<L/\a.mh<L)(k:Aq L W W'):G.GA B W' p a q:=by
 obtain⟨_,_,f1⟩:=h.fm.block;obtain⟨_,_,h1⟩:=h.hm.block;have ac:Ac W W':=⟨k.cells⟩;exact⟨ac.cells _ _ _ _ h.blk (by decide),IV h.disk hc ac,Ak h.sk ac,Ak h.st ac,Ak h.sn ac,h.fm.same ((k.maps _ _ _ hm.1 f1).trans f1.symm),h.hm.same ((k.maps _ _ _ hm.2 h1).trans h1.symm),h.ne,h.le⟩
theorem Cg.stay(B L p d g m gen c:Nat)(root:Int)(M:Pm)(u:Nat->Bool):mZ L (fun W=>Cg B L W p d g m gen c root M u):=⟨fun W W' h k=>by
 obtain⟨a,q,e,hm,hG,h1,h2,h3,r⟩:=h.out
 exact⟨⟨a,q,e,hm,Uu hG h3.2.1 hm k,h1,h2,h3,r⟩,h.wU,h.few⟩⟩
variable {w:World}
theorem Gw(h:G.GA B w p a q)(hf:q.fails=q.disk.fails)(n:Nat)(hn:n<1024)(hx0:q.fresh n=none)(x:G.bG)(hx:q.held n=some x):
 Calls Tryz.prog 165 #[.pointer (some ⟨p,0,none⟩),.int .i64 n] w fun e w'=>e=.returned (.tuple #[x.val,.int .i64 0])/\Kept w w':=by
 have K1:D.Kept w (w.alloc (.cells #[.int .i64 0,.int .i64 0,.int .u64 0,.string ⟨#[]⟩] 157)):=(D.Kept.refl w).alloc _;have k1:=h.kept K1;obtain⟨c0,c1,c2,c3,c4,c5,c6,c7,c8,c9⟩:=k1.cs;have lk:=k1.fm.look n (by omega);rw[show G.nG q.fresh n=G.bG.zero by simp[G.nG,hx0],hx0]at lk;have lk1:(Instr.lookup 104 (.map (some a.mf)) (.int .i64 n) true).run Tryz.prog (w.alloc (.cells #[.int .i64 0,.int .i64 0,.int .u64 0,.string ⟨#[]⟩] 157))=.ok (.tuple #[.agg #[.int .i64 0,.int .i64 0,.int .u64 0,.string ⟨#[]⟩],.bool false]) (w.alloc (.cells #[.int .i64 0,.int .i64 0,.int .u64 0,.string ⟨#[]⟩] 157)):=lk;have K2:D.Kept w ((w.alloc (.cells #[.int .i64 0,.int .i64 0,.int .u64 0,.string ⟨#[]⟩] 157)).alloc (.cells #[.int .i64 0,.int .i64 0,.int .u64 0,.string ⟨#[]⟩] 157)):=K1.alloc _;have k2:=h.kept K2;have f1:=D.xI k2.disk;rw[<- hf]at f1;obtain⟨d0,d1,d2,d3,d4,d5,d6,d7,d8,d9⟩:=k2.cs;have lh:=k2.hm.look n (by omega);rw[show G.nG q.held n=x by simp[G.nG,hx],hx]at lh;obtain⟨xk,xn,xg,xs⟩:=x;dsimp only[G.bG.val,Option.isSome_some]at lh;clear hx hx0 lk hf;generalize q.fails=qf at *;go_enter Tryz.func165,Tryz.ntmps165;go_wp2_with (go_at_call 206;(with_reducible refine f1.mono ?_);rintro e w1 ⟨rfl,hw1⟩;rw[hw1];clear hw1);refine bodyPost_ret (v:=.tuple #[.agg #[.int .i64 xk,.int .i64 xn,.int .u64 xg,.string xs],.int .i64 0]) ?_ rfl ⟨rfl,((Kept.refl w).alloc _).alloc _ |>.alloc _⟩;exact P.af (p:=4) (u:=5) (ty:=157) rfl _ _ w.heap.size 157 _ (0,0) _ rfl ((((P.Kept.refl _).alloc _).alloc _).pg (P.Pg.alloc w xk xn xg xs 157)).out Tryz.underlying157 rfl P.jS
variable {n:Nat}
theorem PU{I:World->Prop}{kb:Nat}{fr:Nat×Nat}(R:mZ L I)(hB:B<=w.heap.size)(hI:I w)(hk:w.heap[kb]? = some (.cells #[.int .i64 2,.int .i64 3] 3 fr))(y:Nd)(xn:Int)(xg:Nat)(xs:ByteArray)(HL:∀ W,Kept w W->Calls Tryz.prog 165 #[.pointer (some ⟨p,0,none⟩),.int .i64 n] W fun e w'=>e=.returned (.tuple #[.agg #[.int .i64 (kindOf y),.int .i64 xn,.int .u64 xg,.string xs],.int .i64 0])/\Ct B L I W w'):
 Calls Tryz.prog 131 #[.pointer (some ⟨p,0,none⟩),.int .i64 n,.slice (some ⟨kb,0,none⟩) 2 2] w fun e w'=>e=.returned (.tuple #[.agg #[.int .i64 (kindOf y),.int .i64 xn,.int .u64 xg,.string xs],.int .i64 0])/\Ct B L I w w':=by
 have Z0:=P.Pg.alloc w 0 0 0 ⟨#[]⟩ 157;have K1:Kept w (w.alloc (.cells #[.int .i64 0,.int .i64 0,.int .u64 0,.string ⟨#[]⟩] 157)):=(Kept.refl w).alloc _;have f1:=HL _ K1;have f2:∀ W:World,W.heap[kb]? = some (.cells #[.int .i64 2,.int .i64 3] 3 fr)->Calls Tryz.prog 166 #[.slice (some ⟨kb,0,none⟩) 2 2,.int .i64 (kindOf y)] W fun e w'=>e=.returned (.bool true)/\w'=W:=fun W hc=>rP y (by rw[cell_of_row _ kb _ _ _ _ hc];rfl) (by rw[cell_of_row _ kb _ _ _ _ hc];rfl)
 have LQ:Hid (Ct B L I w (w.alloc (.cells #[.int .i64 0,.int .i64 0,.int .u64 0,.string ⟨#[]⟩] 157))):=(Ct.start hI).kept R hB K1;have hk1:=K1.block hk;generalize kindOf y=xk at *;clear HL hI;go_enter Tryz.func131,Tryz.ntmps131;go_wp2_with (first
  | (go_at_call 165;(with_reducible refine f1.mono ?_);rintro e w1 ⟨rfl,k1⟩;have Z1:P.Pg w1 w.heap.size 0 0 0 ⟨#[]⟩ 157:=⟨k1.f.on.rows _ _ _ _ Z0.out G.wP⟩;have hk2:=k1.f.on.rows _ _ _ _ hk1 nD;have K2:Kept w1 (w1.alloc (.cells #[.int .i64 xk,.int .i64 xn,.int .u64 xg,.string xs] 157)):=(Kept.refl w1).alloc _;have Z2:=P.Kept.pg ⟨K2.out⟩ Z1;have Y2:=P.Pg.alloc w1 xk xn xg xs 157;have kk:=(LQ.out.trans k1).kept R hB K2;have f3:=f2 (w1.alloc (.cells #[.int .i64 xk,.int .i64 xn,.int .u64 xg,.string xs] 157)) (K2.block hk2);obtain⟨y0,y1,y2,y3⟩:=Y2.cs;obtain⟨⟨z0,h0⟩,⟨z1,h1⟩,⟨z2,h2⟩,z3,h3⟩:=Z2.ready xk xn xg;have rA:=(Z2.fill xk xn (xg:Nat) xs).out)
  | (go_at_call 166;(with_reducible refine f3.mono ?_);rintro e w2 ⟨rfl,hw2⟩;rw[hw2];clear hw2))
 refine bodyPost_ret (v:=.tuple #[.agg #[.int .i64 xk,.int .i64 xn,.int .u64 xg,.string xs],.int .i64 0]) ?_ rfl ⟨rfl,kk.grown R hB (zy _ w.heap.size _ _ _ _) (fun b e=>by injection e with e;subst e;exact⟨aac _,_,_,_,Z2.out,by unfold Jg;decide⟩)⟩;exact P.af (p:=6) (u:=7) (ty:=157) rfl _ _ w.heap.size 157 _ (0,0) _ rfl rA Tryz.underlying157 rfl P.jS
variable {d g m gen c:Nat}{root:Int}{M:Pm}{u:Nat->Bool}
theorem Cg.look(h:Cg B L w p d g m gen c root M u)(hB:B<=w.heap.size){y:Nd}(hy:M n=some y) :
  ∃ xg:Nat,∀ W,Kept w W->Calls Tryz.prog 165 #[.pointer (some ⟨p,0,none⟩),.int .i64 n] W fun e w'=>e=.returned (.tuple #[.agg #[.int .i64 (kindOf y),.int .i64 n,.int .u64 xg,.string (N.bs y.put)],.int .i64 0])/\Ct B L (fun W=>Cg B L W p d g m gen c root M u) W w':=by
 obtain⟨a,q,ed,em,hG,eg,ef,⟨e1,e2,e3,e4,e5⟩,eM,eu⟩:=h.out;obtain⟨r1,r2,r3⟩:=h.wU n y hy;obtain⟨xg,x1,x2,x3⟩:=eM n y hy;have tq:=h.few;refine⟨xg,fun W k0=>?_⟩;rcases x3 with x3 | x3
 ·have hkd:1<=kindOf y/\kindOf y<=4:=by unfold kindOf;split <;> omega
  have hl1:=Ut q.held m;refine (G.Kj hG hB e5 (by omega) n r1 (by omega) (ef n) e1 x3 e3 ⟨e3.up,fun c r hc=>by rw[e2]at hc;cases hc⟩ (M:=G.eB (fun _=>none) n (PT n xg y)) (by unfold G.eB;rw[aao rfl];rfl) hkd.1 hkd.2 (by rw[N.au];exact r3) x1 x2 W ⟨k0.out⟩).mono ?_;rintro e w' ⟨rfl,g',o,mo⟩;refine⟨rfl,⟨⟨a,_,ed,em,g',eg,ef,⟨e1,e2,G.nU e3,e4,?_⟩,fun k z hz=>?_,eu⟩,h.wU,h.few⟩,⟨o,fun k es cc hk hm=>mo.out k es cc (by omega) hm⟩⟩
  ·show Ok (c+hl (G.eB q.held n _) m) _
   rw[PS x3,aao r2];exact D.lI e5.Qk
  ·obtain⟨YK,a1,a2,a3⟩:=eM k z hz
   refine⟨YK,a1,a2,?_⟩;show G.eB q.held n _ k=none\/G.eB q.held n _ k=_;unfold G.eB;by_cases e:k=n
   ·subst e
    rw[aao rfl];rw[hy]at hz;obtain rfl:=aaq hz;rw[x2]at a2;right;obtain⟨l1,hl1,ho1,ew1,ex1,en1⟩:=G.xZ (M:=G.eB (fun _=>none) k (PT k xg y)) (n:=k) (k:=kindOf y) (g:=xg) (s:=N.bs y.put) (by unfold G.eB;rw[aao rfl];rfl) hkd.1 hkd.2 (by omega) (by rw[N.au];exact r3) x1;obtain⟨l2,hl2,ho2,ew2,ex2,en2⟩:=G.xZ (M:=G.eB (fun _=>none) k (PT k YK y)) (n:=k) (k:=kindOf y) (g:=YK) (s:=N.bs y.put) (by unfold G.eB;rw[aao rfl];rfl) hkd.1 hkd.2 (by omega) (by rw[N.au];exact r3) a1;have ee:whole (bq (G.eB (fun _=>none) k (PT k xg y)) k)=whole (bq (G.eB (fun _=>none) k (PT k YK y)) k):=by
     have:=aaq a2;exact congrArg D.rU.kept this
    rw[ew1,ew2]at ee;have el:=G.Nf hl1 hl2 ee;subst el;unfold PT;rw[ex2,<- ex1]
   ·rw[aai e];exact a3
 ·refine (Gw (hG.kept ⟨k0.out⟩) e1 n (by omega) (ef n) _ x3).mono ?_
  rintro e w' ⟨rfl,k⟩;exact⟨rfl,(Ct.start ((Cg.stay B L p d g m gen c root M u).out _ _ h (Aq.ax k0))).kept (Cg.stay B L p d g m gen c root M u) (aad hB k0.size) k⟩
theorem Cg.rdr(B L p d g m gen c:Nat)(root:Int)(M:Pm)(u:Nat->Bool):VX B L p (fun W=>Cg B L W p d g m gen c root M u) M where
 stay:=Cg.stay B L p d g m gen c root M u
 read:=fun W kb n fr y hI hB hy hk=>by
  obtain⟨xg,f⟩:=hI.look hB hy
  refine (PU (xg:=xg) (Cg.stay B L p d g m gen c root M u) hB hI hk y (n:Nat) (N.bs y.put) f).mono ?_
  rintro e w' ⟨rfl,k⟩
  exact⟨⟨xg,rfl⟩,k⟩
theorem Cg.mark(h:Cg B L w p d g m gen c root M u)(hn:n<m)(hu:u n=false):
 Calls Tryz.prog 107 #[.pointer (some ⟨p,0,none⟩),.int .i64 n] w fun e w'=>e=.returned (.bool true)/\Cg B L w' p d g m gen c root M (S.aS u n)/\G.On B w w':=by
 obtain⟨a,q,ed,em,hG,eg,ef,e5,eM,eu⟩:=h.out;refine (G.Q7 hG n (by rw[eg.2.2.1];exact hn) (by rw[(eu n hn).1];exact hu)).mono ?_;rintro e w' ⟨rfl,⟨a',⟨a1,a2⟩,⟨a3,a4⟩,g'⟩,o⟩;refine⟨by rw[(eu n hn).2.2,hu];rfl,⟨⟨a',_,⟨a1.trans ed.1,a2.trans ed.2⟩,⟨by rw[a3];exact em.1,by rw[a4];exact em.2⟩,g',eg,ef,e5,eM,fun k hk=>?_⟩,h.wU,h.few⟩,o⟩;obtain⟨b1,b2,b3⟩:=eu k hk;show S.aS q.ut n k=_/\S.aS q.un n k=_/\S.aS q.uk n k=_;unfold S.aS;split
 ·exact⟨rfl,rfl,rfl⟩
 ·exact⟨b1,b2,b3⟩
end Go.Proofs.YtifeihnhkbagpaaGreatDoor.T
namespace Go.Proofs.YtifeihnhkbagpaaGreatDoor.Ch
open ChangeShapes WideShapes ChangeAt RowKit
open T (mZ Ct zw nM kQ iq aF Pv Xm sP pQ)
open B (Pm)
open N (Kept Own Rw aO bs ae)
structure Pl (B L:Nat) (W:World) (p:Nat) (m:Xm) (M:Pm):Prop where
 out:∃ (a:G.Ad) (q:G.Pq),(a.d=m.d/\a.g=m.g)/\(a.mf<L/\a.mh<L)/\G.GA B W p a q/\q.m=m.n/\(q.gen=m.gen/\q.disk=m.dk/\q.root=m.root/\q.doubt=false/\∀ k,q.held k=none)/\(∀ k,q.fresh k=sP m M k)/\(∀ k,k<m.n->q.ut k=pQ m M k)/\(∀ k,k<m.n->q.un k=pQ m M k)/\(∀ k,k<m.n->q.uk k=decide (k<2))
 pv:Pv B W p m M
variable {B p:Nat}{W:World}{m:Xm}{M:Pm}
theorem Pl.of(h:Pv B W p m M):Pl B W.heap.size W p m M:=by
 obtain⟨q,⟨a,e1,e2,hG⟩,r⟩:=h.out;obtain⟨_,_,m1⟩:=hG.fm.block;obtain⟨_,_,m2⟩:=hG.hm.block;exact⟨⟨a,q,⟨e1,e2⟩,⟨(aaa.1 m1).1,(aaa.1 m2).1⟩,hG,r⟩,h⟩
theorem Pl.stay(B L p:Nat)(m:Xm)(M:Pm):mZ L (fun W=>Pl B L W p m M):=⟨fun W W' h k=>by
 obtain⟨a,q,e,hm,hG,e1,e2,r⟩:=h.out
 have g':=T.Uu hG (by rw[e2.2.1];exact h.pv.fine.2) hm k
 exact⟨⟨a,q,e,hm,g',e1,e2,r⟩,⟨⟨q,⟨a,e.1,e.2,g'⟩,e1,e2,r⟩,h.pv.wU,h.pv.dm,h.pv.fine,h.pv.few,h.pv.two⟩⟩⟩
variable {L:Nat}
theorem Pl.read{n x:Nat}{tt:List Nat}(h:Pl B L W p m M)(hB:B<=W.heap.size)(hx:x<=1024)(hY:m.Y n=some ⟨4,(n:Nat),m.gen+1,bs (ae x++tt)⟩)(ht:tt.length<=234):
 Calls Tryz.prog 133 #[.pointer (some ⟨p,0,none⟩),.int .i64 n] W fun e w'=>e=.returned (.tuple #[.agg #[.int .i64 ((x:Int)-1),.string (bs tt)],.int .i64 0])/\Ct B L (fun W=>Pl B L W p m M) W w':=by
 obtain⟨r1,r2⟩:=h.pv.dm n _ hY;have tq:=h.pv.few;refine PM (Pl.stay B L p m M) hB h r1 (by omega) x (by omega) tt (by omega) (n:Nat) (m.gen+1) (fun W' kb fr hI hB' hk=>?_);obtain⟨a,q,e,hm,hG,e1,e2,e3,r⟩:=hI.out;have hM:M n=none:=by
  cases e:M n with
  | none=>rfl
  | some y=>have:=(h.pv.wU n y e).2.2.2;rw[hY]at this;cases this
 refine (yh hG (n:=n) (by omega) 4 hk (n:Nat) (m.gen+1) (bs (ae x++tt)) (by rw[e3];unfold sP;rw[hM];exact hY)).mono ?_;rintro e w' ⟨rfl,k⟩;exact⟨rfl,(Ct.start hI).kept (Pl.stay B L p m M) hB' k⟩
variable {w:World}{n0:Nat}{ns t:List Nat}
theorem Pl.whole(h:Pl B L w p m M)(hB:B<=w.heap.size)(hC:zw m.Y (m.gen+1) (n0 :: ns) t)(ht:t.length<=65536):
 Calls Tryz.prog 96 #[.pointer (some ⟨p,0,none⟩),.int .i64 n0,.int .i64 t.length] w fun e w'=>∃ q c,e=.returned (.tuple #[.slice q (n0 :: ns).length c,.string (bs t),.int .i64 0])/\Own w' w.heap.size 3 1 q (n0 :: ns).length c (aO (pz (n0 :: ns)))/\Ct B L (fun W=>Pl B L W p m M) w w':=
 PQ (Pl.stay B L p m M) hB h hC (fun n hn=>by obtain⟨x,hx⟩:=hC.some n hn;have:=(h.pv.dm n x hx).2;have:=h.pv.few;omega) ht (fun W n x tt hI hB' hx hY EP=>Pl.read hI hB' hx hY EP)
theorem Pl.pages(h:Pl B L w p m M)(hB:B<=w.heap.size)(hC:zw m.Y (m.gen+1) (n0 :: ns) t)(ht:t.length<=65536):
 Calls Tryz.prog 106 #[.pointer (some ⟨p,0,none⟩),.int .i64 n0,.int .i64 t.length] w fun e w'=>∃ q c,e=.returned (.tuple #[.slice q (n0 :: ns).length c,.int .i64 0])/\Own w' w.heap.size 3 1 q (n0 :: ns).length c (aO (pz (n0 :: ns)))/\Ct B L (fun W=>Pl B L W p m M) w w':=by
 have f:=h.whole hB hC ht;generalize n0 :: ns=nn at *;clear h hC;go_enter Tryz.func106,Tryz.ntmps106;go_wp2_with (go_at_call 96;(with_reducible refine f.mono ?_);rintro e w1 ⟨q,c,rfl,O1,C1⟩;have HF:Hid (Own w1 w.heap.size 3 1 q nn.length c (aO (pz nn))/\Ct B L (fun W=>Pl B L W p m M) w w1):=⟨O1,C1⟩;clear f O1 C1);go_ret2;exact⟨q,c,rfl,HF.out.1,HF.out.2⟩
def Xm.less (m:Xm) (ns:List Nat):Xm:={ m with Y:=fun k=>if k∈ns then none else m.Y k }
theorem PV(m:Xm):Xm.less m []=m:=by
 unfold Xm.less;congr
theorem Ll(m:Xm)(ns:List Nat)(n:Nat):Xm.less m (ns++[n])=T.Xm.del (Xm.less m ns) n:=by
 unfold Xm.less T.Xm.del G.oM;congr;funext k;by_cases e:k=n
 ·subst e;simp
 ·simp[e]
theorem Lm(h:Pv B w p m M)(hB:B<=w.heap.size)(hC:zw m.Y (m.gen+1) (n0 :: ns) t)(ht:t.length<=65536)(hnd:(n0 :: ns).Nodup):
 Calls Tryz.prog 83 #[.pointer (some ⟨p,0,none⟩),.int .i64 n0,.int .i64 t.length] w fun e w'=>e=.returned (.int .i64 0)/\Pv B w' p (Xm.less m (n0 :: ns)) M/\G.On B w w':=by
 have f:=(Pl.of h).pages hB hC ht;have hlen:=hC.len;have HY:Hid (∀ n∈n0 :: ns,∃ x,m.Y n=some x):=fun n hn=>hC.some n hn
 have HN:Hid ((n0 :: ns).Nodup):=hnd;have HB:Hid (B<=w.heap.size):=hB;have hl:(n0 :: ns).length<=300:=by rw[hlen];unfold need;omega
 generalize n0 :: ns=nn at *;clear h hC hlen hnd hB;go_enter Tryz.func83,Tryz.ntmps83;go_wp2_with (go_at_call 106;(with_reducible refine f.mono ?_);rintro e w1 ⟨q,c,rfl,O1,C1⟩;have Fa:Hid (Own w1 w.heap.size 3 1 q nn.length c (aO (pz nn))):=O1;have HP1:Hid (Pv B w1 p m M/\G.On B w w1):=⟨C1.i.pv,C1.f.on⟩;clear f O1 C1);obtain⟨ln,hln⟩:∃ ln,nn.length=ln:=⟨_,rfl⟩;rw[hln]at hl Fa ⊢;have Eg:Hid (nn.length=ln):=hln;clear hln;have hli:(ln:Int)<=300:=by omega
 have HW0:Hid (Pv B w1 p (Xm.less m (nn.take 0)) M/\G.On B w w1/\G.On B w1 w1):=⟨by rw[List.take_zero,PV];exact HP1.out.1,HP1.out.2,G.On.refl _ _⟩;go_loopg [20] ln (fun gg iv wx=>∃ i:Nat,iv=.int .i64 i/\Hid (gg=ln-i)/\i<=ln/\Hid (Pv B wx p (Xm.less m (nn.take i)) M/\G.On B w wx/\G.On B w1 wx));case atStart=>exact⟨0,rfl,rfl,aag _,HW0⟩
 case round=>
  obtain⟨i,rfl,hg,hin,HI⟩:=hrel;clear HW0;by_cases h1:(i:Int)<(ln:Int)
  ·obtain⟨gb,rfl⟩:=Fa.out.jU (by omega)
   obtain⟨n,hn⟩:∃ n,nn[i]? = some n:=⟨_,aae (by rw[Eg.out];omega)⟩;have hcell:wr.cell? ⟨gb,i,none⟩=some (.int .i64 (n:Nat)):=(kQ HI.out.2.2 T.nD Fa.out).cell (N.BB (by simp[pz,hn]));obtain⟨x,hx⟩:=HY.out n (aak hn);have hni:n∉nn.take i:=fun hm=>by
    obtain⟨j,hj,e⟩:=List.mem_iff_getElem.1 hm;rw[aam]at hj;rw[List.getElem_take]at e;obtain⟨hi2,e2⟩:=aal.1 hn;have:=(List.getElem_inj HN.out).1 (e.trans e2.symm);omega
   have fd:=HI.out.1.Lh (aad HB.out HI.out.2.1.size) (n:=n) (x:=x) (by show (if n∈nn.take i then none else m.Y n)=some x;rw[aai hni];exact hx);have HT:Hid (T.Xm.del (Xm.less m (nn.take i)) n=Xm.less m (nn.take (i+1))):=by
    show _=_;rw[<- Ll,aaP,hn];rfl
   clear hn hx hni;go_wp2_with (go_at_call 112;(with_reducible refine fd.mono ?_);rintro e w2 ⟨rfl,V2,o2⟩;have HI2:Hid (Pv B w2 p (Xm.less m (nn.take (i+1))) M/\G.On B w w2/\G.On B w1 w2):=⟨(by rw[<- HT.out];exact V2),HI.out.2.1.trans o2,HI.out.2.2.trans o2⟩;clear fd V2 o2 HI);go_roundg (ln-(i+1));case measure=>rw[hg.out];omega
   case rel=>exact⟨i+1,by go_num,rfl,by omega,HI2⟩
  ·obtain rfl:i=ln:=by omega
   have hF:=HI.out;rw[aaz (by rw[Eg.out];exact aac _)]at hF;have HF:Hid (Pv B wr p (Xm.less m nn) M/\G.On B w wr):=⟨hF.1,hF.2.1⟩;clear hF HI;go_wp2;go_ret;exact⟨rfl,HF.out⟩
