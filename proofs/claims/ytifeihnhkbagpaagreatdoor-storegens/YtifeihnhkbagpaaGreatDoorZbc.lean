/- Joined. -/
import Derived.Test.YtifeihnhkbagpaaGreatDoorZbb
set_option maxRecDepth 100000
set_option maxHeartbeats 1000000
namespace Go.Proofs.YtifeihnhkbagpaaGreatDoor.B
open Go.Proofs.YtifeihnhkbagpaaGreatDoor.N
variable {a b:ByteArray}
theorem jD(h:sl a b=true):sl b a=false:=by
 cases h':sl b a with
 | false=>rfl
 | true=>have:=jY h h';rw[dY]at this;cases this
variable {c:ByteArray}
theorem Xh(h:sl b a=false)(k:sl b c=true):sl a c=true:=by
 by_cases e:b=a
 ·subst e;exact k
 ·exact jY (lZ h e) k
theorem TY(h:sl a b=true)(k:sl c b=false):sl a c=true:=by
 by_cases e:c=b
 ·subst e;exact h
 ·exact jY h (lZ k e)
variable {v:Vl}
theorem RO{o:Option Vl}:R (a,some v) (b,o)↔sl a b=true:=by simp[R]
theorem ZF:R (a,none) (b,none)↔sl a b=true:=by simp[R]
theorem NR:R (a,none) (b,some v)↔sl b a=false:=by simp[R]
variable {a:Mk}
theorem BJ:R a (b,none)↔sl a.1 b=true:=by simp[R]
theorem Xi(h:sl a.1 b=true):R a (b,some v):=by
 unfold R;split
 ·exact jD h
 ·exact h
theorem Vo(h:R a (b,some v)):sl b a.1=false:=by
 unfold R at h;split at h
 ·exact h
 ·exact jD h
variable {X Y:List Mk}
theorem NS{m:Mk}(h:(X++Y).Pairwise R)(hx:∀ a∈X,R a m)(hy:∀ b∈Y,R m b):(X++m :: Y).Pairwise R:=by
 rw[List.pairwise_append]at h ⊢;obtain⟨h1,h2,h3⟩:=h;refine⟨h1,List.pairwise_cons.2 ⟨hy,h2⟩,fun a ha b hb=>?_⟩;rcases aaW.1 hb with rfl | hb
 ·exact hx a ha
 ·exact h3 a ha b hb
variable {k:ByteArray}
theorem Vp{a:ByteArray}{u:Vl}(h:(X++(a,some v) :: (k,some u) :: Y).Pairwise R):(X++(a,some v) :: (k,none) :: (k,some u) :: Y).Pairwise R:=by
 have e:X++(a,some v) :: (k,none) :: (k,some u) :: Y=(X++[(a,some v)])++(k,none) :: ((k,some u) :: Y):=by simp
 have e':X++(a,some v) :: (k,some u) :: Y=(X++[(a,some v)])++((k,some u) :: Y):=by simp
 rw[e];rw[e']at h;have hp:=h;rw[List.pairwise_append]at hp;obtain⟨h1,h2,h3⟩:=hp;have ha:sl a k=true:=RO.1 (h3 (a,some v) (by simp) (k,some u) (by simp));refine NS h (fun x hx=>?_) (fun y hy=>?_)
 ·rcases aav.1 hx with hx | hx
  ·rw[BJ]
   rw[List.pairwise_append]at h1;have:=h1.2.2 x hx (a,some v) (by simp);exact Xh (Vo this) ha
  ·simp at hx;subst hx;exact RO.2 ha
 ·rcases aaW.1 hy with rfl | hy
  ·exact NR.2 (dY k)
  ·have:=(List.pairwise_cons.1 h2).1 y hy
   obtain⟨y1,y2⟩:=y;have:=RO.1 this;cases y2 with
   | none=>exact ZF.2 this
   | some u=>exact NR.2 (jD this)
def upd (k:ByteArray) (mid:List En) (l:List En):List En:=l.filter (fun e=>sl e.1 k)++(mid++l.filter (fun e=>sl k e.1))
variable {mid:List En}
theorem II{A B C:List En}(ha:∀ e∈A,sl e.1 k=true)(hc:∀ e∈C,sl k e.1=true):upd k mid (A++B++C)=A++upd k mid B++C:=by
 have a1:A.filter (fun e=>sl e.1 k)=A:=List.filter_eq_self.2 ha;have a2:A.filter (fun e=>sl k e.1)=[]:=List.filter_eq_nil_iff.2 (fun e he=>by rw[jD (ha e he)];decide);have c1:C.filter (fun e=>sl e.1 k)=[]:=List.filter_eq_nil_iff.2 (fun e he=>by rw[jD (hc e he)];decide);have c2:C.filter (fun e=>sl k e.1)=C:=List.filter_eq_self.2 hc;unfold upd;simp only[List.filter_append];rw[a1,a2,c1,c2];simp
def mk (e:En):Mk:=(e.1,some e.2)
theorem sD(k:ByteArray)(v:Vl):∀ (ks:List ByteArray) (vs:List Vl),Up ks->vs.length=ks.length->∃ l1 m0 l3:List En,ks.zip vs=l1++m0++l3/\(∀ e∈l1,sl e.1 k=true)/\(∀ e∈l3,sl k e.1=true) /\
  ((gG k ks=true/\m0=[(k,jG ks vs k)])\/(gG k ks=false/\m0=[]))/\(iA ks k).zip (jr ks vs k v)=l1++(k,v) :: l3/\(nW ks k).zip (pU ks vs k)=l1++l3
 | [],vs,_,h=>by
  obtain rfl:vs=[]:=List.eq_nil_of_length_eq_zero (by simpa using h);refine⟨[],[],[],rfl,by simp,by simp,.inr ⟨rfl,rfl⟩,?_,?_⟩ <;> simp[iA,jr,nW,pU,gG,bP,ins]
 | k0 :: ks,[],_,h=>by simp at h
 | k0 :: ks,v0 :: vs,hu,h=>by
  have hu':=List.pairwise_cons.1 hu;by_cases hs:sl k0 k=true
  ·obtain⟨l1,m0,l3,e,h1,h3,h4,h5,h6⟩:=sD k v ks vs hu'.2 (by simpa using h)
   have ef:bP k (k0 :: ks)=bP k ks+1:=by simp[bP,hs]
   have ei:gG k (k0 :: ks)=gG k ks:=by simp[gG,ef]
   have eo:jG (k0 :: ks) (v0 :: vs) k=jG ks vs k:=by simp[jG,ei,ef]
   refine⟨(k0,v0) :: l1,m0,l3,by simp[e],?_,h3,?_,?_,?_⟩
   ·intro x hx
    rcases aaW.1 hx with rfl | hx
    ·exact hs
    ·exact h1 x hx
   ·rw[ei,eo];exact h4
   ·have:(iA (k0 :: ks) k).zip (jr (k0 :: ks) (v0 :: vs) k v)=(k0,v0) :: (iA ks k).zip (jr ks vs k v):=by
     unfold iA jr;rw[ei,ef];split <;> simp[ins]
    rw[this,h5];rfl
   ·have:(nW (k0 :: ks) k).zip (pU (k0 :: ks) (v0 :: vs) k)=(k0,v0) :: (nW ks k).zip (pU ks vs k):=by
     unfold nW pU;rw[ei,ef];split <;> simp[del]
    rw[this,h6];rfl
  ·have hs':sl k0 k=false:=by simpa using hs
   have ef:bP k (k0 :: ks)=0:=by simp[bP,hs']
   by_cases he:k0=k
   ·subst he
    have ei:gG k0 (k0 :: ks)=true:=by simp[gG,ef]
    refine⟨[],[(k0,v0)],ks.zip vs,by simp,by simp,?_,.inl ⟨ei,by simp[jG,ei,ef]⟩,?_,?_⟩
    ·intro x hx
     exact hu'.1 x.1 (List.of_mem_zip hx).1
    ·simp[iA,jr,ei,ef]
    ·simp[nW,pU,ei,ef,del]
   ·have ei:gG k (k0 :: ks)=false:=by simp[gG,ef,he]
    have hlt:sl k k0=true:=lZ hs' he;refine⟨[],[],(k0,v0) :: ks.zip vs,by simp,by simp,?_,.inr ⟨ei,rfl⟩,?_,?_⟩
    ·intro x hx
     rcases aaW.1 hx with rfl | hx
     ·exact hlt
     ·exact jY hlt (hu'.1 x.1 (List.of_mem_zip hx).1)
    ·simp[iA,jr,ei,ef,ins]
    ·simp[nW,pU,ei]
theorem Af{l1 m0 l3:List En}(h1:∀ e∈l1,sl e.1 k=true)(h3:∀ e∈l3,sl k e.1=true)(h4:∀ e∈m0,e.1=k):upd k mid (l1++m0++l3)=l1++(mid++l3):=by
 rw[II h1 h3];have:upd k mid m0=mid:=by
  unfold upd;rw[List.filter_eq_nil_iff.2 (fun e he=>by rw[h4 e he,dY];decide),List.filter_eq_nil_iff.2 (fun e he=>by rw[h4 e he,dY];decide)];simp
 rw[this,aap]
def Ah (k:ByteArray) (A:List Mk):Prop:=∀ a∈A,∀ v,R a (k,some v)
def Be (k:ByteArray) (C:List Mk):Prop:=∀ c∈C,sl k c.1=true
theorem Ah.bN{A:List Mk}(h:Ah k A):∀ e∈bN A,sl e.1 k=true:=fun e he=>RO.1 (h _ (wS he) e.2)
theorem Be.bN{A:List Mk}(h:Be k A):∀ e∈bN A,sl k e.1=true:=fun _ he=>h _ (wS he)
variable {ks:List ByteArray}{vs:List Vl}
theorem RP{A C:List Mk}(hu:Up ks)(hl:vs.length=ks.length)(ha:Ah k A)(hc:Be k C)(h:(A++(ks.zip vs).map mk++C).Pairwise R) :
  (A++((iA ks k).zip (jr ks vs k v)).map mk++C).Pairwise R/\(A++((nW ks k).zip (pU ks vs k)).map mk++C).Pairwise R /\
  (iA ks k).zip (jr ks vs k v)=upd k [(k,v)] (ks.zip vs)/\(nW ks k).zip (pU ks vs k)=upd k [] (ks.zip vs):=by
 obtain⟨l1,m0,l3,e,h1,h3,h4,h5,h6⟩:=sD k v ks vs hu hl;have hm:∀ x∈m0,x.1=k:=by
  rcases h4 with⟨_,rfl⟩|⟨_,rfl⟩
  ·intro x hx;simp at hx;rw[hx]
  ·simp
 rw[e,h5,h6,Af h1 h3 hm,Af h1 h3 hm];rw[e]at h;have hd:(A++(l1++l3).map mk++C).Pairwise R:=h.sublist (by
  refine List.Sublist.append (List.Sublist.append (List.Sublist.refl A) (List.Sublist.map mk ?_)) (List.Sublist.refl C)
  exact List.Sublist.append (aaC l1 m0) (List.Sublist.refl l3))
 refine⟨?_,hd,by simp,by simp⟩;have e1:A++(l1++(k,v) :: l3).map mk++C=(A++l1.map mk)++(k,some v) :: (l3.map mk++C):=by simp[mk]
 rw[e1];have e2:A++(l1++l3).map mk++C=(A++l1.map mk)++(l3.map mk++C):=by simp
 rw[e2]at hd;refine NS hd (fun a hx=>?_) (fun b hx=>?_)
 ·rcases aav.1 hx with hx | hx
  ·exact ha a hx v
  ·obtain⟨y,hy,rfl⟩:=List.mem_map.1 hx;exact RO.2 (h1 y hy)
 ·rw[RO]
  rcases aav.1 hx with hx | hx
  ·obtain⟨y,hy,rfl⟩:=List.mem_map.1 hx;exact h3 y hy
  ·exact hc b hx
def nI (x:Nd) (k:ByteArray):Nat:=bP k x.ks+(if gG k x.ks=true then 1 else 0)
theorem FL(x:Nd)(k:ByteArray):nI x k<=x.ks.length:=by
 unfold nI;have:=kN k x.ks;split
 ·rename_i h;have:=yA h;omega
 ·omega
variable {x:Nd}
theorem KJ(k:ByteArray):∀ a∈x.ks.take (nI x k),sl k a=false:=by
 intro a ha;obtain⟨j,hj,e⟩:=List.getElem_of_mem ha;rw[aam]at hj;have e2:x.ks[j]? = some a:=by rw[<- e,List.getElem_take];exact aae (by omega)
 by_cases h:j<bP k x.ks
 ·exact jD (ry k x.ks j a h e2)
 ·have hp:nI x k=bP k x.ks+(if gG k x.ks=true then 1 else 0):=rfl
  by_cases hi:gG k x.ks=true
  ·rw[aao hi]at hp
   obtain rfl:j=bP k x.ks:=by omega
   rw[BC hi]at e2;obtain rfl:=aaq e2;exact dY _
  ·rw[aai hi]at hp;omega
theorem Ag(hu:Up x.ks)(k:ByteArray):∀ a∈x.ks.drop (nI x k),sl k a=true:=by
 intro a ha;obtain⟨j,hj,e⟩:=List.getElem_of_mem ha;rw[aaw]at hj;rw[List.getElem_drop]at e;have hlt:=kN k x.ks;have e2:x.ks[nI x k+j]? = some a:=by rw[<- e];exact aae (by omega)
 have hp:nI x k=bP k x.ks+(if gG k x.ks=true then 1 else 0):=rfl;have hfl:bP k x.ks<x.ks.length:=by omega
 have ef:x.ks[bP k x.ks]? = some x.ks[bP k x.ks]:=aae hfl;have hge:=BA k x.ks _ ef;by_cases hi:gG k x.ks=true
 ·rw[aao hi]at hp
  rw[BC hi]at ef;have hk:=aaq ef;have:=(List.pairwise_iff_getElem.1 hu) (bP k x.ks) (nI x k+j) hfl (by omega) (by omega);rw[<- hk,e]at this;exact this
 ·rw[aai hi]at hp
  have hne:x.ks[bP k x.ks]≠k:=by
   intro q;rw[q]at ef;exact hi (by simp[gG,ef])
  have hk0:=lZ hge hne;by_cases hj0:j=0
  ·subst hj0
   have e3:x.ks[bP k x.ks]=a:=by
    have:nI x k+0=bP k x.ks:=by omega
    rw[this,ef]at e2;exact aaq e2
   rw[<- e3];exact hk0
  ·have:=(List.pairwise_iff_getElem.1 hu) (bP k x.ks) (nI x k+j) hfl (by omega) (by omega)
   rw[e]at this;exact jY hk0 this
theorem Vq(f:Nat->List Mk){k:ByteArray}:∀ (L:List Int) (KL:List ByteArray),KL.length=L.length->(∀ a∈KL,sl k a=false)->(pre f L KL).Pairwise R->Ah k (pre f L KL):=by
 intro L KL hl hk hp;rcases List.eq_nil_or_concat KL with rfl | ⟨K0,kl,rfl⟩
 ·obtain rfl:L=[]:=List.eq_nil_of_length_eq_zero (by simpa using hl.symm)
  intro a ha;simp[pre]at ha
 ·rcases List.eq_nil_or_concat L with rfl | ⟨L0,l,rfl⟩
  ·simp at hl
  ·have e:pre f (L0.concat l) (K0.concat kl)=(pre f L0 K0++f l.toNat)++[(kl,none)]:=by
    rw[List.concat_eq_append,List.concat_eq_append,yH f _ _ _ _ (by simp at hl;omega),IG];simp
   rw[e]at hp ⊢
   rw[List.pairwise_append]at hp
   have hkl:=hk kl (by simp)
   intro a ha v
   rcases aav.1 ha with ha | ha
   ·have:=hp.2.2 a ha (kl,none) (by simp)
    exact Xi (TY (BJ.1 this) hkl)
   ·simp at ha;subst ha;exact NR.2 hkl
theorem RQ(f:Nat->List Mk){k:ByteArray}:∀ (Rr:List Int) (KR:List ByteArray),KR.length=Rr.length->(∀ a∈KR,sl k a=true)->(post f KR Rr).Pairwise R->Be k (post f KR Rr)
 | [],[],_,_,_=>by intro c hc;simp[post]at hc
 | [],_ :: _,h,_,_=>by simp at h
 | _ :: _,[],h,_,_=>by simp at h
 | r :: Rr,kr :: KR,h,hk,hp=>by
  have e:post f (kr :: KR) (r :: Rr)=(kr,none) :: (f r.toNat++post f KR Rr):=by simp[post]
  rw[e]at hp ⊢;have h0:=hk kr (by simp);intro c hc;rcases aaW.1 hc with rfl | hc
  ·exact h0
  ·have:=(List.pairwise_cons.1 hp).1 c hc
   obtain⟨c1,c2⟩:=c;cases c2 with
   | none=>exact jY h0 (ZF.1 this)
   | some v=>exact TY h0 (NR.1 this)
theorem Ah.append{A B:List Mk}(h:Ah k A)(g:Ah k B):Ah k (A++B):=fun a ha=>(aav.1 ha).elim (h a) (g a)
theorem Be.append{A B:List Mk}(h:Be k A)(g:Be k B):Be k (A++B):=fun a ha=>(aav.1 ha).elim (h a) (g a)
theorem RU(hl:vs.length=ks.length)(h:((ks.zip vs).map mk).Pairwise R):Up ks:=by
 unfold Up;rw[List.pairwise_map]at h;have e:ks=(ks.zip vs).map Prod.fst:=by rw[List.map_fst_zip (by omega)]
 rw[e,List.pairwise_map];exact h.imp (fun {a b} hab=>RO.1 hab)
theorem Dz(f:Nat->List Mk):∀ (K:List ByteArray) (C:List Int),K.length=C.length->List.Sublist (K.map fun k=>((k,none):Mk)) (post f K C)
 | [],_,_=>by simp
 | k :: K,[],h=>by simp at h
 | k :: K,c :: C,h=>by
  have e:post f (k :: K) (c :: C)=(k,none) :: (f c.toNat++post f K C):=by simp[post]
  rw[e];exact List.Sublist.cons_cons _ ((Dz f K C (by simpa using h)).trans (aaH _ _))
theorem NT{f:Nat->List Mk}{is:List Int}(hl:is.length=ks.length+1)(h:(kF f is ks).Pairwise R):Up ks:=by
 obtain⟨c,r,rfl⟩:∃ c r,is=c :: r:=by cases is with | nil=>simp at hl | cons c r=>exact⟨c,r,rfl⟩
 have hs:=(Dz f ks r (by simpa using hl.symm)).trans (aaH (f c.toNat) _);have:=h.sublist hs;rw[List.pairwise_map]at this;exact this.imp (fun {a b} hab=>ZF.1 hab)
variable {M:Pm}{d:Nat}
theorem wG(hw:jC M d x)(h:(iB M d x).Pairwise R):Up x.ks:=by
 cases d with
 | zero=>exact RU (hw.2.lv hw.1).1 h
 | succ d=>exact NT (f:=fm M d) (hw.2.1.li hw.1).1 h
variable {n:Nat}
theorem BK(h:n<=120):(ae n).length=1:=by rw[aK (by omega)];rfl
theorem jE(g:N.Good x)(hl:x.leaf=true):x.put.length=1+dB x.ks+fo x.vs:=by
 rw[jB,NL hl (g.lv hl).1 _ (aac _),List.take_length];have e:x.vs.take x.ks.length=x.vs:=by rw[<- (g.lv hl).1,List.take_length]
 rw[e];unfold Nd.head;rw[aao hl,aah,BK g.few];simp;omega
theorem jQ(g:N.Good x)(hl:x.leaf=false):x.put.length=1+dB x.ks+kP x.is:=by
 have hi:=(g.li hl).1;rw[jB,KE hl hi _ (aac _),List.take_length];obtain⟨c,r,e⟩:∃ c r,x.is=c :: r:=by cases h:x.is with | nil=>rw[h]at hi;simp at hi | cons c r=>exact⟨c,r,rfl⟩
 rw[e]at hi;have e1:((x.is.drop 1).take x.ks.length)=r:=by rw[e];simp at hi;simp[<- hi]
 rw[e1,e];unfold Nd.head;rw[aai (by rw[hl];decide),aah,BK g.few,e];simp[kP];omega
theorem IJ(k:ByteArray):1+k.size<=(dW k).length:=by
 unfold dW;rw[aah,dL];have:=pG k.size;omega
theorem FM(h:k.size=0):k=⟨#[]⟩:=by
 obtain⟨a⟩:=k;have:a.size=0:=h;rw[Array.eq_empty_of_size_eq_zero this]
theorem Vr{a:ByteArray}(h:sl a b=true):1<=b.size:=by
 rcases Nat.eq_zero_or_pos b.size with e | e
 ·rw[FM e]at h
  unfold sl at h;have:(⟨#[]⟩:ByteArray).toList=[]:=by rw[toList_eq]
  rw[this]at h;cases a.toList <;> simp[Op.bytesLess]at h
 ·exact e
theorem DC:∀ (ks:List ByteArray),(∀ k∈ks,1<=k.size)->2*ks.length<=dB ks
 | [],_=>by simp[dB]
 | k :: r,h=>by
  have ih:=DC r (fun q hq=>h q (List.mem_cons_of_mem _ hq));have h0:=h k List.mem_cons_self;have h1:=IJ k;have e:dB (k :: r)=(dW k).length+dB r:=by simp[dB]
  rw[e,aau];omega
theorem RX(h:Up ks):2*ks.length<=dB ks+1:=by
 cases ks with
 | nil=>simp
 | cons k r=>
  have:=DC r (fun q hq=>Vr ((List.pairwise_cons.1 h).1 q hq));have h1:=IJ k;have e:dB (k :: r)=(dW k).length+dB r:=by simp[dB]
  rw[e,aau];omega
theorem DF:∀ (is:List Int),is.length<=kP is
 | []=>by simp
 | k :: r=>by
  have ih:=DF r;have h1:=pG k.toNat;have e:kP (k :: r)=(ae k.toNat).length+kP r:=by simp[kP]
  rw[e,aau];omega
theorem DI:∀ (vs:List Vl),2*vs.length<=fo vs
 | []=>by simp
 | v :: r=>by
  have ih:=DI r;have h1:2<=(ll v).length:=by
   unfold ll;split
   ·rw[aah,aah]
    have:=pG 0;have:=pG v.d.size;omega
   ·rw[aah,aah]
    have:=pG 1;have:=pG v.p.toNat;omega
  have e:fo (v :: r)=(ll v).length+fo r:=by simp[fo]
  rw[e,aau];omega
theorem vH(g:N.Good x)(hu:Up x.ks):3*x.ks.length<=x.put.length:=by
 have h1:=RX hu;cases hl:x.leaf with
 | true=>
  have h2:=DI x.vs;rw[(g.lv hl).1]at h2;rw[jE g hl];omega
 | false=>
  have h2:=DF x.is;rw[(g.li hl).1]at h2;rw[jQ g hl];omega
theorem IK(is:List Int)(h:∀ i∈is,∃ q:Nat,i=(q:Int)/\q<=16383):kP is<=3*is.length:=by
 induction is with
 | nil=>simp[kP]
 | cons a r ih=>
  obtain⟨q,rfl,hq⟩:=h a List.mem_cons_self;have h1:=aP q (by omega);have h2:=ih (fun i hi=>h i (List.mem_cons_of_mem _ hi));have e:kP ((q:Int) :: r)=(ae q).length+kP r:=by simp[kP]
  rw[e,aau];omega
theorem wT(ks:List ByteArray)(h:∀ k∈ks,k.size<=64):dB ks<=65*ks.length:=by
 induction ks with
 | nil=>simp[dB]
 | cons a r ih=>
  have h1:=dK a (h a List.mem_cons_self);have h2:=ih (fun i hi=>h i (List.mem_cons_of_mem _ hi));have e:dB (a :: r)=(dW a).length+dB r:=by simp[dB]
  rw[e,aau];omega
def jn (a:Nd) (k:ByteArray) (b:Nd):Nd:=if a.leaf=true then ⟨true,a.ks++b.ks,a.vs++b.vs,[]⟩ else ⟨false,a.ks++([k]++b.ks),[],a.is++b.is⟩
variable {a:Nd}
theorem jV(h:a.leaf=true)(k:ByteArray)(b:Nd):jn a k b=⟨true,a.ks++b.ks,a.vs++b.vs,[]⟩:=by unfold jn;rw[aao h]
theorem fE(h:a.leaf=false)(k:ByteArray)(b:Nd):jn a k b=⟨false,a.ks++([k]++b.ks),[],a.is++b.is⟩:=by unfold jn;rw[aai (by rw[h];decide)]
variable {b:Nd}
theorem IL(ga:N.Good a)(gb:N.Good b)(hl:b.leaf=a.leaf)(hk:k.size<=64)(hn:a.ks.length+b.ks.length+1<=120):N.Good (jn a k b):=by
 cases h:a.leaf with
 | true=>
  rw[jV h];have h2:b.leaf=true:=hl.trans h;refine⟨by show (a.ks++b.ks).length<=120;rw[aah];omega,fun q hq=>(aav.1 hq).elim (ga.small q) (gb.small q),fun _=>⟨?_,rfl⟩,(fun e=>by cases e),fun q hq=>(aav.1 hq).elim (ga.ok q) (gb.ok q),(fun i hi=>by cases hi)⟩;show (a.vs++b.vs).length=(a.ks++b.ks).length;rw[aah,aah,(ga.lv h).1,(gb.lv h2).1]
 | false=>
  rw[fE h];have h2:b.leaf=false:=hl.trans h;refine⟨by show (a.ks++([k]++b.ks)).length<=120;simp;omega,?_,(fun e=>by cases e),fun _=>⟨?_,rfl⟩,(fun v hv=>by cases hv),fun q hq=>(aav.1 hq).elim (ga.ik q) (gb.ik q)⟩
  ·intro q hq
   rcases aav.1 hq with hq | hq
   ·exact ga.small q hq
   ·rcases aav.1 hq with hq | hq
    ·simp at hq;rw[hq];exact hk
    ·exact gb.small q hq
  ·show (a.is++b.is).length=(a.ks++([k]++b.ks)).length+1
   rw[aah,(ga.li h).1,(gb.li h2).1];simp;omega
theorem NU(ga:N.Good a)(gb:N.Good b)(hl:b.leaf=a.leaf)(hk:k.size<=64)(hn:a.ks.length+b.ks.length+1<=120) :
  (jn a k b).put.length+1<=a.put.length+b.put.length+(if a.leaf=true then 0 else 65):=by
 have g:=IL ga gb hl hk hn;cases h:a.leaf with
 | true=>
  have h2:b.leaf=true:=hl.trans h;rw[jE g (by rw[jV h]),jE ga h,jE gb h2,jV h];show 1+dB (a.ks++b.ks)+fo (a.vs++b.vs)+1<=_;rw[dP,kE,aao rfl];omega
 | false=>
  have h2:b.leaf=false:=hl.trans h;rw[jQ g (by rw[fE h]),jQ ga h,jQ gb h2,fE h];show 1+dB (a.ks++([k]++b.ks))+kP (a.is++b.is)+1<=_;have:=dK k hk;rw[dP,dP,om,uI,aai (by decide)];omega
theorem RY(g:N.Good x)(h:x.leaf=false){m:Nat}{key:ByteArray}(hk:x.ks[m]? = some key):jn (x.fst m) key (x.snd m)=x:=by
 rw[fE (by rw[gY h])];exact FK g h hk
theorem BL(g:N.Good x)(h:x.leaf=true)(m:Nat)(key:ByteArray):jn (x.fst m) key (x.snd m)=x:=by
 rw[jV (by rw[kD h])];exact Ky g h m
variable {m:Nat}
theorem KM(g:N.Good x)(hl:x.leaf=false)(h:237<x.put.length)(hm:Mid x 0 m):m+1<x.ks.length:=by
 have hn:=nZ g h;rcases Nat.lt_or_ge (m+1) x.ks.length with q | q
 ·exact q
 ·have hlt:=hm.lt
  have e:m=x.ks.length-1:=by omega
  have hb:=hm.before (x.ks.length-2) (aag _) (by omega);rw[jB]at h;have hh:=ky g;obtain⟨n,hn2⟩:∃ n,x.ks.length=n+2:=⟨x.ks.length-2,by omega⟩;have t1:=x.bA (n+1);have t2:=x.bA n;have s1:=yF g hl (i:=n+1) (by omega);have s2:=yF g hl (i:=n) (by omega);have p2:=FJ x n;rw[e,Nd.jA hl,Nd.jA hl,hn2]at hb;rw[hn2]at h;simp only[show n+2-1=n+1 by omega,show n+2-2=n by omega,show n+1+1=n+2 by omega]at hb t1;omega
theorem wM(g:N.Good x)(hl:x.leaf=false){m:Nat}(hm:Mid x 0 m)(hT:x.tot x.ks.length<=400):(x.fst m).put.length<=237/\(x.snd m).put.length<=237:=by
 have hgr:x.gr m<=200:=by
  by_cases hs:x.tot x.ks.length<=200
  ·have:=x.TV (i:=m) (aa3 hm.lt)
   omega
  ·have bP:∀ k,200<x.tot k->∃ j,j<k/\x.tot j<=200/\200<x.tot (j+1):=by
    intro k;induction k with
    | zero=>intro h;rw[Nd.kC]at h;omega
    | succ k ih=>
     intro h;by_cases h2:200<x.tot k
     ·obtain⟨j,a,b⟩:=ih h2
      exact⟨j,by omega,b⟩
     ·exact⟨k,by omega,by omega,h⟩
   obtain⟨j,h1,h2,h3⟩:=bP x.ks.length (by omega);have h8:=hm.all h1;rw[Nd.jA hl j]at h8;omega
 have ga:=uG g hm.lt;have gb:=uH g hm.lt;have ha:=oh ga;have hb:=oh gb;rw[jB,jB];have la:(x.fst m).ks.length=m:=by rw[gY hl];show (x.ks.take m).length=m;rw[aam];have:=hm.lt;omega
 have lb:(x.snd m).ks.length=x.ks.length-(m+1):=by rw[iR hl];exact aaw
 have t1:=BH (x:=x) m m (aac _);have t2:=rM hl m (x.ks.length-(m+1));rw[show m+1+(x.ks.length-(m+1))=x.ks.length by have:=hm.lt;omega]at t2;rw[Nd.jA hl]at hgr;rw[la,lb];omega
def RZ (y:Nd) (ps:List Nd) (ks:List ByteArray):Prop:=
 (y.put.length<=237/\ps=[y]/\ks=[])\/(237<y.put.length/\∃ m key,y.ks[m]? = some key/\Mid y 0 m/\ps=[y.fst m,y.snd m]/\ks=[key])
variable {y:Nd}
theorem NW(g:N.Good y)(h:237<y.put.length)(hm:Mid y 0 m)(hb:y.put.length<=(if y.leaf=true then 352 else 380)) :
  N.Good (y.fst m)/\N.Good (y.snd m)/\(y.fst m).ks≠[]/\(y.snd m).ks≠[]/\(y.fst m).put.length<=237/\(y.snd m).put.length<=237/\(y.fst m).leaf=y.leaf/\(y.snd m).leaf=y.leaf:=by
 have hu:=(hm.up g h).lo;have hlt:=hm.lt;have hpos:1<=y.head.length:=by
  unfold Nd.head;rw[aah,BK g.few];omega
 rw[jB]at hb;cases hl:y.leaf with
 | true=>
  rw[aao hl]at hb;obtain⟨f1,f2⟩:=Kz g hm (by omega);refine⟨uG g hlt,uH g hlt,?_,?_,f1,f2,by rw[kD hl],by rw[mi hl]⟩
  ·rw[kD hl]
   intro e;have:=congrArg List.length e;simp only[aam,aaQ]at this;omega
  ·rw[mi hl]
   intro e;have:=congrArg List.length e;simp only[aaw,aaQ]at this;omega
 | false=>
  rw[aai (by rw[hl];decide)]at hb;have hr:=KM g hl h hm;obtain⟨f1,f2⟩:=wM g hl hm (by omega);refine⟨uG g hlt,uH g hlt,?_,?_,f1,f2,by rw[gY hl],by rw[iR hl]⟩
  ·rw[gY hl]
   intro e;have:=congrArg List.length e;simp only[aam,aaQ]at this;omega
  ·rw[iR hl]
   intro e;have:=congrArg List.length e;simp only[aaw,aaQ]at this;omega
def Ai (x:Nd) (i j:Nat) (P:List Int) (K:List ByteArray):Nd:=⟨false,x.ks.take i++K++x.ks.drop j,[],x.is.take i++P++x.is.drop (j+1)⟩
variable {i j:Nat}
theorem NY{P:List Int}{K:List ByteArray}(g:N.Good x)(hl:x.leaf=false)(hij:i<=j)(hj:j<=x.ks.length)(hp:P.length=K.length+1)(hk:K.length<=1)(hn:x.ks.length<=110)(h1:∀ p∈P,∃ q:Nat,p=(q:Int)/\q<=16383)(h2:∀ k∈K,k.size<=64) :
  N.Good (Ai x i j P K)/\(Ai x i j P K).put.length<=x.put.length+71:=by
 have hi:=(g.li hl).1;have gg:N.Good (Ai x i j P K):=by
  refine⟨?_,?_,(fun e=>by cases e),fun _=>⟨?_,rfl⟩,(fun v hv=>by cases hv),?_⟩
  ·show (x.ks.take i++K++x.ks.drop j).length<=120
   simp only[aah,aam,aaw];omega
  ·intro k hk
   rcases aav.1 hk with hk | hk
   ·rcases aav.1 hk with hk | hk
    ·exact g.small k (aaJ hk)
    ·exact h2 k hk
   ·exact g.small k (aaA hk)
  ·show (x.is.take i++P++x.is.drop (j+1)).length=(x.ks.take i++K++x.ks.drop j).length+1
   simp only[aah,aam,aaw];omega
  ·intro k hk
   rcases aav.1 hk with hk | hk
   ·rcases aav.1 hk with hk | hk
    ·exact g.ik k (aaJ hk)
    ·exact h1 k hk
   ·exact g.ik k (aaA hk)
 refine⟨gg,?_⟩;rw[jQ gg rfl,jQ g hl];show 1+dB (x.ks.take i++K++x.ks.drop j)+kP (x.is.take i++P++x.is.drop (j+1))<=_;have a1:=wT K h2;have a2:=IK P h1;have b1:dB (x.ks.take i)+dB (x.ks.drop j)<=dB x.ks:=by
  have e:x.ks=x.ks.take i++((x.ks.drop i).take (j-i)++x.ks.drop j):=by
   have e1:x.ks.drop j=(x.ks.drop i).drop (j-i):=by rw[List.drop_drop];congr 1;omega
   rw[e1,aax,aax]
  have:=congrArg dB e;rw[dP,dP]at this;omega
 have b2:kP (x.is.take i)+kP (x.is.drop (j+1))<=kP x.is:=by
  have e:x.is=x.is.take i++((x.is.drop i).take (j+1-i)++x.is.drop (j+1)):=by
   have e1:x.is.drop (j+1)=(x.is.drop i).drop (j+1-i):=by rw[List.drop_drop];congr 1;omega
   rw[e1,aax,aax]
  have:=congrArg kP e;rw[om,om]at this;omega
 rw[dP,dP,om,om];omega
theorem TZ(wa:jC M d a)(wb:jC M d b)(hk:k.size<=64)(hn:a.ks.length+b.ks.length+1<=120):jC M d (jn a k b):=by
 have hl:b.leaf=a.leaf:=by rw[wa.leaf,wb.leaf]
 have g:=IL wa.good wb.good hl hk hn;cases d with
 | zero=>exact⟨by rw[jV wa.1],g⟩
 | succ d=>
  refine⟨by rw[fE wa.1],g,?_⟩;rw[fE wa.1];intro c hc;rcases aav.1 hc with hc | hc
  ·exact wa.2.2 c hc
  ·exact wb.2.2 c hc
theorem DJ(wa:jC M d a)(wb:jC M d b):iB M d (jn a k b)=iB M d a++((if d=0 then [] else [(k,none)])++iB M d b):=by
 cases d with
 | zero=>
  rw[jV wa.1,dH,dH,dH];unfold iT;show ((a.ks++b.ks).zip (a.vs++b.vs)).map _=_;rw[List.zip_append ((wa.2.lv wa.1).1).symm];simp
 | succ d=>
  rw[fE wa.1,gZ,gZ,gZ];unfold TW;show kF (fm M d) (a.is++b.is) (a.ks++([k]++b.ks))=_;rw[KH _ _ _ _ _ _ (wa.2.1.li wa.1).1.symm (wb.2.1.li wb.1).1.symm];simp
theorem Oa(wa:jC M d a):mq M d (jn a k b)=mq M d a++mq M d b:=by
 cases d with
 | zero=>rfl
 | succ d=>rw[fE wa.1,fI,fI,fI];exact List.flatMap_append
theorem sF(w:jC M d y)(h:237<y.put.length)(hm:Mid y 0 m)(hb:y.put.length<=(if d=0 then 352 else 380)) :
  jC M d (y.fst m)/\jC M d (y.snd m)/\(y.fst m).ks≠[]/\(y.snd m).ks≠[]/\(y.fst m).put.length<=237/\(y.snd m).put.length<=237:=by
 have hl:=w.leaf;obtain⟨g1,g2,n1,n2,f1,f2,l1,l2⟩:=NW w.good h hm (by rw[hl];simpa using hb);refine⟨?_,?_,n1,n2,f1,f2⟩
 ·cases d with
  | zero=>exact⟨l1.trans w.1,g1⟩
  | succ d=>
   refine⟨l1.trans w.1,g1,?_⟩;rw[gY w.1];exact fun c hc=>w.2.2 c (aaJ hc)
 ·cases d with
  | zero=>exact⟨l2.trans w.1,g2⟩
  | succ d=>
   refine⟨l2.trans w.1,g2,?_⟩;rw[iR w.1];exact fun c hc=>w.2.2 c (aaA hc)
theorem DK(w:jC M d y){m:Nat}{key:ByteArray}(hk:y.ks[m]? = some key):jn (y.fst m) key (y.snd m)=y:=by
 cases d with
 | zero=>exact BL w.2 w.1 m key
 | succ d=>exact RY w.2.1 w.1 hk
variable {key:ByteArray}
theorem IM{A C:List Mk}(w:jC M d y)(h:237<y.put.length)(hm:Mid y 0 m)(hb:y.put.length<=(if d=0 then 352 else 380))(hk:y.ks[m]? = some key)(ho:(A++iB M d y++C).Pairwise R) :
  (A++(iB M d (y.fst m)++(key,none) :: iB M d (y.snd m))++C).Pairwise R/\bN (iB M d (y.fst m)++(key,none) :: iB M d (y.snd m))=bN (iB M d y)/\mq M d y=mq M d (y.fst m)++mq M d (y.snd m):=by
 obtain⟨w1,w2,n1,n2,_,_⟩:=sF w h hm hb;have e:=DJ (k:=key) w1 w2;rw[DK w hk]at e;have ep:=Oa (k:=key) (b:=y.snd m) w1;rw[DK w hk]at ep;rw[e]at ho ⊢;refine⟨?_,by cases d <;> simp[bR,uL],ep⟩;cases d with
 | succ d=>simpa using ho
 | zero=>
  simp only[if_true,List.nil_append]at ho;have hlt:=hm.lt;have hl:=w.1;have lv:=(w.2.lv hl).1;rw[dH,dH]at ho ⊢;rw[kD hl]at n1 ho ⊢;rw[mi hl]at n2 ho ⊢;obtain⟨u,hu⟩:∃ u,y.vs[m]? = some u:=⟨_,aae (by omega)⟩;have d1:y.ks.drop m=key :: y.ks.drop (m+1):=by
   have:=List.drop_eq_getElem_cons hlt;rw[this];congr 1;rw[aae hlt]at hk;exact aaq hk
  have d2:y.vs.drop m=u :: y.vs.drop (m+1):=by
   have:=List.drop_eq_getElem_cons (l:=y.vs) (i:=m) (by omega);rw[this];congr 1;rw[aae (by omega)]at hu;exact aaq hu
  have hr:iT ⟨true,y.ks.drop m,y.vs.drop m,[]⟩=(key,some u) :: iT ⟨true,y.ks.drop (m+1),y.vs.drop (m+1),[]⟩:=by
   unfold iT;rw[d1,d2];simp
  have hne:iT ⟨true,y.ks.take m,y.vs.take m,[]⟩≠[]:=by
   intro q;have:=congrArg List.length q;unfold iT at this;simp only[List.length_map,List.length_zip,aam,aaQ]at this;have n1':0<m:=by
    rcases Nat.eq_zero_or_pos m with z | z
    ·subst z;simp at n1
    ·exact z
   omega
  rcases List.eq_nil_or_concat (iT ⟨true,y.ks.take m,y.vs.take m,[]⟩) with q | ⟨l0,z,hz⟩
  ·exact absurd q hne
  ·have YE:∃ a v,z=(a,some v):=by
    have:z∈iT ⟨true,y.ks.take m,y.vs.take m,[]⟩:=by rw[hz];simp
    unfold iT at this;obtain⟨p,_,rfl⟩:=List.mem_map.1 this;exact⟨_,_,rfl⟩
   obtain⟨a,v,rfl⟩:=YE
   rw[hr,hz,List.concat_eq_append]at ho ⊢
   have e1:A++(l0++[(a,some v)]++(key,some u) :: iT ⟨true,y.ks.drop (m+1),y.vs.drop (m+1),[]⟩)++C=(A++l0)++(a,some v) :: (key,some u) :: (iT ⟨true,y.ks.drop (m+1),y.vs.drop (m+1),[]⟩++C):=by simp
   have e2:A++(l0++[(a,some v)]++(key,none) :: (key,some u) :: iT ⟨true,y.ks.drop (m+1),y.vs.drop (m+1),[]⟩)++C=(A++l0)++(a,some v) :: (key,none) :: (key,some u) :: (iT ⟨true,y.ks.drop (m+1),y.vs.drop (m+1),[]⟩++C):=by simp
   rw[e1]at ho
   rw[e2]
   exact Vp ho
def Ext (M M':Pm):Prop:=∀ q z,M q=some z->M' q=some z
theorem Ext.refl(M:Pm):Ext M M:=fun _ _ h=>h
variable {M':Pm}
theorem Ext.trans{M'':Pm}(h:Ext M M')(k:Ext M' M''):Ext M M'':=fun q z e=>k q z (h q z e)
theorem DL{M:Pm}:∀ (d:Nat) (x:Nd),jC M d x->∀ q∈mq M d x,∃ z,M q=some z
 | 0,_,_,q,h=>by simp[mq]at h
 | d+1,x,w,q,h=>by
  rw[fI]at h;obtain⟨c,hc,hq⟩:=List.mem_flatMap.1 h;obtain⟨y,hy,_,_,wy⟩:=w.2.2 c hc;rw[aZ hy]at hq;rcases aaW.1 hq with rfl | hq
  ·exact⟨y,hy⟩
  ·exact DL d y wy q hq
theorem jF(h:Ext M M'){d:Nat}{x:Nd}(w:jC M d x):mq M' d x=mq M d x/\iB M' d x=iB M d x/\jC M' d x:=by
 obtain⟨a,b,c⟩:=yG (M:=M) (M':=M') d x (fun q hq=>by obtain⟨z,hz⟩:=DL d x w q hq;rw[hz,h q z hz]);exact⟨a,b,c w⟩
theorem BM(h:Ext M M'){d n:Nat}(w:Wf M d n):pg M' d n=pg M d n/\fm M' d n=fm M d n/\Wf M' d n:=by
 obtain⟨y,hy,a,b,c⟩:=w;obtain⟨e1,e2,e3⟩:=jF h c;have hy':=h n y hy;exact⟨by rw[aZ hy,aZ hy',e1],by rw[aH hy,aH hy',e2],y,hy',a,b,e3⟩
def pt (M:Pm) (n:Nat) (y:Nd):Pm:=fun k=>if k=n then some y else M k
theorem pI(h:M n=none):Ext M (pt M n y):=by
 intro q z hz;unfold pt;rw[aai (by rintro rfl;rw[h]at hz;cases hz)];exact hz
theorem lu(M:Pm)(n:Nat)(y:Nd):pt M n y n=some y:=by unfold pt;rw[aao rfl]
def us (M:Pm) (q:Nat):Nat:=if (M q).isSome=true then 1 else 0
theorem wH(h:M n=none)(q:Nat):us (pt M n y) q=us M q + [n].count q:=by
 unfold us pt;by_cases e:q=n
 ·subst e;simp[h]
 ·rw[aai e];simp[Ne.symm e]
def qO (M:Pm) (d:Nat) (C:List Int):List Nat:=C.flatMap fun c=>pg M d c.toNat
theorem iO(M:Pm)(d:Nat)(A B:List Int):qO M d (A++B)=qO M d A++qO M d B:=List.flatMap_append
theorem R9:∀ (L:List Int) (K:List ByteArray),(∀ c∈L,fm M' d c.toNat=fm M d c.toNat)->pre (fm M' d) L K=pre (fm M d) L K:=by
 intro L K h;unfold pre;exact jP fun p hp=>by rw[h p.1 (List.of_mem_zip hp).1]
theorem Ob:∀ (K:List ByteArray) (L:List Int),(∀ c∈L,fm M' d c.toNat=fm M d c.toNat)->post (fm M' d) K L=post (fm M d) K L:=by
 intro K L h;unfold post;exact jP fun p hp=>by rw[h p.2 (List.of_mem_zip hp).2]
theorem IP(L:List Int)(h:∀ c∈L,pg M' d c.toNat=pg M d c.toNat):qO M' d L=qO M d L:=jP h
structure Lv (M0 M:Pm) (d p:Nat) (wp:List Nat) (now:Nd) (joined added:List Nat) (A C:List Mk) (g:List En->List En):Prop where
 ext:Ext M0 M
 used:∀ q,us M q=us M0 q+added.count q
 wf:jC M d now
 ord:(A++iB M d now++C).Pairwise R
 cn:bN (iB M d now)=g (bN (fm M0 d p))
 cnt:∀ q,(pg M0 d p).count q+added.count q=(mq M d now).count q+wp.count q+joined.count q
 size:now.put.length<=(if d=0 then 352 else 308)
structure Sg (M0 M:Pm) (d:Nat) (x:Nd) (i j:Nat) (y:Nd) (wp joined added:List Nat) (A C:List Mk) (g:List En->List En):Prop where
 ext:Ext M0 M
 used:∀ q,us M q=us M0 q+added.count q
 wf:jC M d y
 ord:(A++pre (fm M0 d) (x.is.take i) (x.ks.take i)++iB M d y++(post (fm M0 d) (x.ks.drop j) (x.is.drop (j+1))++C)).Pairwise R
 cn:bN (pre (fm M0 d) (x.is.take i) (x.ks.take i))++bN (iB M d y)++bN (post (fm M0 d) (x.ks.drop j) (x.is.drop (j+1)))=g (bN (iB M0 (d+1) x))
 cnt:∀ q,(mq M0 (d+1) x).count q+added.count q=(qO M0 d (x.is.take i)).count q+(mq M d y).count q+(qO M0 d (x.is.drop (j+1))).count q+wp.count q+joined.count q
 ij:i<=j
 jl:j<=x.ks.length
 size:y.put.length<=(if d=0 then 352 else 380)
 ne:y.ks≠[]
variable {c:Int}
theorem FN(hi:x.is[i]? = some c):x.is=x.is.take i++[c]++x.is.drop (i+1):=by
 obtain⟨h1,h2⟩:=aal.1 hi;have:=List.getElem_cons_drop h1;rw[h2]at this;rw[aap,List.singleton_append,this,aax]
theorem vI(g:N.Good x)(hl:x.leaf=false){i:Nat}{c:Int}(hi:x.is[i]? = some c):iB M (d+1) x=pre (fm M d) (x.is.take i) (x.ks.take i)++fm M d c.toNat++post (fm M d) (x.ks.drop i) (x.is.drop (i+1)):=by
 have hn:=(g.li hl).1;have hlt:=(aal.1 hi).1;have h:=uJ (fm M d) (x.is.take i) (x.ks.take i) [c] [] (x.is.drop (i+1)) (x.ks.drop i) (by rw[aam,aam];omega) rfl;rw[<- FN hi,aaM,aax,uK]at h;exact h
theorem Vs(w:jC M d y)(h:¬ y.put.length<79):y.ks≠[]:=by
 intro e;have:=oh w.good;rw[jB,e]at h;simp[Nd.kC]at h;omega
variable {p:Nat}{wp joined added:List Nat}{now:Nd}{g:List En->List En}
theorem Lv.self{M0:Pm}{A C:List Mk}(w0:jC M0 (d+1) x)(hi:x.is[i]? = some c)(hc:c.toNat=p)(h:Lv M0 M d p wp now joined added (A++pre (fm M0 d) (x.is.take i) (x.ks.take i)) (post (fm M0 d) (x.ks.drop i) (x.is.drop (i+1))++C) g)(hlow:¬ now.put.length<79)(hg:g (bN (iB M0 (d+1) x))=bN (pre (fm M0 d) (x.is.take i) (x.ks.take i))++g (bN (fm M0 d p))++bN (post (fm M0 d) (x.ks.drop i) (x.is.drop (i+1)))) :
  Sg M0 M d x i i now wp joined added A C g:=by
 have hn:=(w0.2.1.li w0.1).1;have hlt:=(aal.1 hi).1;refine⟨h.ext,h.used,h.wf,by simpa using h.ord,by rw[hg,h.cn],?_,aac _,by omega,?_,Vs h.wf hlow⟩
 ·intro q
  have:=h.cnt q;have e:mq M0 (d+1) x=qO M0 d (x.is.take i)++pg M0 d p++qO M0 d (x.is.drop (i+1)):=by
   have h0:mq M0 (d+1) x=qO M0 d x.is:=rfl;rw[h0];conv=>lhs;rw[FN hi]
   rw[iO,iO];simp[qO,hc]
  rw[e,List.count_append,List.count_append];omega
 ·have:=h.size
  split at this <;> rename_i hd <;> simp only[hd,if_true,if_false] <;> omega
variable {beside:Nd}{cb:Int}
theorem Lv.ahead{M0:Pm}{b:Nat}{A C:List Mk}(w0:jC M0 (d+1) x)(hi:x.is[i+1]? = some c)(hc:c.toNat=p)(hb:x.is[i]? = some cb)(hcb:cb.toNat=b)(hk:x.ks[i]? = some k)(hM:M0 b=some beside)(h:Lv M0 M d p wp now joined added (A++pre (fm M0 d) (x.is.take (i+1)) (x.ks.take (i+1))) (post (fm M0 d) (x.ks.drop (i+1)) (x.is.drop (i+1+1))++C) g)(hlow:now.put.length<79)(hg:g (bN (iB M0 (d+1) x))=bN (pre (fm M0 d) (x.is.take (i+1)) (x.ks.take (i+1)))++g (bN (fm M0 d p))++bN (post (fm M0 d) (x.ks.drop (i+1)) (x.is.drop (i+1+1)))) :
  Sg M0 M d x i (i+1) (B.jn beside k now) wp (b :: joined) added A C g/\jC M d beside/\M b=some beside:=by
 have hn:=(w0.2.1.li w0.1).1;have hlt:=(aal.1 hi).1;obtain⟨y,hy,hne,hsz,ZG⟩:=w0.2.2 cb (aak hb);rw[hcb,hM]at hy;obtain rfl:=aaq hy;obtain⟨ZH,ZI,wb⟩:=jF h.ext ZG;have hks:k.size<=64:=w0.2.1.small k (aak hk);have ZJ:fm M0 d b=iB M d beside:=by rw[aH hM,ZI]
 have ZK:pg M0 d b=b :: mq M d beside:=by rw[aZ hM,ZH]
 have e1:pre (fm M0 d) (x.is.take (i+1)) (x.ks.take (i+1))=pre (fm M0 d) (x.is.take i) (x.ks.take i)++iB M d beside++[(k,none)]:=by
  rw[aaP,aaP,hb,hk,Option.toList_some,Option.toList_some,yH _ _ _ _ _ (by rw[aam,aam];omega),IG,hcb,ZJ];simp
 have ho:=h.ord;rw[e1]at ho;have ub:Up beside.ks:=wG wb (by
  have s:List.Sublist (iB M d beside) (A++(pre (fm M0 d) (x.is.take i) (x.ks.take i)++iB M d beside++[(k,none)])++iB M d now++(post (fm M0 d) (x.ks.drop (i+1)) (x.is.drop (i+1+1))++C)):=by
   refine ((aaH _ _).trans (aaC _ _)).trans ((aaH A _).trans ((aaC _ _).trans (aaC _ _)))
  exact ho.sublist s)
 have un:Up now.ks:=wG h.wf (by
  refine ho.sublist ((aaH _ _).trans (aaC _ _)))
 have f1:=vH wb.good ub;have f2:=vH h.wf.good un;have hnn:beside.ks.length+now.ks.length+1<=120:=by omega
 have wj:=TZ (k:=k) wb h.wf hks hnn;have hput:=NU (k:=k) wb.good h.wf.good (by rw[wb.leaf,h.wf.leaf]) hks hnn;refine⟨⟨h.ext,h.used,wj,?_,?_,?_,by omega,by omega,?_,?_⟩,wb,h.ext b _ hM⟩
 ·rw[DJ wb h.wf]
  refine ho.sublist ?_;have e:A++(pre (fm M0 d) (x.is.take i) (x.ks.take i)++iB M d beside++[(k,none)])++iB M d now++(post (fm M0 d) (x.ks.drop (i+1)) (x.is.drop (i+1+1))++C)=A++pre (fm M0 d) (x.is.take i) (x.ks.take i)++(iB M d beside++([(k,none)]++iB M d now))++(post (fm M0 d) (x.ks.drop (i+1)) (x.is.drop (i+1+1))++C):=by simp
  rw[e];refine List.Sublist.append (List.Sublist.append (List.Sublist.refl _) (List.Sublist.append (List.Sublist.refl _) (List.Sublist.append ?_ (List.Sublist.refl _)))) (List.Sublist.refl _);split
  ·exact List.nil_sublist _
  ·exact List.Sublist.refl _
 ·rw[hg,<- h.cn,e1,DJ wb h.wf]
  have:B.bN ((if d=0 then [] else [(k,none)])++iB M d now)=B.bN (iB M d now):=by split <;> simp[B.bN]
  rw[bR (iB M d beside),this];simp[B.bN]
 ·intro q
  have:=h.cnt q;have e:mq M0 (d+1) x=qO M0 d (x.is.take i)++pg M0 d b++pg M0 d p++qO M0 d (x.is.drop (i+1+1)):=by
   have h0:mq M0 (d+1) x=qO M0 d x.is:=rfl;rw[h0];conv=>lhs;rw[FN hi]
   rw[aaP,hb,Option.toList_some,iO,iO,iO];simp[qO,hc,hcb]
  rw[e,Oa wb,ZK];simp only[List.count_append,List.count_cons];omega
 ·have hs:=h.size
  have hbl:=wb.leaf;by_cases hd:d=0
  ·subst hd
   rw[aao (by rw[hbl];rfl)]at hput;simp only[if_true];omega
  ·rw[aai (by rw[hbl];simpa using hd)]at hput
   rw[aai hd];omega
 ·intro e
  cases hl:beside.leaf with
  | true=>rw[jV hl]at e;simp at e;exact hne e.1
  | false=>rw[fE hl]at e;simp at e
theorem Lv.behind{M0:Pm}{b:Nat}{A C:List Mk}(w0:jC M0 (d+1) x)(hi:x.is[0]? = some c)(hc:c.toNat=p)(hb:x.is[1]? = some cb)(hcb:cb.toNat=b)(hk:x.ks[0]? = some k)(hM:M0 b=some beside)(h:Lv M0 M d p wp now joined added (A++pre (fm M0 d) (x.is.take 0) (x.ks.take 0)) (post (fm M0 d) (x.ks.drop 0) (x.is.drop (0+1))++C) g)(hlow:now.put.length<79)(hg:g (bN (iB M0 (d+1) x))=bN (pre (fm M0 d) (x.is.take 0) (x.ks.take 0))++g (bN (fm M0 d p))++bN (post (fm M0 d) (x.ks.drop 0) (x.is.drop (0+1)))) :
  Sg M0 M d x 0 1 (B.jn now k beside) wp (b :: joined) added A C g/\jC M d beside/\M b=some beside:=by
 have hn:=(w0.2.1.li w0.1).1;obtain⟨y,hy,hne,hsz,ZG⟩:=w0.2.2 cb (aak hb);rw[hcb,hM]at hy;obtain rfl:=aaq hy;obtain⟨ZH,ZI,wb⟩:=jF h.ext ZG;have hks:k.size<=64:=w0.2.1.small k (aak hk);have ZJ:fm M0 d b=iB M d beside:=by rw[aH hM,ZI]
 have ZK:pg M0 d b=b :: mq M d beside:=by rw[aZ hM,ZH]
 obtain⟨k0,kr,ek⟩:∃ k0 kr,x.ks=k0 :: kr:=by cases q:x.ks with | nil=>rw[q]at hk;simp at hk | cons a r=>exact⟨a,r,rfl⟩
 obtain⟨c0,c1,cr,ei⟩:∃ c0 c1 cr,x.is=c0 :: c1 :: cr:=by
  match q:x.is with
  | []=>rw[q]at hi;simp at hi
  | [a]=>rw[q]at hb;simp at hb
  | a :: b :: r=>exact⟨a,b,r,rfl⟩
 rw[ek]at hk;rw[ei]at hi hb;simp at hk hi hb;subst hk;subst hi;subst hb;have e1:post (fm M0 d) (x.ks.drop 0) (x.is.drop (0+1))=(k0,none) :: (iB M d beside++post (fm M0 d) (x.ks.drop 1) (x.is.drop (1+1))):=by
  rw[ek,ei];simp[post,hcb,ZJ]
 have ho:=h.ord;rw[e1]at ho hg;have ub:Up beside.ks:=wG wb (by
  refine ho.sublist (List.Sublist.trans ?_ (aaH _ _))
  exact ((aaC _ _).trans (List.sublist_cons_self _ _)).trans (aaC _ _))
 have un:Up now.ks:=wG h.wf (by
  refine ho.sublist ((aaH _ _).trans (aaC _ _)))
 have f1:=vH wb.good ub;have f2:=vH h.wf.good un;have hnn:now.ks.length+beside.ks.length+1<=120:=by omega
 have wj:=TZ (k:=k0) h.wf wb hks hnn;have hput:=NU (k:=k0) h.wf.good wb.good (by rw[wb.leaf,h.wf.leaf]) hks hnn;refine⟨⟨h.ext,h.used,wj,?_,?_,?_,by omega,by rw[ek];simp,?_,?_⟩,wb,h.ext b _ hM⟩
 ·rw[DJ h.wf wb]
  refine ho.sublist ?_;have e:A++pre (fm M0 d) (x.is.take 0) (x.ks.take 0)++iB M d now++((k0,none) :: (iB M d beside++post (fm M0 d) (x.ks.drop 1) (x.is.drop (1+1)))++C)=A++pre (fm M0 d) (x.is.take 0) (x.ks.take 0)++(iB M d now++([(k0,none)]++iB M d beside))++(post (fm M0 d) (x.ks.drop 1) (x.is.drop (1+1))++C):=by simp
  rw[e];refine List.Sublist.append (List.Sublist.append (List.Sublist.refl _) (List.Sublist.append (List.Sublist.refl _) (List.Sublist.append ?_ (List.Sublist.refl _)))) (List.Sublist.refl _);split
  ·exact List.nil_sublist _
  ·exact List.Sublist.refl _
 ·rw[hg,<- h.cn,DJ h.wf wb]
  have:B.bN ((if d=0 then [] else [(k0,none)])++iB M d beside)=B.bN (iB M d beside):=by split <;> simp[B.bN]
  rw[bR (iB M d now),this,uL,bR];simp
 ·intro q
  have:=h.cnt q;have e:mq M0 (d+1) x=qO M0 d (x.is.take 0)++pg M0 d p++pg M0 d b++qO M0 d (x.is.drop (1+1)):=by
   have h0:mq M0 (d+1) x=qO M0 d x.is:=rfl;rw[h0,ei];simp[qO,hc,hcb]
  rw[e,Oa h.wf,ZK];simp only[List.count_append,List.count_cons];omega
 ·have hs:=h.size
  have hbl:=h.wf.leaf;by_cases hd:d=0
  ·subst hd
   rw[aao (by rw[hbl];rfl)]at hput;simp only[if_true];omega
  ·rw[aai (by rw[hbl];simpa using hd)]at hput
   rw[aai hd];omega
 ·intro e
  cases hl:now.leaf with
  | true=>rw[jV hl]at e;simp at e;exact hne e.2
  | false=>rw[fE hl]at e;simp at e
structure Pn (M M':Pm) (ps:List Nd) (ns:List Nat):Prop where
 ext:Ext M M'
 used:∀ q,us M' q=us M q+ns.count q
 len:ns.length=ps.length
 lie:∀ (i n:Nat) (y:Nd),ns[i]? = some n->ps[i]? = some y->M' n=some y
 few:∀ n∈ns,n<=16383
theorem Sg.above{M0:Pm}{A C:List Mk}(w0:jC M0 (d+1) x)(hp:M0 p=some x)(hx:x.put.length<=237)(hxo:Up x.ks)(h:Sg M0 M d x i j y wp joined added A C g){ps:List Nd}{K:List ByteArray}{ns:List Nat}(hP:RZ y ps K)(hn:Pn M M' ps ns) :
  Lv M0 M' (d+1) p (p :: wp) (Ai x i j (ns.map fun n:Nat=>(n:Int)) K) joined (added++ns) A C g:=by
 have hxi:=(w0.2.1.li w0.1).1;have fx:=vH w0.2.1 hxo;have E:=h.ext.trans hn.ext;have hlen:ns.length=K.length+1/\K.length<=1:=by
  rw[hn.len];rcases hP with⟨_,rfl,rfl⟩|⟨_,m,key,_,_,rfl,rfl⟩ <;> simp
 have hKs:∀ k∈K,k.size<=64:=by
  rcases hP with⟨_,_,rfl⟩|⟨_,m,key,hk,_,_,rfl⟩
  ·simp
  ·intro k hk2;simp at hk2;rw[hk2];exact h.wf.good.small key (aak hk)
 obtain⟨ga,gs⟩:=NY (P:=ns.map fun n:Nat=>(n:Int)) (K:=K) w0.2.1 w0.1 h.ij h.jl (by simpa using hlen.1) hlen.2 (by omega) (by
  intro q hq;obtain⟨n,hn2,rfl⟩:=List.mem_map.1 hq;exact⟨n,rfl,hn.few n hn2⟩) hKs
 obtain⟨ey1,ey2,wy⟩:=jF hn.ext h.wf
 -- the new pages
 have sub:∀ c∈x.is,fm M' d c.toNat=fm M0 d c.toNat/\pg M' d c.toNat=pg M0 d c.toNat/\Wf M' d c.toNat:=fun c hc=>by
  obtain⟨a,b,e⟩:=BM E (w0.2.2 c hc);exact⟨b,a,e⟩
 have hy:=h.size;have new:(∀ n∈ns,Wf M' d n)/\(A++pre (fm M0 d) (x.is.take i) (x.ks.take i)++kF (fm M' d) (ns.map fun n:Nat=>(n:Int)) K++(post (fm M0 d) (x.ks.drop j) (x.is.drop (j+1))++C)).Pairwise R /\
   bN (kF (fm M' d) (ns.map fun n:Nat=>(n:Int)) K)=bN (iB M d y)/\∀ q,(qO M' d (ns.map fun n:Nat=>(n:Int))).count q=ns.count q+(mq M d y).count q:=by
  have hat:=hn.lie;have hl:=hn.len;rcases hP with⟨hle,rfl,rfl⟩|⟨hbig,m,key,hk,hm,rfl,rfl⟩
  ·obtain⟨n,rfl⟩:∃ n,ns=[n]:=by
    match ns,hl with
    | [n],_=>exact⟨n,rfl⟩
   have hn1:=hat 0 n y rfl rfl
   refine⟨?_,?_,?_,?_⟩
   ·intro q hq;simp at hq;rw[hq];exact⟨y,hn1,h.ne,hle,wy⟩
   ·simp only[List.map_cons,List.map_nil,uK,Int.toNat_natCast]
    rw[aH hn1,ey2];exact h.ord
   ·simp only[List.map_cons,List.map_nil,uK,Int.toNat_natCast]
    rw[aH hn1,ey2]
   ·intro q
    simp only[qO,List.map_cons,List.map_nil,List.flatMap_cons,List.flatMap_nil,Int.toNat_natCast,aaM];rw[aZ hn1,ey1,List.count_cons,List.count_cons,List.count_nil];omega
  ·obtain⟨n1,n2,rfl⟩:∃ n1 n2,ns=[n1,n2]:=by
    match ns,hl with
    | [a,b],_=>exact⟨a,b,rfl⟩
   have h1:=hat 0 n1 _ rfl rfl
   have h2:=hat 1 n2 _ rfl rfl
   obtain⟨w1,w2,e1,e2,f1,f2⟩:=sF h.wf hbig hm hy
   obtain⟨o1,o2,o3⟩:=IM h.wf hbig hm hy hk h.ord
   obtain⟨a1,a2,a3⟩:=jF hn.ext w1
   obtain⟨b1,b2,b3⟩:=jF hn.ext w2
   refine⟨?_,?_,?_,?_⟩
   ·intro q hq
    simp at hq;rcases hq with rfl | rfl
    ·exact⟨_,h1,e1,f1,a3⟩
    ·exact⟨_,h2,e2,f2,b3⟩
   ·simp only[List.map_cons,List.map_nil,yI,Int.toNat_natCast]
    rw[aH h1,aH h2,a2,b2];exact o1
   ·simp only[List.map_cons,List.map_nil,yI,Int.toNat_natCast]
    rw[aH h1,aH h2,a2,b2];exact o2
   ·intro q
    simp only[qO,List.map_cons,List.map_nil,List.flatMap_cons,List.flatMap_nil,Int.toNat_natCast,aaM];rw[aZ h1,aZ h2,a1,b1,o3];simp only[List.count_append,List.count_cons,List.count_nil];omega
 obtain⟨nw,no,nc,np⟩:=new;have efm:iB M' (d+1) (Ai x i j (ns.map fun n:Nat=>(n:Int)) K)=pre (fm M0 d) (x.is.take i) (x.ks.take i)++kF (fm M' d) (ns.map fun n:Nat=>(n:Int)) K++post (fm M0 d) (x.ks.drop j) (x.is.drop (j+1)):=by
  rw[gZ];unfold TW Ai;show kF (fm M' d) (x.is.take i++(ns.map fun n:Nat=>(n:Int))++x.is.drop (j+1)) (x.ks.take i++K++x.ks.drop j)=_;have h1:=h.ij;have h2:=h.jl;rw[uJ (fm M' d) (x.is.take i) (x.ks.take i) (ns.map fun n:Nat=>(n:Int)) K (x.is.drop (j+1)) (x.ks.drop j) (by rw[aam,aam];omega) (by simpa using hlen.1.symm)];rw[R9 _ _ (fun c hc=>(sub c (aaJ hc)).1),Ob _ _ (fun c hc=>(sub c (aaA hc)).1)]
 refine⟨E,?_,?_,?_,?_,?_,?_⟩
 ·intro q
  rw[hn.used,h.used,List.count_append];omega
 ·refine⟨rfl,ga,?_⟩
  intro c hc;rcases aav.1 hc with hc | hc
  ·rcases aav.1 hc with hc | hc
   ·exact (sub c (aaJ hc)).2.2
   ·obtain⟨n,hn2,rfl⟩:=List.mem_map.1 hc;exact nw n hn2
  ·exact (sub c (aaA hc)).2.2
 ·rw[efm]
  have e:A++(pre (fm M0 d) (x.is.take i) (x.ks.take i)++kF (fm M' d) (ns.map fun n:Nat=>(n:Int)) K++post (fm M0 d) (x.ks.drop j) (x.is.drop (j+1)))++C=A++pre (fm M0 d) (x.is.take i) (x.ks.take i)++kF (fm M' d) (ns.map fun n:Nat=>(n:Int)) K++(post (fm M0 d) (x.ks.drop j) (x.is.drop (j+1))++C):=by simp
  rw[e];exact no
 ·rw[efm,bR,bR,nc,h.cn,aH hp]
 ·intro q
  have hc:=h.cnt q;have e1:mq M' (d+1) (Ai x i j (ns.map fun n:Nat=>(n:Int)) K)=qO M0 d (x.is.take i)++qO M' d (ns.map fun n:Nat=>(n:Int))++qO M0 d (x.is.drop (j+1)):=by
   show qO M' d (x.is.take i++(ns.map fun n:Nat=>(n:Int))++x.is.drop (j+1))=_;rw[iO,iO,IP _ (fun c hc=>(sub c (aaJ hc)).2.1),IP _ (fun c hc=>(sub c (aaA hc)).2.1)]
  rw[e1,aZ hp];simp only[List.count_append,List.count_cons,np];omega
 ·rw[aai (Nat.succ_ne_zero d)]
  omega
structure Tr (M:Pm) (d n:Nat):Prop where
 wf:Wf M d n
 ord:(fm M d n).Pairwise R
 cnt:∀ q,(pg M d n).count q=us M q
def kG (M:Pm) (D:List Nat):Pm:=fun q=>if q∈D then none else M q
theorem Oc(M:Pm)(q:Nat):us M q<=1:=by unfold us;split <;> omega
theorem FO{D P:List Nat}(h:∀ q,us M q=P.count q+D.count q)(q:Nat):P.count q=us (kG M D) q/\(q∈P->kG M D q=M q):=by
 have h1:=h q;have h2:=Oc M q;by_cases e:q∈D
 ·have:0<D.count q:=List.count_pos_iff.2 e
  have h3:P.count q=0:=by omega
  refine⟨?_,fun hp=>absurd (List.count_pos_iff.2 hp) (by omega)⟩;unfold us kG;rw[aao e];simpa using h3
 ·have h4:D.count q=0:=List.count_eq_zero.2 e
  have:kG M D q=M q:=by unfold kG;rw[aai e]
  refine⟨?_,fun _=>this⟩;unfold us at h1 ⊢;rw[this];omega
theorem FP{D:List Nat}(w:Wf M d n)(o:(fm M d n).Pairwise R)(h:∀ q,us M q=(pg M d n).count q+D.count q):Tr (kG M D) d n/\fm (kG M D) d n=fm M d n:=by
 obtain⟨y,hy,a,b,c⟩:=w;have hs:∀ q∈pg M d n,kG M D q=M q:=fun q hq=>(FO h q).2 hq
 rw[aZ hy]at hs;obtain⟨e1,e2,e3⟩:=yG (M:=M) (M':=kG M D) d y (fun q hq=>hs q (List.mem_cons_of_mem _ hq));have hy':kG M D n=some y:=(hs n List.mem_cons_self).trans hy;have ef:fm (kG M D) d n=fm M d n:=by rw[aH hy',aH hy,e2]
 refine⟨⟨⟨y,hy',a,b,e3 c⟩,by rw[ef];exact o,fun q=>?_⟩,ef⟩;rw[aZ hy',e1,<- aZ hy];exact (FO h q).1
structure Stp where
 page:Nat
 x:Nd
 kid:Nat
def nodeAt (M:Pm) (n:Nat):Nd:=(M n).getD ⟨true,[],[],[]⟩
theorem gL(h:M n=some y):nodeAt M n=y:=by unfold nodeAt;rw[h];rfl
def fF (M:Pm) (key:ByteArray) (n:Nat):Stp:=⟨n,nodeAt M n,nI (nodeAt M n) key⟩
def nM (M:Pm) (key:ByteArray) (n:Nat):Nat:=((nodeAt M n).is[nI (nodeAt M n) key]?.getD 0).toNat
def path (M:Pm) (key:ByteArray):Nat->Nat->List Stp
 | 0,n=>[fF M key n]
 | d+1,n=>fF M key n :: path M key d (nM M key n)
theorem bF(M:Pm)(key:ByteArray):∀ d n,(path M key d n).length=d+1
 | 0,_=>rfl
 | d+1,n=>by rw[path,aau,bF M key d]
theorem ig(M:Pm)(key:ByteArray)(d n:Nat):(path M key d n)[0]? = some (fF M key n):=by cases d <;> rfl
def cA (M:Pm):Nat->List Stp->List Mk
 | _,[]=>[]
 | D,s :: r=>pre (fm M (D-1)) (s.x.is.take s.kid) (s.x.ks.take s.kid)++cA M (D-1) r
def cC (M:Pm):Nat->List Stp->List Mk
 | _,[]=>[]
 | D,s :: r=>cC M (D-1) r++post (fm M (D-1)) (s.x.ks.drop s.kid) (s.x.is.drop (s.kid+1))
theorem BN(M:Pm):∀ (D:Nat) (l:List Stp) (s:Stp),cA M D (l++[s])=cA M D l++pre (fm M (D-l.length-1)) (s.x.is.take s.kid) (s.x.ks.take s.kid)
 | D,[],s=>by simp[cA]
 | D,a :: l,s=>by
  rw[List.cons_append,cA,cA,BN M (D-1) l s,aap,aau];congr 3;have:D-1-l.length-1=D-(l.length+1)-1:=by omega
  rw[this]
theorem BO(M:Pm):∀ (D:Nat) (l:List Stp) (s:Stp),cC M D (l++[s])=post (fm M (D-l.length-1)) (s.x.ks.drop s.kid) (s.x.is.drop (s.kid+1))++cC M D l
 | D,[],s=>by simp[cC]
 | D,a :: l,s=>by
  rw[List.cons_append,cC,cC,BO M (D-1) l s,aap,aau];congr 3;have:D-1-l.length-1=D-(l.length+1)-1:=by omega
  rw[this]
structure Pf (M:Pm) (key:ByteArray) (d:Nat) (s:Stp) (A C:List Mk):Prop where
 mem:M s.page=some s.x
 ne:s.x.ks≠[]
 size:s.x.put.length<=237
 wf:jC M d s.x
 kid:s.kid=nI s.x key
 ah:Ah key A
 be:Be key C
 ord:(A++iB M d s.x++C).Pairwise R
variable {s:Stp}
theorem Pf.up{A C:List Mk}(h:Pf M key d s A C):Up s.x.ks:=
 wG h.wf (h.ord.sublist ((aaH A _).trans (aaC _ C)))
theorem Pf.next{A C:List Mk}(h:Pf M key (d+1) s A C):∃ c:Int,s.x.is[s.kid]? = some c /\
  Pf M key d (fF M key c.toNat) (A++pre (fm M d) (s.x.is.take s.kid) (s.x.ks.take s.kid)) (post (fm M d) (s.x.ks.drop s.kid) (s.x.is.drop (s.kid+1))++C):=by
 have hn:=(h.wf.2.1.li h.wf.1).1;have hk:s.kid<=s.x.ks.length:=by rw[h.kid];exact FL _ _
 have hi:s.x.is[s.kid]? = some (s.x.is[s.kid]'(by omega)):=aae (by omega);refine⟨_,hi,?_⟩;obtain⟨y,hy,a,b,c⟩:=h.wf.2.2 _ (aak hi);have ho:=h.ord;rw[vI h.wf.2.1 h.wf.1 hi,aH hy]at ho;have ho2:(A++pre (fm M d) (s.x.is.take s.kid) (s.x.ks.take s.kid)++iB M d y++(post (fm M d) (s.x.ks.drop s.kid) (s.x.is.drop (s.kid+1))++C)).Pairwise R:=by simpa using ho
 have es:fF M key (s.x.is[s.kid]'(by omega)).toNat=⟨(s.x.is[s.kid]'(by omega)).toNat,y,nI y key⟩:=by unfold fF;rw[gL hy]
 rw[es];refine⟨hy,a,b,c,rfl,h.ah.append ?_,Be.append ?_ h.be,ho2⟩
 ·refine Vq _ _ _ (by rw[aam,aam];omega) (by rw[h.kid];exact KJ key) (ho2.sublist ?_)
  exact ((aaH A _).trans (aaC _ _)).trans (aaC _ _)
 ·refine RQ _ _ _ (by rw[aaw,aaw];omega) (by rw[h.kid];exact Ag h.up key) (ho2.sublist ?_)
  exact (aaC _ C).trans (aaH _ _)
theorem Pf.nM{A C:List Mk}(h:Pf M key (d+1) s A C){c:Int}(hc:s.x.is[s.kid]? = some c):B.nM M key s.page=c.toNat:=by
 unfold B.nM;rw[gL h.mem,<- h.kid,hc];rfl
theorem iI{M:Pm}{key:ByteArray}:∀ (d n:Nat) (A C:List Mk),Pf M key d (fF M key n) A C->∀ (k:Nat) (s:Stp),(path M key d n)[k]? = some s->k<=d/\Pf M key (d-k) s (A++cA M d ((path M key d n).take k)) (cC M d ((path M key d n).take k)++C)
 | 0,n,A,C,h,0,s,e=>by
  simp[path]at e;subst e;exact⟨aac _,by simpa[cA,cC] using h⟩
 | 0,n,A,C,h,k+1,s,e=>by simp[path]at e
 | d+1,n,A,C,h,0,s,e=>by
  simp[path]at e;subst e;exact⟨by omega,by simpa[cA,cC] using h⟩
 | d+1,n,A,C,h,k+1,s,e=>by
  obtain⟨c,hc,h2⟩:=h.next;have en:B.nM M key n=c.toNat:=h.nM hc;rw[path,en]at e ⊢;simp only[List.getElem?_cons_succ]at e;obtain⟨a,b⟩:=iI d c.toNat _ _ h2 k s e;refine⟨by omega,?_⟩;rw[List.take_succ_cons,cA,cC];rw[show d+1-(k+1)=d-k by omega,show d+1-1=d by omega];simpa using b
theorem iU{M:Pm}{key:ByteArray}:∀ (d n:Nat) (A C:List Mk),Pf M key d (fF M key n) A C->∀ (k:Nat) (s s':Stp),(path M key d n)[k]? = some s->(path M key d n)[k+1]? = some s'->∃ c:Int,s.x.is[s.kid]? = some c/\s'.page=c.toNat
 | 0,n,A,C,h,k,s,s',_,e=>by simp[path]at e
 | d+1,n,A,C,h,0,s,s',e,e'=>by
  obtain⟨c,hc,h2⟩:=h.next;have en:B.nM M key n=c.toNat:=h.nM hc;rw[path,en]at e e';simp at e;subst e;simp only[List.getElem?_cons_succ,ig]at e';obtain rfl:=aaq e';exact⟨c,hc,rfl⟩
 | d+1,n,A,C,h,k+1,s,s',e,e'=>by
  obtain⟨c,hc,h2⟩:=h.next;have en:B.nM M key n=c.toNat:=h.nM hc;rw[path,en]at e e';simp only[List.getElem?_cons_succ]at e e';exact iU d c.toNat _ _ h2 k s s' e e'
theorem Tr.pf(h:Tr M d n)(key:ByteArray):Pf M key d (fF M key n) [] []:=by
 obtain⟨y,hy,a,b,c⟩:=h.wf;have es:fF M key n=⟨n,y,nI y key⟩:=by unfold fF;rw[gL hy]
 have ho:=h.ord;rw[aH hy]at ho;rw[es];exact⟨hy,a,b,c,rfl,(fun a ha=>by cases ha),(fun a ha=>by cases ha),by simpa using ho⟩
theorem Pf.start{A C:List Mk}(h:Pf M key 0 s A C)(hks:key.size<=64)(v:Vl)(hv:BD v) :
  Lv M M 0 s.page [s.page] ⟨true,iA s.x.ks key,jr s.x.ks s.x.vs key v,[]⟩ [] [] A C (upd key [(key,v)])/\Lv M M 0 s.page [s.page] ⟨true,nW s.x.ks key,pU s.x.ks s.x.vs key,[]⟩ [] [] A C (upd key []):=by
 have hu:=h.up;have hl:=h.wf.1;have g:=h.wf.2;have lv:=(g.lv hl).1;have f:=vH g hu;have hs:=h.size;obtain⟨o1,o2,e1,e2⟩:=RP (v:=v) hu lv h.ah h.be h.ord;have hkl:(dW key).length<=65:=dK key hks;have hvl:=kg v hv;have fi:=kN key s.x.ks;have g1:N.Good ⟨true,iA s.x.ks key,jr s.x.ks s.x.vs key v,[]⟩:=by
  refine⟨?_,?_,fun _=>⟨wB _ _ _ _ lv,rfl⟩,(fun e=>by cases e),?_,(fun i hi=>by cases hi)⟩
  ·show (iA s.x.ks key).length<=120
   rw[wu];split <;> omega
  ·intro k hk
   unfold iA at hk;split at hk
   ·exact g.small k hk
   ·unfold ins at hk
    rcases aav.1 hk with hk | hk
    ·exact g.small k (aaJ hk)
    ·rcases aaW.1 hk with rfl | hk
     ·exact hks
     ·exact g.small k (aaA hk)
  ·intro k hk
   unfold jr at hk;split at hk
   ·rcases List.mem_or_eq_of_mem_set hk with hk | rfl
    ·exact g.ok k hk
    ·exact hv
   ·unfold ins at hk
    rcases aav.1 hk with hk | hk
    ·exact g.ok k (aaJ hk)
    ·rcases aaW.1 hk with rfl | hk
     ·exact hv
     ·exact g.ok k (aaA hk)
 have hdl:(pU s.x.ks s.x.vs key).length=(nW s.x.ks key).length/\(nW s.x.ks key).length<=s.x.ks.length:=by
  unfold nW pU;split
  ·rename_i hi
   have:=yA hi;rw[yz _ _ this,yz _ _ (by omega),lv];omega
  ·exact⟨lv,aac _⟩
 have g2:N.Good ⟨true,nW s.x.ks key,pU s.x.ks s.x.vs key,[]⟩:=by
  refine⟨?_,?_,fun _=>⟨hdl.1,rfl⟩,(fun e=>by cases e),?_,(fun i hi=>by cases hi)⟩
  ·show (nW s.x.ks key).length<=120
   omega
  ·intro k hk
   unfold nW at hk;split at hk
   ·unfold del at hk
    exact g.small k ((aav.1 hk).elim aaJ aaA)
   ·exact g.small k hk
  ·intro k hk
   unfold pU at hk;split at hk
   ·unfold del at hk
    exact g.ok k ((aav.1 hk).elim aaJ aaA)
   ·exact g.ok k hk
 have ksp:∀ i,dB (s.x.ks.take i)+dB (s.x.ks.drop i)=dB s.x.ks:=fun i=>by rw[<- dP,aax]
 have vsp:∀ i,fo (s.x.vs.take i)+fo (s.x.vs.drop i)=fo s.x.vs:=fun i=>by rw[<- kE,aax]
 have hput:=jE g hl;have ef:bN (fm M 0 s.page)=s.x.ks.zip s.x.vs:=by rw[aH h.mem,dH,gJ]
 refine⟨⟨Ext.refl _,fun q=>by simp,⟨rfl,g1⟩,o1,?_,?_,?_⟩,⟨Ext.refl _,fun q=>by simp,⟨rfl,g2⟩,o2,?_,?_,?_⟩⟩
 ·rw[ef,dH,gJ];exact e1
 ·intro q;rw[aZ h.mem];simp[mq]
 ·rw[jE g1 rfl,aao rfl]
  show 1+dB (iA s.x.ks key)+fo (jr s.x.ks s.x.vs key v)<=352;have a:=NQ s.x.ks key hks;have b:=KG s.x.ks s.x.vs key v hv;omega
 ·rw[ef,dH,gJ];exact e2
 ·intro q;rw[aZ h.mem];simp[mq]
 ·rw[jE g2 rfl,aao rfl]
  show 1+dB (nW s.x.ks key)+fo (pU s.x.ks s.x.vs key)<=352;have a:dB (nW s.x.ks key)<=dB s.x.ks:=by
   unfold nW;split
   ·unfold del
    rw[dP];have:=ksp (bP key s.x.ks);have h2:dB (s.x.ks.drop (bP key s.x.ks+1))<=dB (s.x.ks.drop (bP key s.x.ks)):=by
     have e:s.x.ks.drop (bP key s.x.ks+1)=(s.x.ks.drop (bP key s.x.ks)).drop 1:=by rw[List.drop_drop]
     rw[e];have:=congrArg dB (aax 1 (s.x.ks.drop (bP key s.x.ks)));rw[dP]at this;omega
    omega
   ·exact aac _
  have b:fo (pU s.x.ks s.x.vs key)<=fo s.x.vs:=by
   unfold pU;split
   ·unfold del
    rw[kE];have:=vsp (bP key s.x.ks);have h2:fo (s.x.vs.drop (bP key s.x.ks+1))<=fo (s.x.vs.drop (bP key s.x.ks)):=by
     have e:s.x.vs.drop (bP key s.x.ks+1)=(s.x.vs.drop (bP key s.x.ks)).drop 1:=by rw[List.drop_drop]
     rw[e];have:=congrArg fo (aax 1 (s.x.vs.drop (bP key s.x.ks)));rw[kE]at this;omega
    omega
   ·exact aac _
  omega
theorem Pf.lifts{A C:List Mk}(h:Pf M key (d+1) s A C){c:Int}(hc:s.x.is[s.kid]? = some c)(mid:List En) :
  upd key mid (bN (iB M (d+1) s.x))=bN (pre (fm M d) (s.x.is.take s.kid) (s.x.ks.take s.kid))++upd key mid (bN (fm M d c.toNat))++bN (post (fm M d) (s.x.ks.drop s.kid) (s.x.is.drop (s.kid+1))):=by
 obtain⟨c',hc',h2⟩:=h.next;rw[vI h.wf.2.1 h.wf.1 hc,bR,bR];refine II ?_ ?_
 ·exact Ah.bN (fun a ha=>h2.ah a (List.mem_append_right _ ha))
 ·exact Be.bN (fun a ha=>h2.be a (List.mem_append_left _ ha))
def got (k:ByteArray) (l:List En):Option Vl:=(l.find? fun e=>decide (e.1=k)).map (·.2)
theorem IQ{A B C:List En}(ha:∀ e∈A,sl e.1 k=true)(hc:∀ e∈C,sl k e.1=true):got k (A++B++C)=got k B:=by
 unfold got;have h1:A.find? (fun e=>decide (e.1=k))=none:=List.find?_eq_none.2 (fun e he=>by
  intro q
  have q':e.1=k:=by simpa using q
  have:=ha e he;rw[q',dY]at this;cases this)
 have h3:C.find? (fun e=>decide (e.1=k))=none:=List.find?_eq_none.2 (fun e he=>by
  intro q
  have q':e.1=k:=by simpa using q
  have:=hc e he;rw[q',dY]at this;cases this)
 rw[aap,List.find?_append,h1,List.find?_append,h3];simp
theorem Od(hu:Up ks)(hl:vs.length=ks.length):got k (ks.zip vs)=if gG k ks=true then some (jG ks vs k) else none:=by
 obtain⟨l1,m0,l3,e,h1,h3,h4,_,_⟩:=sD k ⟨⟨#[]⟩,-1,0⟩ ks vs hu hl;rw[e,IQ h1 h3];rcases h4 with⟨h,rfl⟩|⟨h,rfl⟩
 ·rw[aao h];simp[got]
 ·rw[aai (by rw[h];decide)];rfl
theorem kH{M:Pm}{key:ByteArray}:∀ (d n:Nat) (A C:List Mk),Pf M key d (fF M key n) A C->∀ (s:Stp),(path M key d n)[d]? = some s->got key (bN (fm M d n))=if gG key s.x.ks=true then some (jG s.x.ks s.x.vs key) else none
 | 0,n,A,C,h,s,e=>by
  simp[path]at e;subst e;have hm:M n=some (fF M key n).x:=h.mem;rw[aH hm,dH,gJ];exact Od h.up (h.wf.2.lv h.wf.1).1
 | d+1,n,A,C,h,s,e=>by
  obtain⟨c,hc,h2⟩:=h.next;have en:B.nM M key n=c.toNat:=h.nM hc;rw[path,en]at e;simp only[List.getElem?_cons_succ]at e;rw[<- kH d c.toNat _ _ h2 s e];have hm:M n=some (fF M key n).x:=h.mem;rw[aH hm,vI h.wf.2.1 h.wf.1 hc,bR,bR];exact IQ (Ah.bN (fun a ha=>h2.ah a (List.mem_append_right _ ha))) (Be.bN (fun a ha=>h2.be a (List.mem_append_left _ ha)))
theorem IU{M:Pm}:∀ (d:Nat) (x:Nd),jC M d x->x.ks≠[]->2 ^ d<=(bN (iB M d x)).length/\(mq M d x).length+2<=2*(bN (iB M d x)).length
 | 0,x,w,hne=>by
  rw[dH,gJ,List.length_zip,(w.2.lv w.1).1,Nat.min_self];have:0<x.ks.length:=List.length_pos_iff.2 hne;simp[mq];omega
 | d+1,x,w,hne=>by
  have hk:0<x.ks.length:=List.length_pos_iff.2 hne;have hi:=(w.2.1.li w.1).1;have sub:∀ c∈x.is,2 ^ d<=(bN (fm M d c.toNat)).length/\(pg M d c.toNat).length+1<=2*(bN (fm M d c.toNat)).length:=by
   intro c hc;obtain⟨y,hy,a,_,wy⟩:=w.2.2 c hc;obtain⟨h1,h2⟩:=IU d y wy a;rw[aH hy,aZ hy,aau];omega
  have sum:∀ (K:List ByteArray) (L:List Int),K.length=L.length->(∀ c∈L,c∈x.is)->L.length*2 ^ d<=(bN (post (fm M d) K L)).length/\(qO M d L).length+L.length<=2*(bN (post (fm M d) K L)).length:=by
   intro K L;induction L generalizing K with
   | nil=>intro h _;simp[qO]
   | cons c r ih=>
    intro h hs;obtain⟨k,K',rfl⟩:∃ k K',K=k :: K':=by cases K with | nil=>simp at h | cons k K'=>exact⟨k,K',rfl⟩
    obtain⟨i1,i2⟩:=ih K' (by simpa using h) (fun q hq=>hs q (List.mem_cons_of_mem _ hq));obtain⟨s1,s2⟩:=sub c (hs c List.mem_cons_self);have e1:bN (post (fm M d) (k :: K') (c :: r))=bN (fm M d c.toNat)++bN (post (fm M d) K' r):=by simp[post,uL,bR]
    have e2:qO M d (c :: r)=pg M d c.toNat++qO M d r:=by simp[qO]
    rw[e1,e2,aah,aah,aau,Nat.succ_mul];omega
  obtain⟨c,r,e⟩:∃ c r,x.is=c :: r:=by cases q:x.is with | nil=>rw[q]at hi;simp at hi | cons c r=>exact⟨c,r,rfl⟩
  have hr:x.ks.length=r.length:=by rw[e]at hi;simpa using hi.symm
  obtain⟨t1,t2⟩:=sum x.ks r hr (fun q hq=>by rw[e];exact List.mem_cons_of_mem _ hq);obtain⟨s1,s2⟩:=sub c (by rw[e];exact List.mem_cons_self);have ef:bN (iB M (d+1) x)=bN (fm M d c.toNat)++bN (post (fm M d) x.ks r):=by
   rw[gZ];unfold TW kF;rw[e];exact bR _ _
  have ep:mq M (d+1) x=pg M d c.toNat++qO M d r:=by rw[fI,e];simp[qO]
  rw[ef,ep,aah,aah];have h3:1*2 ^ d<=r.length*2 ^ d:=Nat.mul_le_mul_right _ (by omega);rw[Nat.pow_succ];omega
theorem Tr.many(h:Tr M d n):2 ^ d<=(bN (fm M d n)).length/\(pg M d n).length+1<=2*(bN (fm M d n)).length:=by
 obtain⟨y,hy,a,_,c⟩:=h.wf;obtain⟨h1,h2⟩:=IU d y c a;rw[aH hy,aZ hy,aau];omega
def Tree (M:Pm) (root:Int) (l:List En):Prop:=(root=-1/\l=[]/\∀ q,M q=none)\/∃ d n:Nat,root=(n:Int)/\Tr M d n/\bN (fm M d n)=l
theorem yJ{M0:Pm}(h0:Tr M0 d p)(h:Lv M0 M d p wp now joined added [] [] g)(hk:now.ks=[]) :
  (now.leaf=true->Tree (kG M (wp++joined)) (-1) (g (bN (fm M0 d p))))/\(now.leaf=false->∃ c:Int,now.is=[c]/\0<=c/\Tree (kG M (wp++joined)) c (g (bN (fm M0 d p)))):=by
 have hu:∀ q,us M q=(mq M d now).count q+(wp++joined).count q:=by
  intro q;rw[h.used,<- h0.cnt,h.cnt,List.count_append];omega
 have ho:=h.ord;simp only[List.nil_append,aaM]at ho;constructor
 ·intro hl
  have hd:d=0:=by have:=h.wf.leaf;rw[hl]at this;simpa using this.symm
  subst hd;refine .inl ⟨rfl,?_,fun q=>?_⟩
  ·rw[<- h.cn,dH,gJ,hk];rfl
  ·have h1:=(FO hu q).1
   unfold us at h1;simp[mq]at h1;exact h1
 ·intro hl
  obtain⟨d',rfl⟩:∃ d',d=d'+1:=by
   cases d with
   | zero=>rw[h.wf.1]at hl;cases hl
   | succ d'=>exact⟨d',rfl⟩
  have hi:=(h.wf.2.1.li hl).1;rw[hk]at hi;obtain⟨c,e⟩:∃ c,now.is=[c]:=List.length_eq_one_iff.1 hi;obtain⟨q,ec,_⟩:=h.wf.2.1.ik c (by rw[e];simp);have ef:iB M (d'+1) now=fm M d' c.toNat:=by rw[gZ];unfold TW;rw[e,hk,uK]
  have ep:mq M (d'+1) now=pg M d' c.toNat:=by rw[fI,e];simp
  obtain⟨t,ft⟩:=FP (d:=d') (n:=c.toNat) (D:=wp++joined) (h.wf.2.2 c (by rw[e];simp)) (by rw[<- ef];exact ho) (by rw[<- ep];exact hu);refine⟨c,e,by omega,.inr ⟨d',c.toNat,by omega,t,?_⟩⟩;rw[ft,<- ef,h.cn]
theorem Aj{M0:Pm}(h0:Tr M0 d p)(h:Lv M0 M d p wp now joined added [] [] g)(hk:now.ks≠[]){ps:List Nd}{K:List ByteArray}{ns:List Nat}(hP:RZ now ps K)(hn:Pn M M' ps ns) :
  (∀ n,ns=[n]->Tree (kG M' (wp++joined)) (n:Int) (g (bN (fm M0 d p))))/\(ns.length≠1->∃ n1 n2 key,ns=[n1,n2]/\K=[key]/\N.Good ⟨false,[key],[],[(n1:Int),(n2:Int)]⟩/\(⟨false,[key],[],[(n1:Int),(n2:Int)]⟩:Nd).put.length<=237 /\
   ∀ n3,M' n3=none->Tree (kG (pt M' n3 ⟨false,[key],[],[(n1:Int),(n2:Int)]⟩) (wp++joined)) (n3:Int) (g (bN (fm M0 d p)))):=by
 have hu:∀ q,us M q=(mq M d now).count q+(wp++joined).count q:=by
  intro q;rw[h.used,<- h0.cnt,h.cnt,List.count_append];omega
 have ho:=h.ord;simp only[List.nil_append,aaM]at ho;have hs:now.put.length<=(if d=0 then 352 else 380):=by
  have:=h.size;split at this <;> rename_i hd <;> simp only[hd,if_true,if_false] <;> omega
 have hl:=hn.len;have hat:=hn.lie;obtain⟨e1,e2,wy⟩:=jF hn.ext h.wf;rcases hP with⟨hle,rfl,rfl⟩|⟨hbig,m,key,hkey,hm,rfl,rfl⟩
 ·obtain⟨n,rfl⟩:∃ n,ns=[n]:=by
   match ns,hl with
   | [n],_=>exact⟨n,rfl⟩
  refine⟨?_,fun q=>absurd rfl q⟩
  intro n' en
  obtain rfl:n=n':=by simpa using en
  have h1:=hat 0 n now rfl rfl
  obtain⟨t,ft⟩:=FP (M:=M') (d:=d) (n:=n) (D:=wp++joined) ⟨now,h1,hk,hle,wy⟩ (by rw[aH h1,e2];exact ho) (fun q=>by
   rw[hn.used,hu,aZ h1,e1,List.count_cons,List.count_cons,List.count_nil];omega)
  refine .inr ⟨d,n,rfl,t,?_⟩
  rw[ft,aH h1,e2,h.cn]
 ·obtain⟨n1,n2,rfl⟩:∃ n1 n2,ns=[n1,n2]:=by
   match ns,hl with
   | [a,b],_=>exact⟨a,b,rfl⟩
  refine⟨fun n en=>by simp at en,fun _=>?_⟩
  have h1:=hat 0 n1 _ rfl rfl
  have h2:=hat 1 n2 _ rfl rfl
  obtain⟨w1,w2,a1,a2,f1,f2⟩:=sF h.wf hbig hm hs
  obtain⟨o1,o2,o3⟩:=IM (A:=[]) (C:=[]) h.wf hbig hm hs hkey (by simpa using ho)
  simp only[List.nil_append,aaM]at o1
  obtain⟨x1,x2,x3⟩:=jF hn.ext w1
  obtain⟨y1,y2,y3⟩:=jF hn.ext w2
  have hks:key.size<=64:=h.wf.good.small key (aak hkey)
  have g3:N.Good ⟨false,[key],[],[(n1:Int),(n2:Int)]⟩:=by
   refine⟨by simp,fun k hk=>by simp at hk;rw[hk];exact hks,(fun e=>by cases e),fun _=>⟨rfl,rfl⟩,(fun v hv=>by cases hv),?_⟩;intro i hi;simp at hi;rcases hi with rfl | rfl
   ·exact⟨n1,rfl,hn.few n1 (by simp)⟩
   ·exact⟨n2,rfl,hn.few n2 (by simp)⟩
  have s3:(⟨false,[key],[],[(n1:Int),(n2:Int)]⟩:Nd).put.length<=237:=by
   rw[jQ g3 rfl];have a:=wT [key] (fun k hk=>by simp at hk;rw[hk];exact hks);have b:=IK [(n1:Int),(n2:Int)] g3.ik;simp only[aau,aaQ]at a b;show 1+dB [key] + kP [(n1:Int),(n2:Int)]<=237;omega
  refine⟨n1,n2,key,rfl,rfl,g3,s3,?_⟩
  intro n3 pW
  obtain⟨E⟩:Nonempty (Ext M' (pt M' n3 ⟨false,[key],[],[(n1:Int),(n2:Int)]⟩)):=⟨pI pW⟩
  have wf1:Wf M' d n1:=⟨_,h1,a1,f1,x3⟩
  have wf2:Wf M' d n2:=⟨_,h2,a2,f2,y3⟩
  obtain⟨p1,q1,r1⟩:=BM E wf1
  obtain⟨p2,q2,r2⟩:=BM E wf2
  have h3:=lu M' n3 ⟨false,[key],[],[(n1:Int),(n2:Int)]⟩
  have ef:fm (pt M' n3 ⟨false,[key],[],[(n1:Int),(n2:Int)]⟩) (d+1) n3=iB M d (now.fst m)++(key,none) :: iB M d (now.snd m):=by
   rw[aH h3,gZ];unfold TW;show kF _ [(n1:Int),(n2:Int)] [key]=_;rw[yI];simp only[Int.toNat_natCast];rw[q1,q2,aH h1,aH h2,x2,y2]
  have ep:pg (pt M' n3 ⟨false,[key],[],[(n1:Int),(n2:Int)]⟩) (d+1) n3=n3 :: ((n1 :: mq M d (now.fst m))++(n2 :: mq M d (now.snd m))):=by
   rw[aZ h3,fI];simp only[List.flatMap_cons,List.flatMap_nil,Int.toNat_natCast,aaM];rw[p1,p2,aZ h1,aZ h2,x1,y1]
  obtain⟨t,ft⟩:=FP (M:=pt M' n3 ⟨false,[key],[],[(n1:Int),(n2:Int)]⟩) (d:=d+1) (n:=n3) (D:=wp++joined) ⟨_,h3,by simp,s3,⟨rfl,g3,by
   intro c hc
   simp at hc
   rcases hc with rfl | rfl
   ·exact r1
   ·exact r2⟩⟩ (by rw[ef];exact o1) (fun q=>by
   rw[wH pW,hn.used,hu,ep,o3]
   simp only[List.count_append,List.count_cons,List.count_nil]
   omega)
  refine .inr ⟨d+1,n3,rfl,t,?_⟩
  rw[ft,ef,o2,h.cn]
end Go.Proofs.YtifeihnhkbagpaaGreatDoor.B
namespace Go.Proofs.YtifeihnhkbagpaaGreatDoor.N
open ChangeShapes WideShapes ChangeAt RowKit
structure Og (b:Nat) (w w':World):Prop where
 out:w.grownBy w' (some b)
theorem Og.trans{B:Nat}{a b c:World}(h:Og B a b)(k:Og B b c):Og B a c:=
 ⟨k.out.os.trans h.out.os,k.out.tape.trans h.out.tape,k.out.output.trans h.out.output,aad h.out.size k.out.size,fun i hi hne=>(k.out.block i (aas hi h.out.size) hne).trans (h.out.block i hi hne)⟩
theorem Og.set(b j:Nat)(w:World)(v:Value):Og b w (w.setCell ⟨b,j,none⟩ v):=⟨vD w ⟨b,j,none⟩ v⟩
variable {w w':World}
theorem Kept.og(h:Kept w w')(b:Nat):Og b w w':=⟨h.grown _⟩
variable {c b:Nat}{t:TypeId}{a0 a1 a2:Value}
theorem C4.og{a3:Value}(k:C4 w b t a0 a1 a2 a3)(h:Og c w w')(hb:b≠c):C4 w' b t a0 a1 a2 a3:=k.grown h.out (fun e=>hb (by injection e))
theorem C3.og(k:C3 w b t a0 a1 a2)(h:Og c w w')(hb:b≠c):C3 w' b t a0 a1 a2:=k.grown h.out (fun e=>hb (by injection e))
theorem Og.own(h:Og c w w'){B:Nat}{e:TypeId}{sz:Nat}{p:Option Addr}{n cc:Nat}{cs:List Value}(k:Own w B e sz p n cc cs)(hb:c<B):Own w' B e sz p n cc cs:=by
 refine⟨k.out.kept h.out ?_⟩;cases hq:(Value.slice p n cc).ownBlock with
 | none=>exact .inl rfl
 | some g=>exact .inr (fun he=>by have:=(k.out.lt g hq).1;injection he with he;omega)
theorem Og.kept{W W':World}(h:Og c W W')(k:Kept w W)(hb:w.heap.size<=c):Kept w W':=⟨k.out.grown h.out k.size (fun j hj=>by injection hj with hj;omega)⟩
theorem rO(n:Nat)(hn:n<18446744073709551616)(t:List Nat)(ht:t.length<=100000)(most:Nat)(hm:n<=most){b:Nat}{w:World}(k:Rd w b (bs (ae n++t)) 0):
 Calls Tryz.prog 171 #[.pointer (some ⟨b,0,none⟩),.int .u64 most] w fun e w'=>e=.returned (.int .u64 n)/\Rd w' b (bs t) 0/\Og b w w':=by
 have h10:=lU n hn;have c0:=k.c0;have f0:=k.f0 0;have e13:=bE k;have e33:=xX n hn t ht w;have hx:=qW (ae n) t;have hsz:(bs (ae n++t)).size=(ae n).length+t.length:=by rw[au];simp
 have k2:=k.set0 (bs t);have o2:Og b w (w.setCell ⟨b,0,none⟩ (.string (bs t))):=Og.set _ _ _ _;have K2:Hid (Rd (w.setCell ⟨b,0,none⟩ (.string (bs t))) b (bs t) 0):=k2;generalize bs (ae n++t)=s at *;generalize (ae n).length=L at *;have hls:L<=s.size:=by omega
 clear k2 hsz k;go_enter Tryz.func171,Tryz.ntmps171;go_wp2_with (first
  | (go_at_call 174;refine e13.mono ?_;rintro e w' ⟨rfl,rfl⟩)
  | (go_at_call 211;refine e33.mono ?_;rintro e w' ⟨rfl,rfl⟩))
 go_ret;exact⟨rfl,K2.out,o2⟩
theorem take2(l t:List Nat)(x:Int){b:Nat}{w:World}(k:Rd w b (bs (l++t)) x):
 Calls Tryz.prog 172 #[.pointer (some ⟨b,0,none⟩),.int .i64 l.length] w fun e w'=>e=.returned (.string (bs l))/\Rd w' b (bs t) x/\Og b w w':=by
 have c0:=k.c0;have f0:=k.f0 0;have h1:=tX l t;have hx:=qW l t;have hsz:(bs (l++t)).size=l.length+t.length:=by rw[au];simp
 have k2:=k.set0 (bs t);have o2:Og b w (w.setCell ⟨b,0,none⟩ (.string (bs t))):=Og.set _ _ _ _;have K2:Hid (Rd (w.setCell ⟨b,0,none⟩ (.string (bs t))) b (bs t) x):=k2;generalize bs (l++t)=s at *;have hls:l.length<=s.size:=by omega
 clear k2 k hsz;generalize l.length=L at *;go_enter Tryz.func172,Tryz.ntmps172;go_wp2;go_ret;exact⟨rfl,K2.out,o2⟩
theorem KN(l t:List Nat)(hl:l.length<=64)(ht:t.length<=20000){b:Nat}{w:World}(k:Rd w b (bs (ae l.length++(l++t))) 0):
 Calls Tryz.prog 208 #[.pointer (some ⟨b,0,none⟩),.int .i64 64] w fun e w'=>e=.returned (.string (bs l))/\Rd w' b (bs t) 0/\Og b w w':=by
 have h11:=rO l.length (by omega) (l++t) (by simp;omega) 64 hl k;have h21:=@take2 l t 0 b;generalize bs (l++t)=s2 at *;generalize l.length=L at *;go_enter Tryz.func208,Tryz.ntmps208;go_wp2_with (first
  | (go_at_call 171;refine h11.mono ?_;rintro e w1 ⟨rfl,k1,o1⟩)
  | (go_at_call 172;refine (h21 k1).mono ?_;rintro e w2 ⟨rfl,k2,o2⟩))
 go_ret;exact⟨rfl,k2,o1.trans o2⟩
theorem KO(l t:List Nat)(hl:l.length<=48)(ht:t.length<=20000){b:Nat}{w:World}(k:Rd w b (bs (ae l.length++(l++t))) 0):
 Calls Tryz.prog 208 #[.pointer (some ⟨b,0,none⟩),.int .i64 48] w fun e w'=>e=.returned (.string (bs l))/\Rd w' b (bs t) 0/\Og b w w':=by
 have h11:=rO l.length (by omega) (l++t) (by simp;omega) 48 hl k;have h21:=@take2 l t 0 b;generalize bs (l++t)=s2 at *;generalize l.length=L at *;go_enter Tryz.func208,Tryz.ntmps208;go_wp2_with (first
  | (go_at_call 171;refine h11.mono ?_;rintro e w1 ⟨rfl,k1,o1⟩)
  | (go_at_call 172;refine (h21 k1).mono ?_;rintro e w2 ⟨rfl,k2,o2⟩))
 go_ret;exact⟨rfl,k2,o1.trans o2⟩
theorem Xj(s:ByteArray)(hs:s.size<=64)(t:List Nat)(ht:t.length<=20000){b:Nat}{w:World}(k:Rd w b (bs (dW s++t)) 0):
 Calls Tryz.prog 208 #[.pointer (some ⟨b,0,none⟩),.int .i64 64] w fun e w'=>e=.returned (.string s)/\Rd w' b (bs t) 0/\Og b w w':=by
 have a:=KN (un s) t (by rw[dL];exact hs) ht (b:=b) (w:=w) (by rw[dL];unfold dW at k;rwa [aap]at k);rwa [rH]at a
theorem ZL(s:ByteArray)(hs:s.size<=48)(t:List Nat)(ht:t.length<=20000){b:Nat}{w:World}(k:Rd w b (bs (dW s++t)) 0):
 Calls Tryz.prog 208 #[.pointer (some ⟨b,0,none⟩),.int .i64 48] w fun e w'=>e=.returned (.string s)/\Rd w' b (bs t) 0/\Og b w w':=by
 have a:=KO (un s) t (by rw[dL];exact hs) ht (b:=b) (w:=w) (by rw[dL];unfold dW at k;rwa [aap]at k);rwa [rH]at a
theorem FQ(v:Vl)(hv:BD v)(t:List Nat)(ht:t.length<=18000){b:Nat}{w:World}(k:Rd w b (bs (ll v++t)) 0):
 Calls Tryz.prog 209 #[.pointer (some ⟨b,0,none⟩)] w fun e w'=>e=.returned (.agg #[.string v.d,.int .i64 v.p,.int .i64 v.l])/\Rd w' b (bs t) 0/\Og b w w':=by
  have hbl:=k.lt;have k0:=((Kept.refl w).alloc (.cells #[.string ⟨#[]⟩,.int .i64 0,.int .i64 0] 77)).rd k;have R0:=C3.alloc w 77 (.string ⟨#[]⟩) (.int .i64 0) (.int .i64 0);have o0:=((Kept.refl w).alloc (.cells #[.string ⟨#[]⟩,.int .i64 0,.int .i64 0] 77)).og b;obtain⟨d,p,ln⟩:=v;rcases hv with⟨h1,h2,h3⟩|⟨h1,p',l',h2,h3,h4,h5,h6⟩
  · simp only at h1 h2 h3
    subst h1;subst h2;have e2:ll ⟨d,-1,0⟩++t=ae 0++(dW d++t):=by unfold ll dW;rw[aao (by show (-1:Int)<0;decide),aap]
    rw[e2]at k0;have z:=dK d (by omega);have a1:=rO 0 (by decide) (dW d++t) (by rw[aah];omega) 1 (by decide) k0;have a2:=fun W=>@ZL d h3 t (by omega) b W
    have hne:¬ (w.heap.size=b):=by omega
    have A1:Calls Tryz.prog 171 #[.pointer (some ⟨b,0,none⟩),.int .u64 1] (w.alloc (.cells #[.string ⟨#[]⟩,.int .i64 0,.int .i64 0] 77)) fun e w'=>e=.returned (.int .u64 0)/\Rd w' b (bs (dW d++t)) 0/\Og b (w.alloc (.cells #[.string ⟨#[]⟩,.int .i64 0,.int .i64 0] 77)) w':=a1
    have A2:Hid (∀ W,Rd W b (bs (dW d++t)) 0->Calls Tryz.prog 208 #[.pointer (some ⟨b,0,none⟩),.int .i64 48] W fun e w'=>e=.returned (.string d)/\Rd w' b (bs t) 0/\Og b W w'):=a2;clear a1 a2 k0 k e2;go_enter Tryz.func209,Tryz.ntmps209;go_wp2_with (first
      | (go_at_call 171
         (with_reducible refine A1.mono ?_)
         rintro e v1 ⟨rfl,r1,o1⟩)
      | (go_at_call 208
         (with_reducible refine (A2.out _ r1).mono ?_)
         rintro e v2 ⟨rfl,r2,o2⟩
         have R2:=R0.og (o1.trans o2) hne
         obtain⟨⟨g0,f0⟩,⟨g1,f1⟩,⟨g2,f2⟩,hfin⟩:=dw R2.out (.string d) (.int .i64 (-1)) (.int .i64 0)))
    have q1:Rd (((v2.setCell ⟨w.heap.size,0,none⟩ (.string d)).setCell ⟨w.heap.size,1,none⟩ (.int .i64 (-1))).setCell ⟨w.heap.size,2,none⟩ (.int .i64 0)) b (bs t) 0:=⟨(uA v2 (by omega) _ _ _).trans r2.out⟩;generalize hW:(((v2.setCell ⟨w.heap.size,0,none⟩ (.string d)).setCell ⟨w.heap.size,1,none⟩ (.int .i64 (-1))).setCell ⟨w.heap.size,2,none⟩ (.int .i64 0))=WF at hfin q1 ⊢;refine bodyPost_ret (v:=.agg #[.string d,.int .i64 (-1),.int .i64 0]) ?_ rfl ⟨rfl,q1,?_⟩
    · exact results_cell_row (p:=2) rfl _ _ w.heap.size 77 #[.string d,.int .i64 (-1),.int .i64 0] (0,0) _ rfl hfin Tryz.underlying77 rfl iJ
    · have Oe:=o1.trans o2
      rw[<- hW];refine⟨Oe.out.os,Oe.out.tape,Oe.out.output,?_,?_⟩
      · rw[size_set,size_set,size_set];exact ((o0.trans Oe)).out.size
      · intro j hj hne2
        rw[uA v2 (by omega) _ _ _];exact (o0.trans Oe).out.block j hj hne2
  · simp only at h1 h2 h4
    subst h1;subst h2;subst h4;have e2:ll ⟨⟨#[]⟩,(p':Int),(l':Int)⟩++t=ae 1++(ae p'++(ae l'++t)):=by unfold ll;rw[aai (by show ¬ (p':Int)<0;omega)];simp
    rw[e2]at k0;have z1:=aP p' (by omega);have z2:=aP l' (by omega);have a1:=rO 1 (by decide) (ae p'++(ae l'++t)) (by simp;omega) 1 (by decide) k0;have a2:=fun W=>@rO p' (by omega) (ae l'++t) (by simp;omega) 16383 (by omega) b W
    have a3:=fun W=>@rO l' (by omega) t (by omega) 65536 (by omega) b W
    have hne:¬ (w.heap.size=b):=by omega
    have u1:IntKind.i64.wrap (p':Int)=(p':Int):=by rw[IntKind.wrap_i64];omega
    have u2:IntKind.i64.wrap (l':Int)=(l':Int):=by rw[IntKind.wrap_i64];omega
    have A1:Calls Tryz.prog 171 #[.pointer (some ⟨b,0,none⟩),.int .u64 1] (w.alloc (.cells #[.string ⟨#[]⟩,.int .i64 0,.int .i64 0] 77)) fun e w'=>e=.returned (.int .u64 1)/\Rd w' b (bs (ae p'++(ae l'++t))) 0/\Og b (w.alloc (.cells #[.string ⟨#[]⟩,.int .i64 0,.int .i64 0] 77)) w':=a1
    have A2:Hid (∀ W,Rd W b (bs (ae p'++(ae l'++t))) 0->Calls Tryz.prog 171 #[.pointer (some ⟨b,0,none⟩),.int .u64 16383] W fun e w'=>e=.returned (.int .u64 p')/\Rd w' b (bs (ae l'++t)) 0/\Og b W w'):=a2;have A3:Hid (∀ W,Rd W b (bs (ae l'++t)) 0->Calls Tryz.prog 171 #[.pointer (some ⟨b,0,none⟩),.int .u64 65536] W fun e w'=>e=.returned (.int .u64 l')/\Rd w' b (bs t) 0/\Og b W w'):=a3;clear a1 a2 a3 k0 k e2;go_enter Tryz.func209,Tryz.ntmps209;go_wp2_with (first
      | (go_at_call 171
         (with_reducible refine A1.mono ?_)
         rintro e v1 ⟨rfl,r1,o1⟩)
      | (go_at_call 171
         (with_reducible refine (A2.out _ r1).mono ?_)
         rintro e v2 ⟨rfl,r2,o2⟩)
      | (go_at_call 171
         (with_reducible refine (A3.out _ r2).mono ?_)
         rintro e v3 ⟨rfl,r3,o3⟩
         have R2:=R0.og ((o1.trans o2).trans o3) hne
         obtain⟨⟨g0,f0⟩,⟨g1,f1⟩,⟨g2,f2⟩,hfin⟩:=dw R2.out (.string ⟨#[]⟩) (.int .i64 p') (.int .i64 l')))
    have q1:Rd (((v3.setCell ⟨w.heap.size,0,none⟩ (.string ⟨#[]⟩)).setCell ⟨w.heap.size,1,none⟩ (.int .i64 p')).setCell ⟨w.heap.size,2,none⟩ (.int .i64 l')) b (bs t) 0:=⟨(uA v3 (by omega) _ _ _).trans r3.out⟩;generalize hW:(((v3.setCell ⟨w.heap.size,0,none⟩ (.string ⟨#[]⟩)).setCell ⟨w.heap.size,1,none⟩ (.int .i64 p')).setCell ⟨w.heap.size,2,none⟩ (.int .i64 l'))=WF at hfin q1 ⊢;refine bodyPost_ret (v:=.agg #[.string ⟨#[]⟩,.int .i64 p',.int .i64 l']) ?_ rfl ⟨rfl,q1,?_⟩
    · exact results_cell_row (p:=2) rfl _ _ w.heap.size 77 #[.string ⟨#[]⟩,.int .i64 p',.int .i64 l'] (0,0) _ rfl hfin Tryz.underlying77 rfl iJ
    · have Oe:=(o1.trans o2).trans o3
      rw[<- hW];refine⟨Oe.out.os,Oe.out.tape,Oe.out.output,?_,?_⟩
      · rw[size_set,size_set,size_set];exact ((o0.trans Oe)).out.size
      · intro j hj hne2
        rw[uA v3 (by omega) _ _ _];exact (o0.trans Oe).out.block j hj hne2
