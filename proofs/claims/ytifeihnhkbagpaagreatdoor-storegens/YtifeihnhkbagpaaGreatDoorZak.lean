/- Joined. -/
import Derived.Test.YtifeihnhkbagpaaGreatDoorZaj
import Derived.Test.YtifeihnhkbagpaaGreatDoorRows
import Derived.WalkKit
import Derived.ProofKit
import Derived.Laws.BitsAllLaws
import Derived.Laws.MathBits
import Derived.Laws.BytesArg
namespace Go.Proofs.YtifeihnhkbagpaaGreatDoor.P
def bs (l:List Nat):ByteArray:=⟨(l.map UInt8.ofNat).toArray⟩
theorem au(l:List Nat):(bs l).size=l.length:=by simp[bs,ByteArray.size]
theorem eU(a b:List Nat):bs a++bs b=bs (a++b):=by
 unfold bs;rw[ByteArray.mk_append_mk];simp
theorem jK(l:List Nat)(a b:Nat):(bs l).extract a b=bs ((l.drop a).take (b-a)):=by
 unfold bs;rw[ByteArray.extract_mk];simp[List.map_drop,List.map_take]
theorem lJ(l:List Nat):(bs l).toList=l.map UInt8.ofNat:=by
 unfold bs;exact ByteArray.toList_mk _
theorem Bh(l:List Nat)(k:Nat)(h:k<(bs l).size):(bs l)[k].toNat=(l.getD k 0) % 256:=by
 have h':k<l.length:=by rw[au]at h;exact h
 have:(bs l)[k]=UInt8.ofNat l[k]:=by
  show (bs l).data[k]'h=_;simp[bs]
 rw[this];simp[List.getD,aae h']
def un (s:ByteArray):List Nat:=s.data.toList.map UInt8.toNat
theorem rH(s:ByteArray):bs (un s)=s:=by
 unfold bs un;simp[List.map_map,Function.comp_def]
theorem dL(s:ByteArray):(un s).length=s.size:=by unfold un ByteArray.size;rw[List.length_map,Array.length_toList]
def Small (l:List Nat):Prop:=∀ x∈l,x<256
theorem xN(s:ByteArray):Small (un s):=by
 intro x hx;simp[un]at hx;obtain⟨a,_,rfl⟩:=hx;exact UInt8.toNat_lt a
variable {l:List Nat}
theorem Small.take(h:Small l)(k:Nat):Small (l.take k):=fun x hx=>h x (aaJ hx)
theorem Small.drop(h:Small l)(k:Nat):Small (l.drop k):=fun x hx=>h x (aaA hx)
variable {a b:List Nat}
theorem Small.append(h:Small a)(k:Small b):Small (a++b):=by
 intro x hx;rcases aav.1 hx with hx | hx
 ·exact h x hx
 ·exact k x hx
theorem Small.getD(h:Small l)(k:Nat):l.getD k 0<256:=by
 rcases Nat.lt_or_ge k l.length with hk | hk
 ·simp[List.getD,aae hk];exact h _ (List.getElem_mem hk)
 ·simp[List.getD,List.getElem?_eq_none hk]
theorem map_inj:∀ {a b:List Nat},Small a->Small b->a.map UInt8.ofNat=b.map UInt8.ofNat->a=b:=by
 intro a;induction a with
 | nil=>intro b _ _ h;cases b with
  | nil=>rfl
  | cons y b=>simp at h
 | cons x a ih=>
  intro b ha hb h;cases b with
  | nil=>simp at h
  | cons y b=>
   simp only[List.map_cons,List.cons.injEq]at h;have hx:=ha x (by simp);have hy:=hb y (by simp);have:x=y:=by
    have:=congrArg UInt8.toNat h.1;simp at this;omega
   rw[this,ih (fun z hz=>ha z (by simp[hz])) (fun z hz=>hb z (by simp[hz])) h.2]
theorem CO(ha:Small a)(hb:Small b):((bs a).toList == (bs b).toList)=decide (a=b):=by
 rw[lJ,lJ];by_cases h:a=b
 ·subst h;simp
 ·have:a.map UInt8.ofNat≠b.map UInt8.ofNat:=fun e=>h (map_inj ha hb e)
  simp[h,this]
def bD (n:Nat):Nat->List Nat
 | 0=>[]
 | k+1=>(n % 256) :: bD (n / 256) k
theorem aQ(k:Nat):∀ n,(bD n k).length=k:=by
 induction k with
 | zero=>intro n;rfl
 | succ k ih=>intro n;simp[bD,ih]
theorem G5(k:Nat):∀ n i,i<k->(bD n k).getD i 0=n / 256 ^ i % 256:=by
 induction k with
 | zero=>intro n i h;omega
 | succ k ih=>
  intro n i h;cases i with
  | zero=>simp[bD]
  | succ i=>rw[bD,List.getD_cons_succ,ih _ i (by omega),Nat.div_div_eq_div_mul,Nat.pow_succ,Nat.mul_comm]
theorem jL(n k:Nat):Small (bD n k):=by
 induction k generalizing n with
 | zero=>intro x hx;simp[bD]at hx
 | succ k ih=>
  intro x hx;rcases aaW.1 hx with rfl | hx
  ·omega
  ·exact ih _ x hx
theorem tN(n p b:Nat):n % (p*b)=n % p+n / p % b*p:=by
 rw[Nat.mod_mul,Nat.mul_comm p]
theorem Bi(a x i:Nat)(h:a<2 ^ i):a ||| x*2 ^ i=a+x*2 ^ i:=by
 have:=Nat.shiftLeft_add_eq_or_of_lt h x;rw[Nat.shiftLeft_eq]at this;rw[Nat.or_comm,<- this,Nat.add_comm]
open ChangeShapes WideShapes ChangeAt RowKit
open Chk
theorem and_one(c:Nat)(h:c<4294967296):bits .and .u32 (c:Int) 1=((c % 2:Nat):Int):=by
 have:=u32_and_nat c 1 h (by omega);rw[nat_mask1]at this;exact this
theorem MH(c:Nat)(h:c<4294967296):bits .xor .u32 (c:Int) 3988292384=((c ^^^ 3988292384:Nat):Int):=
 u32_xor_nat c 3988292384 h (by omega)
theorem CQ(c:Nat)(hc:c<4294967296)(w:World):
 Calls Tryz.prog 229 #[.int .u32 c] w fun e w'=>e=.returned (.int .u32 (S c:Nat))/\w'=w:=by
 have e1:=and_one c hc;by_cases h:c % 2=1
 ·have hS:S c=c / 2 ^^^ 3988292384:=by unfold S;rw[aao h]
  have e2:=MH (c / 2) (by omega);have t:(bits .and .u32 (c:Int) 1 != 0)=true:=by rw[e1,h];rfl
  rw[hS];clear hS e1;go_enter Tryz.func229,Tryz.ntmps229;go_wp2;go_ret;exact⟨by simp[<- e2],rfl⟩
 ·have hS:S c=c / 2:=by unfold S;rw[aai h]
  have t:(bits .and .u32 (c:Int) 1 != 0)=false:=by rw[e1,show c % 2=0 by omega];rfl
  rw[hS];clear hS e1;go_enter Tryz.func229,Tryz.ntmps229;go_wp2;go_ret;exact⟨by simp,rfl⟩
def byte (s:ByteArray) (k:Nat):Nat:=if h:k<s.size then s[k].toNat else 0
variable {k:Nat}
theorem byte_at{s:ByteArray}(h:k<s.size):s[k].toNat=byte s k:=by unfold byte;rw[dif_pos h]
theorem Bj(s:ByteArray)(k:Nat):byte s k<256:=by
 unfold byte;split
 ·exact UInt8.toNat_lt _
 ·omega
def bM:List Nat->Nat
 | []=>0
 | x :: t=>x+256*bM t
theorem G6(h:Small l):bM l<256 ^ l.length:=by
 induction l with
 | nil=>simp[bM]
 | cons x t ih=>
  have h1:=h x (by simp);have h2:=ih (fun y hy=>h y (by simp[hy]));simp only[bM,aau,Nat.pow_succ];omega
theorem JJ(h:Small l):bD (bM l) l.length=l:=by
 induction l with
 | nil=>rfl
 | cons x t ih=>
  have h1:=h x (by simp);have h2:=ih (fun y hy=>h y (by simp[hy]));simp only[bM,aau,bD];rw[show (x+256*bM t) % 256=x by omega,show (x+256*bM t) / 256=bM t by omega,h2]
theorem JK(k:Nat):∀ n,bM (bD n k)=n % 256 ^ k:=by
 induction k with
 | zero=>intro n;simp[bD,bM,Nat.mod_one]
 | succ k ih=>
  intro n;simp only[bD,bM];rw[ih,Nat.pow_succ,Nat.mul_comm (256 ^ k) 256,Nat.mod_mul]
variable {n:Nat}
theorem qV(h:n<256 ^ k):bM (bD n k)=n:=by rw[JK,Nat.mod_eq_of_lt h]
def QP (l:List Nat):Nat:=check (byte (bs l)) (bs l).size
theorem UR(l:List Nat):QP l<4294967296:=MG (Bj (bs l)) _
def iC (k n g:Nat) (l:List Nat):List Nat:=bD k 1++(bD n 4++(bD g 8++(bD l.length 2++(l++List.replicate (237-l.length) 0))))
def iw (k n g:Nat) (l:List Nat):List Nat:=iC k n g l++bD (QP (iC k n g l)) 4
def May (kd nm:Int) (l:List Nat):Prop:=1<=kd/\kd<=4/\0<=nm/\nm<16384/\l.length<=237
def jX (kd nm:Int) (g:Nat) (l:List Nat):List Nat:=
 if 1<=kd/\kd<=4/\0<=nm/\nm<16384/\l.length<=237 then iw kd.toNat nm.toNat g l else []
variable {kd nm:Int}{g:Nat}
theorem qw(h:May kd nm l):jX kd nm g l=iw kd.toNat nm.toNat g l:=by
 unfold jX;exact aao h
theorem CR(h:¬ May kd nm l):jX kd nm g l=[]:=by
 unfold jX;exact aai h
theorem oU(k n g:Nat)(l:List Nat)(h:l.length<=237):(iC k n g l).length=252:=by
 simp only[iC,aah,aQ,aa4];omega
theorem ji(k n g:Nat)(l:List Nat)(h:l.length<=237):(iw k n g l).length=256:=by
 simp only[iw,aah,aQ,oU k n g l h]
theorem CS(k n g:Nat){l:List Nat}(h:Small l):Small (iC k n g l):=by
 refine (jL _ _).append ((jL _ _).append ((jL _ _).append ((jL _ _).append (h.append ?_))));intro x hx;rw[(List.mem_replicate.1 hx).2];decide
theorem vT(k n g:Nat){l:List Nat}(h:Small l):Small (iw k n g l):=(CS k n g h).append (jL _ _)
theorem rW(kd nm:Int)(g:Nat){l:List Nat}(h:Small l):Small (jX kd nm g l):=by
 unfold jX;split
 ·exact vT _ _ _ h
 ·intro x hx;cases hx
theorem CU(kd nm:Int)(g:Nat)(l:List Nat):(jX kd nm g l).length<=256:=by
 unfold jX;split
 ·next h=>rw[ji _ _ _ _ h.2.2.2.2];omega
 ·simp
def dJ (n:Nat) (l:List Nat) (x:Int):List Nat×List Nat×Int:=if n<=l.length then (l.take n,l.drop n,x) else ([],[],2)
def QQ (l:List Nat) (x:Int):Prop:=x=0\/x=2/\l=[]
variable {x x':Int}{m l':List Nat}
theorem gB(h:QQ l x)(e:dJ n l x=(m,l',x')):QQ l' x':=by
 unfold dJ at e;split at e
 ·injection e with e1 e2;injection e2 with e2 e3;subst e1 e2 e3
  rcases h with h | ⟨h,hl⟩
  ·exact .inl h
  ·exact .inr ⟨h,by rw[hl];simp⟩
 ·injection e with e1 e2;injection e2 with e2 e3;subst e1 e2 e3
  exact .inr ⟨rfl,rfl⟩
theorem dh(h:Small l)(e:dJ n l x=(m,l',x')):Small m/\Small l'/\m.length<=n/\m.length<=l.length/\l'.length<=l.length:=by
 unfold dJ at e;split at e
 ·next hn=>
  injection e with e1 e2;injection e2 with e2 e3;subst e1 e2 e3
  exact⟨h.take _,h.drop _,by simp;omega,by simp;omega,by simp⟩
 ·injection e with e1 e2;injection e2 with e2 e3;subst e1 e2 e3
  exact⟨fun x hx=>(by cases hx),fun x hx=>(by cases hx),by simp,by simp,by simp⟩
theorem qz(hx:x'=0)(e:dJ n l x=(m,l',x')):n<=l.length/\x=0/\m=l.take n/\l'=l.drop n:=by
 unfold dJ at e;split at e
 ·next hn=>
  injection e with e1 e2;injection e2 with e2 e3
  exact⟨hn,e3.trans hx,e1.symm,e2.symm⟩
 ·injection e with e1 e2;injection e2 with e2 e3
  rw[hx]at e3;cases e3
theorem qA(h:n<=l.length):dJ n l 0=(l.take n,l.drop n,0):=by unfold dJ;rw[aao h]
def fK (s:List Nat):Nat:=bM (s.take 1)
def fN (s:List Nat):Nat:=bM ((s.drop 1).take 4)
def fG (s:List Nat):Nat:=bM ((s.drop 5).take 8)
def fC (s:List Nat):Nat:=bM ((s.drop 13).take 2)
def fD (s:List Nat):List Nat:=(s.drop 15).take (fC s)
def said (s:List Nat):List Nat:=jX (fK s) (fN s) (fG s) (fD s)
def Ql (s:List Nat):Prop:=15+fC s<=s.length/\s=said s
variable {s m1 l1 m2 l2 m3 l3 m4 l4 m5 l5:List Nat}{x1 x2 x3 x4 x5:Int}
theorem G7(e1:dJ 1 s 0=(m1,l1,x1))(e2:dJ 4 l1 x1=(m2,l2,x2))(e3:dJ 8 l2 x2=(m3,l3,x3))(e4:dJ 2 l3 x3=(m4,l4,x4))(e5:dJ (bM m4) l4 x4=(m5,l5,x5))(h:x5=0) :
  15+fC s<=s.length/\bM m1=fK s/\bM m2=fN s/\bM m3=fG s/\m5=fD s:=by
 obtain⟨n5,h4,rfl,rfl⟩:=qz h e5;obtain⟨n4,h3,rfl,rfl⟩:=qz h4 e4;obtain⟨n3,h2,rfl,rfl⟩:=qz h3 e3;obtain⟨n2,h1,rfl,rfl⟩:=qz h2 e2;obtain⟨n1,_,rfl,rfl⟩:=qz h1 e1;simp only[List.drop_drop,aaw]at n5 n4 n3 n2 ⊢;refine⟨?_,rfl,rfl,rfl,rfl⟩;have n5':fC s<=_:=n5;omega
theorem get_none(e1:dJ 1 s 0=(m1,l1,x1))(e2:dJ 4 l1 x1=(m2,l2,x2))(e3:dJ 8 l2 x2=(m3,l3,x3))(e4:dJ 2 l3 x3=(m4,l4,x4))(e5:dJ (bM m4) l4 x4=(m5,l5,x5))(h:x5≠0) :
  ¬ 15+fC s<=s.length:=by
 intro hs;rw[qA (by omega)]at e1;injection e1 with a1 b1;injection b1 with b1 c1;subst a1 b1 c1
 rw[qA (by simp;omega)]at e2;injection e2 with a1 b1;injection b1 with b1 c1;subst a1 b1 c1
 rw[qA (by simp;omega)]at e3;injection e3 with a1 b1;injection b1 with b1 c1;subst a1 b1 c1
 rw[qA (by simp;omega)]at e4;injection e4 with a1 b1;injection b1 with b1 c1;subst a1 b1 c1
 simp only[List.drop_drop]at e5;rw[qA (by unfold fC at hs;simp;omega)]at e5;injection e5 with a1 b1;injection b1 with b1 c1
 exact h c1.symm
theorem QR(s:List Nat):Ql s↔s.length=256/\fC s<=237/\said s=s:=by
 constructor
 ·rintro⟨h1,h2⟩
  by_cases hm:May (fK s) (fN s) (fD s)
  ·have hd:(fD s).length<=237:=hm.2.2.2.2
   have hl:(fD s).length=fC s:=by unfold fD;rw[aam,aaw];omega
   refine⟨?_,by omega,h2.symm⟩;have h3:said s=iw _ _ _ _:=qw hm;rw[h2,h3];exact ji _ _ _ _ hd
  ·have h3:said s=[]:=CR hm
   rw[h3]at h2;rw[h2]at h1;simp at h1
 ·rintro⟨h1,h2,h3⟩
  exact⟨by omega,h3.symm⟩
theorem qC(h:a.length=n):(a++b).take n=a:=by rw[<- h];simp
theorem tO(h:a.length=n):(a++b).drop n=b:=by rw[<- h];simp
theorem JL(k n g:Nat)(l:List Nat)(hk:k<256)(hn:n<4294967296)(hg:g<18446744073709551616)(hl:l.length<=237) :
  fK (iw k n g l)=k/\fN (iw k n g l)=n/\fG (iw k n g l)=g/\fC (iw k n g l)=l.length/\fD (iw k n g l)=l:=by
 have e:iw k n g l=bD k 1++(bD n 4++(bD g 8++(bD l.length 2++(l++(List.replicate (237-l.length) 0++bD (QP (iC k n g l)) 4))))):=by
  unfold iw;conv=>lhs;lhs;unfold iC
  simp only[aap]
 generalize List.replicate (237-l.length) 0++bD (QP (iC k n g l)) 4=r at e;have d1:(iw k n g l).drop 1=bD n 4++(bD g 8++(bD l.length 2++(l++r))):=by rw[e,tO (aQ 1 k)]
 have d5:(iw k n g l).drop 5=bD g 8++(bD l.length 2++(l++r)):=by
  rw[show 5=1+4 from rfl,<- List.drop_drop,d1,tO (aQ 4 n)]
 have d13:(iw k n g l).drop 13=bD l.length 2++(l++r):=by
  rw[show 13=5+8 from rfl,<- List.drop_drop,d5,tO (aQ 8 g)]
 have d15:(iw k n g l).drop 15=l++r:=by
  rw[show 15=13+2 from rfl,<- List.drop_drop,d13,tO (aQ 2 _)]
 have hc:fC (iw k n g l)=l.length:=by
  unfold fC;rw[d13,qC (aQ 2 _)];exact qV (by omega)
 refine⟨?_,?_,?_,hc,?_⟩
 ·unfold fK;rw[e,qC (aQ 1 k)];exact qV (by omega)
 ·unfold fN;rw[d1,qC (aQ 4 n)];exact qV (by omega)
 ·unfold fG;rw[d5,qC (aQ 8 g)];exact qV (by omega)
 ·unfold fD;rw[hc,d15,qC rfl]
theorem CV(kd nm:Int)(g:Nat)(l:List Nat)(hm:May kd nm l)(hg:g<18446744073709551616) :
  Ql (jX kd nm g l)/\(fK (jX kd nm g l):Int)=kd/\(fN (jX kd nm g l):Int)=nm/\fG (jX kd nm g l)=g/\fD (jX kd nm g l)=l:=by
 have e:=qw (g:=g) hm;obtain⟨h1,h2,h3,h4,h5⟩:=hm;obtain⟨a,b,c,d,f⟩:=JL kd.toNat nm.toNat g l (by omega) (by omega) hg h5;have a':(fK (jX kd nm g l):Int)=kd:=by rw[e,a];omega
 have b':(fN (jX kd nm g l):Int)=nm:=by rw[e,b];omega
 have c':fG (jX kd nm g l)=g:=by rw[e,c]
 have f':fD (jX kd nm g l)=l:=by rw[e,f]
 refine⟨⟨?_,?_⟩,a',b',c',f'⟩
 ·rw[e,d,ji _ _ _ _ h5];omega
 ·unfold said;rw[a',b',c',f']
theorem JM:¬ Ql []:=fun h=>by have:=h.1;simp at this
def qD:Nat->Nat->List Nat
 | 0,_=>[]
 | f+1,n=>if n<128 then [n] else (128+n % 128) :: qD f (n / 128)
theorem vk:∀ (f g n:Nat),n<f->n<g->qD f n=qD g n:=by
 intro f;induction f with
 | zero=>intro g n h;omega
 | succ f ih=>
  intro g n h1 h2;cases g with
  | zero=>omega
  | succ g=>
   rw[qD,qD];by_cases h:n<128
   ·rw[aao h,aao h]
   ·rw[aai h,aai h,ih g (n / 128) (by omega) (by omega)]
def ae (n:Nat):List Nat:=qD (n+1) n
theorem aK(h:n<128):ae n=[n]:=by rw[ae,qD,aao h]
theorem bu(h:¬ n<128):ae n=(128+n % 128) :: ae (n / 128):=by
 rw[ae,qD,aai h,ae,vk n (n / 128+1) (n / 128) (by omega) (by omega)]
theorem xO(n:Nat):Small (ae n):=by
 induction n using Nat.strongRecOn with
 | _ n ih=>
  by_cases h:n<128
  ·rw[aK h];intro x hx;simp at hx;omega
  ·rw[bu h];intro x hx
   rcases aaW.1 hx with rfl | hx
   ·omega
   ·exact ih (n / 128) (by omega) x hx
theorem gD(k:Nat):∀ n,n<128 ^ (k+1)->(ae n).length<=k+1:=by
 induction k with
 | zero=>intro n h;rw[aK (by simpa using h)];simp
 | succ k ih=>
  intro n h;by_cases h1:n<128
  ·rw[aK h1];simp
  ·rw[bu h1]
   have:=ih (n / 128) (by rw[Nat.pow_succ]at h;omega);simp;omega
theorem lU(n:Nat)(h:n<18446744073709551616):(ae n).length<=10:=gD 9 n (by omega)
theorem tQ(n:Nat):ae n≠[]:=by
 by_cases h:n<128
 ·rw[aK h];simp
 ·rw[bu h];simp
theorem MI(m i c:Nat)(h:m / 128 % 128 ^ (i+1)=m / 128 % 128 ^ i+c*128 ^ i):m % 128 ^ (i+2)=m % 128 ^ (i+1)+c*128 ^ (i+1):=by
 have e:∀ k,m % 128 ^ (k+1)=m % 128+128*(m / 128 % 128 ^ k):=fun k=>by
  rw[Nat.pow_succ,Nat.mul_comm (128 ^ k) 128,Nat.mod_mul]
 rw[show i+2=(i+1)+1 from rfl,e (i+1),e i,h,Nat.pow_succ,Nat.mul_add,<- Nat.add_assoc];congr 1;rw[Nat.mul_comm (128 ^ i) 128,Nat.mul_left_comm]
theorem xP(i:Nat):∀ m,i<(ae m).length ->
  m % 128 ^ (i+1)=m % 128 ^ i+(ae m).getD i 0 % 128*128 ^ i /\
  ((ae m).getD i 0<128->i+1=(ae m).length/\m % 128 ^ (i+1)=m/\(i=0\/(ae m).getD i 0≠0)) /\
  (¬ (ae m).getD i 0<128->i+1<(ae m).length):=by
 induction i with
 | zero=>
  intro m _;by_cases h:m<128
  ·rw[aK h]
   simp[Nat.mod_one];omega
  ·rw[bu h]
   have:=tQ (m / 128);have hl:0<(ae (m / 128)).length:=by cases hq:ae (m / 128) with
    | nil=>exact absurd hq this
    | cons _ _=>simp
   simp[Nat.mod_one];omega
 | succ i ih=>
  intro m hi;by_cases h:m<128
  ·rw[aK h]at hi;simp at hi
  ·rw[bu h]at hi ⊢
   simp only[aau]at hi ⊢;obtain⟨a,b,c⟩:=ih (m / 128) (by omega);have e:((128+m % 128) :: ae (m / 128)).getD (i+1) 0=(ae (m / 128)).getD i 0:=by simp[List.getD]
   rw[e];refine⟨MI m i _ a,fun hc=>?_,fun hc=>by have:=c hc;omega⟩;obtain⟨b1,b2,b3⟩:=b hc;refine⟨by omega,?_,Or.inr ?_⟩
   ·rw[show i+1+1=(i+1)+1 from rfl,Nat.pow_succ,Nat.mul_comm (128 ^ (i+1)) 128,Nat.mod_mul,b2];omega
   ·rcases b3 with rfl | b3
    ·intro h0
     have:m / 128<128:=by
      by_cases h2:m / 128<128
      ·exact h2
      ·rw[bu h2]at h0;simp at h0
     rw[aK this]at h0;simp at h0;omega
    ·exact b3
theorem QS{a b:Nat}(h:ae a=ae b):a=b:=by
 have key:∀ a,a % 128 ^ (ae a).length=a:=by
  intro a;induction a using Nat.strongRecOn with
  | _ a ih=>
   by_cases h:a<128
   ·rw[aK h];simp;omega
   ·rw[bu h,aau,Nat.pow_succ,Nat.mul_comm _ 128,Nat.mod_mul,ih (a / 128) (by omega)];omega
 have pre:∀ i,i<=(ae a).length->a % 128 ^ i=b % 128 ^ i:=by
  intro i;induction i with
  | zero=>intro _;simp[Nat.mod_one]
  | succ i ih=>
   intro hi;rw[(xP i a (by omega)).1,(xP i b (by rw[<- h];omega)).1,ih (by omega),h]
 have:=pre _ (aac _);rwa [key a,h,key b]at this
theorem xQ{m:Nat}(h:m<=16384):(ae m).length<=3:=gD 2 m (by omega)
def oV (g:Nat) (r:Int):Prop:=1<=g/\g<4611686018427387904/\-1<=r/\r<16384
def fZ (g:Nat) (r:Int):List Nat:=iw 1 (g % 2) g (ae (r+1).toNat)
variable {r:Int}
theorem xR(h:oV g r):(ae (r+1).toNat).length<=237:=by
 obtain⟨_,_,h3,h4⟩:=h;have:=xQ (m:=(r+1).toNat) (by omega);omega
theorem CW(h:oV g r):jX 1 ((g % 2:Nat):Int) g (ae (r+1).toNat)=fZ g r:=by
 have:=xR h;rw[qw ⟨by omega,by omega,by omega,by omega,this⟩];rfl
theorem rX(g:Nat)(r:Int):Small (fZ g r):=vT _ _ _ (xO _)
theorem vU(h:oV g r):(fZ g r).length=256:=ji _ _ _ _ (xR h)
theorem nQ(h:oV g r):Ql (fZ g r)/\fK (fZ g r)=1/\fG (fZ g r)=g/\fD (fZ g r)=ae (r+1).toNat:=by
 have hl:=xR h;have hg:g<18446744073709551616:=by have:=h.2.1;omega
 obtain⟨a,b,c,d,f⟩:=CV 1 ((g % 2:Nat):Int) g (ae (r+1).toNat) ⟨by omega,by omega,by omega,by omega,hl⟩ hg;rw[CW h]at a b c d f;exact⟨a,by omega,d,f⟩
theorem MJ{t:Int}(h:oV g r)(h2:oV k t)(e:fZ g r=fZ k t):g=k/\r=t:=by
 obtain⟨_,_,a,b⟩:=nQ h;obtain⟨_,_,c,d⟩:=nQ h2;rw[e]at a b;refine⟨by rw[<- a,c],?_⟩;have:=QS (b.symm.trans d);have h3:=h.2.2.1;have h4:=h2.2.2.1;omega
end Go.Proofs.YtifeihnhkbagpaaGreatDoor.P
namespace Go.Proofs.YtifeihnhkbagpaaGreatDoor.N
def bs (l:List Nat):ByteArray:=⟨(l.map UInt8.ofNat).toArray⟩
theorem au(l:List Nat):(bs l).size=l.length:=by simp[bs,ByteArray.size]
theorem eU(a b:List Nat):bs a++bs b=bs (a++b):=by
 unfold bs;rw[ByteArray.mk_append_mk];simp
theorem jK(l:List Nat)(a b:Nat):(bs l).extract a b=bs ((l.drop a).take (b-a)):=by
 unfold bs;rw[ByteArray.extract_mk];simp[List.map_drop,List.map_take]
theorem lJ(l:List Nat):(bs l).toList=l.map UInt8.ofNat:=by
 unfold bs;exact ByteArray.toList_mk _
theorem Bh(l:List Nat)(k:Nat)(h:k<(bs l).size):(bs l)[k].toNat=(l.getD k 0) % 256:=by
 have h':k<l.length:=by rw[au]at h;exact h
 have:(bs l)[k]=UInt8.ofNat l[k]:=by
  show (bs l).data[k]'h=_;simp[bs]
 rw[this];simp[List.getD,aae h']
def un (s:ByteArray):List Nat:=s.data.toList.map UInt8.toNat
theorem rH(s:ByteArray):bs (un s)=s:=by
 unfold bs un;simp[List.map_map,Function.comp_def]
theorem dL(s:ByteArray):(un s).length=s.size:=by unfold un ByteArray.size;rw[List.length_map,Array.length_toList]
def Small (l:List Nat):Prop:=∀ x∈l,x<256
theorem xN(s:ByteArray):Small (un s):=by
 intro x hx;simp[un]at hx;obtain⟨a,_,rfl⟩:=hx;exact UInt8.toNat_lt a
variable {l:List Nat}
theorem Small.take(h:Small l)(k:Nat):Small (l.take k):=fun x hx=>h x (aaJ hx)
theorem Small.drop(h:Small l)(k:Nat):Small (l.drop k):=fun x hx=>h x (aaA hx)
variable {a b:List Nat}
theorem Small.append(h:Small a)(k:Small b):Small (a++b):=by
 intro x hx;rcases aav.1 hx with hx | hx
 ·exact h x hx
 ·exact k x hx
theorem Small.getD(h:Small l)(k:Nat):l.getD k 0<256:=by
 rcases Nat.lt_or_ge k l.length with hk | hk
 ·simp[List.getD,aae hk];exact h _ (List.getElem_mem hk)
 ·simp[List.getD,List.getElem?_eq_none hk]
def qD:Nat->Nat->List Nat
 | 0,_=>[]
 | f+1,n=>if n<128 then [n] else (128+n % 128) :: qD f (n / 128)
theorem vk:∀ (f g n:Nat),n<f->n<g->qD f n=qD g n:=by
 intro f;induction f with
 | zero=>intro g n h;omega
 | succ f ih=>
  intro g n h1 h2;cases g with
  | zero=>omega
  | succ g=>
   rw[qD,qD];by_cases h:n<128
   ·rw[aao h,aao h]
   ·rw[aai h,aai h,ih g (n / 128) (by omega) (by omega)]
def ae (n:Nat):List Nat:=qD (n+1) n
variable {n:Nat}
theorem aK(h:n<128):ae n=[n]:=by rw[ae,qD,aao h]
theorem bu(h:¬ n<128):ae n=(128+n % 128) :: ae (n / 128):=by
 rw[ae,qD,aai h,ae,vk n (n / 128+1) (n / 128) (by omega) (by omega)]
theorem xO(n:Nat):Small (ae n):=by
 induction n using Nat.strongRecOn with
 | _ n ih=>
  by_cases h:n<128
  ·rw[aK h];intro x hx;simp at hx;omega
  ·rw[bu h];intro x hx
   rcases aaW.1 hx with rfl | hx
   ·omega
   ·exact ih (n / 128) (by omega) x hx
theorem gD(k:Nat):∀ n,n<128 ^ (k+1)->(ae n).length<=k+1:=by
 induction k with
 | zero=>intro n h;rw[aK (by simpa using h)];simp
 | succ k ih=>
  intro n h;by_cases h1:n<128
  ·rw[aK h1];simp
  ·rw[bu h1]
   have:=ih (n / 128) (by rw[Nat.pow_succ]at h;omega);simp;omega
theorem lU(n:Nat)(h:n<18446744073709551616):(ae n).length<=10:=gD 9 n (by omega)
theorem tQ(n:Nat):ae n≠[]:=by
 by_cases h:n<128
 ·rw[aK h];simp
 ·rw[bu h];simp
theorem map_inj:∀ {a b:List Nat},Small a->Small b->a.map UInt8.ofNat=b.map UInt8.ofNat->a=b:=by
 intro a;induction a with
 | nil=>intro b _ _ h;cases b with
  | nil=>rfl
  | cons y b=>simp at h
 | cons x a ih=>
  intro b ha hb h;cases b with
  | nil=>simp at h
  | cons y b=>
   simp only[List.map_cons,List.cons.injEq]at h;have hx:=ha x (by simp);have hy:=hb y (by simp);have:x=y:=by
    have:=congrArg UInt8.toNat h.1;simp at this;omega
   rw[this,ih (fun z hz=>ha z (by simp[hz])) (fun z hz=>hb z (by simp[hz])) h.2]
theorem CO(ha:Small a)(hb:Small b):((bs a).toList == (bs b).toList)=decide (a=b):=by
 rw[lJ,lJ];by_cases h:a=b
 ·subst h;simp
 ·have:a.map UInt8.ofNat≠b.map UInt8.ofNat:=fun e=>h (map_inj ha hb e)
  simp[h,this]
def bD (n:Nat):Nat->List Nat
 | 0=>[]
 | k+1=>(n % 256) :: bD (n / 256) k
theorem aQ(k:Nat):∀ n,(bD n k).length=k:=by
 induction k with
 | zero=>intro n;rfl
 | succ k ih=>intro n;simp[bD,ih]
theorem G5(k:Nat):∀ n i,i<k->(bD n k).getD i 0=n / 256 ^ i % 256:=by
 induction k with
 | zero=>intro n i h;omega
 | succ k ih=>
  intro n i h;cases i with
  | zero=>simp[bD]
  | succ i=>rw[bD,List.getD_cons_succ,ih _ i (by omega),Nat.div_div_eq_div_mul,Nat.pow_succ,Nat.mul_comm]
theorem jL(n k:Nat):Small (bD n k):=by
 induction k generalizing n with
 | zero=>intro x hx;simp[bD]at hx
 | succ k ih=>
  intro x hx;rcases aaW.1 hx with rfl | hx
  ·omega
  ·exact ih _ x hx
theorem tN(n p b:Nat):n % (p*b)=n % p+n / p % b*p:=by
 rw[Nat.mod_mul,Nat.mul_comm p]
theorem Bi(a x i:Nat)(h:a<2 ^ i):a ||| x*2 ^ i=a+x*2 ^ i:=by
 have:=Nat.shiftLeft_add_eq_or_of_lt h x;rw[Nat.shiftLeft_eq]at this;rw[Nat.or_comm,<- this,Nat.add_comm]
