/- Joined. -/
import Derived.Test.YtafgecaeiodmiaaGreatDoorZaz
namespace Go.Proofs.YtafgecaeiodmiaaGreatDoor.N
open Go.ChangeShapes Go.WideShapes Go.ChangeAt Go.RowKit
theorem num_pos(n:Nat):1≤(numL n).length:=by
 have:=numL_ne n;cases h:numL n with
 | nil=>exact absurd h this
 | cons a b=>simp
theorem sz_pos(x:Nd)(i:Nat):1≤x.sz i:=by
 unfold Nd.sz Nd.item keyN;have:=num_pos (x.ks[i]?.getD ⟨#[]⟩).size;rw[List.length_append,List.length_append];omega
theorem sz_inner{x:Nd}(g:Good x)(h:x.leaf=false){i:Nat}(hi:i<x.ks.length):x.sz i≤68:=by
 unfold Nd.sz Nd.item;rw[if_neg (by rw[h];decide),List.length_append];obtain⟨k,hk⟩:∃ k,x.ks[i]? = some k:=⟨_,List.getElem?_eq_getElem hi⟩;obtain⟨v,hv⟩:∃ v,x.is[i+1]? = some v:=⟨_,List.getElem?_eq_getElem (by have:=(g.li h).1;omega)⟩;obtain⟨q,rfl,hq⟩:=g.ik v (List.mem_of_getElem? hv);rw[hk,hv];have a:=keyN_length k (g.small k (List.mem_of_getElem? hk));have b:=num_small q (by omega);simp only[Option.getD_some,Int.toNat_natCast];omega
theorem gr_one{x:Nd}(g:Good x)(h:237<x.put.length):x.gr 1<x.gr 0:=by
 have hn:=great_few g h;rw[put_len]at h;have hh:=head_length g;have t1:x.tot 1=x.sz 0:=by rw[Nd.tot_succ,Nd.tot_zero,Nat.zero_add]
 have t2:x.tot 2=x.sz 0+x.sz 1:=by rw[Nd.tot_succ,t1]
 have m2:=x.tot_mono (show 2≤x.ks.length by omega);have p0:=sz_pos x 0;have p1:=sz_pos x 1;cases hl:x.leaf with
 | true=>
  rw[Nd.gr_leaf hl,Nd.gr_leaf hl,t1,Nd.tot_zero];omega
 | false=>
  have q0:=sz_inner g hl (show 0<x.ks.length by omega);rw[Nd.gr_inner hl,Nd.gr_inner hl,t1,t2,Nd.tot_zero];omega
theorem Mid.up{x:Nd}{m:Nat}(g:Good x)(h:237<x.put.length)(hm:Mid x 0 m):Mid x 1 m:=by
 have hn:=great_few g h;have h1:=gr_one g h;have h0:m≠0:=by
  rintro rfl;have:=hm.after 1 (by omega) (by omega);omega
 exact⟨by omega,hm.lt,fun j _ h=>hm.before j (Nat.zero_le _) h,hm.after⟩
theorem Mid.all{x:Nd}{m:Nat}(hm:Mid x 0 m){j:Nat}(hj:j<x.ks.length):x.gr m≤x.gr j:=by
 by_cases h:j<m
 ·exact Nat.le_of_lt (hm.before j (Nat.zero_le _) h)
 ·exact hm.after j (by omega) hj
theorem fst_leaf{x:Nd}(h:x.leaf=true)(m:Nat):x.fst m=⟨true,x.ks.take m,x.vs.take m,[]⟩:=by unfold Nd.fst;rw[if_pos h]
theorem snd_leaf{x:Nd}(h:x.leaf=true)(m:Nat):x.snd m=⟨true,x.ks.drop m,x.vs.drop m,[]⟩:=by unfold Nd.snd;rw[if_pos h]
theorem fst_inner{x:Nd}(h:x.leaf=false)(m:Nat):x.fst m=⟨false,x.ks.take m,[],x.is.take (m+1)⟩:=by unfold Nd.fst;rw[if_neg (by rw[h];decide)]
theorem snd_inner{x:Nd}(h:x.leaf=false)(m:Nat):x.snd m=⟨false,x.ks.drop (m+1),[],x.is.drop (m+1)⟩:=by unfold Nd.snd;rw[if_neg (by rw[h];decide)]
theorem back_leaf{x:Nd}(g:Good x)(h:x.leaf=true)(m:Nat):(⟨true,(x.fst m).ks++(x.snd m).ks,(x.fst m).vs++(x.snd m).vs,[]⟩:Nd)=x:=by
 rw[fst_leaf h,snd_leaf h];simp only[List.take_append_drop];obtain⟨l,ks,vs,is⟩:=x;simp only at h;subst h;have:=(g.lv rfl).2;simp only at this;subst this;rfl
theorem back_inner{x:Nd}(g:Good x)(h:x.leaf=false){m:Nat}{key:ByteArray}(hk:x.ks[m]? = some key):(⟨false,(x.fst m).ks++([key]++(x.snd m).ks),[],(x.fst m).is++(x.snd m).is⟩:Nd)=x:=by
 rw[fst_inner h,snd_inner h];simp only[List.take_append_drop];have e:x.ks.take m++([key]++x.ks.drop (m+1))=x.ks:=by
  have e1:x.ks.take (m+1)=x.ks.take m++[key]:=by rw[List.take_add_one,hk];rfl
  rw[← List.append_assoc,← e1,List.take_append_drop]
 rw[e];obtain⟨l,ks,vs,is⟩:=x;simp only at h;subst h;have:=(g.li rfl).2;simp only at this;subst this;rfl
theorem fst_good{x:Nd}(g:Good x){m:Nat}(hm:m<x.ks.length):Good (x.fst m):=by
 have hf:=g.few;cases h:x.leaf with
 | true=>
  rw[fst_leaf h];have hv:=(g.lv h).1;refine⟨?_,fun k hk=>g.small k (List.mem_of_mem_take hk),fun _=>⟨?_,rfl⟩,(fun e=>by cases e),fun v hv=>g.ok v (List.mem_of_mem_take hv),(fun i hi=>by cases hi)⟩
  ·show (x.ks.take m).length≤120;rw[List.length_take];omega
  ·show (x.vs.take m).length=(x.ks.take m).length;rw[List.length_take,List.length_take,hv]
 | false=>
  rw[fst_inner h];have hv:=(g.li h).1;refine⟨?_,fun k hk=>g.small k (List.mem_of_mem_take hk),(fun e=>by cases e),fun _=>⟨?_,rfl⟩,(fun i hi=>by cases hi),fun v hv=>g.ik v (List.mem_of_mem_take hv)⟩
  ·show (x.ks.take m).length≤120;rw[List.length_take];omega
  ·show (x.is.take (m+1)).length=(x.ks.take m).length+1;rw[List.length_take,List.length_take,hv];omega
theorem snd_good{x:Nd}(g:Good x){m:Nat}(hm:m<x.ks.length):Good (x.snd m):=by
 have hf:=g.few;cases h:x.leaf with
 | true=>
  rw[snd_leaf h];have hv:=(g.lv h).1;refine⟨?_,fun k hk=>g.small k (List.mem_of_mem_drop hk),fun _=>⟨?_,rfl⟩,(fun e=>by cases e),fun v hv=>g.ok v (List.mem_of_mem_drop hv),(fun i hi=>by cases hi)⟩
  ·show (x.ks.drop m).length≤120;rw[List.length_drop];omega
  ·show (x.vs.drop m).length=(x.ks.drop m).length;rw[List.length_drop,List.length_drop,hv]
 | false=>
  rw[snd_inner h];have hv:=(g.li h).1;refine⟨?_,fun k hk=>g.small k (List.mem_of_mem_drop hk),(fun e=>by cases e),fun _=>⟨?_,rfl⟩,(fun i hi=>by cases hi),fun v hv=>g.ik v (List.mem_of_mem_drop hv)⟩
  ·show (x.ks.drop (m+1)).length≤120;rw[List.length_drop];omega
  ·show (x.is.drop (m+1)).length=(x.ks.drop (m+1)).length+1;rw[List.length_drop,List.length_drop,hv];omega
theorem fst_tot{x:Nd}(m:Nat):∀ i,i≤m→(x.fst m).tot i=x.tot i:=by
 have item:∀ i,i<m→(x.fst m).sz i=x.sz i:=by
  intro i hi;unfold Nd.sz Nd.item;cases h:x.leaf with
  | true=>
   rw[fst_leaf h];simp only[List.getElem?_take,if_pos hi,if_true]
  | false=>
   rw[fst_inner h];simp only[List.getElem?_take,if_pos hi,if_pos (show i+1<m+1 by omega),Bool.false_eq_true,if_false]
 intro i;induction i with
 | zero=>intro _;rfl
 | succ i ih=>
  intro hi;rw[Nd.tot_succ,Nd.tot_succ,ih (by omega),item i (by omega)]
theorem snd_tot_leaf{x:Nd}(h:x.leaf=true)(m:Nat):∀ i,(x.snd m).tot i+x.tot m=x.tot (m+i):=by
 have item:∀ i,(x.snd m).sz i=x.sz (m+i):=by
  intro i;unfold Nd.sz Nd.item;rw[snd_leaf h];simp only[List.getElem?_drop,h,if_true]
 intro i;induction i with
 | zero=>rw[Nd.tot_zero,Nat.zero_add];rfl
 | succ i ih=>rw[Nd.tot_succ,item,← Nat.add_assoc,Nd.tot_succ,← ih];omega
theorem snd_tot_inner{x:Nd}(h:x.leaf=false)(m:Nat):∀ i,(x.snd m).tot i+x.tot (m+1)=x.tot (m+1+i):=by
 have item:∀ i,(x.snd m).sz i=x.sz (m+1+i):=by
  intro i;unfold Nd.sz Nd.item;rw[snd_inner h];simp only[List.getElem?_drop,h,Nat.add_assoc,Bool.false_eq_true,if_false]
 intro i;induction i with
 | zero=>rw[Nd.tot_zero,Nat.zero_add,Nat.add_zero]
 | succ i ih=>
  have e:=Nd.tot_succ x (m+1+i);rw[Nd.tot_succ (x.snd m),item,← Nat.add_assoc,e,← ih];omega
theorem head_four{x:Nd}(g:Good x):x.head.length≤4:=by
 unfold Nd.head;have h1:(numL x.ks.length).length=1:=by rw[numL_last (by have:=g.few;omega)];rfl
 rw[List.length_append,h1];cases h:x.leaf with
 | true=>simp
 | false=>
  obtain⟨v,hv⟩:∃ v,x.is[0]? = some v:=⟨_,List.getElem?_eq_getElem (by have:=(g.li h).1;omega)⟩;obtain⟨q,rfl,hq⟩:=g.ik v (List.mem_of_getElem? hv);have b:=num_small q (by omega);rw[hv,if_neg (by decide)];simp only[Option.getD_some,Int.toNat_natCast];omega
theorem parts_fit{x:Nd}(g:Good x){m:Nat}(hm:Mid x 0 m)(hT:x.tot x.ks.length≤351):(x.fst m).put.length≤237∧(x.snd m).put.length≤237:=by
 have hgr:x.gr m≤233:=by
  by_cases hs:x.tot x.ks.length≤233
  ·have:=x.gr_le (i:=m) (Nat.le_of_lt hm.lt)
   omega
  ·have fnd:∀ k,x.tot x.ks.length-233≤x.tot k→∃ j,1≤j∧j≤k∧x.tot x.ks.length-233≤x.tot j∧x.tot (j-1)<x.tot x.ks.length-233:=by
    intro k;induction k with
    | zero=>intro h;rw[Nd.tot_zero]at h;omega
    | succ k ih=>
     intro h;by_cases h2:x.tot x.ks.length-233≤x.tot k
     ·obtain⟨j,a,b,c⟩:=ih h2
      exact⟨j,a,by omega,c⟩
     ·exact⟨k+1,by omega,Nat.le_refl _,h,(by show x.tot k<x.tot x.ks.length-233;omega)⟩
   obtain⟨j,h1,h2,h3,h4⟩:=fnd x.ks.length (by omega);obtain⟨i,rfl⟩:∃ i,j=i+1:=⟨j-1,by omega⟩;rw[Nat.add_sub_cancel]at h4;have h5:x.sz i≤115:=item_length g i (by omega);have h6:=x.tot_succ i;have h7:i+1≠x.ks.length:=by intro e;rw[e]at h6;omega
   have h8:=hm.all (show i+1<x.ks.length by omega);have h9:=x.tot_mono (show i+1≤i+1+1 by omega);cases hl:x.leaf with
   | true=>rw[Nd.gr_leaf hl (i+1)]at h8;omega
   | false=>rw[Nd.gr_inner hl (i+1)]at h8;omega
 have ga:=fst_good g hm.lt;have gb:=snd_good g hm.lt;have ha:=head_four ga;have hb:=head_four gb;rw[put_len,put_len];cases hl:x.leaf with
 | true=>
  have la:(x.fst m).ks.length=m:=by rw[fst_leaf hl];show (x.ks.take m).length=m;rw[List.length_take];have:=hm.lt;omega
  have lb:(x.snd m).ks.length=x.ks.length-m:=by rw[snd_leaf hl];exact List.length_drop
  have t1:=fst_tot (x:=x) m m (Nat.le_refl _);have t2:=snd_tot_leaf hl m (x.ks.length-m);rw[show m+(x.ks.length-m)=x.ks.length by have:=hm.lt;omega]at t2;rw[Nd.gr_leaf hl]at hgr;rw[la,lb];omega
 | false=>
  have la:(x.fst m).ks.length=m:=by rw[fst_inner hl];show (x.ks.take m).length=m;rw[List.length_take];have:=hm.lt;omega
  have lb:(x.snd m).ks.length=x.ks.length-(m+1):=by rw[snd_inner hl];exact List.length_drop
  have t1:=fst_tot (x:=x) m m (Nat.le_refl _);have t2:=snd_tot_inner hl m (x.ks.length-(m+1));rw[show m+1+(x.ks.length-(m+1))=x.ks.length by have:=hm.lt;omega]at t2;rw[Nd.gr_inner hl]at hgr;rw[la,lb];omega
def ksum (ks:List ByteArray):Nat:=(ks.map fun k=>(keyN k).length).sum
def vsum (vs:List Vl):Nat:=(vs.map fun v=>(valN v).length).sum
def isum (is:List Int):Nat:=(is.map fun i=>(numL i.toNat).length).sum
theorem ksum_app(a b:List ByteArray):ksum (a++b)=ksum a+ksum b:=by unfold ksum;rw[List.map_append,List.sum_append_nat]
theorem vsum_app(a b:List Vl):vsum (a++b)=vsum a+vsum b:=by unfold vsum;rw[List.map_append,List.sum_append_nat]
theorem isum_app(a b:List Int):isum (a++b)=isum a+isum b:=by unfold isum;rw[List.map_append,List.sum_append_nat]
theorem ksum_one(a:ByteArray):ksum [a]=(keyN a).length:=by simp[ksum]
theorem vsum_one(a:Vl):vsum [a]=(valN a).length:=by simp[vsum]
theorem isum_one(a:Int):isum [a]=(numL a.toNat).length:=by simp[isum]
theorem tot_leaf{x:Nd}(hl:x.leaf=true)(hv:x.vs.length=x.ks.length):∀ i,i≤x.ks.length→x.tot i=ksum (x.ks.take i)+vsum (x.vs.take i):=by
 intro i;induction i with
 | zero=>intro _;rfl
 | succ i ih=>
  intro hi;have h1:x.ks[i]? = some x.ks[i]:=List.getElem?_eq_getElem (by omega);have h2:x.vs[i]? = some (x.vs[i]'(by omega)):=List.getElem?_eq_getElem (by omega);rw[Nd.tot_succ,ih (by omega),List.take_add_one,List.take_add_one,h1,h2,Option.toList_some,Option.toList_some,ksum_app,vsum_app,ksum_one,vsum_one];unfold Nd.sz Nd.item;rw[if_pos hl,h1,h2,List.length_append,Option.getD_some,Option.getD_some];omega
theorem tot_inner{x:Nd}(hl:x.leaf=false)(hv:x.is.length=x.ks.length+1):∀ i,i≤x.ks.length→x.tot i=ksum (x.ks.take i)+isum ((x.is.drop 1).take i):=by
 intro i;induction i with
 | zero=>intro _;rfl
 | succ i ih=>
  intro hi;have h1:x.ks[i]? = some x.ks[i]:=List.getElem?_eq_getElem (by omega);have h2:x.is[i+1]? = some (x.is[i+1]'(by omega)):=List.getElem?_eq_getElem (by omega);have h3:(x.is.drop 1)[i]? = some (x.is[i+1]'(by omega)):=by rw[List.getElem?_drop,Nat.add_comm 1 i,h2]
  rw[Nd.tot_succ,ih (by omega),List.take_add_one,List.take_add_one,h1,h3,Option.toList_some,Option.toList_some,ksum_app,isum_app,ksum_one,isum_one];unfold Nd.sz Nd.item;rw[if_neg (by rw[hl];decide),h1,h2,List.length_append,Option.getD_some,Option.getD_some];omega
theorem ksum_ins(ks:List ByteArray)(i:Nat)(k:ByteArray):ksum (ins ks i k)=ksum ks+(keyN k).length:=by
 have e:ksum ks=ksum (ks.take i)+ksum (ks.drop i):=by
  have:=congrArg ksum (List.take_append_drop i ks).symm;rw[this,ksum_app]
 rw[e];unfold ins;rw[ksum_app,← List.singleton_append,ksum_app,ksum_one];omega
theorem vsum_ins(ks:List Vl)(i:Nat)(k:Vl):vsum (ins ks i k)=vsum ks+(valN k).length:=by
 have e:vsum ks=vsum (ks.take i)+vsum (ks.drop i):=by
  have:=congrArg vsum (List.take_append_drop i ks).symm;rw[this,vsum_app]
 rw[e];unfold ins;rw[vsum_app,← List.singleton_append,vsum_app,vsum_one];omega
theorem vsum_set:∀ (ks:List Vl) (i:Nat) (k:Vl),vsum (ks.set i k)≤vsum ks+(valN k).length
 | [],i,k=>by simp[vsum]
 | a :: r,0,k=>by simp[vsum];omega
 | a :: r,i+1,k=>by
  have:=vsum_set r i k;simp[vsum]at this ⊢;omega
theorem ksum_set(ks:List ByteArray)(k:ByteArray)(h:k.size≤64):ksum (setK ks k)≤ksum ks+65:=by
 unfold setK;split
 ·omega
 ·rw[ksum_ins]
  have:=keyN_length k h;omega
theorem vsum_setV(ks:List ByteArray)(vs:List Vl)(k:ByteArray)(v:Vl)(h:Okv v):vsum (setV ks vs k v)≤vsum vs+50:=by
 have:=valN_length v h;unfold setV;split
 ·have:=vsum_set vs (fnd k ks) v
  omega
 ·rw[vsum_ins]
  omega
end Go.Proofs.YtafgecaeiodmiaaGreatDoor.N
namespace Go.Proofs.YtafgecaeiodmiaaGreatDoor.B
open Go.Proofs.YtafgecaeiodmiaaGreatDoor.N
abbrev Mk:=ByteArray×Option Vl
abbrev En:=ByteArray×Vl
abbrev Pm:=Nat→Option Nd
def R (a b:Mk):Prop:=if a.2.isNone=true∧b.2.isSome=true then sl b.1 a.1=false else sl a.1 b.1=true
def leafm (x:Nd):List Mk:=(x.ks.zip x.vs).map fun p=>(p.1,some p.2)
def post (f:Nat→List Mk) (K:List ByteArray) (C:List Int):List Mk:=(K.zip C).flatMap fun p=>(p.1,none) :: f p.2.toNat
def pre (f:Nat→List Mk) (C:List Int) (K:List ByteArray):List Mk:=(C.zip K).flatMap fun p=>f p.1.toNat++[(p.2,none)]
def inmL (f:Nat→List Mk) (S:List Int) (K:List ByteArray):List Mk:=match S with
 | []=>[]
 | c :: r=>f c.toNat++post f K r
def inm (f:Nat→List Mk) (x:Nd):List Mk:=inmL f x.is x.ks
def fmN (M:Pm):Nat→Nd→List Mk
 | 0,x=>leafm x
 | d+1,x=>inm (fun n=>match M n with | some y=>fmN M d y | none=>[]) x
def fm (M:Pm) (d n:Nat):List Mk:=match M n with | some y=>fmN M d y | none=>[]
theorem fmN_leaf(M:Pm)(x:Nd):fmN M 0 x=leafm x:=rfl
theorem fmN_inner(M:Pm)(d:Nat)(x:Nd):fmN M (d+1) x=inm (fm M d) x:=rfl
theorem fm_some{M:Pm}{n:Nat}{y:Nd}(h:M n=some y)(d:Nat):fm M d n=fmN M d y:=by unfold fm;rw[h]
def pgN (M:Pm):Nat→Nd→List Nat
 | 0,_=>[]
 | d+1,x=>x.is.flatMap fun c=>c.toNat :: (match M c.toNat with | some y=>pgN M d y | none=>[])
def pg (M:Pm) (d n:Nat):List Nat:=n :: (match M n with | some y=>pgN M d y | none=>[])
theorem pgN_inner(M:Pm)(d:Nat)(x:Nd):pgN M (d+1) x=x.is.flatMap fun c=>pg M d c.toNat:=rfl
theorem pg_some{M:Pm}{n:Nat}{y:Nd}(h:M n=some y)(d:Nat):pg M d n=n :: pgN M d y:=by unfold pg;rw[h]
def WfN (M:Pm):Nat→Nd→Prop
 | 0,x=>x.leaf=true∧N.Good x
 | d+1,x=>x.leaf=false∧N.Good x∧∀ c∈x.is,∃ y,M c.toNat=some y∧y.ks≠[]∧y.put.length≤237∧WfN M d y
def Wf (M:Pm) (d n:Nat):Prop:=∃ y,M n=some y∧y.ks≠[]∧y.put.length≤237∧WfN M d y
theorem WfN_inner(M:Pm)(d:Nat)(x:Nd):WfN M (d+1) x=(x.leaf=false∧N.Good x∧∀ c∈x.is,Wf M d c.toNat):=rfl
theorem WfN.good{M:Pm}{d:Nat}{x:Nd}(h:WfN M d x):N.Good x:=by
 cases d with
 | zero=>exact h.2
 | succ d=>exact h.2.1
theorem WfN.leaf{M:Pm}{d:Nat}{x:Nd}(h:WfN M d x):x.leaf=decide (d=0):=by
 cases d with
 | zero=>exact h.1
 | succ d=>rw[h.1];simp
theorem flat_congr{α β:Type}{f g:α→List β}:∀ {l:List α},(∀ a∈l,f a=g a)→l.flatMap f=l.flatMap g
 | [],_=>rfl
 | a :: l,h=>by rw[List.flatMap_cons,List.flatMap_cons,h a List.mem_cons_self,flat_congr fun b hb=>h b (List.mem_cons_of_mem _ hb)]
theorem pgN_same{M M':Pm}:∀ (d:Nat) (x:Nd),(∀ q∈pgN M d x,M' q=M q)→pgN M' d x=pgN M d x∧fmN M' d x=fmN M d x∧(WfN M d x→WfN M' d x)
 | 0,x,_=>⟨rfl,rfl,id⟩
 | d+1,x,h=>by
  have sub:∀ c∈x.is,pg M' d c.toNat=pg M d c.toNat∧fm M' d c.toNat=fm M d c.toNat∧(Wf M d c.toNat→Wf M' d c.toNat):=by
   intro c hc;have hin:∀ q∈pg M d c.toNat,M' q=M q:=fun q hq=>h q (by rw[pgN_inner];exact List.mem_flatMap.2 ⟨c,hc,hq⟩)
   have h0:M' c.toNat=M c.toNat:=hin _ (by unfold pg;exact List.mem_cons_self);cases hm:M c.toNat with
   | none=>
    rw[hm]at h0;refine⟨?_,?_,?_⟩
    ·unfold pg;rw[hm,h0]
    ·unfold fm;rw[hm,h0]
    ·rintro⟨y,hy,_⟩;rw[hm]at hy;cases hy
   | some y=>
    rw[hm]at h0;obtain⟨e1,e2,e3⟩:=pgN_same d y (fun q hq=>hin q (by rw[pg_some hm];exact List.mem_cons_of_mem _ hq));refine⟨by rw[pg_some hm,pg_some h0,e1],by rw[fm_some hm,fm_some h0,e2],?_⟩;rintro⟨y',hy,a,b,c⟩;rw[hm]at hy;obtain rfl:=Option.some.inj hy;exact⟨y,h0,a,b,e3 c⟩
  refine⟨?_,?_,?_⟩
  ·rw[pgN_inner,pgN_inner]
   exact flat_congr fun c hc=>(sub c hc).1
  ·rw[fmN_inner,fmN_inner]
   unfold inm inmL;cases hi:x.is with
   | nil=>rfl
   | cons c r=>
    rw[hi]at sub;show fm M' d c.toNat++post (fm M' d) x.ks r=fm M d c.toNat++post (fm M d) x.ks r;rw[(sub c List.mem_cons_self).2.1];congr 1;unfold post;refine flat_congr fun p hp=>?_
    rw[(sub p.2 (List.mem_cons_of_mem _ (List.of_mem_zip hp).2)).2.1]
  ·rw[WfN_inner,WfN_inner]
   rintro⟨a,b,c⟩;exact⟨a,b,fun q hq=>(sub q hq).2.2 (c q hq)⟩
theorem pre_append(f:Nat→List Mk)(L L':List Int)(K K':List ByteArray)(h:L.length=K.length):pre f (L++L') (K++K')=pre f L K++pre f L' K':=by
 unfold pre;rw[List.zip_append h,List.flatMap_append]
theorem post_append(f:Nat→List Mk)(L L':List Int)(K K':List ByteArray)(h:K.length=L.length):post f (K++K') (L++L')=post f K L++post f K' L':=by
 unfold post;rw[List.zip_append h,List.flatMap_append]
theorem pre_one(f:Nat→List Mk)(c:Int)(k:ByteArray):pre f [c] [k]=f c.toNat++[(k,none)]:=by simp[pre]
theorem pre_nil(f:Nat→List Mk):pre f [] []=[]:=rfl
theorem post_nil(f:Nat→List Mk):post f [] []=[]:=rfl
theorem inmL_seg(f:Nat→List Mk):∀ (L:List Int) (KL:List ByteArray) (S:List Int) (SK:List ByteArray) (Rr:List Int) (KR:List ByteArray),KL.length=L.length→SK.length+1=S.length →
  inmL f (L++S++Rr) (KL++SK++KR)=pre f L KL++inmL f S SK++post f KR Rr
 | [],[],c :: r,SK,Rr,KR,_,h2=>by
  simp only[List.length_cons,Nat.add_right_cancel_iff]at h2;simp[inmL,pre,post_append f r Rr SK KR h2]
 | [],[],[],SK,_,_,_,h2=>by simp at h2
 | [],_ :: _,_,_,_,_,h,_=>by simp at h
 | _ :: _,[],_,_,_,_,h,_=>by simp at h
 | l :: L,k :: KL,S,SK,Rr,KR,h,h2=>by
  have ih:=inmL_seg f L KL S SK Rr KR (by simpa using h) h2;have e1:inmL f (l :: L++S++Rr) (k :: KL++SK++KR)=f l.toNat++(k,none) :: inmL f (L++S++Rr) (KL++SK++KR):=by
   have hne:L++S++Rr≠[]:=by
    intro e;have:=congrArg List.length e;simp only[List.length_append,List.length_nil]at this;omega
   cases hl:L++S++Rr with
   | nil=>exact absurd hl hne
   | cons a r=>rw[List.cons_append,List.cons_append,hl];simp[inmL,post]
  have e2:pre f (l :: L) (k :: KL)=f l.toNat++(k,none) :: pre f L KL:=by simp[pre]
  rw[e1,ih,e2];simp
theorem inmL_one(f:Nat→List Mk)(c:Int):inmL f [c] []=f c.toNat:=by simp[inmL,post]
theorem inmL_two(f:Nat→List Mk)(b c:Int)(k:ByteArray):inmL f [b,c] [k]=f b.toNat++(k,none) :: f c.toNat:=by simp[inmL,post]
theorem inmL_join(f:Nat→List Mk)(A B:List Int)(KA KB:List ByteArray)(k:ByteArray)(ha:KA.length+1=A.length)(hb:KB.length+1=B.length):inmL f (A++B) (KA++([k]++KB))=inmL f A KA++(k,none) :: inmL f B KB:=by
 obtain⟨b,r,rfl⟩:∃ b r,B=b :: r:=by cases B with | nil=>simp at hb | cons b r=>exact⟨b,r,rfl⟩
 have h:=inmL_seg f [] [] A KA (b :: r) ([k]++KB) rfl ha;simp only[List.nil_append,pre_nil]at h;rw[h];simp[post,inmL]
def con (l:List Mk):List En:=l.filterMap fun m=>m.2.map fun v=>(m.1,v)
theorem con_append(a b:List Mk):con (a++b)=con a++con b:=by simp[con]
theorem con_sep(k:ByteArray)(l:List Mk):con ((k,none) :: l)=con l:=by simp[con]
theorem con_leaf(x:Nd):con (leafm x)=x.ks.zip x.vs:=by
 unfold con leafm;rw[List.filterMap_map];have:((fun m:Mk=>m.2.map fun v=>(m.1,v)) ∘ fun p:En=>((p.1,some p.2):Mk))=some:=by funext p;rfl
 rw[this,List.filterMap_some]
theorem mem_con{l:List Mk}{e:En}(h:e∈con l):(e.1,some e.2)∈l:=by
 unfold con at h;obtain⟨m,hm,he⟩:=List.mem_filterMap.1 h;obtain⟨k,o⟩:=m;cases o with
 | none=>cases he
 | some v=>simp at he;subst he;exact hm
theorem sl_asymm{a b:ByteArray}(h:sl a b=true):sl b a=false:=by
 cases h':sl b a with
 | false=>rfl
 | true=>have:=sl_trans h h';rw[sl_irrefl]at this;cases this
theorem le_lt{a b c:ByteArray}(h:sl b a=false)(k:sl b c=true):sl a c=true:=by
 by_cases e:b=a
 ·subst e;exact k
 ·exact sl_trans (sl_total h e) k
theorem lt_le{a b c:ByteArray}(h:sl a b=true)(k:sl c b=false):sl a c=true:=by
 by_cases e:c=b
 ·subst e;exact h
 ·exact sl_trans h (sl_total k e)
theorem R_e{a b:ByteArray}{v:Vl}{o:Option Vl}:R (a,some v) (b,o)↔sl a b=true:=by simp[R]
theorem R_s{a b:ByteArray}:R (a,none) (b,none)↔sl a b=true:=by simp[R]
theorem R_se{a b:ByteArray}{v:Vl}:R (a,none) (b,some v)↔sl b a=false:=by simp[R]
theorem R_none{a:Mk}{b:ByteArray}:R a (b,none)↔sl a.1 b=true:=by simp[R]
theorem R_key{a:Mk}{b:ByteArray}{v:Vl}(h:sl a.1 b=true):R a (b,some v):=by
 unfold R;split
 ·exact sl_asymm h
 ·exact h
theorem R_weak{a:Mk}{b:ByteArray}{v:Vl}(h:R a (b,some v)):sl b a.1=false:=by
 unfold R at h;split at h
 ·exact h
 ·exact sl_asymm h
theorem pw_ins{X Y:List Mk}{m:Mk}(h:(X++Y).Pairwise R)(hx:∀ a∈X,R a m)(hy:∀ b∈Y,R m b):(X++m :: Y).Pairwise R:=by
 rw[List.pairwise_append]at h ⊢;obtain⟨h1,h2,h3⟩:=h;refine⟨h1,List.pairwise_cons.2 ⟨hy,h2⟩,fun a ha b hb=>?_⟩;rcases List.mem_cons.1 hb with rfl | hb
 ·exact hx a ha
 ·exact h3 a ha b hb
theorem pw_sep{X Y:List Mk}{a k:ByteArray}{v u:Vl}(h:(X++(a,some v) :: (k,some u) :: Y).Pairwise R):(X++(a,some v) :: (k,none) :: (k,some u) :: Y).Pairwise R:=by
 have e:X++(a,some v) :: (k,none) :: (k,some u) :: Y=(X++[(a,some v)])++(k,none) :: ((k,some u) :: Y):=by simp
 have e':X++(a,some v) :: (k,some u) :: Y=(X++[(a,some v)])++((k,some u) :: Y):=by simp
 rw[e];rw[e']at h;have hp:=h;rw[List.pairwise_append]at hp;obtain⟨h1,h2,h3⟩:=hp;have ha:sl a k=true:=R_e.1 (h3 (a,some v) (by simp) (k,some u) (by simp));refine pw_ins h (fun x hx=>?_) (fun y hy=>?_)
 ·rcases List.mem_append.1 hx with hx | hx
  ·rw[R_none]
   rw[List.pairwise_append]at h1;have:=h1.2.2 x hx (a,some v) (by simp);exact le_lt (R_weak this) ha
  ·simp at hx;subst hx;exact R_e.2 ha
 ·rcases List.mem_cons.1 hy with rfl | hy
  ·exact R_se.2 (sl_irrefl k)
  ·have:=(List.pairwise_cons.1 h2).1 y hy
   obtain⟨y1,y2⟩:=y;have:=R_e.1 this;cases y2 with
   | none=>exact R_s.2 this
   | some u=>exact R_se.2 (sl_asymm this)
def upd (k:ByteArray) (mid:List En) (l:List En):List En:=l.filter (fun e=>sl e.1 k)++(mid++l.filter (fun e=>sl k e.1))
theorem upd_ctx{k:ByteArray}{mid A B C:List En}(ha:∀ e∈A,sl e.1 k=true)(hc:∀ e∈C,sl k e.1=true):upd k mid (A++B++C)=A++upd k mid B++C:=by
 have a1:A.filter (fun e=>sl e.1 k)=A:=List.filter_eq_self.2 ha;have a2:A.filter (fun e=>sl k e.1)=[]:=List.filter_eq_nil_iff.2 (fun e he=>by rw[sl_asymm (ha e he)];decide);have c1:C.filter (fun e=>sl e.1 k)=[]:=List.filter_eq_nil_iff.2 (fun e he=>by rw[sl_asymm (hc e he)];decide);have c2:C.filter (fun e=>sl k e.1)=C:=List.filter_eq_self.2 hc;unfold upd;simp only[List.filter_append];rw[a1,a2,c1,c2];simp
def mk (e:En):Mk:=(e.1,some e.2)
theorem leaf_split(k:ByteArray)(v:Vl):∀ (ks:List ByteArray) (vs:List Vl),Up ks→vs.length=ks.length→∃ l1 m0 l3:List En,ks.zip vs=l1++m0++l3∧(∀ e∈l1,sl e.1 k=true)∧(∀ e∈l3,sl k e.1=true) ∧
  ((isk k ks=true∧m0=[(k,oldV ks vs k)])∨(isk k ks=false∧m0=[]))∧(setK ks k).zip (setV ks vs k v)=l1++(k,v) :: l3∧(delK ks k).zip (delV ks vs k)=l1++l3
 | [],vs,_,h=>by
  obtain rfl:vs=[]:=List.eq_nil_of_length_eq_zero (by simpa using h);refine⟨[],[],[],rfl,by simp,by simp,.inr ⟨rfl,rfl⟩,?_,?_⟩ <;> simp[setK,setV,delK,delV,isk,fnd,ins]
 | k0 :: ks,[],_,h=>by simp at h
 | k0 :: ks,v0 :: vs,hu,h=>by
  have hu':=List.pairwise_cons.1 hu;by_cases hs:sl k0 k=true
  ·obtain⟨l1,m0,l3,e,h1,h3,h4,h5,h6⟩:=leaf_split k v ks vs hu'.2 (by simpa using h)
   have ef:fnd k (k0 :: ks)=fnd k ks+1:=by simp[fnd,hs]
   have ei:isk k (k0 :: ks)=isk k ks:=by simp[isk,ef]
   have eo:oldV (k0 :: ks) (v0 :: vs) k=oldV ks vs k:=by simp[oldV,ei,ef]
   refine⟨(k0,v0) :: l1,m0,l3,by simp[e],?_,h3,?_,?_,?_⟩
   ·intro x hx
    rcases List.mem_cons.1 hx with rfl | hx
    ·exact hs
    ·exact h1 x hx
   ·rw[ei,eo];exact h4
   ·have:(setK (k0 :: ks) k).zip (setV (k0 :: ks) (v0 :: vs) k v)=(k0,v0) :: (setK ks k).zip (setV ks vs k v):=by
     unfold setK setV;rw[ei,ef];split <;> simp[ins]
    rw[this,h5];rfl
   ·have:(delK (k0 :: ks) k).zip (delV (k0 :: ks) (v0 :: vs) k)=(k0,v0) :: (delK ks k).zip (delV ks vs k):=by
     unfold delK delV;rw[ei,ef];split <;> simp[del]
    rw[this,h6];rfl
  ·have hs':sl k0 k=false:=by simpa using hs
   have ef:fnd k (k0 :: ks)=0:=by simp[fnd,hs']
   by_cases he:k0=k
   ·subst he
    have ei:isk k0 (k0 :: ks)=true:=by simp[isk,ef]
    refine⟨[],[(k0,v0)],ks.zip vs,by simp,by simp,?_,.inl ⟨ei,by simp[oldV,ei,ef]⟩,?_,?_⟩
    ·intro x hx
     exact hu'.1 x.1 (List.of_mem_zip hx).1
    ·simp[setK,setV,ei,ef]
    ·simp[delK,delV,ei,ef,del]
   ·have ei:isk k (k0 :: ks)=false:=by simp[isk,ef,he]
    have hlt:sl k k0=true:=sl_total hs' he;refine⟨[],[],(k0,v0) :: ks.zip vs,by simp,by simp,?_,.inr ⟨ei,rfl⟩,?_,?_⟩
    ·intro x hx
     rcases List.mem_cons.1 hx with rfl | hx
     ·exact hlt
     ·exact sl_trans hlt (hu'.1 x.1 (List.of_mem_zip hx).1)
    ·simp[setK,setV,ei,ef,ins]
    ·simp[delK,delV,ei]
theorem upd_split{k:ByteArray}{l1 m0 l3 mid:List En}(h1:∀ e∈l1,sl e.1 k=true)(h3:∀ e∈l3,sl k e.1=true)(h4:∀ e∈m0,e.1=k):upd k mid (l1++m0++l3)=l1++(mid++l3):=by
 rw[upd_ctx h1 h3];have:upd k mid m0=mid:=by
  unfold upd;rw[List.filter_eq_nil_iff.2 (fun e he=>by rw[h4 e he,sl_irrefl];decide),List.filter_eq_nil_iff.2 (fun e he=>by rw[h4 e he,sl_irrefl];decide)];simp
 rw[this,List.append_assoc]
def Ah (k:ByteArray) (A:List Mk):Prop:=∀ a∈A,∀ v,R a (k,some v)
def Be (k:ByteArray) (C:List Mk):Prop:=∀ c∈C,sl k c.1=true
theorem Ah.con{k:ByteArray}{A:List Mk}(h:Ah k A):∀ e∈con A,sl e.1 k=true:=fun e he=>R_e.1 (h _ (mem_con he) e.2)
theorem Be.con{k:ByteArray}{A:List Mk}(h:Be k A):∀ e∈con A,sl k e.1=true:=fun _ he=>h _ (mem_con he)
theorem ord_set{A C:List Mk}{ks:List ByteArray}{vs:List Vl}{k:ByteArray}{v:Vl}(hu:Up ks)(hl:vs.length=ks.length)(ha:Ah k A)(hc:Be k C)(h:(A++(ks.zip vs).map mk++C).Pairwise R) :
  (A++((setK ks k).zip (setV ks vs k v)).map mk++C).Pairwise R∧(A++((delK ks k).zip (delV ks vs k)).map mk++C).Pairwise R ∧
  (setK ks k).zip (setV ks vs k v)=upd k [(k,v)] (ks.zip vs)∧(delK ks k).zip (delV ks vs k)=upd k [] (ks.zip vs):=by
 obtain⟨l1,m0,l3,e,h1,h3,h4,h5,h6⟩:=leaf_split k v ks vs hu hl;have hm:∀ x∈m0,x.1=k:=by
  rcases h4 with⟨_,rfl⟩|⟨_,rfl⟩
  ·intro x hx;simp at hx;rw[hx]
  ·simp
 rw[e,h5,h6,upd_split h1 h3 hm,upd_split h1 h3 hm];rw[e]at h;have hd:(A++(l1++l3).map mk++C).Pairwise R:=h.sublist (by
  refine List.Sublist.append (List.Sublist.append (List.Sublist.refl A) (List.Sublist.map mk ?_)) (List.Sublist.refl C)
  exact List.Sublist.append (List.sublist_append_left l1 m0) (List.Sublist.refl l3))
 refine⟨?_,hd,by simp,by simp⟩;have e1:A++(l1++(k,v) :: l3).map mk++C=(A++l1.map mk)++(k,some v) :: (l3.map mk++C):=by simp[mk]
 rw[e1];have e2:A++(l1++l3).map mk++C=(A++l1.map mk)++(l3.map mk++C):=by simp
 rw[e2]at hd;refine pw_ins hd (fun a hx=>?_) (fun b hx=>?_)
 ·rcases List.mem_append.1 hx with hx | hx
  ·exact ha a hx v
  ·obtain⟨y,hy,rfl⟩:=List.mem_map.1 hx;exact R_e.2 (h1 y hy)
 ·rw[R_e]
  rcases List.mem_append.1 hx with hx | hx
  ·obtain⟨y,hy,rfl⟩:=List.mem_map.1 hx;exact h3 y hy
  ·exact hc b hx
def plc (x:Nd) (k:ByteArray):Nat:=fnd k x.ks+(if isk k x.ks=true then 1 else 0)
theorem plc_le(x:Nd)(k:ByteArray):plc x k≤x.ks.length:=by
 unfold plc;have:=fnd_le k x.ks;split
 ·rename_i h;have:=isk_lt h;omega
 ·omega
theorem plc_below{x:Nd}(k:ByteArray):∀ a∈x.ks.take (plc x k),sl k a=false:=by
 intro a ha;obtain⟨j,hj,e⟩:=List.getElem_of_mem ha;rw[List.length_take]at hj;have e2:x.ks[j]? = some a:=by rw[← e,List.getElem_take];exact List.getElem?_eq_getElem (by omega)
 by_cases h:j<fnd k x.ks
 ·exact sl_asymm (fnd_below k x.ks j a h e2)
 ·have hp:plc x k=fnd k x.ks+(if isk k x.ks=true then 1 else 0):=rfl
  by_cases hi:isk k x.ks=true
  ·rw[if_pos hi]at hp
   obtain rfl:j=fnd k x.ks:=by omega
   rw[isk_at hi]at e2;obtain rfl:=Option.some.inj e2;exact sl_irrefl _
  ·rw[if_neg hi]at hp;omega
theorem plc_above{x:Nd}(hu:Up x.ks)(k:ByteArray):∀ a∈x.ks.drop (plc x k),sl k a=true:=by
 intro a ha;obtain⟨j,hj,e⟩:=List.getElem_of_mem ha;rw[List.length_drop]at hj;rw[List.getElem_drop]at e;have hlt:=fnd_le k x.ks;have e2:x.ks[plc x k+j]? = some a:=by rw[← e];exact List.getElem?_eq_getElem (by omega)
 have hp:plc x k=fnd k x.ks+(if isk k x.ks=true then 1 else 0):=rfl;have hfl:fnd k x.ks<x.ks.length:=by omega
 have ef:x.ks[fnd k x.ks]? = some x.ks[fnd k x.ks]:=List.getElem?_eq_getElem hfl;have hge:=fnd_at k x.ks _ ef;by_cases hi:isk k x.ks=true
 ·rw[if_pos hi]at hp
  rw[isk_at hi]at ef;have hk:=Option.some.inj ef;have:=(List.pairwise_iff_getElem.1 hu) (fnd k x.ks) (plc x k+j) hfl (by omega) (by omega);rw[← hk,e]at this;exact this
 ·rw[if_neg hi]at hp
  have hne:x.ks[fnd k x.ks]≠k:=by
   intro q;rw[q]at ef;exact hi (by simp[isk,ef])
  have hk0:=sl_total hge hne;by_cases hj0:j=0
  ·subst hj0
   have e3:x.ks[fnd k x.ks]=a:=by
    have:plc x k+0=fnd k x.ks:=by omega
    rw[this,ef]at e2;exact Option.some.inj e2
   rw[← e3];exact hk0
  ·have:=(List.pairwise_iff_getElem.1 hu) (fnd k x.ks) (plc x k+j) hfl (by omega) (by omega)
   rw[e]at this;exact sl_trans hk0 this
theorem pre_ah(f:Nat→List Mk){k:ByteArray}:∀ (L:List Int) (KL:List ByteArray),KL.length=L.length→(∀ a∈KL,sl k a=false)→(pre f L KL).Pairwise R→Ah k (pre f L KL):=by
 intro L KL hl hk hp;rcases List.eq_nil_or_concat KL with rfl | ⟨K0,kl,rfl⟩
 ·obtain rfl:L=[]:=List.eq_nil_of_length_eq_zero (by simpa using hl.symm)
  intro a ha;simp[pre]at ha
 ·rcases List.eq_nil_or_concat L with rfl | ⟨L0,l,rfl⟩
  ·simp at hl
  ·have e:pre f (L0.concat l) (K0.concat kl)=(pre f L0 K0++f l.toNat)++[(kl,none)]:=by
    rw[List.concat_eq_append,List.concat_eq_append,pre_append f _ _ _ _ (by simp at hl;omega),pre_one];simp
   rw[e]at hp ⊢
   rw[List.pairwise_append]at hp
   have hkl:=hk kl (by simp)
   intro a ha v
   rcases List.mem_append.1 ha with ha | ha
   ·have:=hp.2.2 a ha (kl,none) (by simp)
    exact R_key (lt_le (R_none.1 this) hkl)
   ·simp at ha;subst ha;exact R_se.2 hkl
theorem post_be(f:Nat→List Mk){k:ByteArray}:∀ (Rr:List Int) (KR:List ByteArray),KR.length=Rr.length→(∀ a∈KR,sl k a=true)→(post f KR Rr).Pairwise R→Be k (post f KR Rr)
 | [],[],_,_,_=>by intro c hc;simp[post]at hc
 | [],_ :: _,h,_,_=>by simp at h
 | _ :: _,[],h,_,_=>by simp at h
 | r :: Rr,kr :: KR,h,hk,hp=>by
  have e:post f (kr :: KR) (r :: Rr)=(kr,none) :: (f r.toNat++post f KR Rr):=by simp[post]
  rw[e]at hp ⊢;have h0:=hk kr (by simp);intro c hc;rcases List.mem_cons.1 hc with rfl | hc
  ·exact h0
  ·have:=(List.pairwise_cons.1 hp).1 c hc
   obtain⟨c1,c2⟩:=c;cases c2 with
   | none=>exact sl_trans h0 (R_s.1 this)
   | some v=>exact lt_le h0 (R_se.1 this)
theorem Ah.append{k:ByteArray}{A B:List Mk}(h:Ah k A)(g:Ah k B):Ah k (A++B):=fun a ha=>(List.mem_append.1 ha).elim (h a) (g a)
theorem Be.append{k:ByteArray}{A B:List Mk}(h:Be k A)(g:Be k B):Be k (A++B):=fun a ha=>(List.mem_append.1 ha).elim (h a) (g a)
theorem up_leaf{ks:List ByteArray}{vs:List Vl}(hl:vs.length=ks.length)(h:((ks.zip vs).map mk).Pairwise R):Up ks:=by
 unfold Up;rw[List.pairwise_map]at h;have e:ks=(ks.zip vs).map Prod.fst:=by rw[List.map_fst_zip (by omega)]
 rw[e,List.pairwise_map];exact h.imp (fun {a b} hab=>R_e.1 hab)
theorem seps_sub(f:Nat→List Mk):∀ (K:List ByteArray) (C:List Int),K.length=C.length→List.Sublist (K.map fun k=>((k,none):Mk)) (post f K C)
 | [],_,_=>by simp
 | k :: K,[],h=>by simp at h
 | k :: K,c :: C,h=>by
  have e:post f (k :: K) (c :: C)=(k,none) :: (f c.toNat++post f K C):=by simp[post]
  rw[e];exact List.Sublist.cons_cons _ ((seps_sub f K C (by simpa using h)).trans (List.sublist_append_right _ _))
theorem up_inner{f:Nat→List Mk}{ks:List ByteArray}{is:List Int}(hl:is.length=ks.length+1)(h:(inmL f is ks).Pairwise R):Up ks:=by
 obtain⟨c,r,rfl⟩:∃ c r,is=c :: r:=by cases is with | nil=>simp at hl | cons c r=>exact⟨c,r,rfl⟩
 have hs:=(seps_sub f ks r (by simpa using hl.symm)).trans (List.sublist_append_right (f c.toNat) _);have:=h.sublist hs;rw[List.pairwise_map]at this;exact this.imp (fun {a b} hab=>R_s.1 hab)
theorem up_of{M:Pm}{d:Nat}{x:Nd}(hw:WfN M d x)(h:(fmN M d x).Pairwise R):Up x.ks:=by
 cases d with
 | zero=>exact up_leaf (hw.2.lv hw.1).1 h
 | succ d=>exact up_inner (f:=fm M d) (hw.2.1.li hw.1).1 h
theorem num_one{n:Nat}(h:n≤120):(numL n).length=1:=by rw[numL_last (by omega)];rfl
theorem put_leaf{x:Nd}(g:N.Good x)(hl:x.leaf=true):x.put.length=1+ksum x.ks+vsum x.vs:=by
 rw[put_len,tot_leaf hl (g.lv hl).1 _ (Nat.le_refl _),List.take_length];have e:x.vs.take x.ks.length=x.vs:=by rw[← (g.lv hl).1,List.take_length]
 rw[e];unfold Nd.head;rw[if_pos hl,List.length_append,num_one g.few];simp;omega
theorem put_inner{x:Nd}(g:N.Good x)(hl:x.leaf=false):x.put.length=1+ksum x.ks+isum x.is:=by
 have hi:=(g.li hl).1;rw[put_len,tot_inner hl hi _ (Nat.le_refl _),List.take_length];obtain⟨c,r,e⟩:∃ c r,x.is=c :: r:=by cases h:x.is with | nil=>rw[h]at hi;simp at hi | cons c r=>exact⟨c,r,rfl⟩
 rw[e]at hi;have e1:((x.is.drop 1).take x.ks.length)=r:=by rw[e];simp at hi;simp[← hi]
 rw[e1,e];unfold Nd.head;rw[if_neg (by rw[hl];decide),List.length_append,num_one g.few,e];simp[isum];omega
theorem key_pos(k:ByteArray):1+k.size≤(keyN k).length:=by
 unfold keyN;rw[List.length_append,un_length];have:=num_pos k.size;omega
theorem empty_size{k:ByteArray}(h:k.size=0):k=⟨#[]⟩:=by
 obtain⟨a⟩:=k;have:a.size=0:=h;rw[Array.eq_empty_of_size_eq_zero this]
theorem sl_pos{a b:ByteArray}(h:sl a b=true):1≤b.size:=by
 rcases Nat.eq_zero_or_pos b.size with e | e
 ·rw[empty_size e]at h
  unfold sl at h;have:(⟨#[]⟩:ByteArray).toList=[]:=by rw[toList_eq]
  rw[this]at h;cases a.toList <;> simp[Op.bytesLess]at h
 ·exact e
theorem ksum_pos:∀ (ks:List ByteArray),(∀ k∈ks,1≤k.size)→2*ks.length≤ksum ks
 | [],_=>by simp[ksum]
 | k :: r,h=>by
  have ih:=ksum_pos r (fun q hq=>h q (List.mem_cons_of_mem _ hq));have h0:=h k List.mem_cons_self;have h1:=key_pos k;have e:ksum (k :: r)=(keyN k).length+ksum r:=by simp[ksum]
  rw[e,List.length_cons];omega
theorem ksum_up{ks:List ByteArray}(h:Up ks):2*ks.length≤ksum ks+1:=by
 cases ks with
 | nil=>simp
 | cons k r=>
  have:=ksum_pos r (fun q hq=>sl_pos ((List.pairwise_cons.1 h).1 q hq));have h1:=key_pos k;have e:ksum (k :: r)=(keyN k).length+ksum r:=by simp[ksum]
  rw[e,List.length_cons];omega
theorem isum_pos:∀ (is:List Int),is.length≤isum is
 | []=>by simp
 | k :: r=>by
  have ih:=isum_pos r;have h1:=num_pos k.toNat;have e:isum (k :: r)=(numL k.toNat).length+isum r:=by simp[isum]
  rw[e,List.length_cons];omega
theorem vsum_pos:∀ (vs:List Vl),2*vs.length≤vsum vs
 | []=>by simp
 | v :: r=>by
  have ih:=vsum_pos r;have h1:2≤(valN v).length:=by
   unfold valN;split
   ·rw[List.length_append,List.length_append]
    have:=num_pos 0;have:=num_pos v.d.size;omega
   ·rw[List.length_append,List.length_append]
    have:=num_pos 1;have:=num_pos v.p.toNat;omega
  have e:vsum (v :: r)=(valN v).length+vsum r:=by simp[vsum]
  rw[e,List.length_cons];omega
theorem few_of{x:Nd}(g:N.Good x)(hu:Up x.ks):3*x.ks.length≤x.put.length:=by
 have h1:=ksum_up hu;cases hl:x.leaf with
 | true=>
  have h2:=vsum_pos x.vs;rw[(g.lv hl).1]at h2;rw[put_leaf g hl];omega
 | false=>
  have h2:=isum_pos x.is;rw[(g.li hl).1]at h2;rw[put_inner g hl];omega
theorem isum_le(is:List Int)(h:∀ i∈is,∃ q:Nat,i=(q:Int)∧q≤16383):isum is≤3*is.length:=by
 induction is with
 | nil=>simp[isum]
 | cons a r ih=>
  obtain⟨q,rfl,hq⟩:=h a List.mem_cons_self;have h1:=num_small q (by omega);have h2:=ih (fun i hi=>h i (List.mem_cons_of_mem _ hi));have e:isum ((q:Int) :: r)=(numL q).length+isum r:=by simp[isum]
  rw[e,List.length_cons];omega
theorem ksum_le(ks:List ByteArray)(h:∀ k∈ks,k.size≤64):ksum ks≤65*ks.length:=by
 induction ks with
 | nil=>simp[ksum]
 | cons a r ih=>
  have h1:=keyN_length a (h a List.mem_cons_self);have h2:=ih (fun i hi=>h i (List.mem_cons_of_mem _ hi));have e:ksum (a :: r)=(keyN a).length+ksum r:=by simp[ksum]
  rw[e,List.length_cons];omega
def jn (a:Nd) (k:ByteArray) (b:Nd):Nd:=if a.leaf=true then ⟨true,a.ks++b.ks,a.vs++b.vs,[]⟩ else ⟨false,a.ks++([k]++b.ks),[],a.is++b.is⟩
theorem jn_leaf{a:Nd}(h:a.leaf=true)(k:ByteArray)(b:Nd):jn a k b=⟨true,a.ks++b.ks,a.vs++b.vs,[]⟩:=by unfold jn;rw[if_pos h]
theorem jn_inner{a:Nd}(h:a.leaf=false)(k:ByteArray)(b:Nd):jn a k b=⟨false,a.ks++([k]++b.ks),[],a.is++b.is⟩:=by unfold jn;rw[if_neg (by rw[h];decide)]
theorem jn_good{a b:Nd}{k:ByteArray}(ga:N.Good a)(gb:N.Good b)(hl:b.leaf=a.leaf)(hk:k.size≤64)(hn:a.ks.length+b.ks.length+1≤120):N.Good (jn a k b):=by
 cases h:a.leaf with
 | true=>
  rw[jn_leaf h];have h2:b.leaf=true:=hl.trans h;refine⟨by show (a.ks++b.ks).length≤120;rw[List.length_append];omega,fun q hq=>(List.mem_append.1 hq).elim (ga.small q) (gb.small q),fun _=>⟨?_,rfl⟩,(fun e=>by cases e),fun q hq=>(List.mem_append.1 hq).elim (ga.ok q) (gb.ok q),(fun i hi=>by cases hi)⟩;show (a.vs++b.vs).length=(a.ks++b.ks).length;rw[List.length_append,List.length_append,(ga.lv h).1,(gb.lv h2).1]
 | false=>
  rw[jn_inner h];have h2:b.leaf=false:=hl.trans h;refine⟨by show (a.ks++([k]++b.ks)).length≤120;simp;omega,?_,(fun e=>by cases e),fun _=>⟨?_,rfl⟩,(fun v hv=>by cases hv),fun q hq=>(List.mem_append.1 hq).elim (ga.ik q) (gb.ik q)⟩
  ·intro q hq
   rcases List.mem_append.1 hq with hq | hq
   ·exact ga.small q hq
   ·rcases List.mem_append.1 hq with hq | hq
    ·simp at hq;rw[hq];exact hk
    ·exact gb.small q hq
  ·show (a.is++b.is).length=(a.ks++([k]++b.ks)).length+1
   rw[List.length_append,(ga.li h).1,(gb.li h2).1];simp;omega
theorem jn_put{a b:Nd}{k:ByteArray}(ga:N.Good a)(gb:N.Good b)(hl:b.leaf=a.leaf)(hk:k.size≤64)(hn:a.ks.length+b.ks.length+1≤120) :
  (jn a k b).put.length+1≤a.put.length+b.put.length+(if a.leaf=true then 0 else 65):=by
 have g:=jn_good ga gb hl hk hn;cases h:a.leaf with
 | true=>
  have h2:b.leaf=true:=hl.trans h;rw[put_leaf g (by rw[jn_leaf h]),put_leaf ga h,put_leaf gb h2,jn_leaf h];show 1+ksum (a.ks++b.ks)+vsum (a.vs++b.vs)+1≤_;rw[ksum_app,vsum_app,if_pos rfl];omega
 | false=>
  have h2:b.leaf=false:=hl.trans h;rw[put_inner g (by rw[jn_inner h]),put_inner ga h,put_inner gb h2,jn_inner h];show 1+ksum (a.ks++([k]++b.ks))+isum (a.is++b.is)+1≤_;have:=keyN_length k hk;rw[ksum_app,ksum_app,isum_app,ksum_one,if_neg (by decide)];omega
theorem jn_back{x:Nd}(g:N.Good x)(h:x.leaf=false){m:Nat}{key:ByteArray}(hk:x.ks[m]? = some key):jn (x.fst m) key (x.snd m)=x:=by
 rw[jn_inner (by rw[fst_inner h])];exact back_inner g h hk
theorem jn_back_leaf{x:Nd}(g:N.Good x)(h:x.leaf=true)(m:Nat)(key:ByteArray):jn (x.fst m) key (x.snd m)=x:=by
 rw[jn_leaf (by rw[fst_leaf h])];exact back_leaf g h m
theorem mid_right{x:Nd}{m:Nat}(g:N.Good x)(hl:x.leaf=false)(h:237<x.put.length)(hm:Mid x 0 m):m+1<x.ks.length:=by
 have hn:=great_few g h;rcases Nat.lt_or_ge (m+1) x.ks.length with q | q
 ·exact q
 ·have hlt:=hm.lt
  have e:m=x.ks.length-1:=by omega
  have hb:=hm.before (x.ks.length-2) (Nat.zero_le _) (by omega);rw[put_len]at h;have hh:=head_length g;obtain⟨n,hn2⟩:∃ n,x.ks.length=n+2:=⟨x.ks.length-2,by omega⟩;have t1:=x.tot_succ (n+1);have t2:=x.tot_succ n;have s1:=sz_inner g hl (i:=n+1) (by omega);have s2:=sz_inner g hl (i:=n) (by omega);have p2:=sz_pos x n;rw[e,Nd.gr_inner hl,Nd.gr_inner hl,hn2]at hb;rw[hn2]at h;simp only[show n+2-1=n+1 by omega,show n+2-2=n by omega,show n+1+1=n+2 by omega]at hb t1;omega
theorem parts_fit_inner{x:Nd}(g:N.Good x)(hl:x.leaf=false){m:Nat}(hm:Mid x 0 m)(hT:x.tot x.ks.length≤400):(x.fst m).put.length≤237∧(x.snd m).put.length≤237:=by
 have hgr:x.gr m≤200:=by
  by_cases hs:x.tot x.ks.length≤200
  ·have:=x.gr_le (i:=m) (Nat.le_of_lt hm.lt)
   omega
  ·have fnd:∀ k,200<x.tot k→∃ j,j<k∧x.tot j≤200∧200<x.tot (j+1):=by
    intro k;induction k with
    | zero=>intro h;rw[Nd.tot_zero]at h;omega
    | succ k ih=>
     intro h;by_cases h2:200<x.tot k
     ·obtain⟨j,a,b⟩:=ih h2
      exact⟨j,by omega,b⟩
     ·exact⟨k,by omega,by omega,h⟩
   obtain⟨j,h1,h2,h3⟩:=fnd x.ks.length (by omega);have h8:=hm.all h1;rw[Nd.gr_inner hl j]at h8;omega
 have ga:=fst_good g hm.lt;have gb:=snd_good g hm.lt;have ha:=head_four ga;have hb:=head_four gb;rw[put_len,put_len];have la:(x.fst m).ks.length=m:=by rw[fst_inner hl];show (x.ks.take m).length=m;rw[List.length_take];have:=hm.lt;omega
 have lb:(x.snd m).ks.length=x.ks.length-(m+1):=by rw[snd_inner hl];exact List.length_drop
 have t1:=fst_tot (x:=x) m m (Nat.le_refl _);have t2:=snd_tot_inner hl m (x.ks.length-(m+1));rw[show m+1+(x.ks.length-(m+1))=x.ks.length by have:=hm.lt;omega]at t2;rw[Nd.gr_inner hl]at hgr;rw[la,lb];omega
def Prt (y:Nd) (ps:List Nd) (ks:List ByteArray):Prop:=
 (y.put.length≤237∧ps=[y]∧ks=[])∨(237<y.put.length∧∃ m key,y.ks[m]? = some key∧Mid y 0 m∧ps=[y.fst m,y.snd m]∧ks=[key])
theorem prt_fine{y:Nd}{m:Nat}(g:N.Good y)(h:237<y.put.length)(hm:Mid y 0 m)(hb:y.put.length≤(if y.leaf=true then 352 else 380)) :
  N.Good (y.fst m)∧N.Good (y.snd m)∧(y.fst m).ks≠[]∧(y.snd m).ks≠[]∧(y.fst m).put.length≤237∧(y.snd m).put.length≤237∧(y.fst m).leaf=y.leaf∧(y.snd m).leaf=y.leaf:=by
 have hu:=(hm.up g h).lo;have hlt:=hm.lt;have hpos:1≤y.head.length:=by
  unfold Nd.head;rw[List.length_append,num_one g.few];omega
 rw[put_len]at hb;cases hl:y.leaf with
 | true=>
  rw[if_pos hl]at hb;obtain⟨f1,f2⟩:=parts_fit g hm (by omega);refine⟨fst_good g hlt,snd_good g hlt,?_,?_,f1,f2,by rw[fst_leaf hl],by rw[snd_leaf hl]⟩
  ·rw[fst_leaf hl]
   intro e;have:=congrArg List.length e;simp only[List.length_take,List.length_nil]at this;omega
  ·rw[snd_leaf hl]
   intro e;have:=congrArg List.length e;simp only[List.length_drop,List.length_nil]at this;omega
 | false=>
  rw[if_neg (by rw[hl];decide)]at hb;have hr:=mid_right g hl h hm;obtain⟨f1,f2⟩:=parts_fit_inner g hl hm (by omega);refine⟨fst_good g hlt,snd_good g hlt,?_,?_,f1,f2,by rw[fst_inner hl],by rw[snd_inner hl]⟩
  ·rw[fst_inner hl]
   intro e;have:=congrArg List.length e;simp only[List.length_take,List.length_nil]at this;omega
  ·rw[snd_inner hl]
   intro e;have:=congrArg List.length e;simp only[List.length_drop,List.length_nil]at this;omega
def abv (x:Nd) (i j:Nat) (P:List Int) (K:List ByteArray):Nd:=⟨false,x.ks.take i++K++x.ks.drop j,[],x.is.take i++P++x.is.drop (j+1)⟩
theorem abv_good{x:Nd}{i j:Nat}{P:List Int}{K:List ByteArray}(g:N.Good x)(hl:x.leaf=false)(hij:i≤j)(hj:j≤x.ks.length)(hp:P.length=K.length+1)(hk:K.length≤1)(hn:x.ks.length≤110)(h1:∀ p∈P,∃ q:Nat,p=(q:Int)∧q≤16383)(h2:∀ k∈K,k.size≤64) :
  N.Good (abv x i j P K)∧(abv x i j P K).put.length≤x.put.length+71:=by
 have hi:=(g.li hl).1;have gg:N.Good (abv x i j P K):=by
  refine⟨?_,?_,(fun e=>by cases e),fun _=>⟨?_,rfl⟩,(fun v hv=>by cases hv),?_⟩
  ·show (x.ks.take i++K++x.ks.drop j).length≤120
   simp only[List.length_append,List.length_take,List.length_drop];omega
  ·intro k hk
   rcases List.mem_append.1 hk with hk | hk
   ·rcases List.mem_append.1 hk with hk | hk
    ·exact g.small k (List.mem_of_mem_take hk)
    ·exact h2 k hk
   ·exact g.small k (List.mem_of_mem_drop hk)
  ·show (x.is.take i++P++x.is.drop (j+1)).length=(x.ks.take i++K++x.ks.drop j).length+1
   simp only[List.length_append,List.length_take,List.length_drop];omega
  ·intro k hk
   rcases List.mem_append.1 hk with hk | hk
   ·rcases List.mem_append.1 hk with hk | hk
    ·exact g.ik k (List.mem_of_mem_take hk)
    ·exact h1 k hk
   ·exact g.ik k (List.mem_of_mem_drop hk)
 refine⟨gg,?_⟩;rw[put_inner gg rfl,put_inner g hl];show 1+ksum (x.ks.take i++K++x.ks.drop j)+isum (x.is.take i++P++x.is.drop (j+1))≤_;have a1:=ksum_le K h2;have a2:=isum_le P h1;have b1:ksum (x.ks.take i)+ksum (x.ks.drop j)≤ksum x.ks:=by
  have e:x.ks=x.ks.take i++((x.ks.drop i).take (j-i)++x.ks.drop j):=by
   have e1:x.ks.drop j=(x.ks.drop i).drop (j-i):=by rw[List.drop_drop];congr 1;omega
   rw[e1,List.take_append_drop,List.take_append_drop]
  have:=congrArg ksum e;rw[ksum_app,ksum_app]at this;omega
 have b2:isum (x.is.take i)+isum (x.is.drop (j+1))≤isum x.is:=by
  have e:x.is=x.is.take i++((x.is.drop i).take (j+1-i)++x.is.drop (j+1)):=by
   have e1:x.is.drop (j+1)=(x.is.drop i).drop (j+1-i):=by rw[List.drop_drop];congr 1;omega
   rw[e1,List.take_append_drop,List.take_append_drop]
  have:=congrArg isum e;rw[isum_app,isum_app]at this;omega
 rw[ksum_app,ksum_app,isum_app,isum_app];omega
theorem jn_wf{M:Pm}{d:Nat}{a b:Nd}{k:ByteArray}(wa:WfN M d a)(wb:WfN M d b)(hk:k.size≤64)(hn:a.ks.length+b.ks.length+1≤120):WfN M d (jn a k b):=by
 have hl:b.leaf=a.leaf:=by rw[wa.leaf,wb.leaf]
 have g:=jn_good wa.good wb.good hl hk hn;cases d with
 | zero=>exact⟨by rw[jn_leaf wa.1],g⟩
 | succ d=>
  refine⟨by rw[jn_inner wa.1],g,?_⟩;rw[jn_inner wa.1];intro c hc;rcases List.mem_append.1 hc with hc | hc
  ·exact wa.2.2 c hc
  ·exact wb.2.2 c hc
theorem jn_fm{M:Pm}{d:Nat}{a b:Nd}{k:ByteArray}(wa:WfN M d a)(wb:WfN M d b):fmN M d (jn a k b)=fmN M d a++((if d=0 then [] else [(k,none)])++fmN M d b):=by
 cases d with
 | zero=>
  rw[jn_leaf wa.1,fmN_leaf,fmN_leaf,fmN_leaf];unfold leafm;show ((a.ks++b.ks).zip (a.vs++b.vs)).map _=_;rw[List.zip_append ((wa.2.lv wa.1).1).symm];simp
 | succ d=>
  rw[jn_inner wa.1,fmN_inner,fmN_inner,fmN_inner];unfold inm;show inmL (fm M d) (a.is++b.is) (a.ks++([k]++b.ks))=_;rw[inmL_join _ _ _ _ _ _ (wa.2.1.li wa.1).1.symm (wb.2.1.li wb.1).1.symm];simp
theorem jn_pg{M:Pm}{d:Nat}{a b:Nd}{k:ByteArray}(wa:WfN M d a):pgN M d (jn a k b)=pgN M d a++pgN M d b:=by
 cases d with
 | zero=>rfl
 | succ d=>rw[jn_inner wa.1,pgN_inner,pgN_inner,pgN_inner];exact List.flatMap_append
theorem prt_wf{M:Pm}{d:Nat}{y:Nd}{m:Nat}(w:WfN M d y)(h:237<y.put.length)(hm:Mid y 0 m)(hb:y.put.length≤(if d=0 then 352 else 380)) :
  WfN M d (y.fst m)∧WfN M d (y.snd m)∧(y.fst m).ks≠[]∧(y.snd m).ks≠[]∧(y.fst m).put.length≤237∧(y.snd m).put.length≤237:=by
 have hl:=w.leaf;obtain⟨g1,g2,n1,n2,f1,f2,l1,l2⟩:=prt_fine w.good h hm (by rw[hl];simpa using hb);refine⟨?_,?_,n1,n2,f1,f2⟩
 ·cases d with
  | zero=>exact⟨l1.trans w.1,g1⟩
  | succ d=>
   refine⟨l1.trans w.1,g1,?_⟩;rw[fst_inner w.1];exact fun c hc=>w.2.2 c (List.mem_of_mem_take hc)
 ·cases d with
  | zero=>exact⟨l2.trans w.1,g2⟩
  | succ d=>
   refine⟨l2.trans w.1,g2,?_⟩;rw[snd_inner w.1];exact fun c hc=>w.2.2 c (List.mem_of_mem_drop hc)
theorem jn_parts{d:Nat}{M:Pm}{y:Nd}(w:WfN M d y){m:Nat}{key:ByteArray}(hk:y.ks[m]? = some key):jn (y.fst m) key (y.snd m)=y:=by
 cases d with
 | zero=>exact jn_back_leaf w.2 w.1 m key
 | succ d=>exact jn_back w.2.1 w.1 hk
theorem prt_ord{M:Pm}{d:Nat}{y:Nd}{m:Nat}{key:ByteArray}{A C:List Mk}(w:WfN M d y)(h:237<y.put.length)(hm:Mid y 0 m)(hb:y.put.length≤(if d=0 then 352 else 380))(hk:y.ks[m]? = some key)(ho:(A++fmN M d y++C).Pairwise R) :
  (A++(fmN M d (y.fst m)++(key,none) :: fmN M d (y.snd m))++C).Pairwise R∧con (fmN M d (y.fst m)++(key,none) :: fmN M d (y.snd m))=con (fmN M d y)∧pgN M d y=pgN M d (y.fst m)++pgN M d (y.snd m):=by
 obtain⟨w1,w2,n1,n2,_,_⟩:=prt_wf w h hm hb;have e:=jn_fm (k:=key) w1 w2;rw[jn_parts w hk]at e;have ep:=jn_pg (k:=key) (b:=y.snd m) w1;rw[jn_parts w hk]at ep;rw[e]at ho ⊢;refine⟨?_,by cases d <;> simp[con_append,con_sep],ep⟩;cases d with
 | succ d=>simpa using ho
 | zero=>
  simp only[if_true,List.nil_append]at ho;have hlt:=hm.lt;have hl:=w.1;have lv:=(w.2.lv hl).1;rw[fmN_leaf,fmN_leaf]at ho ⊢;rw[fst_leaf hl]at n1 ho ⊢;rw[snd_leaf hl]at n2 ho ⊢;obtain⟨u,hu⟩:∃ u,y.vs[m]? = some u:=⟨_,List.getElem?_eq_getElem (by omega)⟩;have d1:y.ks.drop m=key :: y.ks.drop (m+1):=by
   have:=List.drop_eq_getElem_cons hlt;rw[this];congr 1;rw[List.getElem?_eq_getElem hlt]at hk;exact Option.some.inj hk
  have d2:y.vs.drop m=u :: y.vs.drop (m+1):=by
   have:=List.drop_eq_getElem_cons (l:=y.vs) (i:=m) (by omega);rw[this];congr 1;rw[List.getElem?_eq_getElem (by omega)]at hu;exact Option.some.inj hu
  have hr:leafm ⟨true,y.ks.drop m,y.vs.drop m,[]⟩=(key,some u) :: leafm ⟨true,y.ks.drop (m+1),y.vs.drop (m+1),[]⟩:=by
   unfold leafm;rw[d1,d2];simp
  have hne:leafm ⟨true,y.ks.take m,y.vs.take m,[]⟩≠[]:=by
   intro q;have:=congrArg List.length q;unfold leafm at this;simp only[List.length_map,List.length_zip,List.length_take,List.length_nil]at this;have n1':0<m:=by
    rcases Nat.eq_zero_or_pos m with z | z
    ·subst z;simp at n1
    ·exact z
   omega
  rcases List.eq_nil_or_concat (leafm ⟨true,y.ks.take m,y.vs.take m,[]⟩) with q | ⟨l0,z,hz⟩
  ·exact absurd q hne
  ·have hzm:∃ a v,z=(a,some v):=by
    have:z∈leafm ⟨true,y.ks.take m,y.vs.take m,[]⟩:=by rw[hz];simp
    unfold leafm at this;obtain⟨p,_,rfl⟩:=List.mem_map.1 this;exact⟨_,_,rfl⟩
   obtain⟨a,v,rfl⟩:=hzm
   rw[hr,hz,List.concat_eq_append]at ho ⊢
   have e1:A++(l0++[(a,some v)]++(key,some u) :: leafm ⟨true,y.ks.drop (m+1),y.vs.drop (m+1),[]⟩)++C=(A++l0)++(a,some v) :: (key,some u) :: (leafm ⟨true,y.ks.drop (m+1),y.vs.drop (m+1),[]⟩++C):=by simp
   have e2:A++(l0++[(a,some v)]++(key,none) :: (key,some u) :: leafm ⟨true,y.ks.drop (m+1),y.vs.drop (m+1),[]⟩)++C=(A++l0)++(a,some v) :: (key,none) :: (key,some u) :: (leafm ⟨true,y.ks.drop (m+1),y.vs.drop (m+1),[]⟩++C):=by simp
   rw[e1]at ho
   rw[e2]
   exact pw_sep ho
def Ext (M M':Pm):Prop:=∀ q z,M q=some z→M' q=some z
theorem Ext.refl(M:Pm):Ext M M:=fun _ _ h=>h
theorem Ext.trans{M M' M'':Pm}(h:Ext M M')(k:Ext M' M''):Ext M M'':=fun q z e=>k q z (h q z e)
theorem pgN_some{M:Pm}:∀ (d:Nat) (x:Nd),WfN M d x→∀ q∈pgN M d x,∃ z,M q=some z
 | 0,_,_,q,h=>by simp[pgN]at h
 | d+1,x,w,q,h=>by
  rw[pgN_inner]at h;obtain⟨c,hc,hq⟩:=List.mem_flatMap.1 h;obtain⟨y,hy,_,_,wy⟩:=w.2.2 c hc;rw[pg_some hy]at hq;rcases List.mem_cons.1 hq with rfl | hq
  ·exact⟨y,hy⟩
  ·exact pgN_some d y wy q hq
theorem ext_same{M M':Pm}(h:Ext M M'){d:Nat}{x:Nd}(w:WfN M d x):pgN M' d x=pgN M d x∧fmN M' d x=fmN M d x∧WfN M' d x:=by
 obtain⟨a,b,c⟩:=pgN_same (M:=M) (M':=M') d x (fun q hq=>by obtain⟨z,hz⟩:=pgN_some d x w q hq;rw[hz,h q z hz]);exact⟨a,b,c w⟩
theorem ext_wf{M M':Pm}(h:Ext M M'){d n:Nat}(w:Wf M d n):pg M' d n=pg M d n∧fm M' d n=fm M d n∧Wf M' d n:=by
 obtain⟨y,hy,a,b,c⟩:=w;obtain⟨e1,e2,e3⟩:=ext_same h c;have hy':=h n y hy;exact⟨by rw[pg_some hy,pg_some hy',e1],by rw[fm_some hy,fm_some hy',e2],y,hy',a,b,e3⟩
def pt (M:Pm) (n:Nat) (y:Nd):Pm:=fun k=>if k=n then some y else M k
theorem pt_ext{M:Pm}{n:Nat}{y:Nd}(h:M n=none):Ext M (pt M n y):=by
 intro q z hz;unfold pt;rw[if_neg (by rintro rfl;rw[h]at hz;cases hz)];exact hz
theorem pt_same(M:Pm)(n:Nat)(y:Nd):pt M n y n=some y:=by unfold pt;rw[if_pos rfl]
def us (M:Pm) (q:Nat):Nat:=if (M q).isSome=true then 1 else 0
theorem us_pt{M:Pm}{n:Nat}{y:Nd}(h:M n=none)(q:Nat):us (pt M n y) q=us M q + [n].count q:=by
 unfold us pt;by_cases e:q=n
 ·subst e;simp[h]
 ·rw[if_neg e];simp[Ne.symm e]
def pgs (M:Pm) (d:Nat) (C:List Int):List Nat:=C.flatMap fun c=>pg M d c.toNat
theorem pgs_append(M:Pm)(d:Nat)(A B:List Int):pgs M d (A++B)=pgs M d A++pgs M d B:=List.flatMap_append
theorem pre_ext{M M':Pm}{d:Nat}:∀ (L:List Int) (K:List ByteArray),(∀ c∈L,fm M' d c.toNat=fm M d c.toNat)→pre (fm M' d) L K=pre (fm M d) L K:=by
 intro L K h;unfold pre;exact flat_congr fun p hp=>by rw[h p.1 (List.of_mem_zip hp).1]
theorem post_ext{M M':Pm}{d:Nat}:∀ (K:List ByteArray) (L:List Int),(∀ c∈L,fm M' d c.toNat=fm M d c.toNat)→post (fm M' d) K L=post (fm M d) K L:=by
 intro K L h;unfold post;exact flat_congr fun p hp=>by rw[h p.2 (List.of_mem_zip hp).2]
theorem pgs_ext{M M':Pm}{d:Nat}(L:List Int)(h:∀ c∈L,pg M' d c.toNat=pg M d c.toNat):pgs M' d L=pgs M d L:=flat_congr h
structure Lv (M0 M:Pm) (d p:Nat) (wp:List Nat) (now:Nd) (joined added:List Nat) (A C:List Mk) (g:List En→List En):Prop where
 ext:Ext M0 M
 used:∀ q,us M q=us M0 q+added.count q
 wf:WfN M d now
 ord:(A++fmN M d now++C).Pairwise R
 cn:con (fmN M d now)=g (con (fm M0 d p))
 cnt:∀ q,(pg M0 d p).count q+added.count q=(pgN M d now).count q+wp.count q+joined.count q
 size:now.put.length≤(if d=0 then 352 else 308)
structure Sg (M0 M:Pm) (d:Nat) (x:Nd) (i j:Nat) (y:Nd) (wp joined added:List Nat) (A C:List Mk) (g:List En→List En):Prop where
 ext:Ext M0 M
 used:∀ q,us M q=us M0 q+added.count q
 wf:WfN M d y
 ord:(A++pre (fm M0 d) (x.is.take i) (x.ks.take i)++fmN M d y++(post (fm M0 d) (x.ks.drop j) (x.is.drop (j+1))++C)).Pairwise R
 cn:con (pre (fm M0 d) (x.is.take i) (x.ks.take i))++con (fmN M d y)++con (post (fm M0 d) (x.ks.drop j) (x.is.drop (j+1)))=g (con (fmN M0 (d+1) x))
 cnt:∀ q,(pgN M0 (d+1) x).count q+added.count q=(pgs M0 d (x.is.take i)).count q+(pgN M d y).count q+(pgs M0 d (x.is.drop (j+1))).count q+wp.count q+joined.count q
 ij:i≤j
 jl:j≤x.ks.length
 size:y.put.length≤(if d=0 then 352 else 380)
 ne:y.ks≠[]
theorem at_kid{x:Nd}{i:Nat}{c:Int}(hi:x.is[i]? = some c):x.is=x.is.take i++[c]++x.is.drop (i+1):=by
 obtain⟨h1,h2⟩:=List.getElem?_eq_some_iff.1 hi;have:=List.getElem_cons_drop h1;rw[h2]at this;rw[List.append_assoc,List.singleton_append,this,List.take_append_drop]
theorem fm_kid{M:Pm}{d:Nat}{x:Nd}(g:N.Good x)(hl:x.leaf=false){i:Nat}{c:Int}(hi:x.is[i]? = some c):fmN M (d+1) x=pre (fm M d) (x.is.take i) (x.ks.take i)++fm M d c.toNat++post (fm M d) (x.ks.drop i) (x.is.drop (i+1)):=by
 have hn:=(g.li hl).1;have hlt:=(List.getElem?_eq_some_iff.1 hi).1;have h:=inmL_seg (fm M d) (x.is.take i) (x.ks.take i) [c] [] (x.is.drop (i+1)) (x.ks.drop i) (by rw[List.length_take,List.length_take];omega) rfl;rw[← at_kid hi,List.append_nil,List.take_append_drop,inmL_one]at h;exact h
theorem low_ne{M:Pm}{d:Nat}{y:Nd}(w:WfN M d y)(h:¬ y.put.length<79):y.ks≠[]:=by
 intro e;have:=head_four w.good;rw[put_len,e]at h;simp[Nd.tot_zero]at h;omega
theorem Lv.self{M0 M:Pm}{d p:Nat}{wp joined added:List Nat}{now x:Nd}{A C:List Mk}{g:List En→List En}{i:Nat}{c:Int}(w0:WfN M0 (d+1) x)(hi:x.is[i]? = some c)(hc:c.toNat=p)(h:Lv M0 M d p wp now joined added (A++pre (fm M0 d) (x.is.take i) (x.ks.take i)) (post (fm M0 d) (x.ks.drop i) (x.is.drop (i+1))++C) g)(hlow:¬ now.put.length<79)(hg:g (con (fmN M0 (d+1) x))=con (pre (fm M0 d) (x.is.take i) (x.ks.take i))++g (con (fm M0 d p))++con (post (fm M0 d) (x.ks.drop i) (x.is.drop (i+1)))) :
  Sg M0 M d x i i now wp joined added A C g:=by
 have hn:=(w0.2.1.li w0.1).1;have hlt:=(List.getElem?_eq_some_iff.1 hi).1;refine⟨h.ext,h.used,h.wf,by simpa using h.ord,by rw[hg,h.cn],?_,Nat.le_refl _,by omega,?_,low_ne h.wf hlow⟩
 ·intro q
  have:=h.cnt q;have e:pgN M0 (d+1) x=pgs M0 d (x.is.take i)++pg M0 d p++pgs M0 d (x.is.drop (i+1)):=by
   have h0:pgN M0 (d+1) x=pgs M0 d x.is:=rfl;rw[h0];conv=>lhs;rw[at_kid hi]
   rw[pgs_append,pgs_append];simp[pgs,hc]
  rw[e,List.count_append,List.count_append];omega
 ·have:=h.size
  split at this <;> rename_i hd <;> simp only[hd,if_true,if_false] <;> omega
theorem Lv.ahead{M0 M:Pm}{d p b:Nat}{wp joined added:List Nat}{now beside x:Nd}{A C:List Mk}{g:List En→List En}{i:Nat}{c cb:Int}{k:ByteArray}(w0:WfN M0 (d+1) x)(hi:x.is[i+1]? = some c)(hc:c.toNat=p)(hb:x.is[i]? = some cb)(hcb:cb.toNat=b)(hk:x.ks[i]? = some k)(hM:M0 b=some beside)(h:Lv M0 M d p wp now joined added (A++pre (fm M0 d) (x.is.take (i+1)) (x.ks.take (i+1))) (post (fm M0 d) (x.ks.drop (i+1)) (x.is.drop (i+1+1))++C) g)(hlow:now.put.length<79)(hg:g (con (fmN M0 (d+1) x))=con (pre (fm M0 d) (x.is.take (i+1)) (x.ks.take (i+1)))++g (con (fm M0 d p))++con (post (fm M0 d) (x.ks.drop (i+1)) (x.is.drop (i+1+1)))) :
  Sg M0 M d x i (i+1) (B.jn beside k now) wp (b :: joined) added A C g∧WfN M d beside∧M b=some beside:=by
 have hn:=(w0.2.1.li w0.1).1;have hlt:=(List.getElem?_eq_some_iff.1 hi).1;obtain⟨y,hy,hne,hsz,wb0⟩:=w0.2.2 cb (List.mem_of_getElem? hb);rw[hcb,hM]at hy;obtain rfl:=Option.some.inj hy;obtain⟨eb1,eb2,wb⟩:=ext_same h.ext wb0;have hks:k.size≤64:=w0.2.1.small k (List.mem_of_getElem? hk);have efb:fm M0 d b=fmN M d beside:=by rw[fm_some hM,eb2]
 have epb:pg M0 d b=b :: pgN M d beside:=by rw[pg_some hM,eb1]
 have e1:pre (fm M0 d) (x.is.take (i+1)) (x.ks.take (i+1))=pre (fm M0 d) (x.is.take i) (x.ks.take i)++fmN M d beside++[(k,none)]:=by
  rw[List.take_add_one,List.take_add_one,hb,hk,Option.toList_some,Option.toList_some,pre_append _ _ _ _ _ (by rw[List.length_take,List.length_take];omega),pre_one,hcb,efb];simp
 have ho:=h.ord;rw[e1]at ho;have ub:Up beside.ks:=up_of wb (by
  have s:List.Sublist (fmN M d beside) (A++(pre (fm M0 d) (x.is.take i) (x.ks.take i)++fmN M d beside++[(k,none)])++fmN M d now++(post (fm M0 d) (x.ks.drop (i+1)) (x.is.drop (i+1+1))++C)):=by
   refine ((List.sublist_append_right _ _).trans (List.sublist_append_left _ _)).trans ((List.sublist_append_right A _).trans ((List.sublist_append_left _ _).trans (List.sublist_append_left _ _)))
  exact ho.sublist s)
 have un:Up now.ks:=up_of h.wf (by
  refine ho.sublist ((List.sublist_append_right _ _).trans (List.sublist_append_left _ _)))
 have f1:=few_of wb.good ub;have f2:=few_of h.wf.good un;have hnn:beside.ks.length+now.ks.length+1≤120:=by omega
 have wj:=jn_wf (k:=k) wb h.wf hks hnn;have hput:=jn_put (k:=k) wb.good h.wf.good (by rw[wb.leaf,h.wf.leaf]) hks hnn;refine⟨⟨h.ext,h.used,wj,?_,?_,?_,by omega,by omega,?_,?_⟩,wb,h.ext b _ hM⟩
 ·rw[jn_fm wb h.wf]
  refine ho.sublist ?_;have e:A++(pre (fm M0 d) (x.is.take i) (x.ks.take i)++fmN M d beside++[(k,none)])++fmN M d now++(post (fm M0 d) (x.ks.drop (i+1)) (x.is.drop (i+1+1))++C)=A++pre (fm M0 d) (x.is.take i) (x.ks.take i)++(fmN M d beside++([(k,none)]++fmN M d now))++(post (fm M0 d) (x.ks.drop (i+1)) (x.is.drop (i+1+1))++C):=by simp
  rw[e];refine List.Sublist.append (List.Sublist.append (List.Sublist.refl _) (List.Sublist.append (List.Sublist.refl _) (List.Sublist.append ?_ (List.Sublist.refl _)))) (List.Sublist.refl _);split
  ·exact List.nil_sublist _
  ·exact List.Sublist.refl _
 ·rw[hg,← h.cn,e1,jn_fm wb h.wf]
  have:B.con ((if d=0 then [] else [(k,none)])++fmN M d now)=B.con (fmN M d now):=by split <;> simp[B.con]
  rw[con_append (fmN M d beside),this];simp[B.con]
 ·intro q
  have:=h.cnt q;have e:pgN M0 (d+1) x=pgs M0 d (x.is.take i)++pg M0 d b++pg M0 d p++pgs M0 d (x.is.drop (i+1+1)):=by
   have h0:pgN M0 (d+1) x=pgs M0 d x.is:=rfl;rw[h0];conv=>lhs;rw[at_kid hi]
   rw[List.take_add_one,hb,Option.toList_some,pgs_append,pgs_append,pgs_append];simp[pgs,hc,hcb]
  rw[e,jn_pg wb,epb];simp only[List.count_append,List.count_cons];omega
 ·have hs:=h.size
  have hbl:=wb.leaf;by_cases hd:d=0
  ·subst hd
   rw[if_pos (by rw[hbl];rfl)]at hput;simp only[if_true];omega
  ·rw[if_neg (by rw[hbl];simpa using hd)]at hput
   rw[if_neg hd];omega
 ·intro e
  cases hl:beside.leaf with
  | true=>rw[jn_leaf hl]at e;simp at e;exact hne e.1
  | false=>rw[jn_inner hl]at e;simp at e
theorem Lv.behind{M0 M:Pm}{d p b:Nat}{wp joined added:List Nat}{now beside x:Nd}{A C:List Mk}{g:List En→List En}{c cb:Int}{k:ByteArray}(w0:WfN M0 (d+1) x)(hi:x.is[0]? = some c)(hc:c.toNat=p)(hb:x.is[1]? = some cb)(hcb:cb.toNat=b)(hk:x.ks[0]? = some k)(hM:M0 b=some beside)(h:Lv M0 M d p wp now joined added (A++pre (fm M0 d) (x.is.take 0) (x.ks.take 0)) (post (fm M0 d) (x.ks.drop 0) (x.is.drop (0+1))++C) g)(hlow:now.put.length<79)(hg:g (con (fmN M0 (d+1) x))=con (pre (fm M0 d) (x.is.take 0) (x.ks.take 0))++g (con (fm M0 d p))++con (post (fm M0 d) (x.ks.drop 0) (x.is.drop (0+1)))) :
  Sg M0 M d x 0 1 (B.jn now k beside) wp (b :: joined) added A C g∧WfN M d beside∧M b=some beside:=by
 have hn:=(w0.2.1.li w0.1).1;obtain⟨y,hy,hne,hsz,wb0⟩:=w0.2.2 cb (List.mem_of_getElem? hb);rw[hcb,hM]at hy;obtain rfl:=Option.some.inj hy;obtain⟨eb1,eb2,wb⟩:=ext_same h.ext wb0;have hks:k.size≤64:=w0.2.1.small k (List.mem_of_getElem? hk);have efb:fm M0 d b=fmN M d beside:=by rw[fm_some hM,eb2]
 have epb:pg M0 d b=b :: pgN M d beside:=by rw[pg_some hM,eb1]
 obtain⟨k0,kr,ek⟩:∃ k0 kr,x.ks=k0 :: kr:=by cases q:x.ks with | nil=>rw[q]at hk;simp at hk | cons a r=>exact⟨a,r,rfl⟩
 obtain⟨c0,c1,cr,ei⟩:∃ c0 c1 cr,x.is=c0 :: c1 :: cr:=by
  match q:x.is with
  | []=>rw[q]at hi;simp at hi
  | [a]=>rw[q]at hb;simp at hb
  | a :: b :: r=>exact⟨a,b,r,rfl⟩
 rw[ek]at hk;rw[ei]at hi hb;simp at hk hi hb;subst hk;subst hi;subst hb;have e1:post (fm M0 d) (x.ks.drop 0) (x.is.drop (0+1))=(k0,none) :: (fmN M d beside++post (fm M0 d) (x.ks.drop 1) (x.is.drop (1+1))):=by
  rw[ek,ei];simp[post,hcb,efb]
 have ho:=h.ord;rw[e1]at ho hg;have ub:Up beside.ks:=up_of wb (by
  refine ho.sublist (List.Sublist.trans ?_ (List.sublist_append_right _ _))
  exact ((List.sublist_append_left _ _).trans (List.sublist_cons_self _ _)).trans (List.sublist_append_left _ _))
 have un:Up now.ks:=up_of h.wf (by
  refine ho.sublist ((List.sublist_append_right _ _).trans (List.sublist_append_left _ _)))
 have f1:=few_of wb.good ub;have f2:=few_of h.wf.good un;have hnn:now.ks.length+beside.ks.length+1≤120:=by omega
 have wj:=jn_wf (k:=k0) h.wf wb hks hnn;have hput:=jn_put (k:=k0) h.wf.good wb.good (by rw[wb.leaf,h.wf.leaf]) hks hnn;refine⟨⟨h.ext,h.used,wj,?_,?_,?_,by omega,by rw[ek];simp,?_,?_⟩,wb,h.ext b _ hM⟩
 ·rw[jn_fm h.wf wb]
  refine ho.sublist ?_;have e:A++pre (fm M0 d) (x.is.take 0) (x.ks.take 0)++fmN M d now++((k0,none) :: (fmN M d beside++post (fm M0 d) (x.ks.drop 1) (x.is.drop (1+1)))++C)=A++pre (fm M0 d) (x.is.take 0) (x.ks.take 0)++(fmN M d now++([(k0,none)]++fmN M d beside))++(post (fm M0 d) (x.ks.drop 1) (x.is.drop (1+1))++C):=by simp
  rw[e];refine List.Sublist.append (List.Sublist.append (List.Sublist.refl _) (List.Sublist.append (List.Sublist.refl _) (List.Sublist.append ?_ (List.Sublist.refl _)))) (List.Sublist.refl _);split
  ·exact List.nil_sublist _
  ·exact List.Sublist.refl _
 ·rw[hg,← h.cn,jn_fm h.wf wb]
  have:B.con ((if d=0 then [] else [(k0,none)])++fmN M d beside)=B.con (fmN M d beside):=by split <;> simp[B.con]
  rw[con_append (fmN M d now),this,con_sep,con_append];simp
 ·intro q
  have:=h.cnt q;have e:pgN M0 (d+1) x=pgs M0 d (x.is.take 0)++pg M0 d p++pg M0 d b++pgs M0 d (x.is.drop (1+1)):=by
   have h0:pgN M0 (d+1) x=pgs M0 d x.is:=rfl;rw[h0,ei];simp[pgs,hc,hcb]
  rw[e,jn_pg h.wf,epb];simp only[List.count_append,List.count_cons];omega
 ·have hs:=h.size
  have hbl:=h.wf.leaf;by_cases hd:d=0
  ·subst hd
   rw[if_pos (by rw[hbl];rfl)]at hput;simp only[if_true];omega
  ·rw[if_neg (by rw[hbl];simpa using hd)]at hput
   rw[if_neg hd];omega
 ·intro e
  cases hl:now.leaf with
  | true=>rw[jn_leaf hl]at e;simp at e;exact hne e.2
  | false=>rw[jn_inner hl]at e;simp at e
structure Pn (M M':Pm) (ps:List Nd) (ns:List Nat):Prop where
 ext:Ext M M'
 used:∀ q,us M' q=us M q+ns.count q
 len:ns.length=ps.length
 lie:∀ (i n:Nat) (y:Nd),ns[i]? = some n→ps[i]? = some y→M' n=some y
 few:∀ n∈ns,n≤16383
theorem Sg.above{M0 M M':Pm}{d p i j:Nat}{x y:Nd}{wp joined added:List Nat}{A C:List Mk}{g:List En→List En}(w0:WfN M0 (d+1) x)(hp:M0 p=some x)(hx:x.put.length≤237)(hxo:Up x.ks)(h:Sg M0 M d x i j y wp joined added A C g){ps:List Nd}{K:List ByteArray}{ns:List Nat}(hP:Prt y ps K)(hn:Pn M M' ps ns) :
  Lv M0 M' (d+1) p (p :: wp) (abv x i j (ns.map fun n:Nat=>(n:Int)) K) joined (added++ns) A C g:=by
 have hxi:=(w0.2.1.li w0.1).1;have fx:=few_of w0.2.1 hxo;have E:=h.ext.trans hn.ext;have hlen:ns.length=K.length+1∧K.length≤1:=by
  rw[hn.len];rcases hP with⟨_,rfl,rfl⟩|⟨_,m,key,_,_,rfl,rfl⟩ <;> simp
 have hKs:∀ k∈K,k.size≤64:=by
  rcases hP with⟨_,_,rfl⟩|⟨_,m,key,hk,_,_,rfl⟩
  ·simp
  ·intro k hk2;simp at hk2;rw[hk2];exact h.wf.good.small key (List.mem_of_getElem? hk)
 obtain⟨ga,gs⟩:=abv_good (P:=ns.map fun n:Nat=>(n:Int)) (K:=K) w0.2.1 w0.1 h.ij h.jl (by simpa using hlen.1) hlen.2 (by omega) (by
  intro q hq;obtain⟨n,hn2,rfl⟩:=List.mem_map.1 hq;exact⟨n,rfl,hn.few n hn2⟩) hKs
 obtain⟨ey1,ey2,wy⟩:=ext_same hn.ext h.wf
 -- the new pages
 have sub:∀ c∈x.is,fm M' d c.toNat=fm M0 d c.toNat∧pg M' d c.toNat=pg M0 d c.toNat∧Wf M' d c.toNat:=fun c hc=>by
  obtain⟨a,b,e⟩:=ext_wf E (w0.2.2 c hc);exact⟨b,a,e⟩
 have hy:=h.size;have new:(∀ n∈ns,Wf M' d n)∧(A++pre (fm M0 d) (x.is.take i) (x.ks.take i)++inmL (fm M' d) (ns.map fun n:Nat=>(n:Int)) K++(post (fm M0 d) (x.ks.drop j) (x.is.drop (j+1))++C)).Pairwise R ∧
   con (inmL (fm M' d) (ns.map fun n:Nat=>(n:Int)) K)=con (fmN M d y)∧∀ q,(pgs M' d (ns.map fun n:Nat=>(n:Int))).count q=ns.count q+(pgN M d y).count q:=by
  have hat:=hn.lie;have hl:=hn.len;rcases hP with⟨hle,rfl,rfl⟩|⟨hbig,m,key,hk,hm,rfl,rfl⟩
  ·obtain⟨n,rfl⟩:∃ n,ns=[n]:=by
    match ns,hl with
    | [n],_=>exact⟨n,rfl⟩
   have hn1:=hat 0 n y rfl rfl
   refine⟨?_,?_,?_,?_⟩
   ·intro q hq;simp at hq;rw[hq];exact⟨y,hn1,h.ne,hle,wy⟩
   ·simp only[List.map_cons,List.map_nil,inmL_one,Int.toNat_natCast]
    rw[fm_some hn1,ey2];exact h.ord
   ·simp only[List.map_cons,List.map_nil,inmL_one,Int.toNat_natCast]
    rw[fm_some hn1,ey2]
   ·intro q
    simp only[pgs,List.map_cons,List.map_nil,List.flatMap_cons,List.flatMap_nil,Int.toNat_natCast,List.append_nil];rw[pg_some hn1,ey1,List.count_cons,List.count_cons,List.count_nil];omega
  ·obtain⟨n1,n2,rfl⟩:∃ n1 n2,ns=[n1,n2]:=by
    match ns,hl with
    | [a,b],_=>exact⟨a,b,rfl⟩
   have h1:=hat 0 n1 _ rfl rfl
   have h2:=hat 1 n2 _ rfl rfl
   obtain⟨w1,w2,e1,e2,f1,f2⟩:=prt_wf h.wf hbig hm hy
   obtain⟨o1,o2,o3⟩:=prt_ord h.wf hbig hm hy hk h.ord
   obtain⟨a1,a2,a3⟩:=ext_same hn.ext w1
   obtain⟨b1,b2,b3⟩:=ext_same hn.ext w2
   refine⟨?_,?_,?_,?_⟩
   ·intro q hq
    simp at hq;rcases hq with rfl | rfl
    ·exact⟨_,h1,e1,f1,a3⟩
    ·exact⟨_,h2,e2,f2,b3⟩
   ·simp only[List.map_cons,List.map_nil,inmL_two,Int.toNat_natCast]
    rw[fm_some h1,fm_some h2,a2,b2];exact o1
   ·simp only[List.map_cons,List.map_nil,inmL_two,Int.toNat_natCast]
    rw[fm_some h1,fm_some h2,a2,b2];exact o2
   ·intro q
    simp only[pgs,List.map_cons,List.map_nil,List.flatMap_cons,List.flatMap_nil,Int.toNat_natCast,List.append_nil];rw[pg_some h1,pg_some h2,a1,b1,o3];simp only[List.count_append,List.count_cons,List.count_nil];omega
 obtain⟨nw,no,nc,np⟩:=new;have efm:fmN M' (d+1) (abv x i j (ns.map fun n:Nat=>(n:Int)) K)=pre (fm M0 d) (x.is.take i) (x.ks.take i)++inmL (fm M' d) (ns.map fun n:Nat=>(n:Int)) K++post (fm M0 d) (x.ks.drop j) (x.is.drop (j+1)):=by
  rw[fmN_inner];unfold inm abv;show inmL (fm M' d) (x.is.take i++(ns.map fun n:Nat=>(n:Int))++x.is.drop (j+1)) (x.ks.take i++K++x.ks.drop j)=_;have h1:=h.ij;have h2:=h.jl;rw[inmL_seg (fm M' d) (x.is.take i) (x.ks.take i) (ns.map fun n:Nat=>(n:Int)) K (x.is.drop (j+1)) (x.ks.drop j) (by rw[List.length_take,List.length_take];omega) (by simpa using hlen.1.symm)];rw[pre_ext _ _ (fun c hc=>(sub c (List.mem_of_mem_take hc)).1),post_ext _ _ (fun c hc=>(sub c (List.mem_of_mem_drop hc)).1)]
 refine⟨E,?_,?_,?_,?_,?_,?_⟩
 ·intro q
  rw[hn.used,h.used,List.count_append];omega
 ·refine⟨rfl,ga,?_⟩
  intro c hc;rcases List.mem_append.1 hc with hc | hc
  ·rcases List.mem_append.1 hc with hc | hc
   ·exact (sub c (List.mem_of_mem_take hc)).2.2
   ·obtain⟨n,hn2,rfl⟩:=List.mem_map.1 hc;exact nw n hn2
  ·exact (sub c (List.mem_of_mem_drop hc)).2.2
 ·rw[efm]
  have e:A++(pre (fm M0 d) (x.is.take i) (x.ks.take i)++inmL (fm M' d) (ns.map fun n:Nat=>(n:Int)) K++post (fm M0 d) (x.ks.drop j) (x.is.drop (j+1)))++C=A++pre (fm M0 d) (x.is.take i) (x.ks.take i)++inmL (fm M' d) (ns.map fun n:Nat=>(n:Int)) K++(post (fm M0 d) (x.ks.drop j) (x.is.drop (j+1))++C):=by simp
  rw[e];exact no
 ·rw[efm,con_append,con_append,nc,h.cn,fm_some hp]
 ·intro q
  have hc:=h.cnt q;have e1:pgN M' (d+1) (abv x i j (ns.map fun n:Nat=>(n:Int)) K)=pgs M0 d (x.is.take i)++pgs M' d (ns.map fun n:Nat=>(n:Int))++pgs M0 d (x.is.drop (j+1)):=by
   show pgs M' d (x.is.take i++(ns.map fun n:Nat=>(n:Int))++x.is.drop (j+1))=_;rw[pgs_append,pgs_append,pgs_ext _ (fun c hc=>(sub c (List.mem_of_mem_take hc)).2.1),pgs_ext _ (fun c hc=>(sub c (List.mem_of_mem_drop hc)).2.1)]
  rw[e1,pg_some hp];simp only[List.count_append,List.count_cons,np];omega
 ·rw[if_neg (Nat.succ_ne_zero d)]
  omega
structure Tr (M:Pm) (d n:Nat):Prop where
 wf:Wf M d n
 ord:(fm M d n).Pairwise R
 cnt:∀ q,(pg M d n).count q=us M q
def drp (M:Pm) (D:List Nat):Pm:=fun q=>if q∈D then none else M q
theorem us_le(M:Pm)(q:Nat):us M q≤1:=by unfold us;split <;> omega
theorem drp_us{M:Pm}{D P:List Nat}(h:∀ q,us M q=P.count q+D.count q)(q:Nat):P.count q=us (drp M D) q∧(q∈P→drp M D q=M q):=by
 have h1:=h q;have h2:=us_le M q;by_cases e:q∈D
 ·have:0<D.count q:=List.count_pos_iff.2 e
  have h3:P.count q=0:=by omega
  refine⟨?_,fun hp=>absurd (List.count_pos_iff.2 hp) (by omega)⟩;unfold us drp;rw[if_pos e];simpa using h3
 ·have h4:D.count q=0:=List.count_eq_zero.2 e
  have:drp M D q=M q:=by unfold drp;rw[if_neg e]
  refine⟨?_,fun _=>this⟩;unfold us at h1 ⊢;rw[this];omega
theorem tr_end{M:Pm}{d n:Nat}{D:List Nat}(w:Wf M d n)(o:(fm M d n).Pairwise R)(h:∀ q,us M q=(pg M d n).count q+D.count q):Tr (drp M D) d n∧fm (drp M D) d n=fm M d n:=by
 obtain⟨y,hy,a,b,c⟩:=w;have hs:∀ q∈pg M d n,drp M D q=M q:=fun q hq=>(drp_us h q).2 hq
 rw[pg_some hy]at hs;obtain⟨e1,e2,e3⟩:=pgN_same (M:=M) (M':=drp M D) d y (fun q hq=>hs q (List.mem_cons_of_mem _ hq));have hy':drp M D n=some y:=(hs n List.mem_cons_self).trans hy;have ef:fm (drp M D) d n=fm M d n:=by rw[fm_some hy',fm_some hy,e2]
 refine⟨⟨⟨y,hy',a,b,e3 c⟩,by rw[ef];exact o,fun q=>?_⟩,ef⟩;rw[pg_some hy',e1,← pg_some hy];exact (drp_us h q).1
structure Stp where
 page:Nat
 x:Nd
 kid:Nat
def nodeAt (M:Pm) (n:Nat):Nd:=(M n).getD ⟨true,[],[],[]⟩
theorem nodeAt_some{M:Pm}{n:Nat}{y:Nd}(h:M n=some y):nodeAt M n=y:=by unfold nodeAt;rw[h];rfl
def stpAt (M:Pm) (key:ByteArray) (n:Nat):Stp:=⟨n,nodeAt M n,plc (nodeAt M n) key⟩
def nxt (M:Pm) (key:ByteArray) (n:Nat):Nat:=((nodeAt M n).is[plc (nodeAt M n) key]?.getD 0).toNat
def path (M:Pm) (key:ByteArray):Nat→Nat→List Stp
 | 0,n=>[stpAt M key n]
 | d+1,n=>stpAt M key n :: path M key d (nxt M key n)
theorem path_length(M:Pm)(key:ByteArray):∀ d n,(path M key d n).length=d+1
 | 0,_=>rfl
 | d+1,n=>by rw[path,List.length_cons,path_length M key d]
theorem path_zero(M:Pm)(key:ByteArray)(d n:Nat):(path M key d n)[0]? = some (stpAt M key n):=by cases d <;> rfl
def cA (M:Pm):Nat→List Stp→List Mk
 | _,[]=>[]
 | D,s :: r=>pre (fm M (D-1)) (s.x.is.take s.kid) (s.x.ks.take s.kid)++cA M (D-1) r
def cC (M:Pm):Nat→List Stp→List Mk
 | _,[]=>[]
 | D,s :: r=>cC M (D-1) r++post (fm M (D-1)) (s.x.ks.drop s.kid) (s.x.is.drop (s.kid+1))
theorem cA_snoc(M:Pm):∀ (D:Nat) (l:List Stp) (s:Stp),cA M D (l++[s])=cA M D l++pre (fm M (D-l.length-1)) (s.x.is.take s.kid) (s.x.ks.take s.kid)
 | D,[],s=>by simp[cA]
 | D,a :: l,s=>by
  rw[List.cons_append,cA,cA,cA_snoc M (D-1) l s,List.append_assoc,List.length_cons];congr 3;have:D-1-l.length-1=D-(l.length+1)-1:=by omega
  rw[this]
theorem cC_snoc(M:Pm):∀ (D:Nat) (l:List Stp) (s:Stp),cC M D (l++[s])=post (fm M (D-l.length-1)) (s.x.ks.drop s.kid) (s.x.is.drop (s.kid+1))++cC M D l
 | D,[],s=>by simp[cC]
 | D,a :: l,s=>by
  rw[List.cons_append,cC,cC,cC_snoc M (D-1) l s,List.append_assoc,List.length_cons];congr 3;have:D-1-l.length-1=D-(l.length+1)-1:=by omega
  rw[this]
structure Pf (M:Pm) (key:ByteArray) (d:Nat) (s:Stp) (A C:List Mk):Prop where
 mem:M s.page=some s.x
 ne:s.x.ks≠[]
 size:s.x.put.length≤237
 wf:WfN M d s.x
 kid:s.kid=plc s.x key
 ah:Ah key A
 be:Be key C
 ord:(A++fmN M d s.x++C).Pairwise R
theorem Pf.up{M:Pm}{key:ByteArray}{d:Nat}{s:Stp}{A C:List Mk}(h:Pf M key d s A C):Up s.x.ks:=
 up_of h.wf (h.ord.sublist ((List.sublist_append_right A _).trans (List.sublist_append_left _ C)))
theorem Pf.next{M:Pm}{key:ByteArray}{d:Nat}{s:Stp}{A C:List Mk}(h:Pf M key (d+1) s A C):∃ c:Int,s.x.is[s.kid]? = some c ∧
  Pf M key d (stpAt M key c.toNat) (A++pre (fm M d) (s.x.is.take s.kid) (s.x.ks.take s.kid)) (post (fm M d) (s.x.ks.drop s.kid) (s.x.is.drop (s.kid+1))++C):=by
 have hn:=(h.wf.2.1.li h.wf.1).1;have hk:s.kid≤s.x.ks.length:=by rw[h.kid];exact plc_le _ _
 have hi:s.x.is[s.kid]? = some (s.x.is[s.kid]'(by omega)):=List.getElem?_eq_getElem (by omega);refine⟨_,hi,?_⟩;obtain⟨y,hy,a,b,c⟩:=h.wf.2.2 _ (List.mem_of_getElem? hi);have ho:=h.ord;rw[fm_kid h.wf.2.1 h.wf.1 hi,fm_some hy]at ho;have ho2:(A++pre (fm M d) (s.x.is.take s.kid) (s.x.ks.take s.kid)++fmN M d y++(post (fm M d) (s.x.ks.drop s.kid) (s.x.is.drop (s.kid+1))++C)).Pairwise R:=by simpa using ho
 have es:stpAt M key (s.x.is[s.kid]'(by omega)).toNat=⟨(s.x.is[s.kid]'(by omega)).toNat,y,plc y key⟩:=by unfold stpAt;rw[nodeAt_some hy]
 rw[es];refine⟨hy,a,b,c,rfl,h.ah.append ?_,Be.append ?_ h.be,ho2⟩
 ·refine pre_ah _ _ _ (by rw[List.length_take,List.length_take];omega) (by rw[h.kid];exact plc_below key) (ho2.sublist ?_)
  exact ((List.sublist_append_right A _).trans (List.sublist_append_left _ _)).trans (List.sublist_append_left _ _)
 ·refine post_be _ _ _ (by rw[List.length_drop,List.length_drop];omega) (by rw[h.kid];exact plc_above h.up key) (ho2.sublist ?_)
  exact (List.sublist_append_left _ C).trans (List.sublist_append_right _ _)
theorem Pf.nxt{M:Pm}{key:ByteArray}{d:Nat}{s:Stp}{A C:List Mk}(h:Pf M key (d+1) s A C){c:Int}(hc:s.x.is[s.kid]? = some c):B.nxt M key s.page=c.toNat:=by
 unfold B.nxt;rw[nodeAt_some h.mem,← h.kid,hc];rfl
theorem path_pf{M:Pm}{key:ByteArray}:∀ (d n:Nat) (A C:List Mk),Pf M key d (stpAt M key n) A C→∀ (k:Nat) (s:Stp),(path M key d n)[k]? = some s→k≤d∧Pf M key (d-k) s (A++cA M d ((path M key d n).take k)) (cC M d ((path M key d n).take k)++C)
 | 0,n,A,C,h,0,s,e=>by
  simp[path]at e;subst e;exact⟨Nat.le_refl _,by simpa[cA,cC] using h⟩
 | 0,n,A,C,h,k+1,s,e=>by simp[path]at e
 | d+1,n,A,C,h,0,s,e=>by
  simp[path]at e;subst e;exact⟨by omega,by simpa[cA,cC] using h⟩
 | d+1,n,A,C,h,k+1,s,e=>by
  obtain⟨c,hc,h2⟩:=h.next;have en:B.nxt M key n=c.toNat:=h.nxt hc;rw[path,en]at e ⊢;simp only[List.getElem?_cons_succ]at e;obtain⟨a,b⟩:=path_pf d c.toNat _ _ h2 k s e;refine⟨by omega,?_⟩;rw[List.take_succ_cons,cA,cC];rw[show d+1-(k+1)=d-k by omega,show d+1-1=d by omega];simpa using b
theorem path_next{M:Pm}{key:ByteArray}:∀ (d n:Nat) (A C:List Mk),Pf M key d (stpAt M key n) A C→∀ (k:Nat) (s s':Stp),(path M key d n)[k]? = some s→(path M key d n)[k+1]? = some s'→∃ c:Int,s.x.is[s.kid]? = some c∧s'.page=c.toNat
 | 0,n,A,C,h,k,s,s',_,e=>by simp[path]at e
 | d+1,n,A,C,h,0,s,s',e,e'=>by
  obtain⟨c,hc,h2⟩:=h.next;have en:B.nxt M key n=c.toNat:=h.nxt hc;rw[path,en]at e e';simp at e;subst e;simp only[List.getElem?_cons_succ,path_zero]at e';obtain rfl:=Option.some.inj e';exact⟨c,hc,rfl⟩
 | d+1,n,A,C,h,k+1,s,s',e,e'=>by
  obtain⟨c,hc,h2⟩:=h.next;have en:B.nxt M key n=c.toNat:=h.nxt hc;rw[path,en]at e e';simp only[List.getElem?_cons_succ]at e e';exact path_next d c.toNat _ _ h2 k s s' e e'
theorem Tr.pf{M:Pm}{d n:Nat}(h:Tr M d n)(key:ByteArray):Pf M key d (stpAt M key n) [] []:=by
 obtain⟨y,hy,a,b,c⟩:=h.wf;have es:stpAt M key n=⟨n,y,plc y key⟩:=by unfold stpAt;rw[nodeAt_some hy]
 have ho:=h.ord;rw[fm_some hy]at ho;rw[es];exact⟨hy,a,b,c,rfl,(fun a ha=>by cases ha),(fun a ha=>by cases ha),by simpa using ho⟩
theorem Pf.start{M:Pm}{key:ByteArray}{s:Stp}{A C:List Mk}(h:Pf M key 0 s A C)(hks:key.size≤64)(v:Vl)(hv:Okv v) :
  Lv M M 0 s.page [s.page] ⟨true,setK s.x.ks key,setV s.x.ks s.x.vs key v,[]⟩ [] [] A C (upd key [(key,v)])∧Lv M M 0 s.page [s.page] ⟨true,delK s.x.ks key,delV s.x.ks s.x.vs key,[]⟩ [] [] A C (upd key []):=by
 have hu:=h.up;have hl:=h.wf.1;have g:=h.wf.2;have lv:=(g.lv hl).1;have f:=few_of g hu;have hs:=h.size;obtain⟨o1,o2,e1,e2⟩:=ord_set (v:=v) hu lv h.ah h.be h.ord;have hkl:(keyN key).length≤65:=keyN_length key hks;have hvl:=valN_length v hv;have fi:=fnd_le key s.x.ks;have g1:N.Good ⟨true,setK s.x.ks key,setV s.x.ks s.x.vs key v,[]⟩:=by
  refine⟨?_,?_,fun _=>⟨setV_length _ _ _ _ lv,rfl⟩,(fun e=>by cases e),?_,(fun i hi=>by cases hi)⟩
  ·show (setK s.x.ks key).length≤120
   rw[setK_length];split <;> omega
  ·intro k hk
   unfold setK at hk;split at hk
   ·exact g.small k hk
   ·unfold ins at hk
    rcases List.mem_append.1 hk with hk | hk
    ·exact g.small k (List.mem_of_mem_take hk)
    ·rcases List.mem_cons.1 hk with rfl | hk
     ·exact hks
     ·exact g.small k (List.mem_of_mem_drop hk)
  ·intro k hk
   unfold setV at hk;split at hk
   ·rcases List.mem_or_eq_of_mem_set hk with hk | rfl
    ·exact g.ok k hk
    ·exact hv
   ·unfold ins at hk
    rcases List.mem_append.1 hk with hk | hk
    ·exact g.ok k (List.mem_of_mem_take hk)
    ·rcases List.mem_cons.1 hk with rfl | hk
     ·exact hv
     ·exact g.ok k (List.mem_of_mem_drop hk)
 have hdl:(delV s.x.ks s.x.vs key).length=(delK s.x.ks key).length∧(delK s.x.ks key).length≤s.x.ks.length:=by
  unfold delK delV;split
  ·rename_i hi
   have:=isk_lt hi;rw[del_length _ _ this,del_length _ _ (by omega),lv];omega
  ·exact⟨lv,Nat.le_refl _⟩
 have g2:N.Good ⟨true,delK s.x.ks key,delV s.x.ks s.x.vs key,[]⟩:=by
  refine⟨?_,?_,fun _=>⟨hdl.1,rfl⟩,(fun e=>by cases e),?_,(fun i hi=>by cases hi)⟩
  ·show (delK s.x.ks key).length≤120
   omega
  ·intro k hk
   unfold delK at hk;split at hk
   ·unfold del at hk
    exact g.small k ((List.mem_append.1 hk).elim List.mem_of_mem_take List.mem_of_mem_drop)
   ·exact g.small k hk
  ·intro k hk
   unfold delV at hk;split at hk
   ·unfold del at hk
    exact g.ok k ((List.mem_append.1 hk).elim List.mem_of_mem_take List.mem_of_mem_drop)
   ·exact g.ok k hk
 have ksp:∀ i,ksum (s.x.ks.take i)+ksum (s.x.ks.drop i)=ksum s.x.ks:=fun i=>by rw[← ksum_app,List.take_append_drop]
 have vsp:∀ i,vsum (s.x.vs.take i)+vsum (s.x.vs.drop i)=vsum s.x.vs:=fun i=>by rw[← vsum_app,List.take_append_drop]
 have hput:=put_leaf g hl;have ef:con (fm M 0 s.page)=s.x.ks.zip s.x.vs:=by rw[fm_some h.mem,fmN_leaf,con_leaf]
 refine⟨⟨Ext.refl _,fun q=>by simp,⟨rfl,g1⟩,o1,?_,?_,?_⟩,⟨Ext.refl _,fun q=>by simp,⟨rfl,g2⟩,o2,?_,?_,?_⟩⟩
 ·rw[ef,fmN_leaf,con_leaf];exact e1
 ·intro q;rw[pg_some h.mem];simp[pgN]
 ·rw[put_leaf g1 rfl,if_pos rfl]
  show 1+ksum (setK s.x.ks key)+vsum (setV s.x.ks s.x.vs key v)≤352;have a:=ksum_set s.x.ks key hks;have b:=vsum_setV s.x.ks s.x.vs key v hv;omega
 ·rw[ef,fmN_leaf,con_leaf];exact e2
 ·intro q;rw[pg_some h.mem];simp[pgN]
 ·rw[put_leaf g2 rfl,if_pos rfl]
  show 1+ksum (delK s.x.ks key)+vsum (delV s.x.ks s.x.vs key)≤352;have a:ksum (delK s.x.ks key)≤ksum s.x.ks:=by
   unfold delK;split
   ·unfold del
    rw[ksum_app];have:=ksp (fnd key s.x.ks);have h2:ksum (s.x.ks.drop (fnd key s.x.ks+1))≤ksum (s.x.ks.drop (fnd key s.x.ks)):=by
     have e:s.x.ks.drop (fnd key s.x.ks+1)=(s.x.ks.drop (fnd key s.x.ks)).drop 1:=by rw[List.drop_drop]
     rw[e];have:=congrArg ksum (List.take_append_drop 1 (s.x.ks.drop (fnd key s.x.ks)));rw[ksum_app]at this;omega
    omega
   ·exact Nat.le_refl _
  have b:vsum (delV s.x.ks s.x.vs key)≤vsum s.x.vs:=by
   unfold delV;split
   ·unfold del
    rw[vsum_app];have:=vsp (fnd key s.x.ks);have h2:vsum (s.x.vs.drop (fnd key s.x.ks+1))≤vsum (s.x.vs.drop (fnd key s.x.ks)):=by
     have e:s.x.vs.drop (fnd key s.x.ks+1)=(s.x.vs.drop (fnd key s.x.ks)).drop 1:=by rw[List.drop_drop]
     rw[e];have:=congrArg vsum (List.take_append_drop 1 (s.x.vs.drop (fnd key s.x.ks)));rw[vsum_app]at this;omega
    omega
   ·exact Nat.le_refl _
  omega
theorem Pf.lifts{M:Pm}{key:ByteArray}{d:Nat}{s:Stp}{A C:List Mk}(h:Pf M key (d+1) s A C){c:Int}(hc:s.x.is[s.kid]? = some c)(mid:List En) :
  upd key mid (con (fmN M (d+1) s.x))=con (pre (fm M d) (s.x.is.take s.kid) (s.x.ks.take s.kid))++upd key mid (con (fm M d c.toNat))++con (post (fm M d) (s.x.ks.drop s.kid) (s.x.is.drop (s.kid+1))):=by
 obtain⟨c',hc',h2⟩:=h.next;rw[fm_kid h.wf.2.1 h.wf.1 hc,con_append,con_append];refine upd_ctx ?_ ?_
 ·exact Ah.con (fun a ha=>h2.ah a (List.mem_append_right _ ha))
 ·exact Be.con (fun a ha=>h2.be a (List.mem_append_left _ ha))
def got (k:ByteArray) (l:List En):Option Vl:=(l.find? fun e=>decide (e.1=k)).map (·.2)
theorem got_ctx{k:ByteArray}{A B C:List En}(ha:∀ e∈A,sl e.1 k=true)(hc:∀ e∈C,sl k e.1=true):got k (A++B++C)=got k B:=by
 unfold got;have h1:A.find? (fun e=>decide (e.1=k))=none:=List.find?_eq_none.2 (fun e he=>by
  intro q
  have q':e.1=k:=by simpa using q
  have:=ha e he;rw[q',sl_irrefl]at this;cases this)
 have h3:C.find? (fun e=>decide (e.1=k))=none:=List.find?_eq_none.2 (fun e he=>by
  intro q
  have q':e.1=k:=by simpa using q
  have:=hc e he;rw[q',sl_irrefl]at this;cases this)
 rw[List.append_assoc,List.find?_append,h1,List.find?_append,h3];simp
theorem got_leaf{k:ByteArray}{ks:List ByteArray}{vs:List Vl}(hu:Up ks)(hl:vs.length=ks.length):got k (ks.zip vs)=if isk k ks=true then some (oldV ks vs k) else none:=by
 obtain⟨l1,m0,l3,e,h1,h3,h4,_,_⟩:=leaf_split k ⟨⟨#[]⟩,-1,0⟩ ks vs hu hl;rw[e,got_ctx h1 h3];rcases h4 with⟨h,rfl⟩|⟨h,rfl⟩
 ·rw[if_pos h];simp[got]
 ·rw[if_neg (by rw[h];decide)];rfl
theorem path_got{M:Pm}{key:ByteArray}:∀ (d n:Nat) (A C:List Mk),Pf M key d (stpAt M key n) A C→∀ (s:Stp),(path M key d n)[d]? = some s→got key (con (fm M d n))=if isk key s.x.ks=true then some (oldV s.x.ks s.x.vs key) else none
 | 0,n,A,C,h,s,e=>by
  simp[path]at e;subst e;have hm:M n=some (stpAt M key n).x:=h.mem;rw[fm_some hm,fmN_leaf,con_leaf];exact got_leaf h.up (h.wf.2.lv h.wf.1).1
 | d+1,n,A,C,h,s,e=>by
  obtain⟨c,hc,h2⟩:=h.next;have en:B.nxt M key n=c.toNat:=h.nxt hc;rw[path,en]at e;simp only[List.getElem?_cons_succ]at e;rw[← path_got d c.toNat _ _ h2 s e];have hm:M n=some (stpAt M key n).x:=h.mem;rw[fm_some hm,fm_kid h.wf.2.1 h.wf.1 hc,con_append,con_append];exact got_ctx (Ah.con (fun a ha=>h2.ah a (List.mem_append_right _ ha))) (Be.con (fun a ha=>h2.be a (List.mem_append_left _ ha)))
theorem wf_many{M:Pm}:∀ (d:Nat) (x:Nd),WfN M d x→x.ks≠[]→2 ^ d≤(con (fmN M d x)).length∧(pgN M d x).length+2≤2*(con (fmN M d x)).length
 | 0,x,w,hne=>by
  rw[fmN_leaf,con_leaf,List.length_zip,(w.2.lv w.1).1,Nat.min_self];have:0<x.ks.length:=List.length_pos_iff.2 hne;simp[pgN];omega
 | d+1,x,w,hne=>by
  have hk:0<x.ks.length:=List.length_pos_iff.2 hne;have hi:=(w.2.1.li w.1).1;have sub:∀ c∈x.is,2 ^ d≤(con (fm M d c.toNat)).length∧(pg M d c.toNat).length+1≤2*(con (fm M d c.toNat)).length:=by
   intro c hc;obtain⟨y,hy,a,_,wy⟩:=w.2.2 c hc;obtain⟨h1,h2⟩:=wf_many d y wy a;rw[fm_some hy,pg_some hy,List.length_cons];omega
  have sum:∀ (K:List ByteArray) (L:List Int),K.length=L.length→(∀ c∈L,c∈x.is)→L.length*2 ^ d≤(con (post (fm M d) K L)).length∧(pgs M d L).length+L.length≤2*(con (post (fm M d) K L)).length:=by
   intro K L;induction L generalizing K with
   | nil=>intro h _;simp[pgs]
   | cons c r ih=>
    intro h hs;obtain⟨k,K',rfl⟩:∃ k K',K=k :: K':=by cases K with | nil=>simp at h | cons k K'=>exact⟨k,K',rfl⟩
    obtain⟨i1,i2⟩:=ih K' (by simpa using h) (fun q hq=>hs q (List.mem_cons_of_mem _ hq));obtain⟨s1,s2⟩:=sub c (hs c List.mem_cons_self);have e1:con (post (fm M d) (k :: K') (c :: r))=con (fm M d c.toNat)++con (post (fm M d) K' r):=by simp[post,con_sep,con_append]
    have e2:pgs M d (c :: r)=pg M d c.toNat++pgs M d r:=by simp[pgs]
    rw[e1,e2,List.length_append,List.length_append,List.length_cons,Nat.succ_mul];omega
  obtain⟨c,r,e⟩:∃ c r,x.is=c :: r:=by cases q:x.is with | nil=>rw[q]at hi;simp at hi | cons c r=>exact⟨c,r,rfl⟩
  have hr:x.ks.length=r.length:=by rw[e]at hi;simpa using hi.symm
  obtain⟨t1,t2⟩:=sum x.ks r hr (fun q hq=>by rw[e];exact List.mem_cons_of_mem _ hq);obtain⟨s1,s2⟩:=sub c (by rw[e];exact List.mem_cons_self);have ef:con (fmN M (d+1) x)=con (fm M d c.toNat)++con (post (fm M d) x.ks r):=by
   rw[fmN_inner];unfold inm inmL;rw[e];exact con_append _ _
  have ep:pgN M (d+1) x=pg M d c.toNat++pgs M d r:=by rw[pgN_inner,e];simp[pgs]
  rw[ef,ep,List.length_append,List.length_append];have h3:1*2 ^ d≤r.length*2 ^ d:=Nat.mul_le_mul_right _ (by omega);rw[Nat.pow_succ];omega
theorem Tr.many{M:Pm}{d n:Nat}(h:Tr M d n):2 ^ d≤(con (fm M d n)).length∧(pg M d n).length+1≤2*(con (fm M d n)).length:=by
 obtain⟨y,hy,a,_,c⟩:=h.wf;obtain⟨h1,h2⟩:=wf_many d y c a;rw[fm_some hy,pg_some hy,List.length_cons];omega
def Tree (M:Pm) (root:Int) (l:List En):Prop:=(root=-1∧l=[]∧∀ q,M q=none)∨∃ d n:Nat,root=(n:Int)∧Tr M d n∧con (fm M d n)=l
theorem crown_none{M0 M:Pm}{d p:Nat}{wp joined added:List Nat}{now:Nd}{g:List En→List En}(h0:Tr M0 d p)(h:Lv M0 M d p wp now joined added [] [] g)(hk:now.ks=[]) :
  (now.leaf=true→Tree (drp M (wp++joined)) (-1) (g (con (fm M0 d p))))∧(now.leaf=false→∃ c:Int,now.is=[c]∧0≤c∧Tree (drp M (wp++joined)) c (g (con (fm M0 d p)))):=by
 have hu:∀ q,us M q=(pgN M d now).count q+(wp++joined).count q:=by
  intro q;rw[h.used,← h0.cnt,h.cnt,List.count_append];omega
 have ho:=h.ord;simp only[List.nil_append,List.append_nil]at ho;constructor
 ·intro hl
  have hd:d=0:=by have:=h.wf.leaf;rw[hl]at this;simpa using this.symm
  subst hd;refine .inl ⟨rfl,?_,fun q=>?_⟩
  ·rw[← h.cn,fmN_leaf,con_leaf,hk];rfl
  ·have h1:=(drp_us hu q).1
   unfold us at h1;simp[pgN]at h1;exact h1
 ·intro hl
  obtain⟨d',rfl⟩:∃ d',d=d'+1:=by
   cases d with
   | zero=>rw[h.wf.1]at hl;cases hl
   | succ d'=>exact⟨d',rfl⟩
  have hi:=(h.wf.2.1.li hl).1;rw[hk]at hi;obtain⟨c,e⟩:∃ c,now.is=[c]:=List.length_eq_one_iff.1 hi;obtain⟨q,ec,_⟩:=h.wf.2.1.ik c (by rw[e];simp);have ef:fmN M (d'+1) now=fm M d' c.toNat:=by rw[fmN_inner];unfold inm;rw[e,hk,inmL_one]
  have ep:pgN M (d'+1) now=pg M d' c.toNat:=by rw[pgN_inner,e];simp
  obtain⟨t,ft⟩:=tr_end (d:=d') (n:=c.toNat) (D:=wp++joined) (h.wf.2.2 c (by rw[e];simp)) (by rw[← ef];exact ho) (by rw[← ep];exact hu);refine⟨c,e,by omega,.inr ⟨d',c.toNat,by omega,t,?_⟩⟩;rw[ft,← ef,h.cn]
theorem crown_put{M0 M M':Pm}{d p:Nat}{wp joined added:List Nat}{now:Nd}{g:List En→List En}(h0:Tr M0 d p)(h:Lv M0 M d p wp now joined added [] [] g)(hk:now.ks≠[]){ps:List Nd}{K:List ByteArray}{ns:List Nat}(hP:Prt now ps K)(hn:Pn M M' ps ns) :
  (∀ n,ns=[n]→Tree (drp M' (wp++joined)) (n:Int) (g (con (fm M0 d p))))∧(ns.length≠1→∃ n1 n2 key,ns=[n1,n2]∧K=[key]∧N.Good ⟨false,[key],[],[(n1:Int),(n2:Int)]⟩∧(⟨false,[key],[],[(n1:Int),(n2:Int)]⟩:Nd).put.length≤237 ∧
   ∀ n3,M' n3=none→Tree (drp (pt M' n3 ⟨false,[key],[],[(n1:Int),(n2:Int)]⟩) (wp++joined)) (n3:Int) (g (con (fm M0 d p)))):=by
 have hu:∀ q,us M q=(pgN M d now).count q+(wp++joined).count q:=by
  intro q;rw[h.used,← h0.cnt,h.cnt,List.count_append];omega
 have ho:=h.ord;simp only[List.nil_append,List.append_nil]at ho;have hs:now.put.length≤(if d=0 then 352 else 380):=by
  have:=h.size;split at this <;> rename_i hd <;> simp only[hd,if_true,if_false] <;> omega
 have hl:=hn.len;have hat:=hn.lie;obtain⟨e1,e2,wy⟩:=ext_same hn.ext h.wf;rcases hP with⟨hle,rfl,rfl⟩|⟨hbig,m,key,hkey,hm,rfl,rfl⟩
 ·obtain⟨n,rfl⟩:∃ n,ns=[n]:=by
   match ns,hl with
   | [n],_=>exact⟨n,rfl⟩
  refine⟨?_,fun q=>absurd rfl q⟩
  intro n' en
  obtain rfl:n=n':=by simpa using en
  have h1:=hat 0 n now rfl rfl
  obtain⟨t,ft⟩:=tr_end (M:=M') (d:=d) (n:=n) (D:=wp++joined) ⟨now,h1,hk,hle,wy⟩ (by rw[fm_some h1,e2];exact ho) (fun q=>by
   rw[hn.used,hu,pg_some h1,e1,List.count_cons,List.count_cons,List.count_nil];omega)
  refine .inr ⟨d,n,rfl,t,?_⟩
  rw[ft,fm_some h1,e2,h.cn]
 ·obtain⟨n1,n2,rfl⟩:∃ n1 n2,ns=[n1,n2]:=by
   match ns,hl with
   | [a,b],_=>exact⟨a,b,rfl⟩
  refine⟨fun n en=>by simp at en,fun _=>?_⟩
  have h1:=hat 0 n1 _ rfl rfl
  have h2:=hat 1 n2 _ rfl rfl
  obtain⟨w1,w2,a1,a2,f1,f2⟩:=prt_wf h.wf hbig hm hs
  obtain⟨o1,o2,o3⟩:=prt_ord (A:=[]) (C:=[]) h.wf hbig hm hs hkey (by simpa using ho)
  simp only[List.nil_append,List.append_nil]at o1
  obtain⟨x1,x2,x3⟩:=ext_same hn.ext w1
  obtain⟨y1,y2,y3⟩:=ext_same hn.ext w2
  have hks:key.size≤64:=h.wf.good.small key (List.mem_of_getElem? hkey)
  have g3:N.Good ⟨false,[key],[],[(n1:Int),(n2:Int)]⟩:=by
   refine⟨by simp,fun k hk=>by simp at hk;rw[hk];exact hks,(fun e=>by cases e),fun _=>⟨rfl,rfl⟩,(fun v hv=>by cases hv),?_⟩;intro i hi;simp at hi;rcases hi with rfl | rfl
   ·exact⟨n1,rfl,hn.few n1 (by simp)⟩
   ·exact⟨n2,rfl,hn.few n2 (by simp)⟩
  have s3:(⟨false,[key],[],[(n1:Int),(n2:Int)]⟩:Nd).put.length≤237:=by
   rw[put_inner g3 rfl];have a:=ksum_le [key] (fun k hk=>by simp at hk;rw[hk];exact hks);have b:=isum_le [(n1:Int),(n2:Int)] g3.ik;simp only[List.length_cons,List.length_nil]at a b;show 1+ksum [key] + isum [(n1:Int),(n2:Int)]≤237;omega
  refine⟨n1,n2,key,rfl,rfl,g3,s3,?_⟩
  intro n3 hn3
  obtain⟨E⟩:Nonempty (Ext M' (pt M' n3 ⟨false,[key],[],[(n1:Int),(n2:Int)]⟩)):=⟨pt_ext hn3⟩
  have wf1:Wf M' d n1:=⟨_,h1,a1,f1,x3⟩
  have wf2:Wf M' d n2:=⟨_,h2,a2,f2,y3⟩
  obtain⟨p1,q1,r1⟩:=ext_wf E wf1
  obtain⟨p2,q2,r2⟩:=ext_wf E wf2
  have h3:=pt_same M' n3 ⟨false,[key],[],[(n1:Int),(n2:Int)]⟩
  have ef:fm (pt M' n3 ⟨false,[key],[],[(n1:Int),(n2:Int)]⟩) (d+1) n3=fmN M d (now.fst m)++(key,none) :: fmN M d (now.snd m):=by
   rw[fm_some h3,fmN_inner];unfold inm;show inmL _ [(n1:Int),(n2:Int)] [key]=_;rw[inmL_two];simp only[Int.toNat_natCast];rw[q1,q2,fm_some h1,fm_some h2,x2,y2]
  have ep:pg (pt M' n3 ⟨false,[key],[],[(n1:Int),(n2:Int)]⟩) (d+1) n3=n3 :: ((n1 :: pgN M d (now.fst m))++(n2 :: pgN M d (now.snd m))):=by
   rw[pg_some h3,pgN_inner];simp only[List.flatMap_cons,List.flatMap_nil,Int.toNat_natCast,List.append_nil];rw[p1,p2,pg_some h1,pg_some h2,x1,y1]
  obtain⟨t,ft⟩:=tr_end (M:=pt M' n3 ⟨false,[key],[],[(n1:Int),(n2:Int)]⟩) (d:=d+1) (n:=n3) (D:=wp++joined) ⟨_,h3,by simp,s3,⟨rfl,g3,by
   intro c hc
   simp at hc
   rcases hc with rfl | rfl
   ·exact r1
   ·exact r2⟩⟩ (by rw[ef];exact o1) (fun q=>by
   rw[us_pt hn3,hn.used,hu,ep,o3]
   simp only[List.count_append,List.count_cons,List.count_nil]
   omega)
  refine .inr ⟨d+1,n3,rfl,t,?_⟩
  rw[ft,ef,o2,h.cn]
end Go.Proofs.YtafgecaeiodmiaaGreatDoor.B