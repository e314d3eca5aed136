/- Joined. -/
import Derived.Test.YtifeihnhkbagpaaGreatDoorZbo
import Derived.Test.YtifeihnhkbagpaaGreatDoorZbp
set_option maxRecDepth 100000
set_option maxHeartbeats 2000000
namespace Go.Proofs.YtifeihnhkbagpaaGreatDoor.T
open ChangeShapes WideShapes ChangeAt RowKit
open B (Pm En Tree upd got su BX oz jD)
open N (Vl sl dY)
variable {k:ByteArray}{l:List En}
theorem aJ{mid:List En}{e:En}:e∈upd k mid l↔e∈mid\/(e∈l/\e.1≠k):=by
 unfold upd;rw[aav,aav,List.mem_filter,List.mem_filter];constructor
 ·rintro (⟨a,b⟩|h | ⟨a,b⟩)
  ·exact .inr ⟨a,fun e1=>by rw[e1,dY]at b;cases b⟩
  ·exact .inl h
  ·exact .inr ⟨a,fun e1=>by rw[e1,dY]at b;cases b⟩
 ·rintro (h | ⟨a,b⟩)
  ·exact .inr (.inl h)
  ·by_cases h:N.sl e.1 k=true
   ·exact .inl ⟨a,h⟩
   ·exact .inr (.inr ⟨a,N.lZ (by simpa using h) b⟩)
theorem xw(k:ByteArray)(mid:List En):∀ l:List En,(upd k mid l).length<=mid.length+l.length:=by
 intro l;unfold upd;rw[aah,aah];have:∀ l:List En,(l.filter (fun e=>N.sl e.1 k)).length+(l.filter (fun e=>N.sl k e.1)).length<=l.length:=by
  intro l;induction l with
  | nil=>simp
  | cons a r ih=>
   rw[List.filter_cons,List.filter_cons];by_cases h1:N.sl a.1 k=true
   ·rw[aao h1,aai (by rw[jD h1];decide)];simp only[aau];omega
   ·rw[aai h1]
    split <;> simp only[aau] <;> omega
 have:=this l;omega
theorem Jj{v:Vl}(h:got k l=some v):(k,v)∈l:=by
 unfold got at h;obtain⟨e,he,rfl⟩:=Option.map_eq_some_iff.1 h;have h1:=List.mem_of_find?_eq_some he;have h2:=List.find?_some he;simp at h2;rw[<- h2];exact h1
structure Cv (m:Xm) (l:List En) (P:ByteArray->List Nat):Prop where
 each:∀ e∈l,(e.2.p=-1/\P e.1=[])\/∃ (n:Nat) (ns t:List Nat),e.2.p=(n:Nat)/\e.2.l=(t.length:Nat)/\P e.1=n :: ns/\zw m.Y (m.gen+1) (n :: ns) t/\t.length<=702/\(n :: ns).Nodup
 Yl:∀ e∈l,∀ e'∈l,e.1≠e'.1->∀ k∈P e.1,k∉P e'.1
 all:∀ k x,m.Y k=some x->∃ e∈l,k∈P e.1
variable {m:Xm}
theorem Cv.three{P:ByteArray->List Nat}(h:Cv m l P):∀ e∈l,(P e.1).length<=3:=by
 intro e he;rcases h.each e he with⟨_,h1⟩|⟨n,ns,t,_,_,h1,h2,h3,_⟩
 ·rw[h1];simp
 ·rw[h1,h2.len];unfold Ch.need;omega
theorem Cv.few{P:ByteArray->List Nat}(h:Cv m l P):yn m<=3*l.length:=by
 have h1:yn m<=su (fun q=>(l.flatMap fun e=>P e.1).count q) m.n:=by
  unfold yn;refine BX fun q _=>?_
  cases hq:m.Y q with
  | none=>simp
  | some x=>
   obtain⟨e,he,hk⟩:=h.all q x hq;have:0<(l.flatMap fun e=>P e.1).count q:=List.count_pos_iff.2 (List.mem_flatMap.2 ⟨e,he,hk⟩);rw[show (some x).isSome=true from rfl,aao rfl];exact this
 have h2:=(oz (l.flatMap fun e=>P e.1) m.n).1;have h3:(l.flatMap fun e=>P e.1).length<=3*l.length:=by
  have:=h.three;clear h h1 h2;induction l with
  | nil=>simp
  | cons a r ih=>
   rw[List.flatMap_cons,aah,aau];have h1:=this a (List.mem_cons_self ..);have h2:=ih (fun e he=>this e (List.mem_cons_of_mem _ he));omega
 omega
theorem Cv.gone{P:ByteArray->List Nat}(h:Cv m l P)(key:ByteArray)(hk:∀ v,got key l=some v->v.p=-1)(hg:∀ e∈l,e.1=key->got key l=some e.2):Cv m (upd key [] l) P:=by
 refine⟨fun e he=>?_,fun e he e' he'=>?_,fun k x hx=>?_⟩
 ·rcases aJ.1 he with h1 | ⟨h1,h2⟩
  ·cases h1
  ·exact h.each e h1
 ·rcases aJ.1 he with h1 | ⟨h1,h2⟩
  ·cases h1
  ·rcases aJ.1 he' with h3 | ⟨h3,h4⟩
   ·cases h3
   ·exact h.Yl e h1 e' h3
 ·obtain⟨e,he,hk2⟩:=h.all k x hx
  refine⟨e,aJ.2 (.inr ⟨he,fun e1=>?_⟩),hk2⟩;have h1:=hk _ (hg e he e1);rcases h.each e he with⟨_,h2⟩|⟨n,ns,t,h2,_⟩
  ·rw[h2]at hk2;cases hk2
  ·rw[h1]at h2;omega
theorem Cv.freed{P:ByteArray->List Nat}(h:Cv m l P)(key:ByteArray){v:Vl}(hg:got key l=some v):Cv (Ch.Xm.less m (P key)) (upd key [] l) P:=by
 have hm:=Jj hg;refine⟨fun e he=>?_,fun e he e' he'=>?_,fun k x hx=>?_⟩
 ·rcases aJ.1 he with h1 | ⟨h1,h2⟩
  ·cases h1
  ·rcases h.each e h1 with h3 | ⟨n,ns,t,a,b,c,d,r⟩
   ·exact .inl h3
   ·refine .inr ⟨n,ns,t,a,b,c,d.ext (fun k hk=>?_),r⟩
    show (if k∈P key then none else m.Y k)=m.Y k;rw[aai (h.Yl e h1 _ hm h2 k (by rw[c];exact hk))]
 ·rcases aJ.1 he with h1 | ⟨h1,h2⟩
  ·cases h1
  ·rcases aJ.1 he' with h3 | ⟨h3,h4⟩
   ·cases h3
   ·exact h.Yl e h1 e' h3
 ·have hx':(if k∈P key then none else m.Y k)=some x:=hx
  by_cases hk:k∈P key
  ·rw[aao hk]at hx';cases hx'
  ·rw[aai hk]at hx'
   obtain⟨e,he,hk2⟩:=h.all k x hx';exact⟨e,aJ.2 (.inr ⟨he,fun e1=>hk (by rw[<- e1];exact hk2)⟩),hk2⟩
variable {key:ByteArray}
theorem Cv.inl{P:ByteArray->List Nat}(h:Cv m (upd key [] l) P){v:Vl}(hv:v.p=-1):Cv m (upd key [(key,v)] l) (fun k=>if k=key then [] else P k):=by
 have Ez:∀ e∈upd key [(key,v)] l,e=(key,v)\/(e.1≠key/\e∈upd key [] l):=fun e he=>by
  rcases aJ.1 he with h1 | ⟨h1,h2⟩
  ·exact .inl (by simpa using h1)
  ·exact .inr ⟨h2,aJ.2 (.inr ⟨h1,h2⟩)⟩
 refine⟨fun e he=>?_,fun e he e' he' hne k hk=>?_,fun k x hx=>?_⟩
 ·rcases Ez e he with rfl | ⟨h1,h2⟩
  ·exact .inl ⟨hv,by simp⟩
  ·rw[aai h1];exact h.each e h2
 ·rcases Ez e he with rfl | ⟨h1,h2⟩
  ·simp at hk
  ·rw[aai h1]at hk
   rcases Ez e' he' with rfl | ⟨h3,h4⟩
   ·simp
   ·rw[aai h3];exact h.Yl e h2 e' h4 hne k hk
 ·obtain⟨e,he,hk⟩:=h.all k x hx
  have h1:e.1≠key:=by
   rcases aJ.1 he with h1 | ⟨_,h1⟩
   ·cases h1
   ·exact h1
  refine⟨e,aJ.2 (.inr ?_),by rw[aai h1];exact hk⟩;rcases aJ.1 he with h2 | h2
  ·cases h2
  ·exact h2
variable {B p:Nat}{w:World}{M:Pm}
theorem Cv.far{wx:World}{P:ByteArray->List Nat}(h:Cv m (upd key [] l) P){n:Nat}{ns t:List Nat}{Y:Nat->Option G.bG}(c:Cp B w wx p m M t 0 (n :: ns) Y)(ht:t.length<=702) :
  Cv { m with Y:=Y } (upd key [(key,⟨⟨#[]⟩,(n:Nat),(t.length:Nat)⟩)] l) (fun k=>if k=key then n :: ns else P k):=by
 have Ez:∀ e∈upd key [(key,(⟨⟨#[]⟩,(n:Nat),(t.length:Nat)⟩:Vl))] l,e=(key,⟨⟨#[]⟩,(n:Nat),(t.length:Nat)⟩)\/(e.1≠key/\e∈upd key [] l):=fun e he=>by
  rcases aJ.1 he with h1 | ⟨h1,h2⟩
  ·exact .inl (by simpa using h1)
  ·exact .inr ⟨h2,aJ.2 (.inr ⟨h1,h2⟩)⟩
 have hold:∀ e∈upd key [] l,∀ k∈P e.1,k∉n :: ns/\Y k=m.Y k:=fun e he k hk=>by
  have hs:∃ x,m.Y k=some x:=by
   rcases h.each e he with⟨_,h1⟩|⟨n',ns',t',_,_,h1,h2,_⟩
   ·rw[h1]at hk;cases hk
   ·rw[h1]at hk;exact h2.some k hk
  have h1:k∉n :: ns:=fun hk2=>by
   obtain⟨x,hx⟩:=hs;rw[c.new k hk2]at hx;cases hx
  exact⟨h1,c.old k h1⟩
 refine⟨fun e he=>?_,fun e he e' he' hne k hk=>?_,fun k x hx=>?_⟩
 ·rcases Ez e he with rfl | ⟨h1,h2⟩
  ·exact .inr ⟨n,ns,t,rfl,rfl,by simp,by simpa using c.ch,ht,c.nd⟩
  ·rw[aai h1]
   rcases h.each e h2 with h3 | ⟨n',ns',t',a,b,d,f,r⟩
   ·exact .inl h3
   ·exact .inr ⟨n',ns',t',a,b,d,f.ext (fun k hk=>(hold e h2 k (by rw[d];exact hk)).2),r⟩
 ·rcases Ez e he with rfl | ⟨h1,h2⟩
  ·rw[aao rfl]at hk
   rcases Ez e' he' with rfl | ⟨h3,h4⟩
   ·exact absurd rfl hne
   ·rw[aai h3]
    exact fun hk2=>(hold e' h4 k hk2).1 hk
  ·rw[aai h1]at hk
   rcases Ez e' he' with rfl | ⟨h3,h4⟩
   ·rw[aao rfl];exact (hold e h2 k hk).1
   ·rw[aai h3];exact h.Yl e h2 e' h4 hne k hk
 ·by_cases hk:k∈n :: ns
  ·exact⟨(key,⟨⟨#[]⟩,(n:Nat),(t.length:Nat)⟩),aJ.2 (.inl (by simp)),by rw[aao rfl];exact hk⟩
  ·have hx':Y k=some x:=hx
   rw[c.old k hk]at hx';obtain⟨e,he,hk2⟩:=h.all k x hx';have h1:=aJ.1 he;rcases h1 with h1 | h1
   ·cases h1
   ·exact⟨e,aJ.2 (.inr h1),by rw[aai h1.2];exact hk2⟩
open B (ig fF fm Stp nI R bN path bF iI iU kH Wf)
open N (Nd NV Rw Rx Own Kept C4 C3 Up bP gG jG)
structure Wh (B S:Nat) (I:World->Prop) (w W:World) (P:List Stp) (k:Nat) (v u:Value):Prop where
 out:∃ p c L n,v=.slice p k c/\u=.int .i64 n/\L.map Sm.wZ=P.take k/\Own W w.heap.size 170 6 p k c (sN L)/\(∀ s∈L,s.ok W)/\Ct B S I w W/\(∀ s,P[k]? = some s->n=(s.page:Nat))
variable {S:Nat}{I:World->Prop}
theorem Jk{W w':World}{q:Option Addr}{k c:Nat}{cs:List Value}(R:mZ S I)(hB:B<=w.heap.size)(o:Own W w.heap.size 170 6 q k c cs)(hg:W.grownBy w' (Value.slice q k c).ownBlock)(hK:Ct B S I w W){l:Bool}{kp:Option Addr}{nk kc:Nat}{vp:Option Addr}{nv vc:Nat}{ip:Option Addr}{ni ic:Nat}{x:Nd}(hN:NV W l kp nk kc vp nv vc ip ni ic x){L:List Sm}(hL:∀ s∈L,s.ok W) :
  Ct B S I w w'/\(NV w' l kp nk kc vp nv vc ip ni ic x/\∀ s∈L,s.ok w')/\∀ b a0 a1 a2 a3,C4 W b 121 a0 a1 a2 a3->C4 w' b 121 a0 a1 a2 a3:=by
 have ob:=iq o;have hr:∀ b,(Value.slice q k c).ownBlock=some b->∃ cs fr,W.heap[b]? = some (.cells cs 170 fr):=fun b e=>(ob b e).2
 refine⟨hK.grown R hB hg (fun b e=>by obtain⟨h1,cs,fr,h2⟩:=ob b e;exact⟨h1,_,_,_,h2,by unfold Jg;decide⟩),⟨uQ hg hr hN,fun s hs=>uQ hg hr (hL s hs)⟩,fun b a0 a1 a2 a3 h=>⟨(hg.block b h.lt (fun e=>?_)).trans h.out⟩⟩;obtain⟨cs',fr',hb'⟩:=hr b e.symm;have:=h.out;rw[hb']at this;injection this with this
 injection this with _ e3 _
 exact absurd e3 (by decide)
variable {t:Nat}
theorem VY{root:Nat}{P:List Stp}(Cq:VX B S p I M)(hT:dI w t p (root:Nat))(h:I w)(hB0:B<=w.heap.size)(hP:Wy M key P)(hne:0<P.length)(h0:∀ s,P[0]? = some s->s.page=root):
 Calls Tryz.prog 62 #[.pointer (some ⟨t,0,none⟩),.string key] w fun e w'=>∃ q c L,e=.returned (.tuple #[.slice q P.length c,.int .i64 0])/\L.map Sm.wZ=P/\EN w' q P.length c L/\Ct B S I w w':=by
 obtain⟨i0,hi0,hz0,hz1,hz2⟩:=info_parts I6;obtain⟨c0,c1⟩:=hT.cs;have HT:Hid _:=hT;have HB0:Hid (B<=w.heap.size):=hB0;have EA:Hid _:=Cq;have HP:Hid _:=hP;have HF:Hid (P.length<=1000):=hP.few;have W0:Hid (Wh B S I w w P 0 (.slice none 0 0) (.int .i64 root)):=⟨none,0,[],_,rfl,rfl,rfl,lC _ _ _ _,(fun s hs=>by cases hs),Ct.start h,fun s hs=>by rw[h0 s hs]⟩;clear hT h hP h0 hB0 Cq;obtain⟨len,hlen⟩:∃ len,P.length=len:=⟨_,rfl⟩;rw[hlen]at hne HF ⊢;have Eg:Hid (P.length=len):=hlen;clear hlen;go_enter Tryz.func62,Tryz.ntmps62;go_wp2;go_loopg [6,7] len (fun gg v u wx=>∃ k,Hid (gg=len-k)/\k<len/\Wh B S I w wx P k v u);case atStart=>exact⟨0,rfl,hne,W0.out⟩
 case round=>
  obtain⟨k,Ra,hk,hw⟩:=hrel;obtain⟨q,c,L,n,rfl,rfl,hL,hO,hok,hK,hn⟩:=hw.out;obtain⟨s,hs⟩:∃ s,P[k]? = some s:=⟨_,aae (by rw[Eg.out];exact hk)⟩;obtain rfl:=hn s hs;obtain⟨sM,sG,sU,sk,sl⟩:=HP.out.nod k s hs;have HN:=Jh EA.out (HT.out.on hK.f.on) hK.i (aad HB0.out hK.size) sM sG sU s.x.leaf rfl;have VB:Hid (N.Good s.x):=sG;have HS:Hid (P[k]? = some s):=hs;have HSk:Hid (s.kid=nI s.x key):=sk;have XA:Hid (s.x.leaf=decide (k+1=P.length)):=sl;have HL':Hid (L.map Sm.wZ=P.take k):=hL;have HO:Hid (Own wr w.heap.size 170 6 q k c (sN L)):=hO;have HOk:Hid (∀ s∈L,s.ok wr):=hok;have hneg:¬ (s.page:Int)=-1:=by omega
  have aan:¬ (k:Int)=16384:=by have:=HF.out;omega
  clear hw hn hL hO hok hs sM sG sU sk sl W0;generalize s.x.leaf=l at *;go_upto_region 9 with (go_at_call 94;(with_reducible refine HN.mono ?_);rintro e w1 ⟨kp,nk,kc,vp,nv,vc,ip,ni,ic,rfl,N1,k1,_⟩;have k2:Kept w1 (w1.alloc (.cells #[.bool l,.slice kp nk kc,.slice vp nv vc,.slice ip ni ic] 121)):=(Kept.refl w1).alloc _;have N2:=N1.kept k2;have X2:=C4.alloc w1 121 (.bool l) (.slice kp nk kc) (.slice vp nv vc) (.slice ip ni ic);obtain⟨y0,y1,y2,y3⟩:=X2.cs;have K2:=(hK.trans k1).kept EA.out.stay HB0.out k2)
  have Az:Hid (∀ W,Kept (w1.alloc (.cells #[.bool l,.slice kp nk kc,.slice vp nv vc,.slice ip ni ic] 121)) W->Calls Tryz.prog 95 #[.agg #[.bool l,.slice kp nk kc,.slice vp nv vc,.slice ip ni ic],.string key] W fun e w'=>e=.returned (.int .i64 (s.kid:Nat))/\Kept W w'/\Kept (w1.alloc (.cells #[.bool l,.slice kp nk kc,.slice vp nv vc,.slice ip ni ic] 121)) w'):=fun W kW=>by rw[HSk.out];exact (yQ (N2.kept kW) VB.out key).mono (fun e w' hh=>⟨hh.1,hh.2,kW.trans hh.2⟩)
  go_cut [10] (fun tv wx=>∃ bs,tv=.pointer (some ⟨bs,0,none⟩)/\wx.heap[bs]? = some (.cells #[.int .i64 (s.page:Nat),.bool l,.slice kp nk kc,.slice vp nv vc,.slice ip ni ic,.int .i64 (s.kid:Nat)] 170)/\w1.heap.size<bs/\Kept (w1.alloc (.cells #[.bool l,.slice kp nk kc,.slice vp nv vc,.slice ip ni ic] 121)) wx);case first=>
   have kA:Kept (w1.alloc (.cells #[.bool l,.slice kp nk kc,.slice vp nv vc,.slice ip ni ic] 121)) (w1.alloc (.cells #[.bool l,.slice kp nk kc,.slice vp nv vc,.slice ip ni ic] 121)).drew:=(Kept.refl _).drew;have kB:Kept (w1.alloc (.cells #[.bool l,.slice kp nk kc,.slice vp nv vc,.slice ip ni ic] 121)) ((w1.alloc (.cells #[.bool l,.slice kp nk kc,.slice vp nv vc,.slice ip ni ic] 121)).alloc (.cells #[.int .i64 0,.bool false,.slice none 0 0,.slice none 0 0,.slice none 0 0,.int .i64 0] 170)).drew:=((Kept.refl _).alloc _).drew;have HPA:=Az.out _ kA;have HPB:=Az.out _ kB;have zB:((w1.alloc (.cells #[.bool l,.slice kp nk kc,.slice vp nv vc,.slice ip ni ic] 121)).alloc (.cells #[.int .i64 0,.bool false,.slice none 0 0,.slice none 0 0,.slice none 0 0,.int .i64 0] 170)).drew.heap[w1.heap.size+1]? = some (.cells #[.int .i64 0,.bool false,.slice none 0 0,.slice none 0 0,.slice none 0 0,.int .i64 0] 170):=D.bH w1 _ _;have HZB:Hid (((w1.alloc (.cells #[.bool l,.slice kp nk kc,.slice vp nv vc,.slice ip ni ic] 121)).alloc (.cells #[.int .i64 0,.bool false,.slice none 0 0,.slice none 0 0,.slice none 0 0,.int .i64 0] 170)).drew.heap[w1.heap.size+1]? = some (.cells #[.int .i64 0,.bool false,.slice none 0 0,.slice none 0 0,.slice none 0 0,.int .i64 0] 170)):=zB;have hsz:(w1.alloc (.cells #[.bool l,.slice kp nk kc,.slice vp nv vc,.slice ip ni ic] 121)).heap.size<=w1.heap.size+1:=by rw[N.size_alloc];exact aac _
   clear Az kA kB zB HN;have hy0:=fun o=>(X2.kept ((Kept.refl _).alloc o)).cs.1
   have hy1:=fun o=>(X2.kept ((Kept.refl _).alloc o)).cs.2.1
   have hy2:=fun o=>(X2.kept ((Kept.refl _).alloc o)).cs.2.2.1
   have hy3:=fun o=>(X2.kept ((Kept.refl _).alloc o)).cs.2.2.2
   go_region_with (first
    | (go_at_call 95;(with_reducible refine HPA.mono ?_);rintro e w3 ⟨rfl,k3,kk⟩;obtain⟨r0,r1,r2,r3⟩:=(X2.kept kk).cs;have hz0:=fun o=>((X2.kept kk).kept ((Kept.refl _).alloc o)).cs.1;have hz1:=fun o=>((X2.kept kk).kept ((Kept.refl _).alloc o)).cs.2.1;have hz2:=fun o=>((X2.kept kk).kept ((Kept.refl _).alloc o)).cs.2.2.1;have hz3:=fun o=>((X2.kept kk).kept ((Kept.refl _).alloc o)).cs.2.2.2;clear HPA HPB)
    | (go_at_call 95;(with_reducible refine HPB.mono ?_);rintro e w3 ⟨rfl,k3,kk⟩;obtain⟨r0,r1,r2,r3⟩:=(X2.kept kk).cs;have Z0:=k3.block HZB.out;obtain⟨⟨a0,f0⟩,⟨a1,f1⟩,⟨a2,f2⟩,⟨a3,f3⟩,⟨a4,f4⟩,⟨a5,f5⟩,hfin⟩:=Gj Z0 (.int .i64 (s.page:Nat)) (.bool l) (.slice kp nk kc) (.slice vp nv vc) (.slice ip ni ic) (.int .i64 (s.kid:Nat));clear HPA HPB))
   all_goals go_wp2_with fail
   all_goals go_meet
   all_goals
    first
     | exact⟨_,rfl,hfin,aaK _,((kk.bS (b:=w1.heap.size+1) hsz _ _ _ _).set (a:=⟨w1.heap.size+1,4,none⟩) hsz _).set (a:=⟨w1.heap.size+1,5,none⟩) hsz _⟩
     | exact⟨_,rfl,heap_alloc_new w3 _,(by have:=kk.size;rw[N.size_alloc]at this;omega),kk.alloc _⟩
  case rest=>
   obtain⟨bs,rfl,hbs,hlt,KU⟩:=hcut;have VH:Hid (∀ b,(Value.slice q k c).ownBlock=some b->b≠bs):=fun b e=>by
    obtain⟨_,cs',fr',hb'⟩:=iq HO.out b e;have h1:=(aaa.1 hb').1;have h2:=k1.size;omega
   clear Az;have kw:Ct B S I wr wc:=(k1.kept EA.out.stay (aad HB0.out hK.size) k2).kept EA.out.stay (aad HB0.out hK.size) KU;obtain⟨b0,b1,b2,b3,b4,b5⟩:=aM hbs;obtain⟨z0,z1,z2,z3⟩:=(X2.kept KU).cs;have N3:=N2.kept KU;have K3:=K2.kept EA.out.stay HB0.out KU;have ka:Kept wc (wc.alloc (.cells #[.int .i64 (s.page:Nat),.bool l,.slice kp nk kc,.slice vp nv vc,.slice ip ni ic,.int .i64 (s.kid:Nat)] 170)):=(Kept.refl wc).alloc _;have OA:=(kQ kw.f.on pM HO.out).kept ka;have OQ:Hid (∀ z∈L,z.ok (wc.alloc (.cells #[.int .i64 (s.page:Nat),.bool l,.slice kp nk kc,.slice vp nv vc,.slice ip ni ic,.int .i64 (s.kid:Nat)] 170))):=fun z hz=>NV.kept (yP kw.f.on (HOk.out z hz)) ka
   have XB:=Ed wc (.int .i64 (s.page:Nat)) (.bool l) (.slice kp nk kc) (.slice vp nv vc) (.slice ip ni ic) (.int .i64 (s.kid:Nat)) 170;have dV:∀ u∈[Value.int .i64 (s.page:Nat),.bool l,.slice kp nk kc,.slice vp nv vc,.slice ip ni ic,.int .i64 (s.kid:Nat)],u.oneCell'=true:=by intro u hu;simp at hu;rcases hu with rfl | rfl | rfl | rfl | rfl | rfl <;> rfl
   have hkb:k+1<=1000:=by have:=HF.out;omega
   have rV:w.heap.size<=(wc.alloc (.cells #[.int .i64 (s.page:Nat),.bool l,.slice kp nk kc,.slice vp nv vc,.slice ip ni ic,.int .i64 (s.kid:Nat)] 170)).heap.size:=(K3.kept EA.out.stay HB0.out ka).size;have hsn:Hid ((L++[(⟨s.page,s.kid,l,kp,nk,kc,vp,nv,vc,ip,ni,ic,s.x⟩:Sm)]).map Sm.wZ=P.take (k+1)):=by
    show _=_;rw[List.map_append,HL'.out,aaP,HS.out];rfl
   have hcl:Hid (sN (L++[(⟨s.page,s.kid,l,kp,nk,kc,vp,nv,vc,ip,ni,ic,s.x⟩:Sm)])=sN L++[.int .i64 (s.page:Nat),.bool l,.slice kp nk kc,.slice vp nv vc,.slice ip ni ic,.int .i64 (s.kid:Nat)]):=Eb _ _;by_cases hlast:k+1=len
   ·obtain rfl:l=true:=by rw[XA.out,Eg.out];simpa using hlast
    go_wp2_with (at_builtin;refine wpList_append_own _ rfl _ _ 116 rfl w.heap.size 170 i0 _ 6 96 Tryz.underlying116 hi0 hz0 hz1 hz2 rfl (by decide) (.slice q k c) k (sN L) rfl OA.out ⟨wc.heap.size,0,none⟩ 1 1 [.int .i64 (s.page:Nat),.bool true,.slice kp nk kc,.slice vp nv vc,.slice ip ni ic,.int .i64 (s.kid:Nat)] rfl rfl XB dV (by unfold maxLen;omega) (by omega) rV ?_;intro v' w5 o5 g5 _;obtain⟨q5,c5,rfl⟩:=aF o5;obtain⟨VI,KV,VJ⟩:=Jk EA.out.stay HB0.out OA g5 (K3.kept EA.out.stay HB0.out ka) (N3.kept ka) OQ.out;obtain⟨WY,WZ,zz2,zz3⟩:=(VJ _ _ _ _ _ ((X2.kept KU).kept ka)).cs;have O5:Hid (Own w5 w.heap.size 170 6 q5 (k+1) c5 (sN (L++[(⟨s.page,s.kid,true,kp,nk,kc,vp,nv,vc,ip,ni,ic,s.x⟩:Sm)]))):=⟨by rw[hcl.out];exact o5⟩;clear o5 g5);go_ret2;subst hlast;refine⟨_,_,_,rfl,?_,⟨O5.out.rw,O5.out.rx,fun z hz=>?_⟩,VI⟩
    ·rw[hsn.out,<- Eg.out,List.take_length]
    ·rcases aav.1 hz with hz | hz
     ·exact KV.2 z hz
     ·simp at hz;subst hz;exact KV.1
   ·obtain rfl:l=false:=by rw[XA.out,Eg.out];simpa using hlast
    obtain⟨s',hs'⟩:∃ s',P[k+1]? = some s':=⟨_,aae (by rw[Eg.out];omega)⟩;have hnx:=HP.out.nM k s s' HS.out hs';have U3:Hid (s.x.is[s.kid]? = some (s'.page:Int)):=hnx;have HS':Hid (P[k+1]? = some s'):=hs';have hkl:s.kid<ni:=by have a:=(aal.1 hnx).1;have b:=N3.ni;omega
    have aar:(s.kid:Int)<(ni:Int):=by omega
    obtain⟨ib,io,rfl,_⟩:=N3.i.some (by omega);clear hnx hs';go_wp2_with (at_builtin;refine wpList_append_own _ rfl _ _ 116 rfl w.heap.size 170 i0 _ 6 96 Tryz.underlying116 hi0 hz0 hz1 hz2 rfl (by decide) (.slice q k c) k (sN L) rfl OA.out ⟨wc.heap.size,0,none⟩ 1 1 [.int .i64 (s.page:Nat),.bool false,.slice kp nk kc,.slice vp nv vc,.slice (some ⟨ib,io,none⟩) ni ic,.int .i64 (s.kid:Nat)] rfl rfl XB dV (by unfold maxLen;omega) (by omega) rV ?_;intro v' w5 o5 g5 _;obtain⟨q5,c5,rfl⟩:=aF o5;obtain⟨VI,KV,VJ⟩:=Jk EA.out.stay HB0.out OA g5 (K3.kept EA.out.stay HB0.out ka) (N3.kept ka) OQ.out;obtain⟨WY,WZ,zz2,zz3⟩:=(VJ _ _ _ _ _ ((X2.kept KU).kept ka)).cs;have ci:=vL KV.1 U3.out;have hb5:=Ay g5 (ka.block hbs) VH.out;obtain⟨e0,e1,e2,e3,e4,e5⟩:=aM hb5;have O5:Hid (Own w5 w.heap.size 170 6 q5 (k+1) c5 (sN (L++[(⟨s.page,s.kid,false,kp,nk,kc,vp,nv,vc,some ⟨ib,io,none⟩,ni,ic,s.x⟩:Sm)]))):=⟨by rw[hcl.out];exact o5⟩;clear o5 g5);go_roundg (len-(k+1));case measure=>rw[Ra.out];omega
    case rel=>
     refine⟨k+1,rfl,by omega,⟨q5,c5,_,_,rfl,rfl,hsn.out,O5.out,fun z hz=>?_,VI,fun s2 hs2=>?_⟩⟩
     ·rcases aav.1 hz with hz | hz
      ·exact KV.2 z hz
      ·simp at hz;subst hz;exact KV.1
     ·rw[HS'.out]at hs2;obtain rfl:=aaq hs2;rfl
theorem VZ{d n:Nat}{root:Int}(Cq:VX B S p I M)(hT:dI w t p root)(hr:root=(n:Int))(hV:I w)(hB0:B<=w.heap.size)(hw:Wf M d n)(ho:(fm M d n).Pairwise R)(hd:d<=10):
 Calls Tryz.prog 40 #[.pointer (some ⟨t,0,none⟩),.string key] w fun e w'=>e=.returned (.tuple #[.agg #[.string (had key (bN (fm M d n))).d,.int .i64 (had key (bN (fm M d n))).p,.int .i64 (had key (bN (fm M d n))).l],.bool (got key (bN (fm M d n))).isSome,.int .i64 0])/\Ct B S I w w':=by
 subst hr;have Eu:=Uo hw ho key;have VT:=Po Eu (by omega);have hpl:=bF M key d n;have K0:Kept w (w.alloc (.cells #[.string ⟨#[]⟩,.int .i64 0,.int .i64 0] 77)):=(Kept.refl w).alloc _;have R0:=C3.alloc w 77 (.string ⟨#[]⟩) (.int .i64 0) (.int .i64 0);have f1:=jR (hT.kept K0);have f2:=VY Cq (hT.kept K0) (Cq.stay.out _ _ hV (Aq.ax K0)) (aad hB0 K0.size) VT (by omega) (fun s hs=>by rw[ig]at hs;rw[<- aaq hs];rfl);obtain⟨s,hs⟩:∃ s,(path M key d n)[d]? = some s:=⟨_,aae (by omega)⟩;obtain⟨_,hps⟩:=iI d n [] [] Eu d s hs;rw[Nat.sub_self]at hps;have hg:=kH d n [] [] Eu s hs;have hgood:=hps.wf.good;have hlv:=(hgood.lv hps.wf.1).1;have HS:Hid ((path M key d n)[d]? = some s):=hs;have HG:Hid (N.Good s.x):=hgood;have Ya:Hid (s.x.vs.length=s.x.ks.length):=hlv;have Az:Hid ((path M key d n).length=d+1):=hpl;have HD:Hid (d<=10):=hd;have Yb:Hid (got key (bN (fm M d n))=if gG key s.x.ks=true then some (jG s.x.ks s.x.vs key) else none):=hg;have La:Hid (gG key s.x.ks=true->s.x.vs[bP key s.x.ks]? = some (had key (bN (fm M d n)))/\(got key (bN (fm M d n))).isSome=true):=fun h=>by
  have hk:=N.yA h;have e:=Yb.out;rw[aao h]at e;have e2:s.x.vs[bP key s.x.ks]? = some (s.x.vs[bP key s.x.ks]'(by have:=Ya.out;omega)):=aae (by have:=Ya.out;omega);refine⟨?_,by rw[e];rfl⟩;unfold had;rw[e];show _=some (jG s.x.ks s.x.vs key);unfold jG;rw[aao h,e2];rfl
 have Pp:Hid (gG key s.x.ks=false->had key (bN (fm M d n))=⟨⟨#[]⟩,-1,0⟩/\(got key (bN (fm M d n))).isSome=false):=fun h=>by
  have e:=Yb.out;rw[aai (by rw[h];decide)]at e;unfold had;rw[e];exact⟨rfl,rfl⟩
 generalize had key (bN (fm M d n))=hv at La Pp ⊢;generalize (got key (bN (fm M d n))).isSome=hb at La Pp ⊢;have HB0:Hid (B<=w.heap.size):=hB0;have EA:Hid (mZ S I):=Cq.stay;have YI:Hid (Ct B S I w (w.alloc (.cells #[.string ⟨#[]⟩,.int .i64 0,.int .i64 0] 77))):=(Ct.start hV).kept Cq.stay hB0 K0;clear Eu VT hs hps hg hgood hlv hw ho hV hT hd hpl hB0 Cq;generalize hlen:(path M key d n).length=len at f2 Az;have HLen:Hid ((path M key d n).length=len):=hlen;clear hlen;go_enter Tryz.func40,Tryz.ntmps40;go_wp2_with (first
  | (go_at_call 57;(with_reducible refine f1.mono ?_);rintro e w1 ⟨rfl,hw1⟩;rw[hw1];clear hw1 f1)
  | (go_at_call 62;(with_reducible refine f2.mono ?_);rintro e w1 ⟨q,c,L,rfl,ER,hW,k1⟩;clear f2))
 obtain⟨z,hz,hzs⟩:∃ z,L[d]? = some z/\z.wZ=s:=by
  have:=HS.out;rw[<- ER,List.getElem?_map]at this;cases hz:L[d]? with
  | none=>rw[hz]at this;cases this
  | some z=>rw[hz]at this;exact⟨z,rfl,aaq this⟩
 have f3:=nV (k:=d) hW (by have:=HD.out;omega) Az.out hz;have Pt:=hW.ok z (aak hz);obtain⟨zp,zk,zl,sQ,rQ,sS,xq,rR,uY,zip,uZ,ve,zx⟩:=z;dsimp only[Sm.ok]at Pt f3;have YH:zx=s.x:=by rw[<- hzs];rfl
 subst YH;have K1:=YI.out.trans k1;have R1:=Gu R0 k1.f.on nK;have hfw:=HG.out.few;have xm:=Pt.nk;have env:=Pt.nv;have hfl:=N.kN key s.x.ks;have VU:Hid (NV w1 zl sQ rQ sS xq rR uY zip uZ ve s.x):=Pt;have Yc:Hid (s.x.ks.length=rQ/\s.x.vs.length=rR):=⟨xm,env⟩;have f4:Hid (∀ W,Kept w1 W->Calls Tryz.prog 64 #[.slice sQ rQ sS,.string key] W fun e w'=>e=.returned (.tuple #[.int .i64 (bP key s.x.ks:Nat),.bool (gG key s.x.ks)])/\w'=W):=fun W k=>N.jO ((VU.out.kept k).k) (by omega) key
 have HF:Hid (bP key s.x.ks<=s.x.ks.length/\s.x.ks.length<=120):=⟨hfl,hfw⟩;generalize bP key s.x.ks=i at f4 HF La;clear Pt xm env hfl hfw hW ER hz hzs k1;cases hik:gG key s.x.ks with
 | false=>
  obtain⟨rfl,rfl⟩:=Pp.out hik;rw[hik]at f4;clear Pp La;go_wp2_with (first
   | (go_at_call 63;(with_reducible refine f3.mono ?_);rintro e w2 ⟨rfl,k2⟩;have ka:Kept w2 (w2.alloc (.cells #[.bool zl,.slice sQ rQ sS,.slice xq rR uY,.slice zip uZ ve] 121)):=(Kept.refl _).alloc _;have K2:=(K1.kept EA.out HB0.out k2).kept EA.out HB0.out ka;have k12:=k2.trans ka;have R2:=R1.kept k12;obtain⟨x0,x1,x2,x3⟩:=(C4.alloc w2 121 (.bool zl) (.slice sQ rQ sS) (.slice xq rR uY) (.slice zip uZ ve)).cs;obtain⟨⟨g0,i0⟩,⟨g1,i1⟩,⟨g2,i2⟩,hfin⟩:=N.dw R2.out (.string ⟨#[]⟩) (.int .i64 (-1)) (.int .i64 0);clear f3)
   | (go_at_call 64;(with_reducible refine (f4.out _ k12).mono ?_);rintro e w3 ⟨rfl,hw3⟩;rw[hw3];clear hw3 f4))
  have q2:=K2.grown EA.out HB0.out (uT _ w.heap.size (.string ⟨#[]⟩) (.int .i64 (-1)) (.int .i64 0)) (fun b e=>by injection e with e;subst e;exact⟨aac _,_,_,_,R2.out,by unfold Jg;decide⟩);generalize (((World.setCell _ ⟨w.heap.size,0,none⟩ (.string ⟨#[]⟩)).setCell ⟨w.heap.size,1,none⟩ (.int .i64 (-1))).setCell ⟨w.heap.size,2,none⟩ (.int .i64 0))=WF at hfin q2 ⊢;refine bodyPost_ret (v:=.tuple #[.agg #[.string ⟨#[]⟩,.int .i64 (-1),.int .i64 0],.bool false,.int .i64 0]) ?_ rfl ⟨rfl,q2⟩;exact gQ (p:=4) (u:=5) (v:=6) (ty:=77) rfl _ _ w.heap.size 77 #[.string ⟨#[]⟩,.int .i64 (-1),.int .i64 0] (0,0) _ rfl hfin Tryz.underlying77 rfl iJ
 | true=>
  obtain⟨hvs,rfl⟩:=La.out hik;rw[hik]at f4;clear Pp La;have hilt:=(aal.1 hvs).1;obtain⟨vb,vo,rfl,_⟩:=VU.out.v.some (by have:=Yc.out;omega);have WC:Hid (s.x.vs[i]? = some hv):=hvs;have i3:(i:Int)<(rR:Int):=by have:=Yc.out;omega
  obtain⟨hvd,hvp,hvl⟩:=hv;have cells:Hid (∀ W,Kept w1 W->W.cell? ⟨vb,vo+i*3,none⟩=some (.string hvd)/\W.cell? ⟨vb,vo+i*3+1,none⟩=some (.int .i64 hvp)/\W.cell? ⟨vb,vo+i*3+2,none⟩=some (.int .i64 hvl)):=fun W k=>by
   have rr:=(VU.out.kept k).v;obtain⟨c1,c2,c3⟩:=N.sw WC.out;rcases rr.out with⟨h0,_⟩|⟨b,off,e,f⟩
   ·cases h0
   injection e with e
   injection e with e1 e2
   subst e1;subst e2;exact⟨f _ _ c1,f _ _ c2,f _ _ c3⟩
  clear hvs hilt;go_wp2_with (first
   | (go_at_call 63;(with_reducible refine f3.mono ?_);rintro e w2 ⟨rfl,k2⟩;have ka:Kept w2 (w2.alloc (.cells #[.bool zl,.slice sQ rQ sS,.slice (some ⟨vb,vo,none⟩) rR uY,.slice zip uZ ve] 121)):=(Kept.refl _).alloc _;have K2:=(K1.kept EA.out HB0.out k2).kept EA.out HB0.out ka;have k12:=k2.trans ka;have R2:=R1.kept k12;obtain⟨x0,x1,x2,x3⟩:=(C4.alloc w2 121 (.bool zl) (.slice sQ rQ sS) (.slice (some ⟨vb,vo,none⟩) rR uY) (.slice zip uZ ve)).cs;obtain⟨u0,u1,u2⟩:=cells.out _ k12;obtain⟨⟨g0,i0⟩,⟨g1,i1⟩,⟨g2,i2⟩,hfin⟩:=N.dw R2.out (.string hvd) (.int .i64 hvp) (.int .i64 hvl);clear f3)
   | (go_at_call 64;(with_reducible refine (f4.out _ k12).mono ?_);rintro e w3 ⟨rfl,hw3⟩;rw[hw3];clear hw3 f4))
  have q2:=K2.grown EA.out HB0.out (uT _ w.heap.size (.string hvd) (.int .i64 hvp) (.int .i64 hvl)) (fun b e=>by injection e with e;subst e;exact⟨aac _,_,_,_,R2.out,by unfold Jg;decide⟩);generalize (((World.setCell _ ⟨w.heap.size,0,none⟩ (.string hvd)).setCell ⟨w.heap.size,1,none⟩ (.int .i64 hvp)).setCell ⟨w.heap.size,2,none⟩ (.int .i64 hvl))=WF at hfin q2 ⊢;refine bodyPost_ret (v:=.tuple #[.agg #[.string hvd,.int .i64 hvp,.int .i64 hvl],.bool true,.int .i64 0]) ?_ rfl ⟨rfl,q2⟩;exact gQ (p:=4) (u:=5) (v:=6) (ty:=77) rfl _ _ w.heap.size 77 #[.string hvd,.int .i64 hvp,.int .i64 hvl] (0,0) _ rfl hfin Tryz.underlying77 rfl iJ
open B (Mk FL)
open N (dA dQ aO)
structure St6 (w:World) (b:Nat) (v0 v1 v2 v3:Value) (bl:ByteArray) (last:Bool):Prop where
 out:w.heap[b]? = some (.cells #[v0,v1,v2,v3,.string bl,.bool last] 175)
open N (Nw)
structure Rd (M:Pm) (root:Int) (l:List En) (Z:List Mk):Prop where
 out:(root=-1/\l=[]/\Z=[])\/∃ d n:Nat,root=(n:Int)/\d<=10/\Wf M d n/\Z.Pairwise R/\fm M d n=Z/\bN Z=l
theorem Tz:(Tryz.prog.info? 175).map (·.size)=some 6:=by kernel_rfl
theorem V8(w:World):NV w false none 0 0 none 0 0 none 0 0 ⟨false,[],[],[]⟩:=
 ⟨rfl,⟨rfl,aac _,aag _,.inl ⟨rfl,rfl⟩⟩,⟨rfl,aac _,aag _,.inl ⟨rfl,rfl⟩⟩,⟨rfl,aac _,aag _,.inl ⟨rfl,rfl⟩⟩,⟨(fun b off ph h=>by cases h),fun _=>rfl⟩,⟨(fun b off ph h=>by cases h),fun _=>rfl⟩,⟨(fun b off ph h=>by cases h),fun _=>rfl⟩⟩
def Gx (l:List En) (Z:List Mk) (key:ByteArray) (w:World) (e:Ending) (w':World):Prop:=
 ∃ lf kp nk kc vp nv vc ip ni ic x bl last,e=.returned (.tuple #[.agg #[.bool lf,.slice kp nk kc,.slice vp nv vc,.slice ip ni ic,.string bl,.bool last],.int .i64 0])/\NV w' lf kp nk kc vp nv vc ip ni ic x/\(N.Up x.ks/\x.ks.length<=120)/\Sek l Z key x bl last/\Kept w w'
theorem PW(hT:dI w t p (-1)):Calls Tryz.prog 98 #[.pointer (some ⟨t,0,none⟩),.string key] w (Gx [] [] key w):=by
 have k1:Kept w (w.alloc (.cells #[.bool false,.slice none 0 0,.slice none 0 0,.slice none 0 0,.string ⟨#[]⟩,.bool false] 175)):=(Kept.refl w).alloc _;have k2:Kept w ((w.alloc (.cells #[.bool false,.slice none 0 0,.slice none 0 0,.slice none 0 0,.string ⟨#[]⟩,.bool false] 175)).alloc (.cells #[.bool false,.slice none 0 0,.slice none 0 0,.slice none 0 0,.string ⟨#[]⟩,.bool true] 175)):=k1.alloc _;have R0:(w.alloc (.cells #[.bool false,.slice none 0 0,.slice none 0 0,.slice none 0 0,.string ⟨#[]⟩,.bool false] 175)).heap[w.heap.size]? = some (.cells #[.bool false,.slice none 0 0,.slice none 0 0,.slice none 0 0,.string ⟨#[]⟩,.bool false] 175):=heap_alloc_new w _;have R1:=((Kept.refl _).alloc (.cells #[.bool false,.slice none 0 0,.slice none 0 0,.slice none 0 0,.string ⟨#[]⟩,.bool true] 175)).block R0;obtain⟨⟨a0,f0⟩,⟨a1,f1⟩,⟨a2,f2⟩,⟨a3,f3⟩,⟨a4,f4⟩,⟨a5,f5⟩,hfin⟩:=Gj R1 (.bool false) (.slice none 0 0) (.slice none 0 0) (.slice none 0 0) (.string ⟨#[]⟩) (.bool true);have fr:=oF (hT.kept k2);have HK:Hid (Kept w ((w.alloc (.cells #[.bool false,.slice none 0 0,.slice none 0 0,.slice none 0 0,.string ⟨#[]⟩,.bool false] 175)).alloc (.cells #[.bool false,.slice none 0 0,.slice none 0 0,.slice none 0 0,.string ⟨#[]⟩,.bool true] 175))):=k2;clear hT k1 R0 R1;go_enter Tryz.func98,Tryz.ntmps98;go_wp2_with (go_at_call 36;(with_reducible refine fr.mono ?_);rintro e w1 ⟨rfl,hw1⟩;rw[hw1];clear hw1);have ka:Kept w (w.alloc (.cells #[.bool false,.slice none 0 0,.slice none 0 0,.slice none 0 0,.string ⟨#[]⟩,.bool true] 175)):=(Kept.refl w).alloc _
 have q2:=ka.alloc (.cells #[.bool false,.slice none 0 0,.slice none 0 0,.slice none 0 0,.string ⟨#[]⟩,.bool true] 175);have hf2:=((Kept.refl _).alloc (.cells #[.bool false,.slice none 0 0,.slice none 0 0,.slice none 0 0,.string ⟨#[]⟩,.bool true] 175)).block (heap_alloc_new w (.cells #[.bool false,.slice none 0 0,.slice none 0 0,.slice none 0 0,.string ⟨#[]⟩,.bool true] 175));refine bodyPost_ret (v:=.tuple #[.agg #[.bool false,.slice none 0 0,.slice none 0 0,.slice none 0 0,.string ⟨#[]⟩,.bool true],.int .i64 0]) ?_ rfl ⟨_,_,_,_,_,_,_,_,_,_,_,_,_,rfl,V8 _,⟨List.Pairwise.nil,aag _⟩,⟨.inl ⟨rfl,rfl⟩,(fun h=>by cases h),rfl⟩,q2⟩;exact N.af (p:=4) (u:=5) (ty:=175) rfl _ _ w.heap.size 175 #[.bool false,.slice none 0 0,.slice none 0 0,.slice none 0 0,.string ⟨#[]⟩,.bool true] (0,0) _ rfl hf2 Tryz.underlying175 rfl Tz
