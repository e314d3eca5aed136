/- Joined. -/
import Derived.Test.YtifeihnhkbagpaaGreatDoorZaf
import Derived.Test.YtifeihnhkbagpaaGreatDoorZag
set_option maxHeartbeats 2000000
set_option maxRecDepth 100000
namespace Go.Proofs.YtifeihnhkbagpaaGreatDoor.D
open ChangeShapes WideShapes ChangeAt RowKit
def Calm (t:TypeId):Prop:=t≠66/\t≠60/\t≠145
structure On (B:Nat) (w w':World):Prop where
 below:Below B w w'
 rows:∀ (b:Nat) (cs:Array Value) (t:TypeId) (fr:Nat×Nat),w.heap[b]? = some (.cells cs t fr)->Calm t->w'.heap[b]? = some (.cells cs t fr)
 maps:∀ (b:Nat) (es:Array MapEntry) (c:Nat),w.heap[b]? = some (.map es c)->w'.heap[b]? = some (.map es c)
theorem On.refl(B:Nat)(w:World):On B w w:=⟨Below.refl _ _,fun _ _ _ _ h _=>h,fun _ _ _ h=>h⟩
variable {B:Nat}{a b c:World}
theorem On.trans(h:On B a b)(k:On B b c):On B a c:=⟨h.below.trans k.below,fun x cs t fr hx ht=>k.rows x cs t fr (h.rows x cs t fr hx ht) ht,fun x es c hx=>k.maps x es c (h.maps x es c hx)⟩
variable {w w':World}
theorem On.mono{B':Nat}(h:On B w w')(hB:B'<=B):On B' w w':=⟨h.below.mono hB,h.rows,h.maps⟩
theorem On.size(h:On B w w'):w.heap.size<=w'.heap.size:=h.below.size
theorem On.drew(h:On B a b):On B a b.drew:=⟨h.below.drew,h.rows,h.maps⟩
theorem Kept.on(h:Kept w w'){B:Nat}(hB:B<=w.heap.size):On B w w':=⟨h.out.mono hB,fun _ _ _ _ hx _=>h.block hx,fun _ _ _ hx=>h.block hx⟩
theorem On.kept(h:On B a b)(k:Kept b c)(hB:B<=a.heap.size):On B a c:=h.trans (k.on (aad hB h.size))
theorem On.alloc(h:On B a b)(hB:B<=a.heap.size)(o:Obj):On B a (b.alloc o):=h.kept ((Kept.refl b).alloc o) hB
theorem On.setCell(h:On B a b){g:Nat}(hg:B<=g){cs:Array Value}{t:TypeId}{fr:Nat×Nat}(hb:b.heap[g]? = some (.cells cs t fr))(ht:¬ Calm t)(i:Nat)(u:Value):On B a (b.setCell ⟨g,i,none⟩ u):=by
 refine⟨h.below.setCell hg u,fun x cs' t' fr' hx hc=>?_,fun x es c hx=>?_⟩;case refine_2=>
  have h1:=h.maps x es c hx;have hne:x≠g:=by
   intro e;subst e;rw[hb]at h1;injection h1 with h1
   cases h1
  rw[Below.heap_setCell b ⟨g,i,none⟩ u x hne];exact h1
 have h1:=h.rows x cs' t' fr' hx hc;have hne:x≠g:=by
  intro e;subst e;rw[hb]at h1;injection h1 with h1
  injection h1 with _ e2 _
  exact ht (e2▸hc)
 rw[Below.heap_setCell b ⟨g,i,none⟩ u x hne];exact h1
theorem On.grown(h:On B a b)(hB:B<=a.heap.size){row:Option Nat}(hg:b.grownBy c row)(hr:∀ k,row=some k->B<=k/\∃ cs t fr,b.heap[k]? = some (.cells cs t fr)/\¬ Calm t):On B a c:=by
 refine⟨h.below.grown hg (aad hB h.size) (fun k e=>(hr k e).1),fun x cs' t' fr' hx hc=>?_,fun x es c0 hx=>?_⟩;case refine_2=>
  have h1:=h.maps x es c0 hx;have hlt:x<b.heap.size:=(aaa.1 h1).1;rw[hg.block x hlt (fun e=>?_)]
  ·exact h1
  ·obtain⟨_,cs,t,fr,hb,ht⟩:=hr x e.symm
   rw[hb]at h1;injection h1 with h1
   cases h1
 have h1:=h.rows x cs' t' fr' hx hc;have hlt:x<b.heap.size:=(aaa.1 h1).1;rw[hg.block x hlt (fun e=>?_)]
 ·exact h1
 ·obtain⟨_,cs,t,fr,hb,ht⟩:=hr x e.symm
  rw[hb]at h1;injection h1 with h1
  injection h1 with _ e2 _
  exact ht (e2▸hc)
def Quiet (t:TypeId):Prop:=t=66\/t=60\/t=145\/t=3\/t=96
def Sb (B:Nat) (w:World) (b:Nat):Prop:=b<B\/∃ cs t fr,w.heap[b]? = some (.cells cs t fr)/\Calm t/\Quiet t
theorem On.sb(h:On B w w'){b:Nat}(k:Sb B w b):Sb B w' b/\w'.heap[b]? = w.heap[b]?:=by
 rcases k with k | ⟨cs,t,fr,k,ht,hn⟩
 ·exact⟨.inl k,h.below.block b k⟩
 ·have:=h.rows b cs t fr k ht
  exact⟨.inr ⟨cs,t,fr,this,ht,hn⟩,this.trans k.symm⟩
theorem On.lT(h:On B w w'){b:Nat}(k:Sb B w b)(i:Nat):w'.cell? ⟨b,i,none⟩=w.cell? ⟨b,i,none⟩:=
 World.cell?_of_block (w:=w) (h.sb k).2
structure Ct where
 at_:Int
 fq:List Int
structure aW (B:Nat) (w:World) (v:Value) (l:List Int):Prop where
 out:∃ p c,v=.slice p l.length c/\∀ j,j<l.length->∃ b off,p=some ⟨b,off,none⟩/\Sb B w b/\w.cell? ⟨b,off+j,none⟩=some (.int .i64 (l.getD j 0))
structure fJ (B:Nat) (w:World) (v:Value) (l:List Ct):Prop where
 out:∃ p c,v=.slice p l.length c/\l.length<=c/\c<=maxLen/\∀ j (h:j<l.length),∃ b off vf,p=some ⟨b,off,none⟩/\Sb B w b/\w.cell? ⟨b,off+j*2,none⟩=some (.int .i64 l[j].at_) /\
  w.cell? ⟨b,off+j*2+1,none⟩=some vf/\aW B w vf l[j].fq
variable {v:Value}
theorem aW.on{l:List Int}(h:aW B w v l)(k:On B w w'):aW B w' v l:=by
 obtain⟨p,c,hv,hc⟩:=h.out;refine⟨p,c,hv,fun j hj=>?_⟩;obtain⟨b,off,hp,hs,hx⟩:=hc j hj;exact⟨b,off,hp,(k.sb hs).1,(k.lT hs _).trans hx⟩
variable {l:List Ct}
theorem fJ.on(h:fJ B w v l)(k:On B w w'):fJ B w' v l:=by
 obtain⟨p,c,hv,h1,h2,hc⟩:=h.out;refine⟨p,c,hv,h1,h2,fun j hj=>?_⟩;obtain⟨b,off,vf,hp,hs,hx,hy,hf⟩:=hc j hj;exact⟨b,off,vf,hp,(k.sb hs).1,(k.lT hs _).trans hx,(k.lT hs _).trans hy,hf.on k⟩
theorem nD:Calm 3/\Quiet 3:=by unfold Calm Quiet;decide
theorem UG:Calm 96/\Quiet 96:=by unfold Calm Quiet;decide
variable {base:Nat}
theorem aW.own{l:List Int}(h:w.ownsRow base 3 1 v l.length (l.map (Value.int .i64))):aW B w v l:=by
 rcases h.2 with⟨rfl,hn⟩|⟨g,cap,cur,rfl,_,hg,_⟩
 ·refine⟨none,0,?_,fun j hj=>?_⟩
  ·rw[hn]
  ·omega
 ·refine⟨_,_,rfl,fun j hj=>⟨g,0,rfl,.inr ⟨_,_,_,hg,nD⟩,?_⟩⟩
  have:=h.cellAt j (by omega);rw[aaj,this];simp[List.getD,hj]
theorem CB(B:Nat){v:Value}{l:List Int}{w:World}(h:aW B w v l)(hl:l.length*8<=140737488355328):
 Calls Tryz.prog 47 #[v] w fun e w'=>∃ v',e=.returned v'/\w'.ownsRow w.heap.size 3 1 v' l.length (l.map (Value.int .i64))/\Kept w w':=by
 obtain⟨p,c,rfl,hc⟩:=h.out;cases p with
 | none=>
  have hl0:l=[]:=by
   cases l with
   | nil=>rfl
   | cons x r=>obtain⟨b,off,hp,_⟩:=hc 0 (by simp);exact absurd hp (by simp)
  subst hl0;refine (Tryz.slices_Clone_int_nil _ _ w).mono ?_;rintro e w' ⟨rfl,rfl⟩;exact⟨_,rfl,World.ownsRow_nil _ _ _ _,Kept.refl _⟩
 | some a=>
  by_cases hl0:l=[]
  ·subst hl0
   refine (Tryz.slices_Clone_int_zero a c w).mono ?_;rintro e w' ⟨v',rfl,ho,_,hk⟩;exact⟨_,rfl,ho,⟨hk⟩⟩
  ·have hpos:0<l.length:=List.length_pos_iff.2 hl0
   obtain⟨b,off,hp,_,_⟩:=hc 0 hpos;injection hp with hp
   subst hp;refine (Tryz.slices_Clone_int b off l.length c l w (aac _) hl (fun j hj=>?_)).mono ?_
   ·obtain⟨b',off',hp',_,hx⟩:=hc j hj
    injection hp' with hp'
    injection hp' with e1 e2
    subst e1 e2;exact hx
   ·rintro e w' ⟨v',rfl,ho,_,hk⟩
    rw[List.take_length]at ho;exact⟨_,rfl,ho,⟨hk⟩⟩
theorem UH:(Tryz.prog.info? 96).map (fun i=>(i.zero,i.size,i.bytes))=some (some (.agg #[.int .i64 0,.slice none 0 0]),2,32):=by kernel_rfl
def dO:List Ct->(Nat->Value)->Nat->List Value
 | [],_,_=>[]
 | c :: r,f,k=>.int .i64 c.at_ :: f k :: dO r f (k+1)
theorem kM(f:Nat->Value):∀ (l:List Ct) (k:Nat),(dO l f k).length=l.length*2
 | [],_=>rfl
 | c :: r,k=>by simp[dO,kM f r (k+1)];omega
theorem oO(f:Nat->Value):∀ (l:List Ct) (k j:Nat) (h:j<l.length),(dO l f k)[j*2]? = some (.int .i64 l[j].at_)/\(dO l f k)[j*2+1]? = some (f (k+j))
 | c :: r,k,0,_=>by simp[dO]
 | c :: r,k,j+1,h=>by
  have:=oO f r (k+1) j (by simpa using h);rw[show (j+1)*2=j*2+2 by omega];simp only[dO,List.getElem?_cons_succ,List.getElem_cons_succ];rw[this.1,this.2,show k+1+j=k+(j+1) by omega];exact⟨rfl,rfl⟩
theorem tF(f:Nat->Value)(hf:∀ k,(f k).oneCell'=true):∀ (l:List Ct) (k:Nat),∀ u∈dO l f k,u.oneCell'=true
 | [],_,u,hu=>by simp[dO]at hu
 | c :: r,k,u,hu=>by
  simp only[dO,aaW]at hu;rcases hu with rfl | rfl | hu
  ·rfl
  ·exact hf k
  ·exact tF f hf r (k+1) u hu
theorem wK{a:Addr}{c:Nat}(f:Nat->Value)(hf:∀ k,(f k).oneCell'=true)(hl:l.length<=5)(hc:∀ j u,(dO l f 0)[j]? = some u->w.cell? (a.add j)=some u):
 Calls Tryz.prog 46 #[.slice (some a) l.length c] w fun e w'=>∃ v',e=.returned v'/\w'.ownsRow w.heap.size 96 2 v' l.length (dO l f 0)/\v'≠.slice none 0 0/\Kept w w':=by
 obtain⟨i0,hi,hz0,hz1,hz2⟩:=info_parts UH;have A:Aside (∀ j u,(dO l f 0)[j]? = some u->w.cell? (a.add j)=some u):=hc;clear hc;have q22:∀ (w:World) (a:Option Addr) (n c n' c':Nat),(binOp .eql 45 (.slice a n c) (.slice none n' c')).run Tryz.prog w=.ok (.bool a.isNone) w:=fun w a n c n' c'=>Lib.run_eql_slice_nil w _ _ a n c n' c' Tryz.underlying45
 go_enter Tryz.func46,Tryz.ntmps46;go_wp2_with (at_builtin;refine wpList_append_own _ rfl _ _ 45 rfl w.heap.size 96 i0 (.agg #[.int .i64 0,.slice none 0 0]) 2 32 Tryz.underlying45 hi hz0 hz1 hz2 rfl (by decide) _ _ _ rfl (World.ownsRow_made w #[] 0 (aac _) (aag _) rfl) a l.length c (dO l f 0) rfl ?qc1 ?qc2 ?qc3 ?qc4 ?qc5 ?qc6 ?_);case qc1=>exact kM f l 0
 case qc2=>
  intro j u hj;exact Lib.cell?_alloc_some _ (A.out j u hj)
 case qc3=>exact tF f hf l 0
 case qc4=>unfold maxLen;omega
 case qc5=>omega
 case qc6=>simp
 intro v' w1 hown hgrow hnil;go_wp2;go_ret;refine⟨v',rfl,by simpa using hown,?_,?_⟩
 ·exact hnil
 ·exact⟨((Below.refl _ w).alloc (aac _) _).grown hgrow (by simp) (by intro k hk;simp[Value.ownBlock]at hk;omega)⟩
theorem xH(n c:Nat)(w:World):
 Calls Tryz.prog 46 #[.slice none n c] w fun e w'=>e=.returned (.slice none 0 0)/\w'=w:=by
 have q22:∀ (w:World) (a:Option Addr) (n c n' c':Nat),(binOp .eql 45 (.slice a n c) (.slice none n' c')).run Tryz.prog w=.ok (.bool a.isNone) w:=fun w a n c n' c'=>Lib.run_eql_slice_nil w _ _ a n c n' c' Tryz.underlying45
 go_enter Tryz.func46,Tryz.ntmps46;go_wp2;go_ret;exact⟨rfl,rfl⟩
structure Half (B:Nat) (w:World) (l:List Ct) (g k:Nat) (wx:World):Prop where
 cur:∃ cur:Array Value,wx.heap[g]? = some (.cells cur 96)/\∀ j (h:j<l.length),cur[j*2]? = some (.int .i64 l[j].at_)/\∃ vf,cur[j*2+1]? = some vf /\
  (j<k->wx.ownsRow w.heap.size 3 1 vf l[j].fq.length (l[j].fq.map (Value.int .i64)))/\(k<=j->aW B w vf l[j].fq)
 kept:Kept w wx
 new:w.heap.size<=g
variable {g k:Nat}{wx:World}
theorem Half.at0(h:Half B w l g k wx)(hk:k<l.length) :
  wx.cell? ⟨g,k*2,none⟩=some (.int .i64 l[k].at_)/\∃ vf,wx.cell? ⟨g,k*2+1,none⟩=some vf/\aW B w vf l[k].fq/\wx.frozen? ⟨g,k*2+1,none⟩=false:=by
 obtain⟨cur,hg,hc⟩:=h.cur;obtain⟨h1,vf,h2,_,h3⟩:=hc k hk;exact⟨by rw[cell_of_row wx g _ _ _ _ hg];exact h1,vf,by rw[cell_of_row wx g _ _ _ _ hg];exact h2,h3 (aac _),frozen_of_row wx g _ _ _ hg⟩
theorem sW(h:Kept w w'){base e size:Nat}{v:Value}{n:Nat}{xs:List Value}(k:w.ownsRow base e size v n xs):w'.ownsRow base e size v n xs:=by
 refine⟨k.1,?_⟩;rcases k.2 with k | ⟨g,cap,cur,h1,h2,h3,h4⟩
 ·exact .inl k
 ·exact .inr ⟨g,cap,cur,h1,h2,h.block h3,h4⟩
variable {e n:Nat}{xs:List Value}
theorem Mf{base' size:Nat}(k:w.ownsRow base e size v n xs)(hb:base'<=base):w.ownsRow base' e size v n xs:=by
 refine⟨k.1,?_⟩;rcases k.2 with k | ⟨g,cap,cur,h1,h2,h3,h4⟩
 ·exact .inl k
 ·exact .inr ⟨g,cap,cur,h1,aad hb h2,h3,h4⟩
theorem Half.to{wy:World}(h:Half B w l g k wx)(hk:Kept wx wy):Half B w l g k wy:=by
 obtain⟨cur,hg,hc⟩:=h.cur;refine⟨⟨cur,hk.block hg,fun j hj=>?_⟩,h.kept.trans hk,h.new⟩;obtain⟨h1,vf,h2,h3,h4⟩:=hc j hj;exact⟨h1,vf,h2,fun e=>sW hk (h3 e),h4⟩
theorem nC{size:Nat}(k:w.ownsRow base e size v n xs){g i:Nat}{cs:Array Value}{t:TypeId}{fr:Nat×Nat}(hg:w.heap[g]? = some (.cells cs t fr))(ht:t≠e)(u:Value):(w.setCell ⟨g,i,none⟩ u).ownsRow base e size v n xs:=by
 refine⟨k.1,?_⟩;rcases k.2 with k | ⟨b,cap,cur,h1,h2,h3,h4⟩
 ·exact .inl k
 ·refine .inr ⟨b,cap,cur,h1,h2,?_,h4⟩
  rw[Below.heap_setCell w ⟨g,i,none⟩ u b (fun e'=>?_)]
  ·exact h3
  ·have e':b=g:=e'
   subst e';rw[hg]at h3;injection h3 with h3
   injection h3 with _ e2 _
   exact ht e2
theorem Half.put(h:Half B w l g k wx)(hk:k<l.length){v:Value}(ho:wx.ownsRow w.heap.size 3 1 v l[k].fq.length (l[k].fq.map (Value.int .i64))) :
  Half B w l g (k+1) (wx.setCell ⟨g,k*2+1,none⟩ v):=by
 obtain⟨cur,hg,hc⟩:=h.cur;refine⟨⟨_,heap_setCell_same wx g (k*2+1) _ _ _ hg,fun j hj=>?_⟩,h.kept.setCell h.new _,h.new⟩;obtain⟨h1,vf,h2,h3,h4⟩:=hc j hj;refine⟨by rw[aaI (by omega)];exact h1,?_⟩;by_cases e:j=k
 ·subst e
  refine⟨v,?_,fun _=>nC ho hg (by decide) _,fun q=>absurd q (by omega)⟩;have hlt:j*2+1<cur.size:=(aaa.1 h2).1;rw[Array.getElem?_setIfInBounds_self_of_lt hlt]
 ·refine⟨vf,by rw[aaI (by omega)];exact h2,fun q=>nC (h3 (by omega)) hg (by decide) _,fun q=>h4 (by omega)⟩
theorem Mg(hl:l.length<=5)(hfl:∀ c∈l,c.fq.length*8<=140737488355328)(hB:B<=w.heap.size)(hcl:Calls Tryz.prog 46 #[v] w fun e w'=>∃ g cap,e=.returned (.slice (some ⟨g,0,none⟩) l.length cap)/\l.length<=cap/\cap<=maxLen/\Half B w l g 0 w'):
 Calls Tryz.prog 30 #[v] w fun e w'=>∃ g cap,e=.returned (.slice (some ⟨g,0,none⟩) l.length cap)/\l.length<=cap/\cap<=maxLen/\Half B w l g l.length w':=by
 go_enter Tryz.func30,Tryz.ntmps30;go_wp2_with (go_at_call 46;refine hcl.mono ?_;rintro e w1 ⟨g,cap,rfl,hcap,hmax,hw1⟩);go_loopg [10] l.length (fun q iv wx=>∃ k:Nat,q+k=l.length/\iv=.int .i64 k/\Half B w l g k wx);case atStart=>exact⟨0,rfl,rfl,hw1⟩
 case round=>
  obtain⟨k,hq,rfl,hh⟩:=hrel;by_cases hk:k<l.length
  ·obtain⟨c0,vf,c1,hf,f1⟩:=hh.at0 hk
   obtain⟨p,c,rfl,_⟩:=hf.out;have hd:decide ((k:Int)<(l.length:Int))=true:=by simpa using hk
   have hfk:=hfl _ (List.getElem_mem hk);clear hcl hfl;have HW:=hw1;go_wp2_with (go_at_call 47;refine (CB B (hf.on ((hh.kept.alloc _).on hB)) hfk).mono ?_;rintro e w2 ⟨v2,rfl,ho2,hk2⟩;have Wo:=hh.to (((Kept.refl wr).alloc _).trans hk2);obtain⟨_,_,c2,_,f2⟩:=Wo.at0 hk;obtain⟨p2,cp2,hv2⟩:∃ p2 c2,v2=.slice p2 l[k].fq.length c2:=(by rcases ho2.2 with⟨e1,e2⟩|⟨g',cap',cur',e1,_⟩;exact⟨none,0,by rw[e1,e2]⟩;exact⟨_,_,e1⟩);subst hv2);go_roundg (l.length-(k+1));case measure=>omega
   case rel=>exact⟨k+1,by omega,by go_num,Wo.put hk (Mf ho2 (aad hh.kept.size (by simp)))⟩
  ·have hd:decide ((k:Int)<(l.length:Int))=false:=by simpa using hk
   go_wp2;go_ret;obtain rfl:k=l.length:=by omega
   exact⟨g,cap,rfl,hcap,hmax,hh⟩
theorem Mh(n c:Nat):Calls Tryz.prog 30 #[.slice none n c] w fun e w'=>e=.returned (.slice none 0 0)/\w'=w:=by
 go_enter Tryz.func30,Tryz.ntmps30;go_wp2_with (go_at_call 46;refine (xH _ _ _).mono ?_;rintro e w' ⟨rfl,rfl⟩);refine wp_loop_rounds 1 ?_;rw[rounds_succ];go_wp2;go_ret;exact⟨rfl,rfl⟩
theorem Mi(h:fJ B w v l)(hB:B<=w.heap.size)(hl:l.length<=5)(hfl:∀ c∈l,c.fq.length*8<=140737488355328):
 Calls Tryz.prog 30 #[v] w fun e w'=>∃ v',e=.returned v'/\fJ 0 w' v' l/\Kept w w':=by
 obtain⟨p,c,rfl,h1,h2,hc⟩:=h.out;cases p with
 | none=>
  have hl0:l=[]:=by
   cases l with
   | nil=>rfl
   | cons x r=>obtain⟨b,off,vf,hp,_⟩:=hc 0 (by simp);exact absurd hp (by simp)
  subst hl0;refine (Mh _ _).mono ?_;rintro e w' ⟨rfl,rfl⟩;exact⟨_,rfl,⟨none,0,rfl,aac _,aag _,fun j hj=>absurd hj (by simp)⟩,Kept.refl _⟩
 | some a=>
  -- what each one's fates are,as a value
  have hf:∃ f:Nat->Value,(∀ k,(f k).oneCell'=true)/\(∀ j u,(dO l f 0)[j]? = some u->w.cell? (a.add j)=some u)/\∀ j (h:j<l.length),aW B w (f j) l[j].fq:=by
   have hch:∀ j,∃ vf:Value,vf.oneCell'=true/\∀ h:j<l.length,w.cell? (a.add (j*2))=some (.int .i64 l[j].at_)/\w.cell? (a.add (j*2+1))=some vf/\aW B w vf l[j].fq:=by
    intro j;by_cases hj:j<l.length
    ·obtain⟨b,off,vf,hp,_,hx,hy,hz⟩:=hc j hj
     injection hp with hp
     subst hp;refine⟨vf,?_,fun _=>⟨by rw[Addr.add_lit];exact hx,by rw[Addr.add_lit,<- Nat.add_assoc];exact hy,hz⟩⟩;obtain⟨p',c',rfl,_⟩:=hz.out;rfl
    ·exact⟨.slice none 0 0,rfl,fun e=>absurd e hj⟩
   obtain⟨f,hf⟩:=Classical.axiomOfChoice hch;refine⟨f,fun k=>(hf k).1,fun j u hu=>?_,fun j hj=>((hf j).2 hj).2.2⟩;have hlen:=kM f l 0;have hj:j<l.length*2:=by rw[<- hlen];exact (aal.1 hu).1
   have hg:=oO f l 0 (j / 2) (by omega);have hq:=(hf (j / 2)).2 (by omega);rcases Nat.mod_two_eq_zero_or_one j with hm | hm
   ·rw[show j / 2*2=j by omega]at hg hq
    rw[hg.1]at hu;rw[<- hu];exact hq.1
   ·rw[show j / 2*2+1=j by omega]at hg hq
    rw[hg.2,aaj]at hu;rw[<- hu];exact hq.2.1
  obtain⟨f,hf1,hf2,hf3⟩:=hf;refine (Mg (B:=B) hl hfl hB ((wK f hf1 hl hf2).mono ?_)).mono ?_
  ·rintro e w' ⟨v',rfl,ho,hne,hk⟩
   rcases ho.2 with⟨e1,e2⟩|⟨g,cap,cur,rfl,hg0,hg,hcap,hmax,hcs,htk⟩
   ·rw[e1]at hne;exact absurd rfl hne
   ·refine⟨g,cap,rfl,hcap,hmax,⟨cur,hg,fun j hj=>?_⟩,hk,hg0⟩
    have hx:=oO f l 0 j hj;rw[<- htk,List.getElem?_take_of_lt (by omega),List.getElem?_take_of_lt (by omega),aaj]at hx;exact⟨by simpa using hx.1,f j,by simpa using hx.2,fun q=>absurd q (by omega),fun _=>hf3 j hj⟩
  ·rintro e w' ⟨g,cap,rfl,hcap,hmax,hh⟩
   obtain⟨cur,hg,Mj⟩:=hh.cur;refine⟨_,rfl,⟨_,_,rfl,hcap,hmax,fun j hj=>?_⟩,hh.kept⟩;obtain⟨h1,vf,h2,h3,_⟩:=Mj j hj;refine⟨g,0,vf,rfl,.inr ⟨_,_,_,hg,UG⟩,?_,?_,aW.own (h3 hj)⟩
   ·rw[aaj,cell_of_row w' g _ _ _ _ hg];exact h1
   ·rw[aaj,cell_of_row w' g _ _ _ _ hg];exact h2
