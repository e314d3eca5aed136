/- Joined. -/
import Derived.Test.YtifeihnhkbagpaaGreatDoorZbg
namespace Go.Proofs.YtifeihnhkbagpaaGreatDoor.T
open B (Pm Mk En R Ah Be Pf jC bN bR gJ uL wS iT iB fm aH vI pre post nI FL Ag fF gL BJ NR RO jD Wf)
open N (Nd Vl Up sl jY dY lZ bP gG)
def Yk (k:ByteArray) (l:List En):List En:=l.filter fun e=>!sl e.1 k
def Ai (k:ByteArray) (Z:List Mk):Nat:=(Z.filter fun m=>sl k m.1).length
def Hd (C:List Mk) (b:ByteArray) (last:Bool):Prop:=(C=[]/\last=true)\/∃ C2,C=(b,none) :: C2/\last=false
theorem AX(f:Nat->List Mk){K:List ByteArray}{I:List Int}{i:Nat}{k:ByteArray}(hk:K[i]? = some k)(hl:I.length=K.length+1):∃ C2,post f (K.drop i) (I.drop (i+1))=(k,none) :: C2:=by
 obtain⟨hi,rfl⟩:=aal.1 hk;have h2:i+1<I.length:=by omega
 rw[List.drop_eq_getElem_cons hi,List.drop_eq_getElem_cons h2];exact⟨_,by unfold post;rw[List.zip_cons_cons,List.flatMap_cons];rfl⟩
theorem post_nil(f:Nat->List Mk){K:List ByteArray}{I:List Int}{i:Nat}(h:K.length<=i):post f (K.drop i) I=[]:=by
 rw[aaO h];rfl
structure Ps (M:Pm) (key:ByteArray) (Z:List Mk) (d:Nat) (n:Nat) (x:Nd) (b:ByteArray) (last:Bool):Prop where
 out:∃ A C,Pf M key d ⟨n,x,nI x key⟩ A C/\A++iB M d x++C=Z/\Hd C b last
def nb (x:Nd) (key b:ByteArray):ByteArray:=(x.ks[nI x key]?).getD b
def nl (x:Nd) (key:ByteArray) (last:Bool):Bool:=if nI x key<x.ks.length then false else last
variable {M:Pm}{key b:ByteArray}{Z:List Mk}{d n:Nat}{x:Nd}
theorem Ps.next{last:Bool}(h:Ps M key Z (d+1) n x b last):∃ (c:Nat) (y:Nd),x.is[nI x key]? = some (c:Int)/\Ps M key Z d c y (nb x key b) (nl x key last):=by
 obtain⟨A,C,p,e,hd⟩:=h.out;obtain⟨c,hc,p2⟩:=p.next;have hc':x.is[nI x key]? = some c:=hc;obtain⟨y,hy,_⟩:=p.wf.2.2 _ (aak hc');have hil:=(p.wf.2.1.li p.wf.1).1;have es:fF M key c.toNat=⟨c.toNat,y,nI y key⟩:=by unfold fF;rw[gL hy]
 rw[es]at p2;have hcn:(c.toNat:Int)=c:=by
  obtain⟨q,rfl,_⟩:=p.wf.2.1.ik c (aak hc');omega
 refine⟨c.toNat,y,by rw[hcn];exact hc',_,_,p2,?_,?_⟩
 ·rw[<- e]
  show _=A++iB M (d+1) x++C;rw[vI p.wf.2.1 p.wf.1 hc',aH hy];simp
 ·show Hd (post (fm M d) (x.ks.drop (nI x key)) (x.is.drop (nI x key+1))++C) _ _
  by_cases hk:nI x key<x.ks.length
  ·obtain⟨k,hk2⟩:∃ k,x.ks[nI x key]? = some k:=⟨_,aae hk⟩
   obtain⟨C2,hC⟩:=AX (fm M d) hk2 hil;refine .inr ⟨C2++C,?_,by simp[nl,hk]⟩;rw[hC];simp[nb,hk2]
  ·have hkl:x.ks.length<=nI x key:=by omega
   rw[post_nil _ hkl];have e1:nb x key b=b:=by simp[nb,List.getElem?_eq_none hkl]
   have e2:nl x key last=last:=by simp[nl,hk]
   rw[e1,e2];exact hd
theorem Ps.below(h:Ps M key Z (d+1) n x b false){k:ByteArray}(hk:x.ks[nI x key]? = some k):sl k b=true:=by
 obtain⟨A,C,p,e,hd⟩:=h.out;rcases hd with⟨_,h0⟩|⟨C2,rfl,_⟩
 ·cases h0
 ·obtain⟨c,hc,p2⟩:=p.next
  have ho:(A++iB M (d+1) x++(b,none) :: C2).Pairwise R:=p.ord;have hil:=(p.wf.2.1.li p.wf.1).1;have hc':x.is[nI x key]? = some c:=hc;obtain⟨C3,hC⟩:=AX (fm M d) hk hil;rw[vI p.wf.2.1 p.wf.1 hc',hC]at ho;have:=(List.pairwise_append.1 ho).2.2 (k,none) (by simp) (b,none) (by simp);exact BJ.1 this
structure Sek (l:List En) (Z:List Mk) (key:ByteArray) (x:Nd) (b:ByteArray) (last:Bool):Prop where
 hd:(last=true/\Yk key l=(x.ks.zip x.vs).drop (bP key x.ks))\/(last=false/\Yk key l=(x.ks.zip x.vs).drop (bP key x.ks)++Yk b l/\Ai b Z<Ai key Z)
 lt:last=false->∀ k∈x.ks,sl k b=true
 len:x.vs.length=x.ks.length
