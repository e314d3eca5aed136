/- Joined. -/
import Derived.Test.YtifeihnhkbagpaaGreatDoorZas
import Derived.Test.YtifeihnhkbagpaaGreatDoorZau
import Derived.Laws.CopyRow
import Derived.Laws.OwnMore
import Derived.Laws.MakeOwn
import Derived.Laws.Rows
import Derived.Laws.ResultCell
import Derived.Lib.SliceRun
import Derived.Lib.Walk
import Derived.Deep.RegionLaw
import Derived.Shelf.RegionOpenPlain
set_option maxHeartbeats 4000000
set_option maxRecDepth 100000
namespace Go.Proofs.YtifeihnhkbagpaaGreatDoor.N
open ChangeShapes WideShapes ChangeAt RowKit
structure Rw (w:World) (sz:Nat) (p:Option Addr) (n c:Nat) (cs:List Value):Prop where
 len:cs.length=n*sz
 le:n<=c
 cap:c<=maxLen
 out:(p=none/\n=0)\/∃ b off,p=some ⟨b,off,none⟩/\∀ j u,cs[j]? = some u->w.cell? ⟨b,off+j,none⟩=some u
structure Own (w:World) (B:Nat) (e:TypeId) (sz:Nat) (p:Option Addr) (n c:Nat) (cs:List Value):Prop where
 out:w.ownsRow B e sz (.slice p n c) n cs
variable {w w':World}
theorem Kept.cell(h:Kept w w'){a:Addr}{u:Value}(k:w.cell? a=some u):w'.cell? a=some u:=
 (h.out.cell (World.block_lt_of_cell? w _ k)).trans k
theorem Kept.rw(h:Kept w w'){sz:Nat}{p:Option Addr}{n c:Nat}{cs:List Value}(k:Rw w sz p n c cs):Rw w' sz p n c cs:=
 ⟨k.len,k.le,k.cap,k.out.elim .inl fun ⟨b,off,e,f⟩=>.inr ⟨b,off,e,fun j u hu=>h.cell (f j u hu)⟩⟩
theorem Kept.grown(h:Kept w w')(r:Option Nat):w.grownBy w' r:=⟨h.out.os,h.out.tape,h.out.output,h.out.size,fun i hi _=>h.out.block i hi⟩
variable {B sz n c:Nat}{e:TypeId}{p:Option Addr}{cs:List Value}
theorem Own.kept(k:Own w B e sz p n c cs)(h:Kept w w'):Own w' B e sz p n c cs:=
 ⟨k.out.kept (h.grown none) (by cases p <;> simp[Value.ownBlock])⟩
theorem Own.mono{B':Nat}(k:Own w B e sz p n c cs)(h:B'<=B):Own w B' e sz p n c cs:=
 ⟨k.out.1,k.out.2.imp id fun ⟨g,cap,cur,a,b,r⟩=>⟨g,cap,cur,a,aad h b,r⟩⟩
theorem Own.rw(k:Own w B e sz p n c cs):Rw w sz p n c cs:=by
 obtain⟨hl,h⟩:=k.out;rcases h with⟨h1,rfl⟩|⟨g,cap,cur,h1,hB,hg,hn,hm,hs,ht⟩
 ·injection h1 with h1 _ h2
  subst h1;subst h2;exact⟨hl,aac _,aag _,.inl ⟨rfl,rfl⟩⟩
 ·injection h1 with h1 _ h2
  subst h1;subst h2;refine⟨hl,hn,hm,.inr ⟨g,0,rfl,fun j u hu=>?_⟩⟩;rw[aaj,cell_of_row w g j _ _ _ hg];rw[<- ht,aaT]at hu;split at hu
  ·simpa using hu
  ·cases hu
theorem Own.cases(k:Own w B e sz p n c cs) :
  (p=none/\n=0/\c=0/\cs=[])\/∃ g cur,p=some ⟨g,0,none⟩/\B<=g/\g<w.heap.size/\w.heap[g]? = some (.cells cur e (0,0))/\n<=c/\c<=maxLen/\cur.size=c*sz/\cur.toList.take (n*sz)=cs:=by
 obtain⟨hl,h⟩:=k.out;rcases h with⟨h1,rfl⟩|⟨g,cap,cur,h1,hB,hg,hn,hm,hs,ht⟩
 ·injection h1 with h1 _ h2
  exact .inl ⟨h1,rfl,h2,aaL.1 (by simpa using hl)⟩
 ·injection h1 with h1 _ h2
  subst h1;subst h2;exact .inr ⟨g,cur,rfl,hB,(aaa.1 hg).1,hg,hn,hm,hs,ht⟩
theorem Rw.small(k:Rw w sz p n c cs):c<=9223372036854775807:=by
 have:=k.cap;unfold maxLen at this;omega
theorem aL{r:Option Nat}(W:World)(h:Kept W w)(hg:w.grownBy w' r)(hB:W.heap.size<=B)(hr:∀ k,r=some k->B<=k):Kept W w':=
 ⟨h.out.grown hg h.size fun k hk=>aad hB (hr k hk)⟩
section laws
variable {P:Program}
open Go
theorem bz(w:World)(dT sT ty elem:TypeId)(sz g o dLen dCap:Nat)(a:Addr)(sLen sCap:Nat)(cur:Array Value)(t:TypeId)(cs:List Value)(hu:P.underlying dT=some (.slice elem))(hs:(P.info? elem).map (·.size)=some sz)(hg:w.heap[g]? = some (.cells cur t (0,0)))(hn:cs.length=Nat.min sLen dLen*sz)(hsrc:∀ j v,cs[j]? = some v->w.cell? (a.add j)=some v)(hfit:o+cs.length<=cur.size)(h1:∀ v∈cs,v.oneCell'=true) :
    (Builtin.copy_ #[dT,sT] ty #[.slice (some ⟨g,o,none⟩) dLen dCap,.slice (some a) sLen sCap]).run P w =
      .ok (goInt (Nat.min sLen dLen)) (w.setRow g (cur.toList.take o++cs++cur.toList.drop (o+cs.length)).toArray):=by
  have hl:=run_loadCells_list (P:=P) w a cs hsrc;have hst:=run_storeCells_at P g o t cs 0 cur w hg (by simpa using hfit) h1;cases hq:P.info? elem with
  | none=>simp[hq]at hs
  | some i=>
    have hi:i.size=sz:=by simpa[hq] using hs
    simp[Builtin.copy_,run_underlying hu,Builtin.lenOf,Builtin.firstCells,sizeOf,typeInfo,hq,hi,<- hn,hl,hst]
theorem jo(w:World)(t e ty:TypeId)(z:Value)(ht:P.underlying t=some (.slice e))(hv:∀ w,(zeroValue e).run P w=.ok z w)(g o n c:Nat)(hn:0<n)(cur:Array Value)(T:TypeId)(hg:w.heap[g]? = some (.cells cur T (0,0)))(zs:List Value)(hz:(Builtin.zeroCells z.cells n).toList=zs)(hfit:o+zs.length<=cur.size)(h1:∀ v∈zs,v.oneCell'=true) :
  (Builtin.clear_ #[t] ty #[.slice (some ⟨g,o,none⟩) n c]).run P w=.ok (.tuple #[]) (w.setRow g (cur.toList.take o++zs++cur.toList.drop (o+zs.length)).toArray):=by
 have hst:=run_storeCells_at P g o T zs 0 cur w hg (by simpa using hfit) h1;obtain⟨m,rfl⟩:∃ m,n=m+1:=⟨n-1,by omega⟩;simp only[Nat.add_zero]at hst;simp[Builtin.clear_,run_underlying ht,hv,hz,hst]
end laws
theorem lW{P:Program}(w:World)(dT sT ty elem:TypeId)(a:Option Addr)(sz:Nat)(d:Option Addr)(dLen dCap sLen sCap:Nat)(hu:P.underlying dT=some (.slice elem))(hs:(P.info? elem).map (·.size)=some sz)(hn:Nat.min sLen dLen=0)(ha:a=none)(hd:d≠none)(hsl:sLen=0) :
    (Builtin.copy_ #[dT,sT] ty #[.slice d dLen dCap,.slice a sLen sCap]).run P w=.ok (goInt 0) w:=by
  subst ha;subst hsl;cases hq:P.info? elem with
  | none=>simp[hq]at hs
  | some i=>
    cases d with
    | none=>exact absurd rfl hd
    | some d=>simp[Builtin.copy_,run_underlying hu,Builtin.lenOf,Builtin.firstCells,sizeOf,typeInfo,hq,storeCells]
theorem size_alloc(w:World)(o:Obj):(w.alloc o).heap.size=w.heap.size+1:=Array.size_push ..
variable {w:World}{B g n:Nat}{cs:List Value}
theorem Dn{e sz:Nat}{cur:Array Value}(hg:w.heap[g]? = some (.cells cur e (0,0)))(hB:B<=g)(hl:cs.length=n*sz)(hn:n<=maxLen) :
  Own (w.setRow g cs.toArray) B e sz (some ⟨g,0,none⟩) n n cs:=
 ⟨hl,.inr ⟨g,n,cs.toArray,rfl,hB,setRow_heap w g _ _ _ _ hg,aac _,hn,by simpa using hl,by simp[<- hl]⟩⟩
variable {W:World}
theorem Kept.setRow(h:Kept w W){g:Nat}(hg:w.heap.size<=g)(cs:Array Value):Kept w (W.setRow g cs):=by
 refine⟨⟨h.out.os,h.out.tape,h.out.output,?_,?_⟩⟩
 ·rw[setRow_size];exact h.size
 ·intro k hk
  rw[setRow_other _ _ _ _ (by omega)];exact h.out.block k hk
theorem lX:(Tryz.prog.info? 9).map (fun i=>(i.zero,i.size,i.bytes))=some (some (.string ⟨#[]⟩),1,16):=by kernel_rfl
variable {p:Option Addr}{c:Nat}
theorem Bv(h:Rw w 1 p n c cs)(hn:n<=100000)(h1:∀ u∈cs,u.oneCell'=true):
 Calls Tryz.prog 177 #[.slice p n c] w fun e w'=>∃ p' c',e=.returned (.slice p' n c')/\Own w' w.heap.size 9 1 p' n c' cs/\Kept w w':=by
 have q22:∀ (w:World) (a:Option Addr) (n c n' c':Nat),(binOp .eql 49 (.slice a n c) (.slice none n' c')).run Tryz.prog w=.ok (.bool a.isNone) w:=fun w a n c n' c'=>Lib.run_eql_slice_nil w _ _ a n c n' c' Tryz.underlying49
 obtain⟨hl,_,_,ho⟩:=h;obtain⟨i0,hi,hz0,hz1,hz2⟩:=info_parts lX;rcases ho with⟨rfl,rfl⟩|⟨b,off,rfl,hc⟩
 ·have e0:cs=[]:=aaL.1 (by simpa using hl)
  subst e0;have a:Calls Tryz.prog 177 #[.slice none 0 c] w fun e w'=>e=.returned (.slice none 0 0)/\w'=w:=by
   go_enter Tryz.func177,Tryz.ntmps177;go_wp2;go_ret;exact⟨rfl,rfl⟩
  refine a.mono ?_;rintro e w' ⟨rfl,rfl⟩;exact⟨_,_,rfl,⟨World.ownsRow_nil _ _ _ _⟩,Kept.refl _⟩
 ·have A:Aside (∀ j u,cs[j]? = some u->w.cell? ⟨b,off+j,none⟩=some u):=hc
  have a:Calls Tryz.prog 177 #[.slice (some ⟨b,off,none⟩) n c] w fun e w'=>∃ v',e=.returned v'/\w'.ownsRow w.heap.size 9 1 v' n cs/\Kept w w':=by
   clear hc;go_enter Tryz.func177,Tryz.ntmps177;go_wp2_with (at_builtin;refine wpList_append_own _ rfl _ _ 49 rfl w.heap.size 9 i0 (.string ⟨#[]⟩) 1 16 Tryz.underlying49 hi hz0 hz1 hz2 rfl (by decide) _ _ _ rfl (World.ownsRow_made w #[] 0 (aac _) (aag _) (by simp)) ⟨b,off,none⟩ n c cs rfl ?qc1 ?qc2 ?qc3 ?qc4 ?qc5 ?qc6 ?_);case qc1=>exact hl
   case qc2=>
    intro j u hj;rw[Addr.add_lit];exact Lib.cell?_alloc_some _ (A.out j u hj)
   case qc3=>exact h1
   case qc4=>rw[aaj];unfold maxLen;omega
   case qc5=>rw[aaj];omega
   case qc6=>simp
   intro v' w1 hown hgrow hnil;go_wp2;go_ret;refine⟨v',rfl,by simpa using hown,⟨((Below.refl _ w).alloc (aac _) _).grown hgrow (by simp) (by intro k hk;simp[Value.ownBlock]at hk;omega)⟩⟩
  refine a.mono ?_;rintro e w' ⟨v',rfl,ho,hk⟩;obtain⟨p',c',rfl⟩:=aF ho;exact⟨_,_,rfl,⟨ho⟩,hk⟩
theorem sj:(Tryz.prog.info? 77).map (fun i=>(i.zero,i.size,i.bytes))=some (some (.agg #[.string ⟨#[]⟩,.int .i64 0,.int .i64 0]),3,32):=by kernel_rfl
theorem Rm(h:Rw w 3 p n c cs)(hn:n<=100000)(h1:∀ u∈cs,u.oneCell'=true):
 Calls Tryz.prog 183 #[.slice p n c] w fun e w'=>∃ p' c',e=.returned (.slice p' n c')/\Own w' w.heap.size 77 3 p' n c' cs/\Kept w w':=by
 have q22:∀ (w:World) (a:Option Addr) (n c n' c':Nat),(binOp .eql 119 (.slice a n c) (.slice none n' c')).run Tryz.prog w=.ok (.bool a.isNone) w:=fun w a n c n' c'=>Lib.run_eql_slice_nil w _ _ a n c n' c' Tryz.underlying119
 obtain⟨hl,_,_,ho⟩:=h;obtain⟨i0,hi,hz0,hz1,hz2⟩:=info_parts sj;rcases ho with⟨rfl,rfl⟩|⟨b,off,rfl,hc⟩
 ·have e0:cs=[]:=aaL.1 (by simpa using hl)
  subst e0;have a:Calls Tryz.prog 183 #[.slice none 0 c] w fun e w'=>e=.returned (.slice none 0 0)/\w'=w:=by
   go_enter Tryz.func183,Tryz.ntmps183;go_wp2;go_ret;exact⟨rfl,rfl⟩
  refine a.mono ?_;rintro e w' ⟨rfl,rfl⟩;exact⟨_,_,rfl,⟨World.ownsRow_nil _ _ _ _⟩,Kept.refl _⟩
 ·have A:Aside (∀ j u,cs[j]? = some u->w.cell? ⟨b,off+j,none⟩=some u):=hc
  have a:Calls Tryz.prog 183 #[.slice (some ⟨b,off,none⟩) n c] w fun e w'=>∃ v',e=.returned v'/\w'.ownsRow w.heap.size 77 3 v' n cs/\Kept w w':=by
   clear hc;go_enter Tryz.func183,Tryz.ntmps183;go_wp2_with (at_builtin;refine wpList_append_own _ rfl _ _ 119 rfl w.heap.size 77 i0 (.agg #[.string ⟨#[]⟩,.int .i64 0,.int .i64 0]) 3 32 Tryz.underlying119 hi hz0 hz1 hz2 rfl (by decide) _ _ _ rfl (World.ownsRow_made w #[] 0 (aac _) (aag _) (by simp)) ⟨b,off,none⟩ n c cs rfl ?qc1 ?qc2 ?qc3 ?qc4 ?qc5 ?qc6 ?_);case qc1=>exact hl
   case qc2=>
    intro j u hj;rw[Addr.add_lit];exact Lib.cell?_alloc_some _ (A.out j u hj)
   case qc3=>exact h1
   case qc4=>rw[aaj];unfold maxLen;omega
   case qc5=>rw[aaj];omega
   case qc6=>simp
   intro v' w1 hown hgrow hnil;go_wp2;go_ret;refine⟨v',rfl,by simpa using hown,⟨((Below.refl _ w).alloc (aac _) _).grown hgrow (by simp) (by intro k hk;simp[Value.ownBlock]at hk;omega)⟩⟩
  refine a.mono ?_;rintro e w' ⟨v',rfl,ho,hk⟩;obtain⟨p',c',rfl⟩:=aF ho;exact⟨_,_,rfl,⟨ho⟩,hk⟩
theorem info3:(Tryz.prog.info? 3).map (fun i=>(i.zero,i.size,i.bytes))=some (some (.int .i64 0),1,8):=by kernel_rfl
theorem Ro(h:Rw w 1 p n c cs)(hn:n<=100000)(h1:∀ u∈cs,u.oneCell'=true):
 Calls Tryz.prog 47 #[.slice p n c] w fun e w'=>∃ p' c',e=.returned (.slice p' n c')/\Own w' w.heap.size 3 1 p' n c' cs/\Kept w w':=by
 have q22:∀ (w:World) (a:Option Addr) (n c n' c':Nat),(binOp .eql 94 (.slice a n c) (.slice none n' c')).run Tryz.prog w=.ok (.bool a.isNone) w:=fun w a n c n' c'=>Lib.run_eql_slice_nil w _ _ a n c n' c' Tryz.underlying94
 obtain⟨hl,_,_,ho⟩:=h;obtain⟨i0,hi,hz0,hz1,hz2⟩:=info_parts info3;rcases ho with⟨rfl,rfl⟩|⟨b,off,rfl,hc⟩
 ·have e0:cs=[]:=aaL.1 (by simpa using hl)
  subst e0;have a:Calls Tryz.prog 47 #[.slice none 0 c] w fun e w'=>e=.returned (.slice none 0 0)/\w'=w:=by
   go_enter Tryz.func47,Tryz.ntmps47;go_wp2;go_ret;exact⟨rfl,rfl⟩
  refine a.mono ?_;rintro e w' ⟨rfl,rfl⟩;exact⟨_,_,rfl,⟨World.ownsRow_nil _ _ _ _⟩,Kept.refl _⟩
 ·have A:Aside (∀ j u,cs[j]? = some u->w.cell? ⟨b,off+j,none⟩=some u):=hc
  have a:Calls Tryz.prog 47 #[.slice (some ⟨b,off,none⟩) n c] w fun e w'=>∃ v',e=.returned v'/\w'.ownsRow w.heap.size 3 1 v' n cs/\Kept w w':=by
   clear hc;go_enter Tryz.func47,Tryz.ntmps47;go_wp2_with (at_builtin;refine wpList_append_own _ rfl _ _ 94 rfl w.heap.size 3 i0 (.int .i64 0) 1 8 Tryz.underlying94 hi hz0 hz1 hz2 rfl (by decide) _ _ _ rfl (World.ownsRow_made w #[] 0 (aac _) (aag _) (by simp)) ⟨b,off,none⟩ n c cs rfl ?qc1 ?qc2 ?qc3 ?qc4 ?qc5 ?qc6 ?_);case qc1=>exact hl
   case qc2=>
    intro j u hj;rw[Addr.add_lit];exact Lib.cell?_alloc_some _ (A.out j u hj)
   case qc3=>exact h1
   case qc4=>rw[aaj];unfold maxLen;omega
   case qc5=>rw[aaj];omega
   case qc6=>simp
   intro v' w1 hown hgrow hnil;go_wp2;go_ret;refine⟨v',rfl,by simpa using hown,⟨((Below.refl _ w).alloc (aac _) _).grown hgrow (by simp) (by intro k hk;simp[Value.ownBlock]at hk;omega)⟩⟩
  refine a.mono ?_;rintro e w' ⟨v',rfl,ho,hk⟩;obtain⟨p',c',rfl⟩:=aF ho;exact⟨_,_,rfl,⟨ho⟩,hk⟩
theorem Rp(d:ByteArray)(q l:Int)(h:Rw w 3 p n c cs)(hn:n<=100000)(h1:∀ u∈cs,u.oneCell'=true):
 Calls Tryz.prog 178 #[.slice p n c,.int .i64 n,.agg #[.string d,.int .i64 q,.int .i64 l]] w fun e w'=>∃ p',e=.returned (.slice p' n n)/\Own w' w.heap.size 77 3 p' n n cs/\Kept w w':=by
  obtain⟨hl,_,_,ho⟩:=h;obtain⟨i0,hi,hz0,hz1,hz2⟩:=info_parts sj;have hsz:(Tryz.prog.info? 77).map (·.size)=some 3:=by rw[hi];simp[hz1]
  obtain⟨w0,hw0,hk0⟩:∃ w0,w0=w.alloc (.cells #[.string d,.int .i64 q,.int .i64 l] 77)/\Kept w w0:=⟨_,rfl,(Kept.refl w).alloc _⟩;obtain⟨w1,hm,hown,hgr⟩:=run_makeSlice_full (P:=Tryz.prog) w0 w.heap.size 119 77 i0 (.agg #[.string ⟨#[]⟩,.int .i64 0,.int .i64 0]) 3 Tryz.underlying119 hi hz0 hz1 .i64 .i64 n (by omega) (by rw[hz2];omega) (by unfold maxLen;omega) hk0.size;have hk1:Kept w w1:=aL w hk0 hgr (aac _) (by intro k hk;cases hk);have hgrow1:Kept w0 w1:=aL w0 (Kept.refl _) hgr (aac _) (by intro k hk;cases hk);obtain⟨cur,hg,hcs⟩:∃ cur:Array Value,w1.heap[w0.heap.size]? = some (.cells cur 77 (0,0))/\cur.size=n*3:=by
    rcases hown.2 with⟨hx,_⟩|⟨g,cap,cur,hv,hB,hg,hc2,hc3,hc4,_⟩
    · cases hx
    · injection hv with e1 e2 e3
      injection e1 with e1
      injection e1 with e1
      subst e1;subst e3;exact⟨cur,hg,hc4⟩
  have hcp:∃ w2,(∀ ty,(Builtin.copy_ #[119,119] ty #[.slice (some ⟨w0.heap.size,0,none⟩) n n,.slice p n c]).run Tryz.prog w1=.ok (.int .i64 n) w2)/\Own w2 w.heap.size 77 3 (some ⟨w0.heap.size,0,none⟩) n n cs/\Kept w w2:=by
    rcases ho with⟨rfl,rfl⟩|⟨b,off,rfl,hc⟩
    · have e0:cs=[]:=aaL.1 (by simpa using hl)
      subst e0;refine⟨w1,fun ty=>?_,⟨by simp,.inr ⟨_,_,cur,rfl,hk0.size,hg,aac _,by unfold maxLen;omega,hcs,by simp⟩⟩,hk1⟩;rw[lW w1 119 119 ty 77 none 3 _ 0 0 0 c Tryz.underlying119 hsz rfl rfl (by simp) rfl];rfl
    · have hc1:∀ j u,cs[j]? = some u->w1.cell? ((⟨b,off,none⟩:Addr).add j)=some u:=fun j u hj=>by
        rw[Addr.add_lit];exact hk1.cell (hc j u hj)
      have e:=fun ty=>bz (P:=Tryz.prog) w1 119 119 ty 77 3 w0.heap.size 0 n n ⟨b,off,none⟩ n c cur 77 cs Tryz.underlying119 hsz hg (by simpa using hl) hc1 (by omega) h1
      refine⟨_,fun ty=>(e ty).trans (by simp[goInt];rfl),?_,?_⟩
      · have e2:cs++cur.toList.drop cs.length=cs:=by
          rw[aaO (by simp;omega),aaM]
        rw[e2]
        exact Dn hg hk0.size hl (by unfold maxLen;omega)
      · exact hk1.setRow hk0.size _
  obtain⟨w2,hcp,ho2,hk2⟩:=hcp;have HO:Hid (Own w2 w.heap.size 77 3 (some ⟨w0.heap.size,0,none⟩) n n cs):=ho2;clear ho2 hgrow1 hg hcs hown hgr ho hk1 hi hz0 hz1 hz2 hsz hl h1;rw[hw0]at hm hcp HO;clear hw0 hk0;rw[size_alloc]at hm hcp HO;go_enter Tryz.func178,Tryz.ntmps178;go_wp2_with (at_builtin;refine wpList_copy_runI _ rfl _ _ 119 119 rfl _ _ rfl rfl (hcp _) ?_);go_loopg [8] 0 (fun _ v wx=>v=.int .i64 n/\wx=w2);case atStart=>exact⟨rfl,rfl⟩
  case round=>
    obtain⟨rfl,rfl⟩:=hrel;go_wp2;go_ret;exact⟨_,rfl,HO.out,hk2⟩
theorem Rq(q:Int)(h:Rw w 1 p n c cs)(hn:n<=100000)(h1:∀ u∈cs,u.oneCell'=true):
 Calls Tryz.prog 179 #[.slice p n c,.int .i64 n,.int .i64 q] w fun e w'=>∃ p',e=.returned (.slice p' n n)/\Own w' w.heap.size 3 1 p' n n cs/\Kept w w':=by
  obtain⟨hl,_,_,ho⟩:=h;obtain⟨i0,hi,hz0,hz1,hz2⟩:=info_parts info3;have hsz:(Tryz.prog.info? 3).map (·.size)=some 1:=by rw[hi];simp[hz1]
  obtain⟨w0,hw0,hk0⟩:∃ w0,w0=w/\Kept w w0:=⟨_,rfl,Kept.refl w⟩;obtain⟨w1,hm,hown,hgr⟩:=run_makeSlice_full (P:=Tryz.prog) w0 w.heap.size 94 3 i0 (.int .i64 0) 1 Tryz.underlying94 hi hz0 hz1 .i64 .i64 n (by omega) (by rw[hz2];omega) (by unfold maxLen;omega) hk0.size;have hk1:Kept w w1:=aL w hk0 hgr (aac _) (by intro k hk;cases hk);have hgrow1:Kept w0 w1:=aL w0 (Kept.refl _) hgr (aac _) (by intro k hk;cases hk);obtain⟨cur,hg,hcs⟩:∃ cur:Array Value,w1.heap[w0.heap.size]? = some (.cells cur 3 (0,0))/\cur.size=n*1:=by
    rcases hown.2 with⟨hx,_⟩|⟨g,cap,cur,hv,hB,hg,hc2,hc3,hc4,_⟩
    · cases hx
    · injection hv with e1 e2 e3
      injection e1 with e1
      injection e1 with e1
      subst e1;subst e3;exact⟨cur,hg,hc4⟩
  have hcp:∃ w2,(∀ ty,(Builtin.copy_ #[94,94] ty #[.slice (some ⟨w0.heap.size,0,none⟩) n n,.slice p n c]).run Tryz.prog w1=.ok (.int .i64 n) w2)/\Own w2 w.heap.size 3 1 (some ⟨w0.heap.size,0,none⟩) n n cs/\Kept w w2:=by
    rcases ho with⟨rfl,rfl⟩|⟨b,off,rfl,hc⟩
    · have e0:cs=[]:=aaL.1 (by simpa using hl)
      subst e0;refine⟨w1,fun ty=>?_,⟨by simp,.inr ⟨_,_,cur,rfl,hk0.size,hg,aac _,by unfold maxLen;omega,hcs,by simp⟩⟩,hk1⟩;rw[lW w1 94 94 ty 3 none 1 _ 0 0 0 c Tryz.underlying94 hsz rfl rfl (by simp) rfl];rfl
    · have hc1:∀ j u,cs[j]? = some u->w1.cell? ((⟨b,off,none⟩:Addr).add j)=some u:=fun j u hj=>by
        rw[Addr.add_lit];exact hk1.cell (hc j u hj)
      have e:=fun ty=>bz (P:=Tryz.prog) w1 94 94 ty 3 1 w0.heap.size 0 n n ⟨b,off,none⟩ n c cur 3 cs Tryz.underlying94 hsz hg (by simpa using hl) hc1 (by omega) h1
      refine⟨_,fun ty=>(e ty).trans (by simp[goInt];rfl),?_,?_⟩
      · have e2:cs++cur.toList.drop cs.length=cs:=by
          rw[aaO (by simp;omega),aaM]
        rw[e2]
        exact Dn hg hk0.size hl (by unfold maxLen;omega)
      · exact hk1.setRow hk0.size _
  obtain⟨w2,hcp,ho2,hk2⟩:=hcp;have HO:Hid (Own w2 w.heap.size 3 1 (some ⟨w0.heap.size,0,none⟩) n n cs):=ho2;clear ho2 hgrow1 hg hcs hown hgr ho hk1 hi hz0 hz1 hz2 hsz hl h1;rw[hw0]at hm hcp HO;clear hw0 hk0;skip;go_enter Tryz.func179,Tryz.ntmps179;go_wp2_with (at_builtin;refine wpList_copy_runI _ rfl _ _ 94 94 rfl _ _ rfl rfl (hcp _) ?_);go_loopg [8] 0 (fun _ v wx=>v=.int .i64 n/\wx=w2);case atStart=>exact⟨rfl,rfl⟩
  case round=>
    obtain⟨rfl,rfl⟩:=hrel;go_wp2;go_ret;exact⟨_,rfl,HO.out,hk2⟩
theorem bI(g:Nat)(e:TypeId):∀ (vs:List Value) (o:Nat) (cur:Array Value) (w:World),w.heap[g]? = some (.cells cur e (0,0))->o+vs.length<=cur.size ->
  w.setCells g o vs=w.setRow g (cur.toList.take o++vs++cur.toList.drop (o+vs.length)).toArray
 | [],o,cur,w,hg,_=>by
  rw[World.setCells];simp only[aaM,aaQ,Nat.add_zero,aax,Array.toArray_toList];exact (setRow_self w g cur e (0,0) hg).symm
 | v :: r,o,cur,w,hg,hl=>by
  have hi:o<cur.size:=by simp at hl;omega
  rw[World.setCells,setCell_eq_setRow w g o cur e (0,0) v hg,bI g e r (o+1) (cur.setIfInBounds o v) _ (setRow_heap w g _ _ _ _ hg) (by simp at hl ⊢;omega),setRow_setRow];congr 2;have hx:=list_seg_step cur.toList o v r (by simp at hl ⊢;omega);simpa[Array.toList_setIfInBounds,Nat.add_assoc,Nat.add_comm 1] using hx
theorem moved(cur cs us:List Value)(i n k:Nat)(hk:us.length=k)(hi:i<=n)(hcs:cur.take n=cs)(hl:n+k<=cur.length) :
  ((cur.take (i+k)++cs.drop i++cur.drop (i+k+(cs.drop i).length)).take i++us++(cur.take (i+k)++cs.drop i++cur.drop (i+k+(cs.drop i).length)).drop (i+us.length)).take (n+k)=cs.take i++us++cs.drop i:=by
 subst hcs;have e1:(cur.take (i+k)++(cur.take n).drop i++cur.drop (i+k+((cur.take n).drop i).length)).take i=cur.take i:=by
  rw[aap,List.take_append_of_le_length (by simp;omega),List.take_take,Nat.min_eq_left (by omega)]
 have e2:(cur.take (i+k)++(cur.take n).drop i++cur.drop (i+k+((cur.take n).drop i).length)).drop (i+us.length)=(cur.take n).drop i++cur.drop (i+k+((cur.take n).drop i).length):=by
  rw[hk,aap,List.drop_left' (by simp;omega)]
 rw[e1,e2,List.take_take,Nat.min_eq_left hi,<- aap,aaB (by simp;omega)]
theorem iQ(cs:Array Value)(h:Kept w W):w.grownBy (W.setRow g cs) (some g):=
 ⟨h.out.os,h.out.tape,h.out.output,by rw[setRow_size];exact h.size,fun i hi hne=>by rw[setRow_other _ _ _ _ (fun e=>hne (by rw[e]))];exact h.out.block i hi⟩
def blk (p:Option Addr):Option Nat:=p.map (·.block)
theorem Nj(h:Own w B 9 1 p n c cs)(hB:B<=w.heap.size)(i:Nat)(hi:i<=n)(hn:n<=100000)(h1:∀ u∈cs,u.oneCell'=true)(vb:Nat)(u:Value)(hv:w.heap[vb]? = some (.cells #[u] 9 (0,0)))(hne:∀ g,p=some ⟨g,0,none⟩->g≠vb)(hu:u.oneCell'=true):
 Calls Tryz.prog 129 #[.slice p n c,.int .i64 i,.slice (some ⟨vb,0,none⟩) 1 1] w fun e w'=>∃ p' c',e=.returned (.slice p' (n+1) c')/\Own w' B 9 1 p' (n+1) c' (cs.take i++u :: cs.drop i)/\w.grownBy w' (blk p):=by
 have hvs:∀ (j:Nat) (v:Value),[u][j]? = some v->w.cell? ⟨vb,0+j,none⟩=some v:=by
  intro j v hj;match j,hj with
  | 0,hj=>rw[cell_of_row w vb 0 _ _ _ hv];simpa using hj
 have h1v:∀ v∈[u],v.oneCell'=true:=by intro v hv;simp at hv;subst hv;exact hu
 have hlen:=h.rw.len;rw[aay]at hlen;have hkn:∀ (o:Obj),Kept w (w.drew.alloc o):=fun o=>(Kept.refl w).drew.alloc o
 have Dp:∀ (q:Option Addr) (c:Nat),n<=c->c<n+1->(q=none->n=0)->(∀ a,q=some a->∀ j v,cs[j]? = some v->w.cell? (a.add j)=some v)->i=n ->
   Calls Tryz.prog 129 #[.slice q n c,.int .i64 i,.slice (some ⟨vb,0,none⟩) 1 1] w fun e w'=>∃ p' c',e=.returned (.slice p' (n+1) c')/\Own w' B 9 1 p' (n+1) c' (cs.take i++u :: cs.drop i)/\w.grownBy w' (blk p):=by
  intro q c hc1 hc2 hq1 hq2 hin;subst hin;refine (Any2.slices_Insert_string_end_grow Tryz.lays22 q i c vb 0 1 1 cs [u] w (by decide) hc1 hc2 (by omega) hlen rfl hq1 hq2 hvs h1v).mono ?_;rintro e w' ⟨rfl,rfl⟩;have hG:=grownCap_ge w (i+1) c 9;have hG2:=grownCap_le_maxLen w (i+1) c 9 (by unfold maxLen;omega);refine⟨_,_,rfl,⟨by simp[hlen],.inr ⟨_,_,_,rfl,hB,heap_alloc_new _ _,hG,hG2,?_,?_⟩⟩,(hkn _).grown _⟩
  ·simp[Builtin.zeroCells,Value.cells,hlen]
   show i+1+(grownCap w (i+1) c 9-(i+1))=grownCap w (i+1) c 9;omega
  ·rw[Array.toList_append,aaB (by simp[hlen]),aaz (by omega),aaO (by omega)]
 rcases h.cases with⟨rfl,rfl,rfl,rfl⟩|⟨g,cur,rfl,hBg,hg1,hg,hnc,hcm,hcs,ht⟩
 ·obtain rfl:i=0:=by omega
  exact Dp none 0 (aac _) (by omega) (fun _=>rfl) (fun a ha=>by cases ha) rfl
 ·rw[aay]at hcs ht
  have hcell:∀ (j:Nat) (v:Value),cs[j]? = some v->w.cell? ⟨g,0+j,none⟩=some v:=by
   intro j v hj;rw[aaj,cell_of_row w g j _ _ _ hg];rw[<- ht,aaT]at hj;split at hj
   ·simpa using hj
   ·cases hj
  have hgv:=hne g rfl;have hsp:∀ j,j<c->(w.cell? ⟨g,j,none⟩).isSome=true:=fun j hj=>by rw[cell_of_row w g j _ _ _ hg];simp;omega
  have hfz:∀ j,w.frozen? ⟨g,j,none⟩=false:=fun j=>frozen_of_row w g j _ _ hg
  by_cases hroom:n+1<=c
  ·by_cases hin:i<n
   ·refine (Any2.slices_Insert_string_shift Tryz.lays22 g 0 n c i vb 0 1 1 cs [u] w hin (by decide) hroom (by unfold maxLen at hcm;omega) (Ne.symm hgv) hlen rfl hcell (fun j hj=>by rw[aaj];exact hsp j (by omega)) (fun j _=>by rw[aaj];exact hfz j) hvs h1 h1v 9 9 1 c ?_ ?_ (by omega) (frozen_of_row w vb 0 _ _ hv) (frozen_of_row w vb 1 _ _ hv)).mono ?_
    ·simp[World.shape?,hv]
    ·simp[World.shape?,hg,hcs]
    rintro e w' ⟨rfl,rfl⟩;rw[aaj,aaj,bI g 9 (cs.drop i) (i+1) cur w.drew hg (by simp;omega),bI g 9 [u] i _ _ (setRow_heap w.drew g _ _ _ _ hg) (by simp;omega),setRow_setRow];refine⟨_,_,rfl,⟨by simp[hlen];omega,.inr ⟨g,c,_,rfl,hBg,setRow_heap w.drew g _ _ _ _ hg,hroom,hcm,?_,?_⟩⟩,iQ _ (Kept.refl w).drew⟩
    ·simp;omega
    ·have:=moved cur.toList cs [u] i n 1 rfl hi ht (by simp;omega)
     simpa using this
   ·obtain rfl:i=n:=by omega
    refine (Any2.slices_Insert_string_end_room Tryz.lays22 g 0 i c vb 0 1 1 [u] w (by decide) hroom (by unfold maxLen at hcm;omega) rfl (fun j hj=>by rw[aaj];exact hsp _ (by omega)) (fun j _=>by rw[aaj];exact hfz _) hvs h1v).mono ?_;rintro e w' ⟨rfl,rfl⟩;rw[aaj,bI g 9 [u] i cur w hg (by simp;omega)];refine⟨_,_,rfl,⟨by simp[hlen],.inr ⟨g,c,_,rfl,hBg,setRow_heap w g _ _ _ _ hg,hroom,hcm,?_,?_⟩⟩,iQ _ (Kept.refl w)⟩
    ·simp;omega
    ·have e1:cs.take i=cs:=aaz (by omega)
     have e2:cs.drop i=[]:=aaO (by omega);have e3:(cur.toList.take i++[u]++cur.toList.drop (i + [u].length)).take (i+1)=cs++[u]:=by rw[ht,aaB (by simp[hlen])]
     rw[e1,e2,aay];simpa using e3
  ·by_cases hin:i<n
   ·refine (Any2.slices_Insert_string_grow Tryz.lays22 g 0 n c i vb 0 1 1 cs [u] w hin (by decide) hnc (by omega) (by omega) hlen rfl hcell hvs h1 h1v).mono ?_
    rintro e w' ⟨rfl,rfl⟩;have hG:=grownCap_ge w (n+1) c 9;have hG2:=grownCap_le_maxLen w (n+1) c 9 (by unfold maxLen;omega);generalize Zx:grownCap w (n+1) c (Tryz.lays22_ren.t 9)=G;have Ve:grownCap w (n+1) c 9=G:=Zx;rw[Ve]at hG hG2;obtain⟨ROW,hROW⟩:∃ ROW:Array Value,ROW=(cs.take i).toArray++Builtin.zeroCells (Value.string ⟨#[]⟩).cells (n+1-i)++Builtin.zeroCells (Value.string ⟨#[]⟩).cells (G-(n+1)):=⟨_,rfl⟩;rw[<- hROW];have hRs:ROW.size=G:=by rw[hROW];simp[Builtin.zeroCells,Value.cells,hlen];omega
    have FB:ROW.toList.take i=cs.take i:=by
     rw[hROW,Array.toList_append,Array.toList_append,aap,aaB (by simp[hlen];omega)]
    have hb0:(w.alloc (.cells ROW 9)).drew.heap[w.heap.size]? = some (.cells ROW 9 (0,0)):=heap_alloc_new w _;show ∃ p' c',_/\Own ((((w.alloc (.cells ROW 9)).drew.setCells w.heap.size i [u]).drew).setCells w.heap.size (i+1) (cs.drop i)) B 9 1 p' (n+1) c' (cs.take i++u :: cs.drop i)/\w.grownBy ((((w.alloc (.cells ROW 9)).drew.setCells w.heap.size i [u]).drew).setCells w.heap.size (i+1) (cs.drop i)) (blk _);rw[bI w.heap.size 9 [u] i ROW _ hb0 (by simp;omega)];have hb1:(((w.alloc (.cells ROW 9)).drew.setRow w.heap.size (ROW.toList.take i++[u]++ROW.toList.drop (i + [u].length)).toArray).drew).heap[w.heap.size]? = some (.cells (ROW.toList.take i++[u]++ROW.toList.drop (i + [u].length)).toArray 9 (0,0)):=setRow_heap (w.alloc (.cells ROW 9)).drew w.heap.size _ (ROW.toList.take i++[u]++ROW.toList.drop (i + [u].length)).toArray _ _ hb0;rw[bI w.heap.size 9 (cs.drop i) (i+1) _ _ hb1 (by simp;omega)];refine⟨_,_,rfl,⟨by simp[hlen];omega,.inr ⟨w.heap.size,G,_,rfl,hB,setRow_heap _ _ _ _ _ _ hb1,hG,hG2,?_,?_⟩⟩,?_⟩
    ·simp;omega
    ·simp only[FB]
     have ec:(cs.take i).length=i:=by simp[hlen];omega
     have e5:(cs.take i++[u]++ROW.toList.drop (i + [u].length)).take (i+1)=cs.take i++[u]:=aaB (by simp[ec]);rw[e5,aay,aaB (by simp[hlen];omega)];simp
    ·have hk:=((((Kept.refl w).alloc (.cells ROW 9)).drew.setRow (aac _) (ROW.toList.take i++[u]++ROW.toList.drop (i + [u].length)).toArray).drew)
     exact (hk.setRow (aac _) _).grown _
   ·obtain rfl:i=n:=by omega
    exact Dp _ c hnc (by omega) (fun e=>by cases e) (fun a ha j v hj=>by injection ha with ha;subst ha;rw[Addr.add_lit];exact hcell j v hj) rfl
attribute [local irreducible] grownCap
theorem lY(z:Value)(k n:Nat)(h:z.cells.size=k):(Builtin.zeroCells z.cells n).size=n*k:=by
 simp[Builtin.zeroCells,h]
theorem Vf(w:World)(n c:Nat)(e:TypeId)(hn:n<=100001):n<=grownCap w n c e/\grownCap w n c e<=maxLen:=
 ⟨grownCap_ge w n c e,grownCap_le_maxLen w n c e (by unfold maxLen;omega)⟩
theorem Bw(p:Option Addr)(n:Nat)(cs:List Value)(hlen:cs.length=n*3)(hp:p=none->n=0)(hcs:∀ a,p=some a->a.spot=none/\∀ j v,cs[j]? = some v->w.cell? (a.add j)=some v)(hn:n<=100000)(vb:Nat)(us:List Value)(jN:us.length=3)(hv:w.heap[vb]? = some (.cells us.toArray 77 (0,0)))(h1v:∀ v∈us,v.oneCell'=true):
 Calls Tryz.prog 130 #[.slice p n n,.int .i64 n,.slice (some ⟨vb,0,none⟩) 1 1] w fun e w'=>∃ p' c',e=.returned (.slice p' (n+1) c')/\Own w' w.heap.size 77 3 p' (n+1) c' (cs++us)/\Kept w w':=by
 have mixed:Tryz.prog.follows .mixedOrders=true:=by kernel_rfl
 obtain⟨i0,hi0,hz0,hzs,hzb⟩:=info_parts sj;have hvs:∀ (j:Nat) (v:Value),us[j]? = some v->w.cell? ((⟨vb,0,none⟩:Addr).add j)=some v:=by
  intro j v hj;rw[Addr.add_lit,aaj,cell_of_row w vb j _ _ _ hv];simpa using hj
 have hsrc:Src Tryz.prog i0.size 119 (.slice (some ⟨vb,0,none⟩) 1 1) 1 us w:=by
  rw[hzs];exact Src.ofSlice w Tryz.underlying119 ⟨vb,0,none⟩ 1 1 us (by omega) hvs h1v
 have hold:(Builtin.firstCells i0.size n (.slice p n n)).run Tryz.prog w.drew=.ok cs.toArray w.drew:=by
  rw[hzs];cases p with
  | none=>
   have h0:=hp rfl;subst h0;have e0:cs=[]:=aaL.1 (by simpa using hlen);rw[e0];exact run_firstCells_none w.drew 3 0 0 0
  | some a=>exact run_firstCells_some w.drew 3 n a n n cs (by omega) (fun j v hj=>(hcs a rfl).2 j v hj)
 have hrun:∀ ty,(Builtin.append_ #[119,119] ty #[.slice p n n,.slice (some ⟨vb,0,none⟩) 1 1]).run Tryz.prog w=_:=fun ty=>
  run_append_grow_src w 119 119 ty 77 i0 _ Tryz.underlying119 hi0 hz0 p n n cs hold _ 1 us hsrc (by omega) (by omega) (by rw[hzb];exact growslice_fits (by omega) (by omega))
 obtain⟨hG,hG2⟩:=Vf w (n+1) n 77 (by omega);generalize grownCap w (n+1) n 77=G at hrun hG hG2;have hfin:Own (w.drew.alloc (.cells ((cs++us).toArray++Builtin.zeroCells (Value.agg #[.string ⟨#[]⟩,.int .i64 0,.int .i64 0]).cells (G-(n+1))) 77)) w.heap.size 77 3 (some ⟨w.heap.size,0,none⟩) (n+1) G (cs++us):=by
  refine⟨by simp[hlen,jN];omega,.inr ⟨_,_,_,rfl,aac _,heap_alloc_new _ _,hG,hG2,?_,?_⟩⟩
  ·rw[Array.size_append,lY _ 3 _ rfl];simp[hlen,jN];omega
  ·rw[Array.toList_append]
   show List.take ((n+1)*3) (cs++us++_)=_;rw[aaB (by simp[hlen,jN];omega)]
 have HF:Hid _:=hfin;have HK:Hid (Kept w (w.drew.alloc (.cells ((cs++us).toArray++Builtin.zeroCells (Value.agg #[.string ⟨#[]⟩,.int .i64 0,.int .i64 0]).cells (G-(n+1))) 77))):=(Kept.refl w).drew.alloc _;obtain⟨W1,hW1⟩:∃ W1,W1=w.drew.alloc (.cells ((cs++us).toArray++Builtin.zeroCells (Value.agg #[.string ⟨#[]⟩,.int .i64 0,.int .i64 0]).cells (G-(n+1))) 77):=⟨_,rfl⟩;rw[<- hW1]at HF HK;have TS:∀ ty,(Builtin.append_ #[119,119] ty #[.slice p n n,.slice (some ⟨vb,0,none⟩) 1 1]).run Tryz.prog w=.ok (.slice (some ⟨w.heap.size,0,none⟩) (n+1) G) W1:=fun ty=>by rw[hrun ty,hW1]
 clear hfin hrun hold hsrc hvs hW1 hi0 hz0 hzs hzb;go_enter Tryz.func130,Tryz.ntmps130;cases p with
 | none=>
  have h0:=hp rfl;subst h0;go_wp2_with (at_builtin;refine Lib.wpList_append_run _ rfl _ _ _ _ rfl _ _ rfl rfl _ _ (TS _) ?_);go_ret;exact⟨_,_,rfl,HF.out,HK.out⟩
 | some a=>
  obtain⟨ab,ao,asp⟩:=a;obtain rfl:=(hcs _ rfl).1;go_wp2_with (at_builtin;refine Lib.wpList_append_run _ rfl _ _ _ _ rfl _ _ rfl rfl _ _ (TS _) ?_);all_goals (go_ret;exact⟨_,_,rfl,HF.out,HK.out⟩)
theorem Bz(b:Nat)(n i:Nat)(cs:List Value)(hlen:cs.length=n*3)(hcs:∀ j v,cs[j]? = some v->w.cell? ⟨b,j,none⟩=some v)(h1:∀ v∈cs,v.oneCell'=true)(hn:n<=100000)(hi:i<n)(vb:Nat)(us:List Value)(jN:us.length=3)(hv:w.heap[vb]? = some (.cells us.toArray 77 (0,0)))(h1v:∀ v∈us,v.oneCell'=true):
 Calls Tryz.prog 130 #[.slice (some ⟨b,0,none⟩) n n,.int .i64 i,.slice (some ⟨vb,0,none⟩) 1 1] w fun e w'=>∃ p' c',e=.returned (.slice p' (n+1) c')/\Own w' w.heap.size 77 3 p' (n+1) c' (cs.take (i*3)++us++cs.drop (i*3))/\Kept w w':=by
  have mixed:Tryz.prog.follows .mixedOrders=true:=by kernel_rfl
  obtain⟨i0,hi0,hz0,hzs,hzb⟩:=info_parts sj;have hsz:(Tryz.prog.info? 77).map (·.size)=some 3:=by rw[hi0];simp[hzs]
  have hbw:b<w.heap.size:=World.block_lt_of_cell? w _ (hcs 0 _ (aae (by omega)));have hold:(Builtin.firstCells i0.size i (.slice (some ⟨b,0,none⟩) i n)).run Tryz.prog w.drew=.ok (cs.take (i*3)).toArray w.drew:=by
    rw[hzs];exact run_firstCells_some w.drew 3 i ⟨b,0,none⟩ i n (cs.take (i*3)) (by rw[aam];omega) (fun j v hj=>by
      rw[Addr.add_lit,aaj]
      rw[aaT]at hj
      split at hj
      · exact hcs j v hj
      · cases hj)
  have hrz:∀ ty,(Builtin.append_ #[119,3] ty #[.slice (some ⟨b,0,none⟩) i n,.int .i64 ((n+1-i:Nat):Int)]).run Tryz.prog w=_:=fun ty=>
    Lib.run_append_grow_zeros w 119 3 ty 77 i0 _ .i64 .i64 Tryz.underlying119 Tryz.underlying3 hi0 hz0 (some ⟨b,0,none⟩) i n (cs.take (i*3)) hold (n+1-i) (by omega) (by omega) (by omega) (by omega) (by rw[hzb];omega) (by rw[hzb,show i+(n+1-i)=n+1 by omega];exact growslice_fits (by omega) (by omega))
  rw[show i+(n+1-i)=n+1 by omega]at hrz;obtain⟨hG,hG2⟩:=Vf w (n+1) n 77 (by omega);generalize grownCap w (n+1) n 77=G at hrz hG hG2;obtain⟨ROW,hROW⟩:∃ ROW:Array Value,ROW=(cs.take (i*3)).toArray++Builtin.zeroCells (Value.agg #[.string ⟨#[]⟩,.int .i64 0,.int .i64 0]).cells (n+1-i)++Builtin.zeroCells (Value.agg #[.string ⟨#[]⟩,.int .i64 0,.int .i64 0]).cells (G-(n+1)):=⟨_,rfl⟩;rw[<- hROW]at hrz;have hRs:ROW.size=G*3:=by rw[hROW,Array.size_append,Array.size_append,lY _ 3 _ rfl,lY _ 3 _ rfl];simp[hlen];omega
  have FB:ROW.toList.take (i*3)=cs.take (i*3):=by
    rw[hROW,Array.toList_append,Array.toList_append,aap,aaB (by simp[hlen];omega)]
  obtain⟨R2,hR2⟩:∃ R2:Array Value,R2=(ROW.toList.take (i*3)++us++ROW.toList.drop (i*3+us.length)).toArray:=⟨_,rfl⟩;have yj:R2.size=G*3:=by rw[hR2];simp;omega
  obtain⟨R3,Rt⟩:∃ R3:Array Value,R3=(R2.toList.take ((i+1)*3)++cs.drop (i*3)++R2.toList.drop ((i+1)*3+(cs.drop (i*3)).length)).toArray:=⟨_,rfl⟩;have Ru:R3.size=G*3:=by rw[Rt];simp[hlen];omega
  have Nk:R3.toList.take ((n+1)*3)=cs.take (i*3)++us++cs.drop (i*3):=by
    have ec:(cs.take (i*3)).length=i*3:=by simp[hlen];omega
    have e5:(cs.take (i*3)++us++ROW.toList.drop (i*3+us.length)).take ((i+1)*3)=cs.take (i*3)++us:=aaB (by simp only[aah,ec,jN];omega);rw[Rt,hR2,FB];show List.take _ (List.take _ (_++_++_)++_++_)=_;rw[e5,aaB (by simp[hlen,jN];omega)]
  have hcpA:∀ (W:World),W.heap=(w.alloc (.cells ROW 77)).heap->∀ ty dc,(Builtin.copy_ #[119,119] ty #[.slice (some ⟨w.heap.size,i*3,none⟩) (n+1-i) dc,.slice (some ⟨vb,0,none⟩) 1 1]).run Tryz.prog W=.ok (.int .i64 1) (W.setRow w.heap.size R2):=fun W hW ty dc=>by
    have hq:W.heap[w.heap.size]? = some (.cells ROW 77 (0,0)):=by rw[hW];exact heap_alloc_new w _
    have hq2:W.heap[vb]? = some (.cells us.toArray 77 (0,0)):=by rw[hW];exact ((Kept.refl w).alloc _).block hv
    have hmin:Nat.min 1 (n+1-i)=1:=by show min 1 (n+1-i)=1;omega
    rw[bz W 119 119 ty 77 3 w.heap.size (i*3) (n+1-i) dc ⟨vb,0,none⟩ 1 1 ROW 77 us Tryz.underlying119 hsz hq (by rw[hmin,jN]) (fun j v hj=>by rw[Addr.add_lit,aaj,cell_of_row W vb j _ _ _ hq2];simpa using hj) (by omega) h1v,hmin,<- hR2];rfl
  have hcpB:∀ (W:World),W.heap=((w.alloc (.cells ROW 77)).setRow w.heap.size R2).heap->∀ ty dc sc,(Builtin.copy_ #[119,119] ty #[.slice (some ⟨w.heap.size,(i+1)*3,none⟩) (n+1-(i+1)) dc,.slice (some ⟨b,i*3,none⟩) (n-i) sc]).run Tryz.prog W=.ok (.int .i64 ((n-i:Nat):Int)) (W.setRow w.heap.size R3):=fun W hW ty dc sc=>by
    have hq:W.heap[w.heap.size]? = some (.cells R2 77 (0,0)):=by rw[hW];exact setRow_heap _ _ _ _ _ _ (heap_alloc_new w _)
    have hq2:∀ j v,cs[j]? = some v->W.cell? ⟨b,j,none⟩=some v:=fun j v hj=>by
      have hk:Kept w ((w.alloc (.cells ROW 77)).setRow w.heap.size R2):=((Kept.refl w).alloc _).setRow (aac _) _;have:=hk.cell (hcs j v hj);rw[<- this];unfold World.cell?;rw[hW]
    have hmin:Nat.min (n-i) (n+1-(i+1))=n-i:=by show min (n-i) (n+1-(i+1))=n-i;omega
    rw[bz W 119 119 ty 77 3 w.heap.size ((i+1)*3) (n+1-(i+1)) dc ⟨b,i*3,none⟩ (n-i) sc R2 77 (cs.drop (i*3)) Tryz.underlying119 hsz hq (by rw[hmin];simp[hlen];omega) (fun j v hj=>by rw[Addr.add_lit];exact hq2 _ _ (by rwa [aaZ]at hj)) (by simp[hlen];omega) (fun v hv=>h1 v (aaA hv)),hmin,<- Rt];rfl
  have HF:Hid (∀ W:World,W.heap[w.heap.size]? = some (.cells R3 77 (0,0))->Own W w.heap.size 77 3 (some ⟨w.heap.size,0,none⟩) (n+1) G (cs.take (i*3)++us++cs.drop (i*3))):=fun W hW=>
    ⟨by simp[hlen,jN];omega,.inr ⟨_,_,_,rfl,aac _,hW,hG,hG2,Ru,Nk⟩⟩
  have hz2:¬ ((i:Int)=(n:Int)):=by omega
  have hz3:(n:Int)<(n:Int)+1:=by omega
  have hkk:(n:Int)+1-(i:Int)=((n+1-i:Nat):Int):=by omega
  have hG63:G<=9223372036854775807:=by unfold maxLen at hG2;omega
  have hGi:¬ (G=i):=by omega
  have hGim:¬ (G=i+1):=by omega
  have hci:¬ (n=i):=by omega
  have hw1:IntKind.i64.wrap ((i:Int)+1)=(i:Int)+1:=by rw[IntKind.wrap_i64];omega
  have hb1:(0:Int)<=(i:Int)+1:=by omega
  have hin:i<=n:=by omega
  have htn:((i:Int)+1).toNat=i+1:=by omega
  have hb3:(i:Int)<=(n:Int):=by omega
  rw[<- hkk]at hrz;have TT:Hid (n+1<=G):=hG;have hA:=hcpA (w.alloc (.cells ROW 77)).drew rfl;have hB:=hcpB (((w.alloc (.cells ROW 77)).drew.setRow w.heap.size R2).drew) rfl;clear hcpA hcpB;clear hkk hold hROW hRs FB hR2 yj Rt Ru Nk hsz hi0 hz0 hzs hzb hcs h1 hv h1v hlen jN;go_enter Tryz.func130,Tryz.ntmps130;go_wp2_with (first
    | (at_builtin;refine Lib.wpList_append_run _ rfl _ _ _ _ rfl _ _ rfl rfl _ _ (hrz _) ?_)
    | (at_builtin;refine wpList_copy_runI _ rfl _ _ 119 119 rfl _ _ rfl rfl (hA _ _) ?_)
    | (at_builtin;refine wpList_copy_runI _ rfl _ _ 119 119 rfl _ _ rfl rfl (hB _ _ _) ?_))
  go_region_law_o (refine step_copy_runI rfl _ _ 119 119 rfl (.slice (some ⟨w.heap.size,(i+1)*3,none⟩) (n+1-(i+1)) (G-(i+1))) (.slice (some ⟨b,i*3,none⟩) (n-i) (n-i)) (by simp[Act.eval,Act.put]) (by simp[Act.eval,Act.put]) (hB 3 (G-(i+1)) (n-i)) ?_);go_wp2;go_ret;refine⟨_,_,rfl,HF.out _ ?_,?_⟩
  · exact setRow_heap (((w.alloc (.cells ROW 77)).drew.setRow w.heap.size R2).drew) w.heap.size R2 R3 77 (0,0) (setRow_heap (w.alloc (.cells ROW 77)).drew w.heap.size ROW R2 77 (0,0) (heap_alloc_new w _))
  · exact (((((Kept.refl w).alloc (.cells ROW 77)).drew.setRow (aac _) R2).drew).setRow (aac _) R3)
theorem Nl(h:Own w B 77 3 p n n cs)(i:Nat)(hi:i<=n)(hn:n<=100000)(h1:∀ u∈cs,u.oneCell'=true)(vb:Nat)(us:List Value)(jN:us.length=3)(hv:w.heap[vb]? = some (.cells us.toArray 77 (0,0)))(h1v:∀ v∈us,v.oneCell'=true):
 Calls Tryz.prog 130 #[.slice p n n,.int .i64 i,.slice (some ⟨vb,0,none⟩) 1 1] w fun e w'=>∃ p' c',e=.returned (.slice p' (n+1) c')/\Own w' w.heap.size 77 3 p' (n+1) c' (cs.take (i*3)++us++cs.drop (i*3))/\Kept w w':=by
 have hlen:=h.rw.len;have hcs:∀ a,p=some a->a.spot=none/\a.off=0/\∀ j v,cs[j]? = some v->w.cell? (a.add j)=some v:=by
  intro a ha;rcases h.cases with⟨hx,_⟩|⟨g,cur,hx,_,_,hg,_,_,_,ht⟩
  ·rw[ha]at hx;cases hx
  ·rw[ha]at hx
   injection hx with hx
   subst hx;refine⟨rfl,rfl,fun j v hj=>?_⟩;rw[Addr.add_lit,aaj,cell_of_row w g j _ _ _ hg];rw[<- ht,aaT]at hj;split at hj
   ·simpa using hj
   ·cases hj
 by_cases hin:i<n
 ·cases p with
  | none=>
   rcases h.cases with⟨_,h0,_⟩|⟨g,cur,hx,_⟩
   ·omega
   ·cases hx
  | some a=>
   obtain⟨ab,ao,asp⟩:=a;obtain⟨e1,e2,h3⟩:=hcs _ rfl;cases e1;cases e2;exact Bz ab n i cs hlen (fun j v hj=>by have:=h3 j v hj;rwa [Addr.add_lit,aaj]at this) h1 hn hin vb us jN hv h1v
 ·obtain rfl:i=n:=by omega
  have e1:cs.take (i*3)=cs:=aaz (by omega);have e2:cs.drop (i*3)=[]:=aaO (by omega);rw[e1,e2,aaM];exact Bw p i cs hlen (fun hp=>h.cases.elim (fun q=>q.2.1) (fun ⟨g,cur,hx,_⟩=>by rw[hp]at hx;cases hx)) (fun a ha=>⟨(hcs a ha).1,(hcs a ha).2.2⟩) hn vb us jN hv h1v
