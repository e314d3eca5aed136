/- Joined: VA. What is proved of the functions beneath BtreeEnds,BtreeFull,BtreeShape,BtreePlays. Conditions: those that each row names. -/
import Derived.Test.YtncfpjccfmolgaaGreatDoorZbe
namespace Go.Proofs.YtncfpjccfmolgaaGreatDoor.T
open Go.ChangeShapes Go.WideShapes Go.ChangeAt Go.RowKit
open B (En upd got Ord filter_all filter_none sl_asymm)
open N (Kept Own Rw blk ob sl sl_total sl_trans sl_irrefl seq_iff)
def prs (l:List En):List Value:=l.flatMap fun e=>[.string e.1,.string e.2.d]
theorem prs_append (a b:List En):prs (a++b)=prs a++prs b:=by simp[prs]
theorem prs_length:∀ l:List En,(prs l).length=l.length*2
 | []=>rfl
 | e :: r=>by
  have e1:prs (e :: r)=.string e.1 :: .string e.2.d :: prs r:=rfl
  rw[e1,List.length_cons,List.length_cons,prs_length r,List.length_cons];omega
theorem prs_at:∀ {l:List En} {i:Nat} {e:En},l[i]? = some e→(prs l)[i*2]? = some (.string e.1)∧(prs l)[i*2+1]? = some (.string e.2.d)
 | [],i,e,h=>by simp at h
 | a :: r,0,e,h=>by simp at h;subst h;exact⟨rfl,rfl⟩
 | a :: r,i+1,e,h=>by
  have ih:=prs_at (l:=r) (i:=i) (e:=e) (by simpa using h)
  have e1:prs (a :: r)=.string a.1 :: .string a.2.d :: prs r:=rfl
  rw[e1,show (i+1)*2=i*2+1+1 by omega,List.getElem?_cons_succ,List.getElem?_cons_succ,List.getElem?_cons_succ,List.getElem?_cons_succ]
  exact ih
theorem upd_del {k:ByteArray}:∀ {l:List En},Ord l→upd k [] l=l.filter (fun e=>!decide (e.1=k))
 | [],_=>by simp[upd]
 | a :: r,ho=>by
  obtain⟨h1,h2⟩:=List.pairwise_cons.1 ho
  by_cases hk:a.1=k
  ·have hr:∀ e∈r,sl k e.1=true:=fun e he=>hk▸h1 e he
   have e1:sl a.1 k=false:=by rw[hk];exact sl_irrefl k
   have e2:sl k a.1=false:=by rw[hk];exact sl_irrefl k
   unfold upd
   rw[List.filter_cons_of_neg (by simp[e1]),List.filter_cons_of_neg (by simp[e2]),List.filter_cons_of_neg (by simp[hk]),filter_none (fun e he=>sl_asymm (hr e he)),filter_all (fun e he=>hr e he),filter_all (fun e he=>?_)]
   ·rfl
   ·have:=hr e he
    simp only[Bool.not_eq_true',decide_eq_false_iff_not]
    intro e3
    rw[e3,sl_irrefl]at this;cases this
  ·have ih:=upd_del (k:=k) h2
   rw[List.filter_cons_of_pos (by simp[hk]),← ih]
   unfold upd
   rw[List.nil_append,List.nil_append]
   cases ha:sl a.1 k with
   | true=>
    have hb:=sl_asymm ha
    rw[List.filter_cons_of_pos (by simpa using ha),List.filter_cons_of_neg (by simpa using hb),List.cons_append]
   | false=>
    have hka:sl k a.1=true:=sl_total ha hk
    have hr:∀ e∈r,sl k e.1=true:=fun e he=>sl_trans hka (h1 e he)
    rw[List.filter_cons_of_neg (by simp[ha]),List.filter_cons_of_pos (by simp[hka]),filter_none (fun e he=>sl_asymm (hr e he)),filter_all (fun e he=>hr e he)]
    rfl
structure Pt (k v:ByteArray) (l:List En) (i:Nat) (dn:Bool) (out:List En):Prop where
 out:(dn=false∧out=l.take i∧∀ e∈l.take i,sl e.1 k=true)∨(dn=true∧out=upd k [(k,⟨v,-1,0⟩)] (l.take i)∧∃ e∈l.take i,sl e.1 k=false)
theorem upd_low {k:ByteArray} {mid l:List En} (h:∀ e∈l,sl e.1 k=true):upd k mid l=l++mid:=by
 unfold upd
 rw[filter_all h,filter_none (fun e he=>sl_asymm (h e he)),List.append_nil]
theorem upd_snoc {k:ByteArray} {mid l:List En} {x:En} (h:sl k x.1=true):upd k mid (l++[x])=upd k mid l++[x]:=by
 unfold upd
 rw[List.filter_append,List.filter_append,List.filter_cons_of_neg (by rw[sl_asymm h];decide),List.filter_cons_of_pos (by rw[h])]
 simp
theorem upd_eq {k:ByteArray} {mid l:List En} {x:En} (h:x.1=k):upd k mid (l++[x])=upd k mid l:=by
 unfold upd
 have e1:sl x.1 k=false:=by rw[h];exact sl_irrefl k
 have e2:sl k x.1=false:=by rw[h];exact sl_irrefl k
 rw[List.filter_append,List.filter_append,List.filter_cons_of_neg (by rw[e1];decide),List.filter_cons_of_neg (by rw[e2];decide)]
 simp
theorem take_more {l:List En} {i:Nat} {x:En} (h:l[i]? = some x):l.take (i+1)=l.take i++[x]:=by rw[List.take_add_one,h];rfl
theorem Pt.start (k v:ByteArray) (l:List En):Pt k v l 0 false []:=⟨.inl ⟨rfl,rfl,fun e h=>by simp at h⟩⟩
theorem Pt.below {k v:ByteArray} {l:List En} {i:Nat} {out:List En} {x:En} (h:Pt k v l i false out) (hx:l[i]? = some x) (hs:sl x.1 k=true):Pt k v l (i+1) false (out++[x]):=by
 rcases h.out with⟨_,rfl,h2⟩|⟨h0,_⟩
 ·refine⟨.inl ⟨rfl,(take_more hx).symm,fun e he=>?_⟩⟩
  rw[take_more hx]at he
  rcases List.mem_append.1 he with h | h
  ·exact h2 e h
  ·simp at h;subst h;exact hs
 ·cases h0
theorem Pt.same {k v:ByteArray} {l:List En} {i:Nat} {out:List En} {x:En} (h:Pt k v l i false out) (hx:l[i]? = some x) (hs:x.1=k):Pt k v l (i+1) true (out++[(k,⟨v,-1,0⟩)]):=by
 rcases h.out with⟨_,rfl,h2⟩|⟨h0,_⟩
 ·refine⟨.inr ⟨rfl,?_,x,?_,by rw[hs];exact sl_irrefl k⟩⟩
  ·rw[take_more hx,upd_eq hs,upd_low h2]
  ·rw[take_more hx];simp
 ·cases h0
theorem Pt.above {k v:ByteArray} {l:List En} {i:Nat} {out:List En} {x:En} (h:Pt k v l i false out) (hx:l[i]? = some x) (hs:sl x.1 k=false) (hne:x.1≠k):Pt k v l (i+1) true (out++[(k,⟨v,-1,0⟩)]++[x]):=by
 rcases h.out with⟨_,rfl,h2⟩|⟨h0,_⟩
 ·refine⟨.inr ⟨rfl,?_,x,?_,hs⟩⟩
  ·rw[take_more hx,upd_snoc (sl_total hs hne),upd_low h2]
  ·rw[take_more hx];simp
 ·cases h0
theorem Pt.later {k v:ByteArray} {l:List En} {i:Nat} {out:List En} {x:En} (ho:Ord l) (h:Pt k v l i true out) (hx:l[i]? = some x):Pt k v l (i+1) true (out++[x]):=by
 rcases h.out with⟨h0,_⟩|⟨_,rfl,e,he,h2⟩
 ·cases h0
 ·have hlx:sl e.1 x.1=true:=by
   obtain⟨j,hj⟩:=List.getElem?_of_mem he
   rw[List.getElem?_take]at hj
   split at hj
   ·rename_i hji
    obtain⟨hil,hie⟩:=List.getElem?_eq_some_iff.1 hx
    obtain⟨hjl,hje⟩:=List.getElem?_eq_some_iff.1 hj
    have:=List.pairwise_iff_getElem.1 ho j i hjl hil hji
    rwa [hie,hje]at this
   ·cases hj
  have hkx:sl k x.1=true:=by
   by_cases hk:e.1=k
   ·rw[← hk];exact hlx
   ·exact sl_trans (sl_total h2 hk) hlx
  refine⟨.inr ⟨rfl,?_,e,?_,h2⟩⟩
  ·rw[take_more hx,upd_snoc hkx]
  ·rw[take_more hx];exact List.mem_append_left _ he
theorem Pt.done {k v:ByteArray} {l out:List En} {i:Nat} (h:Pt k v l i true out) (hi:l.length≤i):out=upd k [(k,⟨v,-1,0⟩)] l:=by
 rcases h.out with⟨h0,_⟩|⟨_,rfl,_⟩
 ·cases h0
 ·rw[List.take_of_length_le hi]
theorem Pt.undone {k v:ByteArray} {l out:List En} {i:Nat} (h:Pt k v l i false out) (hi:l.length≤i):out++[(k,⟨v,-1,0⟩)]=upd k [(k,⟨v,-1,0⟩)] l:=by
 rcases h.out with⟨_,rfl,h2⟩|⟨h0,_⟩
 ·rw[List.take_of_length_le hi]at h2 ⊢
  rw[upd_low h2]
 ·cases h0
theorem got_at {k:ByteArray} {l:List En} {i:Nat} {x:En} (h:l[i]? = some x) (hx:x.1=k) (hl:∀ e∈l.take i,e.1≠k):got k l=some x.2:=by
 have e:l=l.take i++x :: l.drop (i+1):=by
  obtain⟨hil,hie⟩:=List.getElem?_eq_some_iff.1 h
  rw[← hie,← List.drop_eq_getElem_cons hil,List.take_append_drop]
 rw[e]
 unfold got
 rw[List.find?_append,List.find?_eq_none.2 (fun e he=>by simp[hl e he]),List.find?_cons_of_pos (by simp[hx])]
 rfl
theorem got_no {k:ByteArray} {l:List En} (h:∀ e∈l,e.1≠k):got k l=none:=by
 unfold got
 rw[List.find?_eq_none.2 (fun e he=>by simp[h e he])]
 rfl
theorem two_cellsA (w:World) (a b:Value) (t:TypeId):∀ (j:Nat) (v:Value),[a,b][j]? = some v→(w.alloc (.cells #[a,b] t)).cell? ((⟨w.heap.size,0,none⟩:Addr).add j)=some v:=by
 intro j u hj
 rw[Addr.add_lit,Nat.zero_add,cell_of_row _ _ _ _ _ _ (heap_alloc_new w (.cells #[a,b] t))]
 match j,hj with
 | 0,hj=>simpa using hj
 | 1,hj=>simpa using hj
 | j+2,hj=>simp at hj
theorem grown_own {w W W':World} {e:TypeId} {sz:Nat} {q:Option Addr} {m qc:Nat} {cs:List Value} (K:Kept w W) (O:Own W w.heap.size e sz q m qc cs) (hg:W.grownBy W' (Value.slice q m qc).ownBlock):Kept w W':=by
 rw[ob]at hg
 refine N.grown_kept w K hg (Nat.le_refl _) fun k hk=>?_
 rcases O.cases with⟨rfl,_⟩|⟨g,cur,rfl,h1,_⟩
 ·cases hk
 ·simp[blk]at hk;omega
structure Pl (w:World) (p:Option Addr) (n:Nat) (l:List En):Prop where
 len:l.length=n
 out:∃ b off,(0<n→p=some ⟨b,off,none⟩)∧∀ i e,l[i]? = some e→w.cell? ⟨b,off+i*2,none⟩=some (.string e.1)∧w.cell? ⟨b,off+i*2+1,none⟩=some (.string e.2.d)
theorem Pl.of {w:World} {p:Option Addr} {n c:Nat} {l:List En} (h:Rw w 2 p n c (prs l)):Pl w p n l:=by
 have hl:l.length=n:=by have:=h.len;rw[prs_length]at this;omega
 refine⟨hl,?_⟩
 rcases h.out with⟨rfl,rfl⟩|⟨b,off,rfl,hc⟩
 ·refine⟨0,0,fun h=>absurd h (by omega),fun i e he=>?_⟩
  rw[List.length_eq_zero_iff.1 hl]at he;simp at he
 ·refine⟨b,off,fun _=>rfl,fun i e he=>?_⟩
  obtain⟨a1,a2⟩:=prs_at he
  exact⟨hc _ _ a1,by rw[Nat.add_assoc];exact hc _ _ a2⟩
theorem info42:(Tryz.prog.info? 42).map (fun i=>(i.zero,i.size,i.bytes))=some (some (.agg #[.string ⟨#[]⟩,.string ⟨#[]⟩]),2,32):=by kernel_rfl
end Go.Proofs.YtncfpjccfmolgaaGreatDoor.T