/- Joined: UC. What is proved of the functions beneath BtreeEnds,BtreeFull,BtreeShape,BtreePlays. Conditions: those that each row names. -/
import Derived.Test.YtncfpjccfmolgaaGreatDoorZbl
namespace Go.Proofs.YtncfpjccfmolgaaGreatDoor.T
open Go.ChangeShapes Go.WideShapes Go.ChangeAt Go.RowKit
open B (Pm En upd sl_asymm pgs_of)
open N (sl_irrefl)
def lft (m:Nat) (M:Pm):Nat:=S.cnt m (fun k=>decide (k<2) || (M k).isSome)
theorem left_pv {B:Nat} {W:World} {p m:Nat} {M:Pm} (h:Pv B W p m M):Calls Tryz.prog 18 #[.pointer (some ⟨p,0,none⟩)] W fun e w'=>e=.returned (.int .i64 (lft m M:Nat))∧w'=W:=by
 obtain⟨d,g,q,hG,rfl,_,_,hu,_⟩:=h.out
 have e:lft q.m M=S.cnt q.m q.ut:=S.cnt_congr fun i hi=>(hu i hi).symm
 rw[e]
 exact G.left_walk hG
theorem lft_none {m:Nat} {M:Pm} (h:∀ q,M q=none):lft m M=lft m (fun _=>none):=S.cnt_congr fun i _=>by rw[h]
theorem lft_pages {M:Pm} (h:∀ k x,M k=some x→2≤k):∀ m,2≤m→lft m M+pgs_of M m+2=m:=by
 have h0:∀ k,k<2→M k=none:=fun k hk=>by
  cases e:M k with
  | none=>rfl
  | some x=>have:=h k x e;omega
 intro m hm
 induction m with
 | zero=>omega
 | succ m ih=>
  by_cases h2:2≤m
  ·have ih:=ih h2
   unfold lft pgs_of at *
   rw[S.cnt_succ]
   simp only[B.su,B.us]
   cases e:M m with
   | none=>simp[show ¬ m<2 by omega];omega
   | some x=>simp;omega
  ·obtain rfl:m=1:=by omega
   simp[lft,pgs_of,B.su,B.us,h0 0 (by decide),h0 1 (by decide),S.cnt,List.range,List.range.loop]
theorem upd_length (k:ByteArray) (mid:List En):∀ l:List En,(upd k mid l).length≤mid.length+l.length:=by
 intro l
 unfold upd
 rw[List.length_append,List.length_append]
 have:∀ l:List En,(l.filter (fun e=>N.sl e.1 k)).length+(l.filter (fun e=>N.sl k e.1)).length≤l.length:=by
  intro l
  induction l with
  | nil=>simp
  | cons a r ih=>
   rw[List.filter_cons,List.filter_cons]
   by_cases h1:N.sl a.1 k=true
   ·rw[if_pos h1,if_neg (by rw[sl_asymm h1];decide)];simp only[List.length_cons];omega
   ·rw[if_neg h1]
    split <;> simp only[List.length_cons] <;> omega
 have:=this l
 omega
theorem mem_upd {k:ByteArray} {mid l:List En} {e:En} (h:e∈upd k mid l):e∈mid∨(e∈l∧e.1≠k):=by
 unfold upd at h
 rcases List.mem_append.1 h with h | h
 ·obtain⟨a,b⟩:=List.mem_filter.1 h
  exact .inr ⟨a,fun e1=>by rw[e1,sl_irrefl]at b;cases b⟩
 ·rcases List.mem_append.1 h with h | h
  ·exact .inl h
  ·obtain⟨a,b⟩:=List.mem_filter.1 h
   exact .inr ⟨a,fun e1=>by rw[e1,sl_irrefl]at b;cases b⟩
end Go.Proofs.YtncfpjccfmolgaaGreatDoor.T