/- Joined. -/
import Derived.Test.YtafgecaeiodmiaaGreatDoorZby
import Derived.Laws.AppendOwn
namespace Go.Proofs.YtafgecaeiodmiaaGreatDoor.T
open Go.ChangeShapes Go.WideShapes Go.ChangeAt Go.RowKit
open B (Pm)
open N (Nd NV Rw Rx Own Kept icl Vl C4 C3 blk)
theorem infoI:(Tryz.prog.info? 3).map (fun i=>(i.zero,i.size,i.bytes))=some (some (.int .i64 0),1,8):=by kernel_rfl
theorem append_at{W:World}{B:Nat}{pp:Option Addr}{np pc:Nat}{xs:List Value}(o:Own W B 3 1 pp np pc xs)(hB:B≤W.heap.size)(hn:np≤100000)(g:Nat)(x:Int)(hc:W.cell? ⟨g,0,none⟩=some (.int .i64 x))(ty:TypeId) :
  ∃ q c w',(Builtin.append_ #[49,49] ty #[.slice pp np pc,.slice (some ⟨g,0,none⟩) 1 1]).run Tryz.prog W=.ok (.slice q (np+1) c) w'∧w'.ownsRow B 3 1 (.slice q (np+1) c) (np+1) (xs++[.int .i64 x])∧W.grownBy w' (Value.slice pp np pc).ownBlock∧(blk q=blk pp∨∀ b,blk q=some b→W.heap.size≤b):=by
 obtain⟨i3,hi,hz0,hz1,hz2⟩:=info_parts infoI;have hnews:∀ j u,[Value.int .i64 x][j]? = some u→W.cell? ((⟨g,0,none⟩:Addr).add j)=some u:=by
  intro j u hu;cases j with
  | zero=>simp at hu;subst hu;simpa[Addr.add] using hc
  | succ j=>simp at hu
 have h1:∀ u∈[Value.int .i64 x],u.oneCell'=true:=by intro u hu;simp at hu;subst hu;rfl
 obtain⟨v',w',hr,h2,h3,_⟩:=run_append_own (P:=Tryz.prog) W B 49 ty 3 i3 _ 1 8 Tryz.underlying49 hi hz0 hz1 hz2 rfl (by decide) (.slice pp np pc) np xs o.out ⟨g,0,none⟩ 1 1 [.int .i64 x] rfl hnews h1 (by unfold maxLen;omega) (by omega) hB;obtain⟨q,c,rfl⟩:=owns_shape h2;refine⟨q,c,w',hr,h2,h3,?_⟩;rcases o.out.2 with⟨e0,rfl⟩|⟨gg,cap,cur,e0,hbg,hg,hnc,hcm,hcs,htake⟩
 ·injection e0 with e1 e2 e3
  subst e1;subst e3;have hq:=run_append_nil (P:=Tryz.prog) W 49 ty 3 i3 _ Tryz.underlying49 hi hz0 ⟨g,0,none⟩ 1 1 [.int .i64 x] (by rw[hz1];rfl) hnews (by decide) (by decide) (by rw[hz2];decide);rw[hr]at hq;injection hq with hq _
  injection hq with hq _ _
  subst hq;exact .inr fun b e=>by simp[blk]at e;omega
 ·injection e0 with e1 e2 e3
  subst e1;subst e3;by_cases hroom:np+1≤pc
  ·have hq:=run_append_room (P:=Tryz.prog) W 49 ty 3 i3 Tryz.underlying49 hi gg np pc cur hg ⟨g,0,none⟩ 1 1 [.int .i64 x] (by rw[hz1];rfl) hnews h1 hroom (by rw[hz1,hcs];simp;omega)
   rw[hr]at hq;injection hq with hq _
   injection hq with hq _ _
   subst hq;exact .inl rfl
  ·have holds:∀ j u,xs[j]? = some u→W.cell? ((⟨gg,0,none⟩:Addr).add j)=some u:=o.out.cells (g:=gg) rfl
   have hq:=run_append_grow (P:=Tryz.prog) W 49 ty 3 i3 _ Tryz.underlying49 hi hz0 ⟨gg,0,none⟩ np pc xs (by rw[hz1];exact o.out.1) holds ⟨g,0,none⟩ 1 1 [.int .i64 x] (by rw[hz1];rfl) hnews (by omega) (by omega) (growslice_fits (by omega) (by rw[hz2];omega));rw[hr]at hq;injection hq with hq _
   injection hq with hq _ _
   subst hq;exact .inr fun b e=>by simp[blk]at e;omega
theorem Fm.cells{w0 W W':World}{t bw bm:Nat}{pp pp':Option Addr}{np pc cnt:Nat}{pgs:List Nat}{S:Nat→Bool}(F:Fm w0 bw bm W W' pp pp')(H:Wt w0 W t bw bm pp np pc cnt pgs S){b:Nat}{cs:Array Value}{ty:TypeId}{fr:Nat×Nat}(hb:W.heap[b]? = some (.cells cs ty fr))(h3:ty≠3)(hw:ty≠79):W'.heap[b]? = some (.cells cs ty fr):=by
 have ne:∀ {b':Nat} {cs':Array Value} {ty':TypeId} {fr':Nat×Nat},W.heap[b']? = some (.cells cs' ty' fr')→ty≠ty'→b≠b':=by
  rintro b' cs' ty' fr' h1 h2 rfl;rw[hb]at h1;injection h1 with h1
  injection h1 with _ h1
  exact h2 h1
 refine F.old b _ hb (ne H.box h3) (ne H.c4.out hw) ?_ ?_
 ·rintro rfl
  obtain⟨es,c,h⟩:=H.ms.block;rw[hb]at h;cases h
 ·intro e
  obtain⟨_,cs',fr',h⟩:=row_ne H.own e;exact ne h h3 rfl
theorem Fm.fresh{w0 V W W':World}{t bw bm:Nat}{pp pp':Option Addr}{np pc cnt:Nat}{pgs:List Nat}{S:Nat→Bool}(F:Fm w0 bw bm W W' pp pp')(H:Wt w0 V t bw bm pp np pc cnt pgs S){b:Nat}{o:Obj}(hb:W.heap[b]? = some o)(hf:V.heap.size≤b):W'.heap[b]? = some o:=by
 have h1:=(Array.getElem?_eq_some_iff.1 H.box).1;have h2:=H.c4.lt;have h3:=H.ms.lt;refine F.old b o hb (by omega) (by omega) (by omega) ?_;intro e;obtain⟨_,cs',fr',h⟩:=row_ne H.own e;have:=(Array.getElem?_eq_some_iff.1 h).1;omega
end Go.Proofs.YtafgecaeiodmiaaGreatDoor.T