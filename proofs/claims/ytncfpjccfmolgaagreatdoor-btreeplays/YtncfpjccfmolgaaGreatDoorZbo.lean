/- Joined: UE. What is proved of the functions beneath BtreeEnds,BtreeFull,BtreeShape,BtreePlays. Conditions: those that each row names. -/
import Derived.Test.YtncfpjccfmolgaaGreatDoorZbn
namespace Go.Proofs.YtncfpjccfmolgaaGreatDoor.T
open Go.ChangeShapes Go.WideShapes Go.ChangeAt Go.RowKit
open B (Pm En)
open N (Kept Own blk)
theorem own_tx {B t B':Nat} {W W':World} {p':Nat} {root:Int} {e:TypeId} {sz:Nat} {p:Option Addr} {n c:Nat} {cs:List Value} (k:Own W B' e sz p n c cs) (x:Tx B t W W') (hT:TAt W t p' root) (he:G.Calm e) (h79:e≠79):Own W' B' e sz p n c cs:=by
 refine⟨k.out.1,k.out.2.imp id ?_⟩
 rintro⟨g,cap,cur,a,b,hg,r⟩
 refine⟨g,cap,cur,a,b,x.rows g cur e (0,0) hg he ?_,r⟩
 rintro rfl
 rw[hT.out]at hg
 injection hg with hg
 injection hg with _ hg
 exact h79 hg.symm
theorem Vw.grown {B B':Nat} {W W':World} {t p m:Nat} {root:Int} {M:Pm} {l:List En} {e:TypeId} {sz:Nat} {q:Option Addr} {n c:Nat} {cs:List Value} (h:Vw B W t p m root M l) (o:Own W B' e sz q n c cs) (hB:B≤B') (he:¬ (e=103∨e=97∨e=154∨e=86∨e=128∨e=80)) (h79:e≠79) (hg:W.grownBy W' (blk q)):Vw B W' t p m root M l∧Below B W W':=by
 have hr:∀ b,blk q=some b→B'≤b∧∃ cs fr,W.heap[b]? = some (.cells cs e fr):=by
  intro b hb
  rcases o.cases with⟨rfl,_⟩|⟨g,cur,rfl,h1,h2,h3,_⟩
  ·cases hb
  ·simp[blk]at hb
   subst hb
   exact⟨h1,cur,_,h3⟩
 have hb:Below B W W':=⟨hg.os,hg.tape,hg.output,hg.size,fun i hi=>hg.block i (Nat.lt_of_lt_of_le hi h.bw) (fun hx=>by have:=(hr i hx.symm).1;omega)⟩
 have hap:Ap W W':=Ap.grown hg fun b hx=>by
  obtain⟨_,cs,fr,h3⟩:=hr b hx
  exact⟨cs,e,fr,h3,he⟩
 have hst:W'.heap[t]? = some (.cells #[.pointer (some ⟨p,0,none⟩),.int .i64 root] 79):=by
  refine (hg.block t (Array.getElem?_eq_some_iff.1 h.tat.out).1 ?_).trans h.tat.out
  intro hx
  obtain⟨_,cs,fr,h3⟩:=hr t hx.symm
  rw[h.tat.out]at h3
  injection h3 with h3
  injection h3 with _ h3
  exact h79 h3.symm
 exact⟨⟨⟨hst⟩,h.pv.ap hap,h.tr,h.bt,Nat.le_trans h.bw hg.size,h.b0,G.lds_on h.lds hb h.b0⟩,hb⟩
end Go.Proofs.YtncfpjccfmolgaaGreatDoor.T