/- Joined. -/
import Derived.Sort.QuietTacIn
import Derived.RangeFuncNested
namespace Go.Proofs.YtafgecaeiodmiaaGreatDoor.T
open Go.RowKit
theorem op_round{F:Fence}{n:Nat}{P:Program}{ops:Array Oper}{Q:Exit→Act→World→Prop}(hro:F.round=none)(l:Nat)(hd:∀ (i:Nat) (o:Oper),ops[i]? = some o→∀ c,o.op≠.defer c){i:Nat}{K:Act→World→Prop}{a:Act}{w:World}(h:wpOpIn F n P ops Q i K a w):wpOpIn (F.inRound l) n P ops Q i K a w:=by
 unfold wpOpIn at *;cases ho:ops[i]? with
 | none=>simp only[ho]at h ⊢;exact h
 | some o=>
  simp only[ho]at h ⊢;by_cases hw:Region.wanted o (yielded ops a.tmps)=true
  ·simp only[hw,if_true]at h ⊢
   unfold Oper.wpIn at *;refine⟨h.1,?_⟩;have h2:=h.2;rw[hro,Oper.semAt_none]at h2;rw[show (F.inRound l).round=some l from rfl,Oper.semAt_some l _ o (hd i o ho)];generalize (execOp a.eval o).run P w=r at h2 ⊢;cases r with
   | ok x w'=>cases x <;> exact h2
   | halt x w'=>cases x <;> exact h2
  ·simp only[hw,Bool.false_eq_true,if_false]at h ⊢;exact h
theorem any_round{F:Fence}{n:Nat}{P:Program}{md:Region.Mode}{ops:Array Oper}{Q:Exit→Act→World→Prop}(hro:F.round=none)(l:Nat)(hd:∀ (i:Nat) (o:Oper),ops[i]? = some o→∀ c,o.op≠.defer c) :
  ∀ (fuel:Nat) (listed:Array Bool) (a:Act) (w:World),wpAnyIn F n P md ops Q fuel listed a w→wpAnyIn (F.inRound l) n P md ops Q fuel listed a w
 | 0,_,_,_,h=>h
 | fuel+1,_,_,_,h=>⟨h.1,fun i hi=>wpOpIn_mono (fun a w=>any_round hro l hd fuel _ a w) (op_round hro l hd (h.2 i hi))⟩
def noDefer (l:List Oper):Bool:=l.all fun o=>match o.op with | .defer _=>false | _=>true
theorem noDefer_spec{l:List Oper}(h:noDefer l=true):∀ (i:Nat) (o:Oper),l.toArray[i]? = some o→∀ c,o.op≠.defer c:=by
 intro i o ho c e;have hm:o∈l:=by
  have:=Array.mem_of_getElem? ho;simpa using this
 have:=List.all_eq_true.1 h o hm;rw[e]at this;cases this
theorem region_round{n:Nat}{P:Program}{id:Nat}{Q:Exit→Act→World→Prop}{a:Act}{w:World}{l:List Oper}(lr:Nat)(hd:noDefer l=true)(hm:P.follows .mixedOrders=true)(hB:Region.lexB .any l.toArray=true)(h:wpQuietIn Fence.wide n P l.toArray (fun w'=>∃ n,w'=w.drewN n) (fun a'=>∀ w',(∃ n,w'=w.drewN n)→Q .normal a' w') l a):(Code.region id l.toArray true).wpIn (Fence.wide.inRound lr) n P Q a w:=by
 simp only[Region.lexB,Bool.and_eq_true]at hB;refine wpIn_region_any hm (any_round rfl lr (noDefer_spec hd) _ _ _ _ (wpAnyIn_of_quiet (Q:=fun a'=>∀ w',(∃ n,w'=w.drewN n)→Q .normal a' w') rfl (fun _ w' hw' h=>h w' hw') _ _ _ _ ⟨1,rfl⟩ ?_));have:=wpAnyQIn_lex (F:=Fence.wide) (n:=n) (C:=fun w'=>∃ n,w'=w.drewN n) (md:=.any) hB.1 l 0 (Array.replicate l.toArray.size false) a (by simp) (by simpa using hB.2) (by simpa using h);simpa using this
end Go.Proofs.YtafgecaeiodmiaaGreatDoor.T