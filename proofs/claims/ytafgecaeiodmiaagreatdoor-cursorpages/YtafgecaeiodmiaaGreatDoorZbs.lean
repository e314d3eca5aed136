/- Joined. -/
import Derived.Test.YtafgecaeiodmiaaGreatDoorZbl
import Derived.SliceStrings
import Derived.Laws.IdiomArrays
import Derived.OpenShut
import Derived.ShutString
namespace Go.Proofs.YtafgecaeiodmiaaGreatDoor.T
open Go.ChangeShapes Go.WideShapes Go.ChangeAt Go.RowKit
theorem cells_str:Tryz.prog.cellsOf 9=1:=by kernel_rfl
theorem cells_two:Tryz.prog.cellsOf 23=2:=by kernel_rfl
set_option maxRecDepth 100000 in
theorem strs_of{H:Type}{enc:TypeId×Value→H}{W:World}{base:Nat}{v:Value}{d:DataW H}{ps:List MemPlace}(hv:Value.okWide Tryz.prog W .any base 22 v)(h:DataW.Trod enc Tryz.prog W 0 (fun _=>true) true 22 v d ps):∃ p n cap,v=.slice p n cap∧Nonempty (Strs W p n):=by
 obtain⟨p,n,cap,rfl⟩:=okWide_slice Tryz.underlying22 hv;refine⟨p,n,cap,rfl,?_⟩;obtain⟨fuel,hf⟩:=h;have hf':DataW.trod enc Tryz.prog W 0 (fun _=>true) true fuel 22 [.slice p n cap]=some (d,ps):=by simpa[Value.cells] using hf
 rcases open_strings Tryz.underlying22 Tryz.underlying9 cells_str hf' with⟨h0,_⟩|⟨a,len,cap',ss,hcs,_,hl,hm,hz,_,hcell,_⟩
 ·simp at h0
  obtain⟨rfl,rfl,rfl⟩:=h0;exact⟨0,0,fun _=>⟨#[]⟩,by omega,fun h=>absurd h (by omega),fun j hj=>absurd hj (by omega)⟩
 ·simp at hcs
  obtain⟨rfl,rfl,rfl⟩:=hcs;simp only[if_true]at hz;have hmax:cap≤9223372036854775807:=by unfold maxLen at hm;omega
  have hk:∀ j,j<n→a=⟨a.block,a.off,none⟩∧W.cell? ⟨a.block,a.off+j,none⟩=some (.string (ss.getD j ByteArray.empty)):=by
   intro j hj;have c0:=hcell j (by omega);have hsp:=no_spot (hcell 0 (by omega));rw[hsp,Addr.add_lit]at c0;exact⟨hsp,c0⟩
  exact⟨a.block,a.off,fun j=>ss.getD j ByteArray.empty,by omega,fun h=>by rw[← (hk 0 h).1],fun j hj=>(hk j hj).2⟩
set_option maxRecDepth 100000 in
theorem trod_two{H:Type}{enc:TypeId×Value→H}{P:Program}{w:World}{base:Nat}{spare:Nat→Bool}{held:Bool}{t e:TypeId}{fuel:Nat}{c0 c1:Value}{x:DataW H×List MemPlace}(ht:P.underlying t=some (.array 2 e))(hce:P.cellsOf e=1)(h:DataW.trod enc P w base spare held fuel t [c0,c1]=some x) :
  ∃ y0 y1 n,x=(.agg [y0.1,y1.1],y0.2++y1.2)∧DataW.trod enc P w base spare held n e [c0]=some y0∧DataW.trod enc P w base spare held n e [c1]=some y1:=by
 cases fuel with
 | zero=>simp[DataW.trod]at h
 | succ n=>
  unfold DataW.trod at h;rw[ht]at h;have r2:List.range 2=[0,1]:=rfl;simp[r2,hce]at h;obtain⟨_,h⟩:=h;cases h0:DataW.trod enc P w base spare held n e [c0] with
  | none=>simp[h0]at h
  | some y0=>
   cases h1:DataW.trod enc P w base spare held n e [c1] with
   | none=>simp[h0,h1]at h
   | some y1=>
    simp[h0,h1]at h;exact⟨y0,y1,n,h.symm,h0,h1⟩
theorem list_two{α:Type}(l:List α)(h:(⟨l⟩:Array α).size=2):∃ a b,l=[a,b]:=by
 match l,h with
 | [a,b],_=>exact⟨a,b,rfl⟩
set_option maxRecDepth 100000 in
theorem two_of{H:Type}{enc:TypeId×Value→H}{W:World}{base:Nat}{v:Value}{d:DataW H}{ps:List MemPlace}(hv:Value.okWide Tryz.prog W .any base 23 v)(h:DataW.Trod enc Tryz.prog W 0 (fun _=>true) true 23 v d ps):∃ a b,v=.agg #[.string a,.string b]∧d=.agg [.lit (.string a.data.toList),.lit (.string b.data.toList)]∧ps=[]∧a.size≤maxLen∧b.size≤maxLen:=by
 obtain⟨cs,rfl,hsz,_⟩:∃ cs,v=.agg cs∧cs.size=Tryz.prog.cellsOf 23∧Row.okWide Tryz.prog W .any base 23 cs:=by
  simpa[Value.okWide,Tryz.underlying23] using hv
 rw[cells_two]at hsz;obtain⟨l⟩:=cs;obtain⟨c0,c1,rfl⟩:=list_two l hsz;obtain⟨fuel,hf⟩:=h;obtain⟨y0,y1,m,hx,hy0,hy1⟩:=trod_two Tryz.underlying23 cells_str hf;obtain⟨x0,e0,rfl,k0⟩:=DataW.trod_string Tryz.underlying9 hy0;obtain⟨x1,e1,rfl,k1⟩:=DataW.trod_string Tryz.underlying9 hy1;simp at e0 e1;subst e0 e1;simp only[Prod.mk.injEq]at hx;obtain⟨rfl,rfl⟩:=hx;exact⟨x0,x1,rfl,rfl,rfl,k0,k1⟩
set_option maxRecDepth 100000 in
theorem two_shut{H:Type}{enc:TypeId×Value→H}{W:World}{sp:Nat→Bool}{a b:ByteArray}(h0:a.size≤maxLen)(h1:b.size≤maxLen) :
  DataW.Trod enc Tryz.prog W 0 sp true 23 (.agg #[.string a,.string b]) (DataW.agg [.lit (.string a.data.toList),.lit (.string b.data.toList)]) []:=
 ⟨2,by simp[DataW.trod,Value.cells,Tryz.underlying23,Tryz.underlying9,cells_two,cells_str,h0,h1,show List.range 2=[0,1] from rfl]⟩
end Go.Proofs.YtafgecaeiodmiaaGreatDoor.T