/- Joined: UD. What is proved of the functions beneath BtreeEnds,BtreeFull,BtreeShape,BtreePlays. Conditions: those that each row names. -/
import Derived.Test.YtncfpjccfmolgaaGreatDoorZbm
import Derived.Deep.SlicePairs
namespace Go.Proofs.YtncfpjccfmolgaaGreatDoor.T
open Go.ChangeShapes Go.WideShapes Go.ChangeAt Go.RowKit Go.Deep
open N (Kept)
structure Acts (W:World) (p:Option Addr) (n:Nat) where
 b:Nat
 o:Nat
 what:Nat→Int
 k:Nat→ByteArray
 v:Nat→ByteArray
 wide:Nat→Int
 max:n≤9223372036854775807
 at_:0<n→p=some ⟨b,o,none⟩
 c0:∀ j,j<n→W.cell? ⟨b,o+j*4,none⟩=some (.int .i64 (what j))
 c1:∀ j,j<n→W.cell? ⟨b,o+j*4+1,none⟩=some (.string (k j))
 c2:∀ j,j<n→W.cell? ⟨b,o+j*4+2,none⟩=some (.string (v j))
 c3:∀ j,j<n→W.cell? ⟨b,o+j*4+3,none⟩=some (.int .i64 (wide j))
theorem cells31:Tryz.prog.cellsOf 31=4:=by kernel_rfl
theorem cells9:Tryz.prog.cellsOf 9=1:=by kernel_rfl
theorem cells3:Tryz.prog.cellsOf 3=1:=by kernel_rfl
theorem add_add' (a:Addr) (j k:Nat):(a.add j).add k=a.add (j+k):=by
 obtain⟨b,off,spot⟩:=a
 by_cases hj:j=0
 ·subst hj;simp[Addr.add]
 ·by_cases hk:k=0
  ·subst hk;simp[Addr.add]
  ·simp[Addr.add,hj,hk,Nat.add_assoc]
theorem no_spot {W:World} {a:Addr} {v:Value} (h:W.cell? (a.add 0)=some v):a=⟨a.block,a.off,none⟩:=by
 have h1:=h
 obtain⟨b,off,spot⟩:=a
 simp only[Addr.add,if_true]at h1
 cases spot with
 | none=>rfl
 | some q=>
  unfold World.cell? at h1
  split at h1
  ·simp at h1
  ·cases h1
set_option maxRecDepth 100000 in
theorem acts_of {H:Type} {enc:TypeId×Value→H} {W:World} {base:Nat} {v:Value} {d:DataW H} {ps:List MemPlace} (hv:Value.okWide Tryz.prog W .any base 22 v)
  (h:DataW.Trod enc Tryz.prog W 0 (fun _=>true) true 22 v d ps):∃ p n cap,v=.slice p n cap∧Nonempty (Acts W p n):=by
 obtain⟨p,n,cap,rfl⟩:=okWide_slice Tryz.underlying22 hv
 refine⟨p,n,cap,rfl,?_⟩
 obtain⟨fuel,hf⟩:=h
 have hf':DataW.trod enc Tryz.prog W 0 (fun _=>true) true fuel 22 [.slice p n cap]=some (d,ps):=by simpa[Value.cells] using hf
 rcases open_slice Tryz.underlying22 hf' with⟨h0,_⟩|⟨a,len,cap',m,k,D,Pl,hcs,_,hl,hm,hmm,_,hall⟩
 ·simp at h0
  obtain⟨rfl,rfl,rfl⟩:=h0
  exact⟨0,0,fun _=>0,fun _=>⟨#[]⟩,fun _=>⟨#[]⟩,fun _=>0,by omega,fun h=>absurd h (by omega),fun j hj=>absurd hj (by omega),fun j hj=>absurd hj (by omega),fun j hj=>absurd hj (by omega),fun j hj=>absurd hj (by omega)⟩
 ·simp at hcs
  obtain⟨rfl,rfl,rfl⟩:=hcs
  simp only[if_true]at hmm
  subst hmm
  have hmax:m≤9223372036854775807:=by unfold maxLen at hm;omega
  have key:∀ i,∃ x:Int×ByteArray×ByteArray×Int,i<n→W.cell? (a.add (i*4))=some (.int .i64 x.1)∧W.cell? (a.add (i*4+1))=some (.string x.2.1)∧W.cell? (a.add (i*4+2))=some (.string x.2.2.1)∧W.cell? (a.add (i*4+3))=some (.int .i64 x.2.2.2):=by
   intro i
   by_cases hi:i<n
   ·obtain⟨cs',h1,h2⟩:=hall i (by omega)
    rw[cells31]at h1
    obtain⟨_,hlen,hcell⟩:=World.cells?_some h1
    obtain⟨xs,k',_,hxy,_,hxl,hf⟩:=DataW.trod_struct Tryz.underlying31 h2
    match cs',hlen,xs,hxl with
    | [v0,v1,v2,v3],_,[y0,y1,y2,y3],_=>
     have g0:=hf 0 _ rfl
     have g1:=hf 1 _ rfl
     have g2:=hf 2 _ rfl
     have g3:=hf 3 _ rfl
     simp[cells3,cells9]at g0 g1 g2 g3
     obtain⟨z0,e0,_,_⟩:=DataW.trod_int Tryz.underlying3 g0
     obtain⟨s1,e1,_,_⟩:=DataW.trod_string Tryz.underlying9 g1
     obtain⟨s2,e2,_,_⟩:=DataW.trod_string Tryz.underlying9 g2
     obtain⟨z3,e3,_,_⟩:=DataW.trod_int Tryz.underlying3 g3
     simp only[List.cons.injEq,and_true]at e0 e1 e2 e3
     subst e0 e1 e2 e3
     have q0:=hcell 0 (by omega)
     have q1:=hcell 1 (by omega)
     have q2:=hcell 2 (by omega)
     have q3:=hcell 3 (by omega)
     rw[add_add']at q0 q1 q2 q3
     exact⟨(z0,s1,s2,z3),fun _=>⟨by simpa using q0,by simpa using q1,by simpa using q2,by simpa using q3⟩⟩
   ·exact⟨(0,⟨#[]⟩,⟨#[]⟩,0),fun e=>absurd e hi⟩
  obtain⟨X,hX⟩:=Classical.axiomOfChoice key
  have hk:∀ j,j<n→a=⟨a.block,a.off,none⟩∧W.cell? ⟨a.block,a.off+j*4,none⟩=some (.int .i64 (X j).1)∧W.cell? ⟨a.block,a.off+j*4+1,none⟩=some (.string (X j).2.1)∧W.cell? ⟨a.block,a.off+j*4+2,none⟩=some (.string (X j).2.2.1)∧W.cell? ⟨a.block,a.off+j*4+3,none⟩=some (.int .i64 (X j).2.2.2):=by
   intro j hj
   obtain⟨c0,c1,c2,c3⟩:=hX j hj
   have hsp:=no_spot (by have:=(hX 0 (by omega)).1;rwa [Nat.zero_mul]at this)
   rw[hsp,Addr.add_lit]at c0 c1 c2 c3
   exact⟨hsp,c0,by rw[Nat.add_assoc];exact c1,by rw[Nat.add_assoc];exact c2,by rw[Nat.add_assoc];exact c3⟩
  exact⟨a.block,a.off,fun j=>(X j).1,fun j=>(X j).2.1,fun j=>(X j).2.2.1,fun j=>(X j).2.2.2,by omega,fun h=>by rw[← (hk 0 h).1],fun j hj=>(hk j hj).2.1,fun j hj=>(hk j hj).2.2.1,fun j hj=>(hk j hj).2.2.2.1,fun j hj=>(hk j hj).2.2.2.2⟩
end Go.Proofs.YtncfpjccfmolgaaGreatDoor.T