/- Joined. -/
import Derived.Test.YtifeihnhkbagpaaGreatDoorZav
import Derived.Deep.RegionHeld3
import Derived.Deep.DrawnRows
import Derived.BigQuiet
set_option maxHeartbeats 2000000
set_option maxRecDepth 100000
namespace Go.Proofs.YtifeihnhkbagpaaGreatDoor.N
open ChangeShapes WideShapes ChangeAt RowKit
variable {W:World}{b:Nat}{c0 c1 c2:Value}{t:TypeId}
theorem dw(h0:W.heap[b]? = some (.cells #[c0,c1,c2] t))(v0 v1 v2:Value) :
  (W.cell? ⟨b,0,none⟩=some c0/\W.frozen? ⟨b,0,none⟩=false) /\
  ((W.setCell ⟨b,0,none⟩ v0).cell? ⟨b,1,none⟩=some c1/\(W.setCell ⟨b,0,none⟩ v0).frozen? ⟨b,1,none⟩=false) /\
  (((W.setCell ⟨b,0,none⟩ v0).setCell ⟨b,1,none⟩ v1).cell? ⟨b,2,none⟩=some c2/\((W.setCell ⟨b,0,none⟩ v0).setCell ⟨b,1,none⟩ v1).frozen? ⟨b,2,none⟩=false) /\
  (((W.setCell ⟨b,0,none⟩ v0).setCell ⟨b,1,none⟩ v1).setCell ⟨b,2,none⟩ v2).heap[b]? = some (.cells #[v0,v1,v2] t):=by
 have h1:(W.setCell ⟨b,0,none⟩ v0).heap[b]? = some (.cells #[v0,c1,c2] t):=by rw[heap_setCell_same _ b 0 _ _ _ h0];rfl
 have h2:((W.setCell ⟨b,0,none⟩ v0).setCell ⟨b,1,none⟩ v1).heap[b]? = some (.cells #[v0,v1,c2] t):=by rw[heap_setCell_same _ b 1 _ _ _ h1];rfl
 have h3:(((W.setCell ⟨b,0,none⟩ v0).setCell ⟨b,1,none⟩ v1).setCell ⟨b,2,none⟩ v2).heap[b]? = some (.cells #[v0,v1,v2] t):=by rw[heap_setCell_same _ b 2 _ _ _ h2];rfl
 exact⟨⟨by rw[cell_of_row _ b 0 _ _ _ h0];rfl,frozen_of_row _ b 0 _ _ h0⟩,⟨by rw[cell_of_row _ b 1 _ _ _ h1];rfl,frozen_of_row _ b 1 _ _ h1⟩,⟨by rw[cell_of_row _ b 2 _ _ _ h2];rfl,frozen_of_row _ b 2 _ _ h2⟩,h3⟩
theorem cells3(h:W.heap[b]? = some (.cells #[c0,c1,c2] t)) :
  W.cell? ⟨b,0,none⟩=some c0/\W.cell? ⟨b,1,none⟩=some c1/\W.cell? ⟨b,2,none⟩=some c2:=
 ⟨by rw[cell_of_row _ b 0 _ _ _ h];rfl,by rw[cell_of_row _ b 1 _ _ _ h];rfl,by rw[cell_of_row _ b 2 _ _ _ h];rfl⟩
theorem uA(W:World){b k:Nat}(h:k≠b)(v0 v1 v2:Value):(((W.setCell ⟨b,0,none⟩ v0).setCell ⟨b,1,none⟩ v1).setCell ⟨b,2,none⟩ v2).heap[k]? = W.heap[k]?:=by
 rw[heap_setCell_other _ ⟨b,2,none⟩ k _ h,heap_setCell_other _ ⟨b,1,none⟩ k _ h,heap_setCell_other _ ⟨b,0,none⟩ k _ h]
variable {c3:Value}
theorem aD(h0:W.heap[b]? = some (.cells #[c0,c1,c2,c3] t))(v0 v1 v2 v3:Value) :
  (W.cell? ⟨b,0,none⟩=some c0/\W.frozen? ⟨b,0,none⟩=false) /\
  ((W.setCell ⟨b,0,none⟩ v0).cell? ⟨b,1,none⟩=some c1/\(W.setCell ⟨b,0,none⟩ v0).frozen? ⟨b,1,none⟩=false) /\
  (((W.setCell ⟨b,0,none⟩ v0).setCell ⟨b,1,none⟩ v1).cell? ⟨b,2,none⟩=some c2/\((W.setCell ⟨b,0,none⟩ v0).setCell ⟨b,1,none⟩ v1).frozen? ⟨b,2,none⟩=false) /\
  ((((W.setCell ⟨b,0,none⟩ v0).setCell ⟨b,1,none⟩ v1).setCell ⟨b,2,none⟩ v2).cell? ⟨b,3,none⟩=some c3/\(((W.setCell ⟨b,0,none⟩ v0).setCell ⟨b,1,none⟩ v1).setCell ⟨b,2,none⟩ v2).frozen? ⟨b,3,none⟩=false) /\
  ((((W.setCell ⟨b,0,none⟩ v0).setCell ⟨b,1,none⟩ v1).setCell ⟨b,2,none⟩ v2).setCell ⟨b,3,none⟩ v3).heap[b]? = some (.cells #[v0,v1,v2,v3] t):=by
 have h1:(W.setCell ⟨b,0,none⟩ v0).heap[b]? = some (.cells #[v0,c1,c2,c3] t):=by rw[heap_setCell_same _ b 0 _ _ _ h0];rfl
 have h2:((W.setCell ⟨b,0,none⟩ v0).setCell ⟨b,1,none⟩ v1).heap[b]? = some (.cells #[v0,v1,c2,c3] t):=by rw[heap_setCell_same _ b 1 _ _ _ h1];rfl
 have h3:(((W.setCell ⟨b,0,none⟩ v0).setCell ⟨b,1,none⟩ v1).setCell ⟨b,2,none⟩ v2).heap[b]? = some (.cells #[v0,v1,v2,c3] t):=by rw[heap_setCell_same _ b 2 _ _ _ h2];rfl
 have h4:((((W.setCell ⟨b,0,none⟩ v0).setCell ⟨b,1,none⟩ v1).setCell ⟨b,2,none⟩ v2).setCell ⟨b,3,none⟩ v3).heap[b]? = some (.cells #[v0,v1,v2,v3] t):=by rw[heap_setCell_same _ b 3 _ _ _ h3];rfl
 exact⟨⟨by rw[cell_of_row _ b 0 _ _ _ h0];rfl,frozen_of_row _ b 0 _ _ h0⟩,⟨by rw[cell_of_row _ b 1 _ _ _ h1];rfl,frozen_of_row _ b 1 _ _ h1⟩,⟨by rw[cell_of_row _ b 2 _ _ _ h2];rfl,frozen_of_row _ b 2 _ _ h2⟩,⟨by rw[cell_of_row _ b 3 _ _ _ h3];rfl,frozen_of_row _ b 3 _ _ h3⟩,h4⟩
theorem Vg(h:W.heap[b]? = some (.cells #[c0,c1,c2,c3] t)) :
  W.cell? ⟨b,0,none⟩=some c0/\W.cell? ⟨b,1,none⟩=some c1/\W.cell? ⟨b,2,none⟩=some c2/\W.cell? ⟨b,3,none⟩=some c3:=
 ⟨by rw[cell_of_row _ b 0 _ _ _ h];rfl,by rw[cell_of_row _ b 1 _ _ _ h];rfl,by rw[cell_of_row _ b 2 _ _ _ h];rfl,by rw[cell_of_row _ b 3 _ _ _ h];rfl⟩
theorem aG(W:World){b k:Nat}(h:k≠b)(v0 v1 v2 v3:Value):((((W.setCell ⟨b,0,none⟩ v0).setCell ⟨b,1,none⟩ v1).setCell ⟨b,2,none⟩ v2).setCell ⟨b,3,none⟩ v3).heap[k]? = W.heap[k]?:=by
 rw[heap_setCell_other _ ⟨b,3,none⟩ k _ h,heap_setCell_other _ ⟨b,2,none⟩ k _ h,heap_setCell_other _ ⟨b,1,none⟩ k _ h,heap_setCell_other _ ⟨b,0,none⟩ k _ h]
structure C4 (w:World) (b:Nat) (t:TypeId) (a0 a1 a2 a3:Value):Prop where
 out:w.heap[b]? = some (.cells #[a0,a1,a2,a3] t)
structure C3 (w:World) (b:Nat) (t:TypeId) (a0 a1 a2:Value):Prop where
 out:w.heap[b]? = some (.cells #[a0,a1,a2] t)
variable {w w':World}{a0 a1 a2 a3:Value}
theorem C4.kept(k:C4 w b t a0 a1 a2 a3)(h:Kept w w'):C4 w' b t a0 a1 a2 a3:=⟨h.block k.out⟩
theorem C3.kept(k:C3 w b t a0 a1 a2)(h:Kept w w'):C3 w' b t a0 a1 a2:=⟨h.block k.out⟩
theorem C4.alloc(w:World)(t:TypeId)(a0 a1 a2 a3:Value):C4 (w.alloc (.cells #[a0,a1,a2,a3] t)) w.heap.size t a0 a1 a2 a3:=⟨heap_alloc_new w _⟩
theorem C3.alloc(w:World)(t:TypeId)(a0 a1 a2:Value):C3 (w.alloc (.cells #[a0,a1,a2] t)) w.heap.size t a0 a1 a2:=⟨heap_alloc_new w _⟩
theorem C4.drew(k:C4 w b t a0 a1 a2 a3):C4 w.drew b t a0 a1 a2 a3:=⟨k.out⟩
theorem C3.drew(k:C3 w b t a0 a1 a2):C3 w.drew b t a0 a1 a2:=⟨k.out⟩
theorem C4.cs(k:C4 w b t a0 a1 a2 a3):w.cell? ⟨b,0,none⟩=some a0/\w.cell? ⟨b,1,none⟩=some a1/\w.cell? ⟨b,2,none⟩=some a2/\w.cell? ⟨b,3,none⟩=some a3:=Vg k.out
theorem C3.cs(k:C3 w b t a0 a1 a2):w.cell? ⟨b,0,none⟩=some a0/\w.cell? ⟨b,1,none⟩=some a1/\w.cell? ⟨b,2,none⟩=some a2:=cells3 k.out
theorem C4.fz(k:C4 w b t a0 a1 a2 a3)(j:Nat):w.frozen? ⟨b,j,none⟩=false:=frozen_of_row w b j _ _ k.out
theorem C3.fz(k:C3 w b t a0 a1 a2)(j:Nat):w.frozen? ⟨b,j,none⟩=false:=frozen_of_row w b j _ _ k.out
theorem C4.lt(k:C4 w b t a0 a1 a2 a3):b<w.heap.size:=(aaa.1 k.out).1
theorem C3.lt(k:C3 w b t a0 a1 a2):b<w.heap.size:=(aaa.1 k.out).1
theorem C4.far(k:C4 w b t a0 a1 a2 a3)(a:Addr)(v:Value)(h:b≠a.block):C4 (w.setCell a v) b t a0 a1 a2 a3:=⟨(heap_setCell_other w a b v h).trans k.out⟩
theorem C3.far(k:C3 w b t a0 a1 a2)(a:Addr)(v:Value)(h:b≠a.block):C3 (w.setCell a v) b t a0 a1 a2:=⟨(heap_setCell_other w a b v h).trans k.out⟩
variable {r:Option Nat}
theorem C4.grown(k:C4 w b t a0 a1 a2 a3)(h:w.grownBy w' r)(hb:some b≠r):C4 w' b t a0 a1 a2 a3:=⟨(h.block b k.lt hb).trans k.out⟩
theorem C3.grown(k:C3 w b t a0 a1 a2)(h:w.grownBy w' r)(hb:some b≠r):C3 w' b t a0 a1 a2:=⟨(h.block b k.lt hb).trans k.out⟩
theorem Kept.set(h:Kept w W){a:Addr}(ha:w.heap.size<=a.block)(v:Value):Kept w (W.setCell a v):=⟨h.out.setCell ha v⟩
theorem aN:(Tryz.prog.info? 121).map (·.size)=some 4:=by kernel_rfl
theorem iJ:(Tryz.prog.info? 77).map (·.size)=some 3:=by kernel_rfl
theorem rJ{P:Program}{fn:Func}{p q u:Tmp}{ty tz:TypeId}(h:fn.results=#[.cell p ty,.cell q tz,.tmp u])(tmps:Array Value)(w:World)(g k:Nat)(t s:TypeId)(cs ds:Array Value)(fr fs:Nat×Nat)(d d':TypeDesc)(hp:tmps.getD p undef=.pointer (some ⟨g,0,none⟩))(hg:w.heap[g]? = some (.cells cs t fr))(hu:P.underlying ty=some d)(hd:(match d with | .struct _ | .array _ _=>true | _=>false)=true)(hi:(P.info? ty).map (·.size)=some cs.size)(hq:tmps.getD q undef=.pointer (some ⟨k,0,none⟩))(hk:w.heap[k]? = some (.cells ds s fs))(hu':P.underlying tz=some d')(hd':(match d' with | .struct _ | .array _ _=>true | _=>false)=true)(hi':(P.info? tz).map (·.size)=some ds.size) :
    (results fn tmps).run P w=.ok (.tuple #[.agg cs,.agg ds,tmps.getD u undef]) w:=by
  have hp':tmps[p]?.getD undef=.pointer (some ⟨g,0,none⟩):=by rw[<- hp];simp
  have hq':tmps[q]?.getD undef=.pointer (some ⟨k,0,none⟩):=by rw[<- hq];simp
  simp only[results,h];simp[Sem.run_bind,Result.andThen,hp',hq',asAddr,run_loadVar_row w g t ty cs fr d hg hu hd hi,run_loadVar_row w k s tz ds fs d' hk hu' hd' hi']
theorem uB(w:World):Calls Tryz.prog 114 #[] w fun e w'=>e=.returned (.agg #[.string ⟨#[]⟩,.int .i64 (-1),.int .i64 0])/\Kept w w':=by
 go_enter Tryz.func114,Tryz.ntmps114;go_wp2;refine bodyPost_ret (v:=.agg #[.string ⟨#[]⟩,.int .i64 (-1),.int .i64 0]) ?_ rfl ⟨rfl,?_⟩
 ·exact results_cell_row (p:=0) rfl _ _ w.heap.size 77 #[.string ⟨#[]⟩,.int .i64 (-1),.int .i64 0] (0,0) _ rfl (heap_alloc_new w _) Tryz.underlying77 rfl iJ
 ·exact (Kept.refl w).alloc _
theorem eY(n:Nat)(hn:n<9223372036854775808)(w:World):Calls Tryz.prog 215 #[.int .i64 n] w fun e w'=>e=.returned (.string (bs (ae n)))/\Kept w w':=by
 have h:=qE n (by omega);have u1:IntKind.u64.wrap (n:Int)=(n:Int):=by rw[IntKind.wrap_u64];omega
 go_enter Tryz.func215,Tryz.ntmps215;go_wp2_with (go_at_call 111;refine (h _).mono ?_;rintro e w1 ⟨rfl,hk⟩);go_ret;exact⟨rfl,hk⟩
theorem vD(w:World)(a:Addr)(v:Value):w.grownBy (w.setCell a v) (some a.block):=
 ⟨rfl,rfl,rfl,by simp[World.setCell],fun k _ hne=>heap_setCell_other w a k v (fun e=>hne (by rw[e]))⟩
variable {B sz n c:Nat}{e:TypeId}{p:Option Addr}
theorem Own.far{cs:List Value}(k:Own w B e sz p n c cs)(a:Addr)(v:Value)(h:a.block<B):Own (w.setCell a v) B e sz p n c cs:=by
 refine⟨k.out.kept (vD w a v) ?_⟩;cases hq:(Value.slice p n c).ownBlock with
 | none=>exact .inl rfl
 | some g=>exact .inr (fun he=>by have:=(k.out.lt g hq).1;injection he with he;omega)
theorem Own.bS{cs:List Value}(k:Own W B e sz p n c cs)(h:b<B)(v0 v1 v2 v3:Value):Own ((((W.setCell ⟨b,0,none⟩ v0).setCell ⟨b,1,none⟩ v1).setCell ⟨b,2,none⟩ v2).setCell ⟨b,3,none⟩ v3) B e sz p n c cs:=
 (((k.far ⟨b,0,none⟩ v0 h).far ⟨b,1,none⟩ v1 h).far ⟨b,2,none⟩ v2 h).far ⟨b,3,none⟩ v3 h
theorem Own.Aa{cs:List Value}(k:Own W B e sz p n c cs)(h:b<B)(v0 v1 v2:Value):Own (((W.setCell ⟨b,0,none⟩ v0).setCell ⟨b,1,none⟩ v1).setCell ⟨b,2,none⟩ v2) B e sz p n c cs:=
 ((k.far ⟨b,0,none⟩ v0 h).far ⟨b,1,none⟩ v1 h).far ⟨b,2,none⟩ v2 h
theorem Kept.bS(h:Kept w W)(hb:w.heap.size<=b)(v0 v1 v2 v3:Value):Kept w ((((W.setCell ⟨b,0,none⟩ v0).setCell ⟨b,1,none⟩ v1).setCell ⟨b,2,none⟩ v2).setCell ⟨b,3,none⟩ v3):=
 (((h.set (a:=⟨b,0,none⟩) hb v0).set (a:=⟨b,1,none⟩) hb v1).set (a:=⟨b,2,none⟩) hb v2).set (a:=⟨b,3,none⟩) hb v3
theorem Kept.Aa(h:Kept w W)(hb:w.heap.size<=b)(v0 v1 v2:Value):Kept w (((W.setCell ⟨b,0,none⟩ v0).setCell ⟨b,1,none⟩ v1).setCell ⟨b,2,none⟩ v2):=
 ((h.set (a:=⟨b,0,none⟩) hb v0).set (a:=⟨b,1,none⟩) hb v1).set (a:=⟨b,2,none⟩) hb v2
variable {kp vp ip:Option Addr}{kc vc ni ic:Nat}
theorem yl{KC VC:List Value}(hk:Rw w 1 kp n kc KC)(hv:Rw w 3 vp n vc VC)(h1:∀ u∈KC,u.oneCell'=true)(h2:∀ u∈VC,u.oneCell'=true)(hn:n<=100000):
 Calls Tryz.prog 144 #[.agg #[.bool true,.slice kp n kc,.slice vp n vc,.slice ip ni ic]] w fun e w'=>∃ kp' aY bO,e=.returned (.agg #[.bool true,.slice kp' n aY,.slice bO n n,.slice none 0 0])/\Own w' w.heap.size 9 1 kp' n aY KC/\Own w' w.heap.size 77 3 bO n n VC/\Kept w w':=by
 have HC:Hid (∀ W,Kept w W->Calls Tryz.prog 177 #[.slice kp n kc] W fun e w'=>∃ p' c',e=.returned (.slice p' n c')/\Own w' W.heap.size 9 1 p' n c' KC/\Kept W w'):=fun W hW=>Bv (hW.rw hk) hn h1
 have HS:Hid (∀ W,Kept w W->Calls Tryz.prog 178 #[.slice vp n vc,.int .i64 n,.agg #[.string ⟨#[]⟩,.int .i64 (-1),.int .i64 0]] W fun e w'=>∃ p',e=.returned (.slice p' n n)/\Own w' W.heap.size 77 3 p' n n VC/\Kept W w'):=fun W hW=>Rp ⟨#[]⟩ (-1) 0 (hW.rw hv) hn h2
 obtain⟨o1,ho1⟩:∃ o:Obj,o=.cells #[.bool true,.slice kp n kc,.slice vp n vc,.slice ip ni ic] 121:=⟨_,rfl⟩;obtain⟨o2,ho2⟩:∃ o:Obj,o=.cells #[.bool false,.slice none 0 0,.slice none 0 0,.slice none 0 0] 121:=⟨_,rfl⟩;have K0:Kept w ((w.alloc o1).alloc o2).drew:=(((Kept.refl w).alloc _).alloc _).drew;have P0:C4 ((w.alloc o1).alloc o2).drew w.heap.size 121 (.bool true) (.slice kp n kc) (.slice vp n vc) (.slice ip ni ic):=by subst ho1;exact (((C4.alloc w 121 _ _ _ _).kept ((Kept.refl _).alloc _))).drew
 have R0:C4 ((w.alloc o1).alloc o2).drew (w.heap.size+1) 121 (.bool false) (.slice none 0 0) (.slice none 0 0) (.slice none 0 0):=by subst ho2;rw[<- size_alloc w o1];exact (C4.alloc _ 121 _ _ _ _).drew
 subst ho1;subst ho2;obtain⟨c0,c1,c2,c3⟩:=P0.cs;clear hk hv h1 h2;go_enter Tryz.func144,Tryz.ntmps144;go_wp2_with fail;go_region_held3 (fun W=>W.cell? ⟨w.heap.size,1,none⟩=some (.slice kp n kc)/\W.cell? ⟨w.heap.size,2,none⟩=some (.slice vp n vc)) (go_keep) (first
  | (go_at_call 177;(with_reducible refine (HC.out _ K0).mono ?_);rintro e v1 ⟨kp',aY,rfl,O1,k1⟩;have P1:=P0.kept k1;have R1:=R0.kept k1;have K1:=K0.trans k1;obtain⟨c10,c11,c12,c13⟩:=P1.cs)
  | (go_at_call 114;(with_reducible refine (uB _).mono ?_);rintro e v2 ⟨rfl,k2⟩;have P2:=P1.kept k2;have R2:=R1.kept k2;have K2:=K1.trans k2;obtain⟨c20,c21,WQ,c23⟩:=P2.cs)
  | (go_at_call 178;(with_reducible refine (HS.out _ K2).mono ?_);rintro e v3 ⟨bO,rfl,O3,k3⟩;have R3:=R2.kept k3;have K3:=K2.trans k3;have P3:=P2.kept k3;obtain⟨Wu,c31,c32,QY⟩:=P3.cs;obtain⟨⟨g0,f0⟩,⟨g1,f1⟩,⟨g2,f2⟩,⟨g3,f3⟩,hfin⟩:=aD R3.out (.bool true) (.slice kp' n aY) (.slice bO n n) (.slice none 0 0)))
 all_goals generalize hW:((((v3.setCell ⟨(w.heap.size+1),0,none⟩ (.bool true)).setCell ⟨(w.heap.size+1),1,none⟩ (.slice kp' n aY)).setCell ⟨(w.heap.size+1),2,none⟩ (.slice bO n n)).setCell ⟨(w.heap.size+1),3,none⟩ (.slice none 0 0))=WF at hfin ⊢
 go_wp2;refine bodyPost_ret (v:=.agg #[.bool true,.slice kp' n aY,.slice bO n n,.slice none 0 0]) ?_ rfl ⟨_,_,_,rfl,?_,?_,?_⟩
 ·exact results_cell_row (p:=2) rfl _ _ (w.heap.size+1) 121 #[.bool true,.slice kp' n aY,.slice bO n n,.slice none 0 0] (0,0) _ rfl hfin Tryz.underlying121 rfl aN
 ·have hb:=R0.lt
  rw[<- hW];exact (((O1.kept (k2.trans k3)).bS hb _ _ _ _).mono K0.size)
 ·have hb:=R2.lt
  rw[<- hW];exact ((O3.bS hb _ _ _ _).mono K2.size)
 ·rw[<- hW]
  exact K3.bS (by omega) _ _ _ _
variable {nv:Nat}
theorem Dq{KC VC:List Value}(hk:Rw w 1 kp n kc KC)(hv:Rw w 1 ip (n+1) ic VC)(h1:∀ u∈KC,u.oneCell'=true)(h2:∀ u∈VC,u.oneCell'=true)(hn:n+1<=100000):
 Calls Tryz.prog 144 #[.agg #[.bool false,.slice kp n kc,.slice vp nv vc,.slice ip (n+1) ic]] w fun e w'=>∃ kp' aY bO,e=.returned (.agg #[.bool false,.slice kp' n aY,.slice none 0 0,.slice bO (n+1) (n+1)])/\Own w' w.heap.size 9 1 kp' n aY KC/\Own w' w.heap.size 3 1 bO (n+1) (n+1) VC/\Kept w w':=by
 have HC:Hid (∀ W,Kept w W->Calls Tryz.prog 177 #[.slice kp n kc] W fun e w'=>∃ p' c',e=.returned (.slice p' n c')/\Own w' W.heap.size 9 1 p' n c' KC/\Kept W w'):=fun W hW=>Bv (hW.rw hk) (by omega) h1
 have HS:Hid (∀ W,Kept w W->Calls Tryz.prog 179 #[.slice ip (n+1) ic,.int .i64 ((n:Int)+1),.int .i64 (-1)] W fun e w'=>∃ p',e=.returned (.slice p' (n+1) (n+1))/\Own w' W.heap.size 3 1 p' (n+1) (n+1) VC/\Kept W w'):=fun W hW=>by have a:=Rq (-1) (hW.rw hv) (by omega) h2;rwa [Int.natCast_add]at a
 obtain⟨o1,ho1⟩:∃ o:Obj,o=.cells #[.bool false,.slice kp n kc,.slice vp nv vc,.slice ip (n+1) ic] 121:=⟨_,rfl⟩;obtain⟨o2,ho2⟩:∃ o:Obj,o=.cells #[.bool false,.slice none 0 0,.slice none 0 0,.slice none 0 0] 121:=⟨_,rfl⟩;have K0:Kept w ((w.alloc o1).alloc o2).drew:=(((Kept.refl w).alloc _).alloc _).drew;have P0:C4 ((w.alloc o1).alloc o2).drew w.heap.size 121 (.bool false) (.slice kp n kc) (.slice vp nv vc) (.slice ip (n+1) ic):=by subst ho1;exact (((C4.alloc w 121 _ _ _ _).kept ((Kept.refl _).alloc _))).drew
 have R0:C4 ((w.alloc o1).alloc o2).drew (w.heap.size+1) 121 (.bool false) (.slice none 0 0) (.slice none 0 0) (.slice none 0 0):=by subst ho2;rw[<- size_alloc w o1];exact (C4.alloc _ 121 _ _ _ _).drew
 subst ho1;subst ho2;obtain⟨c0,c1,c2,c3⟩:=P0.cs;have u1:IntKind.i64.wrap ((n:Int)+1)=(n:Int)+1:=by rw[IntKind.wrap_i64];omega
 clear hk hv h1 h2;go_enter Tryz.func144,Tryz.ntmps144;go_wp2_with fail;go_region_held3 (fun W=>W.cell? ⟨w.heap.size,1,none⟩=some (.slice kp n kc)/\W.cell? ⟨w.heap.size,3,none⟩=some (.slice ip (n+1) ic)) (go_keep) (first
  | (go_at_call 177;(with_reducible refine (HC.out _ K0).mono ?_);rintro e v1 ⟨kp',aY,rfl,O1,k1⟩;have P1:=P0.kept k1;have R1:=R0.kept k1;have K1:=K0.trans k1;obtain⟨c10,c11,c12,c13⟩:=P1.cs)
  | (go_at_call 179;(with_reducible refine (HS.out _ K1).mono ?_);rintro e v3 ⟨bO,rfl,O3,k3⟩;have R3:=R1.kept k3;have K3:=K1.trans k3;have P3:=P1.kept k3;obtain⟨Wu,c31,c32,QY⟩:=P3.cs;obtain⟨⟨g0,f0⟩,⟨g1,f1⟩,⟨g2,f2⟩,⟨g3,f3⟩,hfin⟩:=aD R3.out (.bool false) (.slice kp' n aY) (.slice none 0 0) (.slice bO (n+1) (n+1))))
 all_goals generalize hW:((((v3.setCell ⟨(w.heap.size+1),0,none⟩ (.bool false)).setCell ⟨(w.heap.size+1),1,none⟩ (.slice kp' n aY)).setCell ⟨(w.heap.size+1),2,none⟩ (.slice none 0 0)).setCell ⟨(w.heap.size+1),3,none⟩ (.slice bO (n+1) (n+1)))=WF at hfin ⊢
 go_wp2;refine bodyPost_ret (v:=.agg #[.bool false,.slice kp' n aY,.slice none 0 0,.slice bO (n+1) (n+1)]) ?_ rfl ⟨_,_,_,rfl,?_,?_,?_⟩
 ·exact results_cell_row (p:=2) rfl _ _ (w.heap.size+1) 121 #[.bool false,.slice kp' n aY,.slice none 0 0,.slice bO (n+1) (n+1)] (0,0) _ rfl hfin Tryz.underlying121 rfl aN
 ·have hb:=R0.lt
  rw[<- hW];exact (((O1.kept k3).bS hb _ _ _ _).mono K0.size)
 ·have hb:=R1.lt
  rw[<- hW];exact ((O3.bS hb _ _ _ _).mono K1.size)
 ·rw[<- hW]
  exact K3.bS (by omega) _ _ _ _
variable {l:Bool}
theorem wm{KC VC:List Value}(hk:Rw w 1 kp n kc KC)(hv:Rw w 3 vp n vc VC)(h1:∀ u∈KC,u.oneCell'=true)(h2:∀ u∈VC,u.oneCell'=true)(hn:n<=100000):
 Calls Tryz.prog 113 #[.agg #[.bool l,.slice kp n kc,.slice vp n vc,.slice ip ni ic]] w fun e w'=>∃ kp' aY bO,e=.returned (.agg #[.bool true,.slice kp' n aY,.slice bO n n,.slice none 0 0])/\Own w' w.heap.size 9 1 kp' n aY KC/\Own w' w.heap.size 77 3 bO n n VC/\Kept w w':=by
 have HC:Hid (∀ W,Kept w W->Calls Tryz.prog 144 #[.agg #[.bool true,.slice kp n kc,.slice vp n vc,.slice none 0 0]] W fun e w'=>∃ kp' aY bO,e=.returned (.agg #[.bool true,.slice kp' n aY,.slice bO n n,.slice none 0 0])/\Own w' W.heap.size 9 1 kp' n aY KC/\Own w' W.heap.size 77 3 bO n n VC/\Kept W w'):=fun W hW=>yl (hW.rw hk) (hW.rw hv) h1 h2 hn
 obtain⟨o1,ho1⟩:∃ o:Obj,o=.cells #[.bool l,.slice kp n kc,.slice vp n vc,.slice ip ni ic] 121:=⟨_,rfl⟩;obtain⟨o2,ho2⟩:∃ o:Obj,o=.cells #[.bool false,.slice none 0 0,.slice none 0 0,.slice none 0 0] 121:=⟨_,rfl⟩;have K0:Kept w ((w.alloc o1).alloc o2):=((Kept.refl w).alloc _).alloc _;have R0:C4 ((w.alloc o1).alloc o2) (w.heap.size+1) 121 (.bool false) (.slice none 0 0) (.slice none 0 0) (.slice none 0 0):=by subst ho2;rw[<- size_alloc w o1];exact C4.alloc _ 121 _ _ _ _
 subst ho1;subst ho2;clear hk hv h1 h2;go_enter Tryz.func113,Tryz.ntmps113;go_wp2_with (go_at_call 144;(with_reducible refine (HC.out _ K0).mono ?_);rintro e v3 ⟨kp',aY,bO,rfl,O1,O3,k1⟩;have R3:=R0.kept k1;have K3:=K0.trans k1;obtain⟨⟨g0,f0⟩,⟨g1,f1⟩,⟨g2,f2⟩,⟨g3,f3⟩,hfin⟩:=aD R3.out (.bool true) (.slice kp' n aY) (.slice bO n n) (.slice none 0 0));generalize hW:((((v3.setCell ⟨(w.heap.size+1),0,none⟩ (.bool true)).setCell ⟨(w.heap.size+1),1,none⟩ (.slice kp' n aY)).setCell ⟨(w.heap.size+1),2,none⟩ (.slice bO n n)).setCell ⟨(w.heap.size+1),3,none⟩ (.slice none 0 0))=WF at hfin ⊢;refine bodyPost_ret (v:=.agg #[.bool true,.slice kp' n aY,.slice bO n n,.slice none 0 0]) ?_ rfl ⟨_,_,_,rfl,?_,?_,?_⟩
 ·exact results_cell_row (p:=2) rfl _ _ (w.heap.size+1) 121 #[.bool true,.slice kp' n aY,.slice bO n n,.slice none 0 0] (0,0) _ rfl hfin Tryz.underlying121 rfl aN
 ·have hb:=R0.lt
  rw[<- hW];exact ((O1.bS hb _ _ _ _).mono K0.size)
 ·have hb:=R0.lt
  rw[<- hW];exact ((O3.bS hb _ _ _ _).mono K0.size)
 ·rw[<- hW]
  exact K3.bS (by omega) _ _ _ _
theorem gW{KC VC IC:List Value}(hk:Rw w 1 kp n kc KC)(hv:Rw w 3 vp nv vc VC)(hi:Rw w 1 ip ni ic IC)(h1:∀ u∈KC,u.oneCell'=true)(h2:∀ u∈VC,u.oneCell'=true)(h3:∀ u∈IC,u.oneCell'=true)(hn:n<=100000)(Nn:nv<=100000)(hni:ni<=100000):
 Calls Tryz.prog 148 #[.agg #[.bool l,.slice kp n kc,.slice vp nv vc,.slice ip ni ic]] w fun e w'=>∃ kp' aY bO eO kY kZ,e=.returned (.agg #[.bool l,.slice kp' n aY,.slice bO nv eO,.slice kY ni kZ])/\Own w' w.heap.size 9 1 kp' n aY KC/\Own w' w.heap.size 77 3 bO nv eO VC/\Own w' w.heap.size 3 1 kY ni kZ IC/\Kept w w':=by
 have HC:Hid (∀ W,Kept w W->Calls Tryz.prog 177 #[.slice kp n kc] W fun e w'=>∃ p' c',e=.returned (.slice p' n c')/\Own w' W.heap.size 9 1 p' n c' KC/\Kept W w'):=fun W hW=>Bv (hW.rw hk) hn h1
 have HS:Hid (∀ W,Kept w W->Calls Tryz.prog 183 #[.slice vp nv vc] W fun e w'=>∃ p' c',e=.returned (.slice p' nv c')/\Own w' W.heap.size 77 3 p' nv c' VC/\Kept W w'):=fun W hW=>Rm (hW.rw hv) Nn h2
 have HI:Hid (∀ W,Kept w W->Calls Tryz.prog 47 #[.slice ip ni ic] W fun e w'=>∃ p' c',e=.returned (.slice p' ni c')/\Own w' W.heap.size 3 1 p' ni c' IC/\Kept W w'):=fun W hW=>Ro (hW.rw hi) hni h3
 obtain⟨o1,ho1⟩:∃ o:Obj,o=.cells #[.bool l,.slice kp n kc,.slice vp nv vc,.slice ip ni ic] 121:=⟨_,rfl⟩;obtain⟨o2,ho2⟩:∃ o:Obj,o=.cells #[.bool false,.slice none 0 0,.slice none 0 0,.slice none 0 0] 121:=⟨_,rfl⟩;have K0:Kept w ((w.alloc o1).alloc o2).drew:=(((Kept.refl w).alloc _).alloc _).drew;have P0:C4 ((w.alloc o1).alloc o2).drew w.heap.size 121 (.bool l) (.slice kp n kc) (.slice vp nv vc) (.slice ip ni ic):=by subst ho1;exact (((C4.alloc w 121 _ _ _ _).kept ((Kept.refl _).alloc _))).drew
 have R0:C4 ((w.alloc o1).alloc o2).drew (w.heap.size+1) 121 (.bool false) (.slice none 0 0) (.slice none 0 0) (.slice none 0 0):=by subst ho2;rw[<- size_alloc w o1];exact (C4.alloc _ 121 _ _ _ _).drew
 subst ho1;subst ho2;obtain⟨c0,c1,c2,c3⟩:=P0.cs;clear hk hv h1 h2 hi h3;go_enter Tryz.func148,Tryz.ntmps148;go_wp2_with fail;go_region_held3 (fun W=>W.cell? ⟨w.heap.size,0,none⟩=some (.bool l)/\W.cell? ⟨w.heap.size,1,none⟩=some (.slice kp n kc)/\W.cell? ⟨w.heap.size,2,none⟩=some (.slice vp nv vc)/\W.cell? ⟨w.heap.size,3,none⟩=some (.slice ip ni ic)) (go_keep) (first
  | (go_at_call 177;(with_reducible refine (HC.out _ K0).mono ?_);rintro e v1 ⟨kp',aY,rfl,O1,k1⟩;have P1:=P0.kept k1;have R1:=R0.kept k1;have K1:=K0.trans k1;obtain⟨c10,c11,c12,c13⟩:=P1.cs)
  | (go_at_call 183;(with_reducible refine (HS.out _ K1).mono ?_);rintro e v2 ⟨bO,eO,rfl,O2,k2⟩;have P2:=P1.kept k2;have R2:=R1.kept k2;have K2:=K1.trans k2;obtain⟨c20,c21,WQ,c23⟩:=P2.cs)
  | (go_at_call 47;(with_reducible refine (HI.out _ K2).mono ?_);rintro e v3 ⟨kY,kZ,rfl,O3,k3⟩;have R3:=R2.kept k3;have K3:=K2.trans k3;have P3:=P2.kept k3;obtain⟨Wu,c31,c32,QY⟩:=P3.cs;obtain⟨⟨g0,f0⟩,⟨g1,f1⟩,⟨g2,f2⟩,⟨g3,f3⟩,hfin⟩:=aD R3.out (.bool l) (.slice kp' n aY) (.slice bO nv eO) (.slice kY ni kZ)))
 all_goals generalize hW:((((v3.setCell ⟨(w.heap.size+1),0,none⟩ (.bool l)).setCell ⟨(w.heap.size+1),1,none⟩ (.slice kp' n aY)).setCell ⟨(w.heap.size+1),2,none⟩ (.slice bO nv eO)).setCell ⟨(w.heap.size+1),3,none⟩ (.slice kY ni kZ))=WF at hfin ⊢
 go_wp2;refine bodyPost_ret (v:=.agg #[.bool l,.slice kp' n aY,.slice bO nv eO,.slice kY ni kZ]) ?_ rfl ⟨_,_,_,_,_,_,rfl,?_,?_,?_,?_⟩
 ·exact results_cell_row (p:=2) rfl _ _ (w.heap.size+1) 121 #[.bool l,.slice kp' n aY,.slice bO nv eO,.slice kY ni kZ] (0,0) _ rfl hfin Tryz.underlying121 rfl aN
 ·have hb:=R0.lt
  rw[<- hW];exact (((O1.kept (k2.trans k3)).bS hb _ _ _ _).mono K0.size)
 ·have hb:=R1.lt
  rw[<- hW];exact (((O2.kept k3).bS hb _ _ _ _).mono K1.size)
 ·have hb:=R2.lt
  rw[<- hW];exact ((O3.bS hb _ _ _ _).mono K2.size)
 ·rw[<- hW]
  exact K3.bS (by omega) _ _ _ _
theorem wo:∀ a:List UInt8,Op.bytesLess a a=false
 | []=>rfl
 | x :: r=>by simp[Op.bytesLess,wo r]
theorem ym:∀ a b c:List UInt8,Op.bytesLess a b=true->Op.bytesLess b c=true->Op.bytesLess a c=true
 | _,[],_,h,_=>by simp[Op.bytesLess]at h
 | _,_ :: _,[],_,h=>by simp[Op.bytesLess]at h
 | [],_ :: _,_ :: _,_,_=>rfl
 | x :: a,y :: b,z :: c,h,k=>by
  simp only[Op.bytesLess,Bool.or_eq_true,decide_eq_true_eq,Bool.and_eq_true,beq_iff_eq]at h k ⊢;rcases h with h | ⟨rfl,h⟩
  ·rcases k with k | ⟨rfl,k⟩
   ·exact .inl (by rw[UInt8.lt_iff_toNat_lt]at *;omega)
   ·exact .inl h
  ·rcases k with k | ⟨rfl,k⟩
   ·exact .inl k
   ·exact .inr ⟨rfl,ym a b c h k⟩
theorem yo:∀ a b:List UInt8,Op.bytesLess a b=false->a≠b->Op.bytesLess b a=true
 | [],[],_,h=>absurd rfl h
 | [],_ :: _,h,_=>by simp[Op.bytesLess]at h
 | _ :: _,[],_,_=>rfl
 | x :: a,y :: b,h,k=>by
  simp only[Op.bytesLess,Bool.or_eq_false_iff,decide_eq_false_iff_not,Bool.and_eq_false_iff,beq_eq_false_iff_ne,Bool.or_eq_true,decide_eq_true_eq,Bool.and_eq_true,beq_iff_eq]at h ⊢;obtain⟨h1,h2⟩:=h;by_cases e:x=y
  ·subst e
   refine .inr ⟨rfl,yo a b (h2.resolve_left (fun q=>q rfl)) (fun q=>k (by rw[q]))⟩
  ·refine .inl ?_
   rw[UInt8.lt_iff_toNat_lt]at *;have:x.toNat≠y.toNat:=fun q=>e (UInt8.toNat_inj.1 q)
   omega
def sl (a b:ByteArray):Bool:=Op.bytesLess a.toList b.toList
theorem toList_eq(s:ByteArray):s.toList=s.data.toList:=by
 have:=lJ (un s);rw[rH]at this;rw[this];unfold un;simp[List.map_map,Function.comp_def]
variable {a b:ByteArray}
theorem toList_inj(h:a.toList=b.toList):a=b:=by
 rw[toList_eq,toList_eq]at h;cases a;cases b;simp at h;subst h;rfl
theorem Rv(a b:ByteArray):(a.toList == b.toList)=decide (a=b):=by
 by_cases h:a=b
 ·subst h;simp
 ·have:a.toList≠b.toList:=fun e=>h (toList_inj e)
  simp[h,this]
theorem dY(a:ByteArray):sl a a=false:=wo _
theorem jY{c:ByteArray}(h:sl a b=true)(k:sl b c=true):sl a c=true:=ym _ _ _ h k
theorem lZ(h:sl a b=false)(k:a≠b):sl b a=true:=yo _ _ h (fun e=>k (toList_inj e))
def Up (ks:List ByteArray):Prop:=ks.Pairwise fun a b=>sl a b=true
def bP (key:ByteArray):List ByteArray->Nat
 | []=>0
 | k :: r=>if sl k key=true then bP key r+1 else 0
theorem kN(key:ByteArray):∀ ks,bP key ks<=ks.length
 | []=>aac _
 | k :: r=>by unfold bP;have:=kN key r;split <;> simp <;> omega
theorem ry(key:ByteArray):∀ (ks:List ByteArray) (j:Nat) (k:ByteArray),j<bP key ks->ks[j]? = some k->sl k key=true
 | [],j,k,h,_=>by simp[bP]at h
 | x :: r,j,k,h,e=>by
  unfold bP at h;split at h
  ·cases j with
   | zero=>simp at e;subst e;assumption
   | succ j=>exact ry key r j k (by omega) (by simpa using e)
  ·omega
theorem BA(key:ByteArray):∀ (ks:List ByteArray) (k:ByteArray),ks[bP key ks]? = some k->sl k key=false
 | [],k,e=>by simp at e
 | x :: r,k,e=>by
  unfold bP at e;split at e
  ·exact BA key r k (by simpa using e)
  ·rename_i h
   simp at e;subst e;simpa using h
theorem Np(key:ByteArray){ks:List ByteArray}{i:Nat}(h:∀ j,j<i->∀ k,ks[j]? = some k->sl k key=true)(hi:i<=ks.length)(hk:∀ k,ks[i]? = some k->sl k key=false):bP key ks=i:=by
 have h1:=kN key ks;rcases Nat.lt_trichotomy (bP key ks) i with q | q | q
 ·have hl:bP key ks<ks.length:=by omega
  have a:=BA key ks _ (aae hl);have b:=h _ q _ (aae hl);rw[a]at b;cases b
 ·exact q
 ·have hl:i<ks.length:=by omega
  have a:=ry key ks i _ q (aae hl);have b:=hk _ (aae hl);rw[a]at b;cases b
def gG (key:ByteArray) (ks:List ByteArray):Bool:=decide (ks[bP key ks]? = some key)
structure Vl where
 d:ByteArray
 p:Int
 l:Int
def Vl.cells (v:Vl):List Value:=[.string v.d,.int .i64 v.p,.int .i64 v.l]
def dA (ks:List ByteArray):List Value:=ks.map .string
def aO (is:List Int):List Value:=is.map (.int .i64)
def dQ (vs:List Vl):List Value:=vs.flatMap Vl.cells
theorem eQ(ks:List ByteArray):∀ u∈dA ks,u.oneCell'=true:=by
 intro u hu;unfold dA at hu;obtain⟨x,_,rfl⟩:=List.mem_map.1 hu;rfl
theorem lg(is:List Int):∀ u∈aO is,u.oneCell'=true:=by
 intro u hu;unfold aO at hu;obtain⟨x,_,rfl⟩:=List.mem_map.1 hu;rfl
theorem Vl.one(v:Vl):∀ u∈v.cells,u.oneCell'=true:=by
 intro u hu;simp[Vl.cells]at hu;rcases hu with rfl | rfl | rfl <;> rfl
theorem fQ(vs:List Vl):∀ u∈dQ vs,u.oneCell'=true:=by
 intro u hu;unfold dQ at hu;obtain⟨x,_,h⟩:=List.mem_flatMap.1 hu;exact x.one u h
theorem jZ(v:Vl)(r:List Vl):dQ (v :: r)=v.cells++dQ r:=by simp[dQ]
theorem ma(a b:List Vl):dQ (a++b)=dQ a++dQ b:=by simp[dQ]
theorem FC(a b:List ByteArray):dA (a++b)=dA a++dA b:=by simp[dA]
theorem iK(ks:List ByteArray):(dA ks).length=ks.length:=by simp[dA]
theorem yt(ks:List Int):(aO ks).length=ks.length:=by simp[aO]
theorem iL:∀ vs:List Vl,(dQ vs).length=vs.length*3
 | []=>rfl
 | v :: r=>by rw[jZ,aah,iL r];simp[Vl.cells];omega
theorem yu:∀ (i:Nat) (vs:List Vl),(dQ vs).take (i*3)=dQ (vs.take i)
 | 0,vs=>by simp[dQ]
 | i+1,[]=>by simp[dQ]
 | i+1,v :: r=>by
  rw[List.take_succ_cons,jZ,jZ,<- yu i r,Nat.add_mul,Nat.one_mul,Nat.add_comm (i*3) 3];simp[Vl.cells];rw[show 3+i*3=i*3+1+1+1 by omega];simp
theorem yw:∀ (i:Nat) (vs:List Vl),(dQ vs).drop (i*3)=dQ (vs.drop i)
 | 0,vs=>by simp
 | i+1,[]=>by simp[dQ]
 | i+1,v :: r=>by
  rw[List.drop_succ_cons,jZ,<- yw i r,show (i+1)*3=i*3+1+1+1 by omega];simp[Vl.cells]
variable {i:Nat}
theorem sw{vs:List Vl}{v:Vl}(h:vs[i]? = some v):(dQ vs)[i*3]? = some (.string v.d)/\(dQ vs)[i*3+1]? = some (.int .i64 v.p)/\(dQ vs)[i*3+2]? = some (.int .i64 v.l):=by
 have hl:=(aal.1 h).1;have e:dQ vs=dQ (vs.take i)++(v.cells++dQ (vs.drop (i+1))):=by
  have:=List.getElem_cons_drop hl;rw[(aal.1 h).2]at this;rw[<- jZ,this,<- ma,aax]
 have hn:(dQ (vs.take i)).length=i*3:=by rw[iL,aam];omega
 rw[e];refine⟨?_,?_,?_⟩
 ·rw[aa0 (by omega),hn];simp[Vl.cells]
 ·rw[aa0 (by omega),hn,show i*3+1-i*3=1 by omega];simp[Vl.cells]
 ·rw[aa0 (by omega),hn,show i*3+2-i*3=2 by omega];simp[Vl.cells]
variable {ks:List ByteArray}
theorem vE{k:ByteArray}(h:ks[i]? = some k):(dA ks)[i]? = some (.string k):=by simp[dA,h]
theorem BB{ks:List Int}{k:Int}(h:ks[i]? = some k):(aO ks)[i]? = some (.int .i64 k):=by simp[aO,h]
def ins {α:Type} (l:List α) (i:Nat) (x:α):List α:=l.take i++x :: l.drop i
def del {α:Type} (l:List α) (i:Nat):List α:=l.take i++l.drop (i+1)
theorem yx{α:Type}(l:List α)(i:Nat)(x:α)(h:i<=l.length):(ins l i x).length=l.length+1:=by simp[ins];omega
theorem yz{α:Type}(l:List α)(i:Nat)(h:i<l.length):(del l i).length=l.length-1:=by simp[del];omega
def iA (ks:List ByteArray) (key:ByteArray):List ByteArray:=if gG key ks=true then ks else ins ks (bP key ks) key
def jr (ks:List ByteArray) (vs:List Vl) (key:ByteArray) (v:Vl):List Vl:=if gG key ks=true then vs.set (bP key ks) v else ins vs (bP key ks) v
variable {key:ByteArray}
theorem BC(h:gG key ks=true):ks[bP key ks]? = some key:=by simpa[gG] using h
theorem yA(h:gG key ks=true):bP key ks<ks.length:=(aal.1 (BC h)).1
theorem Vh(hu:Up ks)(key:ByteArray)(h:gG key ks=false):Up (ins ks (bP key ks) key):=by
 unfold Up ins at *;have hs:=hu;rw[<- aax (bP key ks) ks,List.pairwise_append]at hs;obtain⟨h1,h2,h3⟩:=hs;have lo:∀ a∈ks.take (bP key ks),sl a key=true:=by
  intro a ha;obtain⟨j,hj,rfl⟩:=List.mem_iff_getElem.1 ha;have hj':j<bP key ks:=by have:=hj;simp at this;omega
  exact ry key ks j _ hj' (by rw[List.getElem_take];exact aae _)
 have hi:∀ a∈ks.drop (bP key ks),sl key a=true:=by
  intro a ha;cases hd:ks.drop (bP key ks) with
  | nil=>rw[hd]at ha;cases ha
  | cons b r=>
   have hb:ks[bP key ks]? = some b:=by
    have:(ks.drop (bP key ks))[0]? = some b:=by rw[hd];rfl
    simpa using this
   have hb1:=BA key ks b hb;have hbk:b≠key:=fun e=>by rw[e]at hb;simp[gG,hb]at h
   have hkb:=lZ hb1 hbk;rw[hd]at ha h2;rcases aaW.1 ha with rfl | ha
   ·exact hkb
   ·exact jY hkb ((List.pairwise_cons.1 h2).1 a ha)
 rw[List.pairwise_append];refine⟨h1,List.pairwise_cons.2 ⟨hi,h2⟩,fun a ha b hb=>?_⟩;rcases aaW.1 hb with rfl | hb
 ·exact lo a ha
 ·exact h3 a ha b hb
theorem Ry(hu:Up ks)(key:ByteArray):Up (iA ks key):=by
 unfold iA;split
 ·exact hu
 ·rename_i h
  exact Vh hu key (by simpa using h)
theorem wu(ks:List ByteArray)(key:ByteArray):(iA ks key).length=if gG key ks=true then ks.length else ks.length+1:=by
 unfold iA;split
 ·rfl
 ·exact yx _ _ _ (kN _ _)
theorem wB(ks:List ByteArray)(vs:List Vl)(key:ByteArray)(v:Vl)(h:vs.length=ks.length):(jr ks vs key v).length=(iA ks key).length:=by
 rw[wu];unfold jr;split
 ·simp[h]
 ·rw[yx _ _ _ (by rw[h];exact kN _ _),h]
