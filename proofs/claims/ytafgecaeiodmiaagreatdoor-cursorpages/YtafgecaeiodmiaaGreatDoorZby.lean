/- Joined. -/
import Derived.Test.YtafgecaeiodmiaaGreatDoorZbg
import Derived.Test.YtafgecaeiodmiaaGreatDoorZbw
import Derived.Test.YtafgecaeiodmiaaGreatDoorZbx
namespace Go.Proofs.YtafgecaeiodmiaaGreatDoor.T
open Go.ChangeShapes Go.WideShapes Go.ChangeAt Go.RowKit
open B (Pm)
open N (Nd NV Rw Rx Own Kept icl Vl C4 C3 blk)
def pints (l:List Nat):List Int:=l.map fun n:Nat=>(n:Int)
theorem pints_append(a b:List Nat):pints (a++b)=pints a++pints b:=by simp[pints]
structure Wt (w0 W:World) (t bw bm:Nat) (pp:Option Addr) (np pc cnt:Nat) (pgs:List Nat) (S:Nat→Bool):Prop where
 k:Kept w0 W
 c4:C4 W bw 79 (.pointer (some ⟨t,0,none⟩)) (.func (.func 15) #[] #[.pointer (some ⟨w0.heap.size,0,none⟩)]) (.map (some bm)) (.slice pp np pc)
 own:Own W (w0.heap.size+1) 3 1 pp np pc (icl (pints pgs))
 box:W.heap[w0.heap.size]? = some (.cells #[.int .i64 (cnt:Nat)] 3)
 ms:MS W bm S
 hb:w0.heap.size<bw∧w0.heap.size<bm
structure Fm (w0:World) (bw bm:Nat) (W W':World) (pp pp':Option Addr):Prop where
 size:W.heap.size≤W'.heap.size
 old:∀ (b:Nat) (o:Obj),W.heap[b]? = some o→b≠w0.heap.size→b≠bw→b≠bm→blk pp≠some b→W'.heap[b]? = some o
 row:blk pp'=blk pp∨∀ b,blk pp'=some b→W.heap.size≤b
theorem Fm.refl(w0:World)(bw bm:Nat)(W:World)(pp:Option Addr):Fm w0 bw bm W W pp pp:=⟨Nat.le_refl _,fun _ _ h _ _ _ _=>h,.inl rfl⟩
theorem Fm.trans{w0:World}{bw bm:Nat}{A B C:World}{p q r:Option Addr}(h:Fm w0 bw bm A B p q)(k:Fm w0 bw bm B C q r):Fm w0 bw bm A C p r:=by
 refine⟨Nat.le_trans h.size k.size,fun b o hb h1 h2 h3 h4=>k.old b o (h.old b o hb h1 h2 h3 h4) h1 h2 h3 (fun e=>?_),?_⟩
 ·rcases h.row with hr | hr
  ·rw[hr]at e;exact h4 e
  ·have:=hr b e
   have:=(Array.getElem?_eq_some_iff.1 hb).1;omega
 ·rcases k.row with kr | kr
  ·rw[kr];exact h.row
  ·exact .inr fun b e=>Nat.le_trans h.size (kr b e)
theorem Fm.ofKept{w0:World}{bw bm:Nat}{W W':World}(k:Kept W W')(pp:Option Addr):Fm w0 bw bm W W' pp pp:=⟨k.size,fun _ _ h _ _ _ _=>k.block h,.inl rfl⟩
theorem Wt.kept{w0 W W':World}{t bw bm:Nat}{pp:Option Addr}{np pc cnt:Nat}{pgs:List Nat}{S:Nat→Bool}(h:Wt w0 W t bw bm pp np pc cnt pgs S)(k:Kept W W'):Wt w0 W' t bw bm pp np pc cnt pgs S:=
 ⟨h.k.trans k,h.c4.kept k,h.own.kept k,k.block h.box,h.ms.same (k.out.block _ h.ms.lt),h.hb⟩
theorem Wt.len{w0 W:World}{t bw bm:Nat}{pp:Option Addr}{np pc cnt:Nat}{pgs:List Nat}{S:Nat→Bool}(h:Wt w0 W t bw bm pp np pc cnt pgs S):pgs.length=np:=by
 have:=h.own.rw.len;rw[N.icl_length]at this;simp[pints]at this;omega
theorem row_ne{W:World}{B:Nat}{e:TypeId}{sz:Nat}{p:Option Addr}{n c:Nat}{cs:List Value}(o:Own W B e sz p n c cs){b:Nat}(hb:blk p=some b):B≤b∧∃ cs fr,W.heap[b]? = some (.cells cs e fr):=by
 rcases o.cases with⟨rfl,_⟩|⟨g,cur,rfl,h1,h2,h3,_⟩
 ·cases hb
 ·simp[blk]at hb
  subst hb;exact⟨h1,cur,_,h3⟩
theorem own_same2{W W':World}{B:Nat}{e:TypeId}{sz:Nat}{p:Option Addr}{n c:Nat}{cs:List Value}(o:Own W B e sz p n c cs)(h:∀ b,blk p=some b→W'.heap[b]? = W.heap[b]?):Own W' B e sz p n c cs:=by
 refine⟨o.out.1,?_⟩;rcases o.out.2 with h0 | ⟨g,cap,cur,e1,a,b,r⟩
 ·exact .inl h0
 ·refine .inr ⟨g,cap,cur,e1,a,(h g ?_).trans b,r⟩
  injection e1 with e1
  rw[e1];rfl
theorem Wt.mark{w0 W W':World}{t bw bm:Nat}{pp:Option Addr}{np pc cnt:Nat}{pgs:List Nat}{S S':Nat→Bool}(h:Wt w0 W t bw bm pp np pc cnt pgs S)(m:MS W' bm S')(o:G.One bm W W'):Wt w0 W' t bw bm pp np pc cnt pgs S'∧Fm w0 bw bm W W' pp pp:=by
 obtain⟨es,cc,hmap⟩:=h.ms.block;have ne:∀ {b:Nat} {cs:Array Value} {ty:TypeId} {fr:Nat×Nat},W.heap[b]? = some (.cells cs ty fr)→b≠bm:=by
  rintro b cs ty fr hb rfl;rw[hmap]at hb;cases hb
 refine⟨⟨⟨h.k.out.trans (o.below _ (Nat.le_of_lt h.hb.2))⟩,⟨(o.block _ (ne h.c4.out)).trans h.c4.out⟩,own_same2 h.own (fun b hb=>o.block b ?_),(o.block _ (by have:=h.hb.2;omega)).trans h.box,m,h.hb⟩,by rw[o.size];exact Nat.le_refl _,fun b x hb _ _ h3 _=>(o.block b h3).trans hb,.inl rfl⟩;obtain⟨_,cs,fr,h2⟩:=row_ne h.own hb;exact ne h2
theorem Wt.tick{w0 W W':World}{t bw bm:Nat}{pp:Option Addr}{np pc cnt c':Nat}{pgs:List Nat}{S:Nat→Bool}(h:Wt w0 W t bw bm pp np pc cnt pgs S)(hg:W.grownBy W' (some w0.heap.size))(hb:W'.heap[w0.heap.size]? = some (.cells #[.int .i64 (c':Nat)] 3)):Wt w0 W' t bw bm pp np pc c' pgs S∧Fm w0 bw bm W W' pp pp:=by
 have st:∀ {b:Nat} {o:Obj},W.heap[b]? = some o→b≠w0.heap.size→W'.heap[b]? = some o:=fun {b o} h1 h2=>(hg.block b (Array.getElem?_eq_some_iff.1 h1).1 (fun e=>h2 (by injection e))).trans h1
 obtain⟨es,cc,hmap⟩:=h.ms.block;refine⟨⟨N.grown_kept w0 h.k hg (Nat.le_refl _) (fun k e=>by injection e with e;omega),⟨st h.c4.out (by have:=h.hb.1;omega)⟩,own_same2 h.own (fun b e=>?_),hb,h.ms.same ((st hmap (by have:=h.hb.2;omega)).trans hmap.symm),h.hb⟩,hg.size,fun b o hb h1 _ _ _=>st hb h1,.inl rfl⟩;obtain⟨hB,cs,fr,h2⟩:=row_ne h.own e;exact (st h2 (by omega)).trans h2.symm
theorem Wt.push{w0 W w1:World}{t bw bm:Nat}{pp q:Option Addr}{np pc c cnt n:Nat}{pgs:List Nat}{S:Nat→Bool}{tmp:Obj}(h:Wt w0 W t bw bm pp np pc cnt pgs S)(o1:w1.ownsRow (w0.heap.size+1) 3 1 (.slice q (np+1) c) (np+1) (icl (pints pgs)++[.int .i64 (n:Nat)]))(g1:(W.alloc tmp).grownBy w1 (Value.slice pp np pc).ownBlock)(hq:blk q=blk pp∨∀ b,blk q=some b→W.heap.size≤b) :
  C4 w1 bw 79 (.pointer (some ⟨t,0,none⟩)) (.func (.func 15) #[] #[.pointer (some ⟨w0.heap.size,0,none⟩)]) (.map (some bm)) (.slice pp np pc) ∧
  Wt w0 (w1.setCell ⟨bw,3,none⟩ (.slice q (np+1) c)) t bw bm q (np+1) c cnt (pgs++[n]) S∧Fm w0 bw bm W (w1.setCell ⟨bw,3,none⟩ (.slice q (np+1) c)) pp q:=by
 have ka:Kept W (W.alloc tmp):=(Kept.refl W).alloc tmp;have h':=h.kept ka;have K1:=N.grown_kept (B:=w0.heap.size+1) w0 h'.k g1 (Nat.le_succ _) (fun k e=>by rw[N.ob]at e;exact (row_ne h'.own e).1);have st:∀ {b:Nat} {o:Obj},(W.alloc tmp).heap[b]? = some o→blk pp≠some b→w1.heap[b]? = some o:=fun {b o} h1 h2=>(g1.block b (Array.getElem?_eq_some_iff.1 h1).1 (fun e=>h2 (by rw[N.ob]at e;exact e.symm))).trans h1
 have hrow:∀ {b:Nat} {o:Obj},(W.alloc tmp).heap[b]? = some o→(∀ cs fr,o≠.cells cs 3 fr)→blk pp≠some b:=by
  intro b o hb ho e;obtain⟨_,cs,fr,h2⟩:=row_ne h'.own e;rw[h2]at hb;injection hb with hb
  exact ho cs fr hb.symm
 have c1:=st h'.c4.out (hrow h'.c4.out (fun cs fr e=>by injection e with _ e;exact absurd e (by decide)));have b1:=st h'.box (fun e=>by have:=(row_ne h'.own e).1;omega);obtain⟨es,cc,hmap⟩:=h'.ms.block;have m1:=st hmap (hrow hmap (fun cs fr e=>by cases e));have ot:∀ k,k≠bw→(w1.setCell ⟨bw,3,none⟩ (.slice q (np+1) c)).heap[k]? = w1.heap[k]?:=fun k hk=>heap_setCell_other _ ⟨bw,3,none⟩ k _ hk
 have cb:bm≠bw:=by
  rintro rfl;have:=h'.c4.out;rw[hmap]at this;cases this
 have O1:Own w1 (w0.heap.size+1) 3 1 q (np+1) c (icl (pints (pgs++[n]))):=⟨by rw[pints_append];simpa[pints,icl] using o1⟩;refine⟨⟨c1⟩,⟨K1.set (a:=⟨bw,3,none⟩) (Nat.le_of_lt h.hb.1) _,⟨by rw[heap_setCell_same _ bw 3 _ _ _ c1];rfl⟩,own_same2 O1 (fun b e=>ot b ?_),(ot _ (by have:=h.hb.1;omega)).trans b1,h'.ms.same (((ot _ cb).trans m1).trans hmap.symm),h.hb⟩,?_,?_,hq⟩
 ·rintro rfl
  obtain⟨_,cs,fr,h2⟩:=row_ne O1 e;rw[c1]at h2;injection h2 with h2
  injection h2 with _ h2
  exact absurd h2 (by decide)
 ·have:=ka.size
  have:=g1.size;simp;omega
 ·intro b o hb h1 h2 h3 h4
  exact (ot b h2).trans (st (ka.block hb) h4)
theorem turn_one(w:World)(b:Nat)(v:Value):w.grownBy (w.setCell ⟨b,0,none⟩ v) (some b):=
 ⟨rfl,rfl,rfl,by simp,fun k _ hk=>heap_setCell_other _ ⟨b,0,none⟩ k _ (fun e=>hk (by rw[e]))⟩
set_option maxRecDepth 100000 in
theorem each_walk{W:World}{nb cnt:Nat}(hb:W.heap[nb]? = some (.cells #[.int .i64 (cnt:Nat)] 3))(hc:cnt≤100000)(d:ByteArray)(p l:Int) :
  Calls Tryz.prog 15 #[.agg #[.string d,.int .i64 p,.int .i64 l],.pointer (some ⟨nb,0,none⟩)] W fun e w'=>e=.returned (.int .i64 0)∧W.grownBy w' (some nb)∧w'.heap[nb]? = some (.cells #[.int .i64 ((cnt+1:Nat):Int)] 3):=by
 have ka:Kept W (W.alloc (.cells #[.string d,.int .i64 p,.int .i64 l] 35)):=(Kept.refl W).alloc _;have hb1:=ka.block hb;have c0:(W.alloc (.cells #[.string d,.int .i64 p,.int .i64 l] 35)).cell? ⟨nb,0,none⟩=some (.int .i64 (cnt:Nat)):=by rw[cell_of_row _ _ 0 _ _ _ hb1];rfl
 have f0:(W.alloc (.cells #[.string d,.int .i64 p,.int .i64 l] 35)).frozen? ⟨nb,0,none⟩=false:=frozen_of_row _ _ 0 _ _ hb1;obtain⟨m1,hm1⟩:∃ m1:Nat,m1=cnt+1:=⟨_,rfl⟩;rw[← hm1];have hmi:(cnt:Int)+1=(m1:Int):=by omega
 have hg:W.grownBy ((W.alloc (.cells #[.string d,.int .i64 p,.int .i64 l] 35)).setCell ⟨nb,0,none⟩ (.int .i64 (m1:Nat))) (some nb):=(ka.grown _).trans (turn_one _ nb _);have hb2:((W.alloc (.cells #[.string d,.int .i64 p,.int .i64 l] 35)).setCell ⟨nb,0,none⟩ (.int .i64 (m1:Nat))).heap[nb]? = some (.cells #[.int .i64 (m1:Nat)] 3):=by rw[heap_setCell_same _ _ 0 _ _ _ hb1];rfl
 have HF:Hid (W.grownBy ((W.alloc (.cells #[.string d,.int .i64 p,.int .i64 l] 35)).setCell ⟨nb,0,none⟩ (.int .i64 (m1:Nat))) (some nb)∧((W.alloc (.cells #[.string d,.int .i64 p,.int .i64 l] 35)).setCell ⟨nb,0,none⟩ (.int .i64 (m1:Nat))).heap[nb]? = some (.cells #[.int .i64 (m1:Nat)] 3)):=⟨hg,hb2⟩;clear hg hb2 hb hb1 ka hm1;go_enter Tryz.func15,Tryz.ntmps15;go_wp2;go_ret;exact⟨rfl,HF.out⟩
end Go.Proofs.YtafgecaeiodmiaaGreatDoor.T