/- Joined. -/
import Derived.Test.YtafgecaeiodmiaaGreatDoorZaq
import Derived.Test.YtafgecaeiodmiaaGreatDoorZba
namespace Go.Proofs.YtafgecaeiodmiaaGreatDoor.T
open Go.ChangeShapes Go.WideShapes Go.ChangeAt Go.RowKit
open B (Pm pt drp)
open N (Nd)
theorem index_one{w:World}{b:Nat}{k:Int}(hc:w.cell? ⟨b,0,none⟩=some (.int .i64 k)):Calls Tryz.prog 127 #[.slice (some ⟨b,0,none⟩) 2 2,.int .i64 k] w fun e w'=>e=.returned (.int .i64 0)∧w'=w:=by
 go_enter Tryz.func127,Tryz.ntmps127;go_wp2;refine wp_loop_rounds 1 ?_;rw[rounds_succ];go_wp2;go_ret;exact⟨rfl,rfl⟩
theorem index_two{w:World}{b:Nat}{j k:Int}(hc:w.cell? ⟨b,0,none⟩=some (.int .i64 j))(hd:w.cell? ⟨b,1,none⟩=some (.int .i64 k))(hv:¬ k=j):Calls Tryz.prog 127 #[.slice (some ⟨b,0,none⟩) 2 2,.int .i64 k] w fun e w'=>e=.returned (.int .i64 1)∧w'=w:=by
 go_enter Tryz.func127,Tryz.ntmps127;go_wp2;refine wp_loop_rounds 2 ?_;rw[rounds_succ];go_wp2;rw[rounds_succ];go_wp2;go_ret;exact⟨rfl,rfl⟩
def kindOf (x:Nd):Int:=if x.leaf=true then 2 else 3
theorem contains_kind{w:World}{b:Nat}(x:Nd)(hc:w.cell? ⟨b,0,none⟩=some (.int .i64 2))(hd:w.cell? ⟨b,1,none⟩=some (.int .i64 3)):Calls Tryz.prog 100 #[.slice (some ⟨b,0,none⟩) 2 2,.int .i64 (kindOf x)] w fun e w'=>e=.returned (.bool true)∧w'=w:=by
 unfold kindOf;split
 ·have f:=index_one hc
  go_enter Tryz.func100,Tryz.ntmps100;go_wp2_with (go_at_call 127;(with_reducible refine f.mono ?_);rintro e w1 ⟨rfl,hw1⟩;rw[hw1];clear hw1);go_ret;exact⟨rfl,rfl⟩
 ·have f:=index_two hc hd (by decide)
  go_enter Tryz.func100,Tryz.ntmps100;go_wp2_with (go_at_call 127;(with_reducible refine f.mono ?_);rintro e w1 ⟨rfl,hw1⟩;rw[hw1];clear hw1);go_ret;exact⟨rfl,rfl⟩
theorem look_new{B:Nat}{w:World}{p:Nat}{a:G.Ad}{q:G.Pq}(h:G.GA B w p a q)(n:Nat)(hn:n<1024)(x:G.Pag)(hx:q.fresh n=some x) :
  Calls Tryz.prog 99 #[.pointer (some ⟨p,0,none⟩),.int .i64 (n:Nat)] w fun e w'=>e=.returned (.tuple #[x.val,.int .i64 0])∧N.Kept w w':=by
 have K1:D.Kept w (w.alloc (.cells #[.int .i64 0,.int .i64 0,.int .u64 0,.string ⟨#[]⟩] 159)):=(D.Kept.refl w).alloc _;have k1:=h.kept K1;obtain⟨c0,c1,c2,c3,c4,c5,c6,c7,c8,c9⟩:=k1.cs;have lk:=k1.fm.look n (by omega);rw[show G.atK q.fresh n=x by simp[G.atK,hx],hx]at lk;obtain⟨xk,xn,xg,xs⟩:=x;dsimp only[G.Pag.val,Option.isSome_some]at lk;have Z0:=P.Pg.alloc w 0 0 0 ⟨#[]⟩ 159;have K2:P.Kept (w.alloc (.cells #[.int .i64 0,.int .i64 0,.int .u64 0,.string ⟨#[]⟩] 159)) ((w.alloc (.cells #[.int .i64 0,.int .i64 0,.int .u64 0,.string ⟨#[]⟩] 159)).alloc (.cells #[.int .i64 xk,.int .i64 xn,.int .u64 (xg:Nat),.string xs] 159)):=(P.Kept.refl _).alloc _;have Z1:=K2.pg Z0;obtain⟨⟨z0,h0⟩,⟨z1,h1⟩,⟨z2,h2⟩,z3,h3⟩:=Z1.ready xk xn xg;clear hx;go_enter Tryz.func99,Tryz.ntmps99;go_wp2;have K:N.Kept w ((w.alloc (.cells #[.int .i64 xk,.int .i64 xn,.int .u64 (xg:Nat),.string xs] 159)).alloc (.cells #[.int .i64 xk,.int .i64 xn,.int .u64 (xg:Nat),.string xs] 159)):=((N.Kept.refl w).alloc _).alloc _;refine bodyPost_ret (v:=.tuple #[.agg #[.int .i64 xk,.int .i64 xn,.int .u64 (xg:Nat),.string xs],.int .i64 0]) ?_ rfl ⟨rfl,K⟩;exact P.results_two (p:=4) (u:=5) (ty:=159) rfl _ _ w.heap.size 159 _ (0,0) _ rfl (((P.Kept.refl _).alloc _).pg (P.Pg.alloc w xk xn xg xs 159)).out Tryz.underlying159 rfl P.size159
set_option maxRecDepth 100000 in
set_option maxHeartbeats 1000000 in
theorem read_new{B:Nat}{w:World}{p kb n:Nat}{a:G.Ad}{q:G.Pq}{fr:Nat×Nat}(h:G.GA B w p a q)(hn:n<1024)(hk:w.heap[kb]? = some (.cells #[.int .i64 2,.int .i64 3] 3 fr))(y:Nd)(xn:Int)(xg:Nat)(xs:ByteArray)(hx:q.fresh n=some ⟨kindOf y,xn,xg,xs⟩) :
  Calls Tryz.prog 73 #[.pointer (some ⟨p,0,none⟩),.int .i64 (n:Nat),.slice (some ⟨kb,0,none⟩) 2 2] w fun e w'=>e=.returned (.tuple #[.agg #[.int .i64 (kindOf y),.int .i64 xn,.int .u64 (xg:Nat),.string xs],.int .i64 0])∧N.Kept w w':=by
 have f:∀ W,D.Kept w W→Calls Tryz.prog 99 #[.pointer (some ⟨p,0,none⟩),.int .i64 (n:Nat)] W fun e w'=>e=.returned (.tuple #[.agg #[.int .i64 (kindOf y),.int .i64 xn,.int .u64 (xg:Nat),.string xs],.int .i64 0])∧N.Kept W w':=fun W hW=>look_new (h.kept hW) n hn _ hx
 have Z0:=P.Pg.alloc w 0 0 0 ⟨#[]⟩ 159;have K1:D.Kept w (w.alloc (.cells #[.int .i64 0,.int .i64 0,.int .u64 0,.string ⟨#[]⟩] 159)):=(D.Kept.refl w).alloc _;have f1:=f _ K1;have f2:∀ W:World,W.heap[kb]? = some (.cells #[.int .i64 2,.int .i64 3] 3 fr)→Calls Tryz.prog 100 #[.slice (some ⟨kb,0,none⟩) 2 2,.int .i64 (kindOf y)] W fun e w'=>e=.returned (.bool true)∧w'=W:=fun W hc=>contains_kind y (by rw[cell_of_row _ kb _ _ _ _ hc];rfl) (by rw[cell_of_row _ kb _ _ _ _ hc];rfl)
 generalize kindOf y=xk at *;clear h hx f;go_enter Tryz.func73,Tryz.ntmps73;go_wp2_with (first
  | (go_at_call 99;(with_reducible refine f1.mono ?_);rintro e w1 ⟨rfl,k1⟩;have Z1:P.Pg w1 w.heap.size 0 0 0 ⟨#[]⟩ 159:=P.Kept.pg ⟨k1.out⟩ Z0;have K2:P.Kept w1 (w1.alloc (.cells #[.int .i64 xk,.int .i64 xn,.int .u64 (xg:Nat),.string xs] 159)):=(P.Kept.refl w1).alloc _;have Z2:=K2.pg Z1;have Y2:=P.Pg.alloc w1 xk xn xg xs 159;have kk:N.Kept w w1:=N.Kept.trans ⟨K1.out⟩ k1;have f3:=f2 (w1.alloc (.cells #[.int .i64 xk,.int .i64 xn,.int .u64 (xg:Nat),.string xs] 159)) (((kk.alloc _).out.block kb (Array.getElem?_eq_some_iff.1 hk).1).trans hk);obtain⟨y0,y1,y2,y3⟩:=Y2.cs;obtain⟨⟨z0,h0⟩,⟨z1,h1⟩,⟨z2,h2⟩,z3,h3⟩:=Z2.ready xk xn xg;have rA:=(Z2.fill xk xn (xg:Nat) xs).out)
  | (go_at_call 100;(with_reducible refine f3.mono ?_);rintro e w2 ⟨rfl,hw2⟩;rw[hw2];clear hw2))
 refine bodyPost_ret (v:=.tuple #[.agg #[.int .i64 xk,.int .i64 xn,.int .u64 (xg:Nat),.string xs],.int .i64 0]) ?_ rfl ⟨rfl,(kk.alloc _).st4 (Nat.le_refl _) _ _ _ _⟩;exact P.results_two (p:=6) (u:=7) (ty:=159) rfl _ _ w.heap.size 159 _ (0,0) _ rfl rA Tryz.underlying159 rfl P.size159
structure Pv (B:Nat) (W:World) (p m:Nat) (M:Pm):Prop where
 out:∃ d g q,G.GAt B W p d g q∧q.m=m∧(q.gen<4000∧q.disk.cuts=[])∧(∀ k,q.fresh k=(M k).map fun x=>(⟨kindOf x,(k:Nat),q.gen+1,N.bs x.put⟩:G.Pag))∧(∀ k,k<m→q.ut k=(decide (k<2) || (M k).isSome))∧(∀ k,k<m→q.uk k=decide (k<2))
 rng:∀ k x,M k=some x→2≤k∧k<m∧x.put.length≤237
 few:m≤1024
 two:2≤m
theorem Pv.kept{B:Nat}{W W':World}{p m:Nat}{M:Pm}(h:Pv B W p m M)(k:N.Kept W W'):Pv B W' p m M:=by
 obtain⟨d,g,q,⟨a,e1,e2,hG⟩,r⟩:=h.out;exact⟨⟨d,g,q,⟨a,e1,e2,hG.kept ⟨k.out⟩⟩,r⟩,h.rng,h.few,h.two⟩
theorem Pv.lt{B:Nat}{W:World}{p m:Nat}{M:Pm}(h:Pv B W p m M):p<W.heap.size:=by
 obtain⟨d,g,q,⟨a,e1,e2,hG⟩,r⟩:=h.out;exact (Array.getElem?_eq_some_iff.1 hG.blk).1
structure Ap (w w':World):Prop where
 cells:∀ (k:Nat) (cs:Array Value) (t:TypeId) (fr:Nat×Nat),w.heap[k]? = some (.cells cs t fr)→(t=92∨t=86∨t=135∨t=107∨t=145∨t=96)→w'.heap[k]? = some (.cells cs t fr)
 maps:∀ (k:Nat) (es:Array MapEntry) (c:Nat),w.heap[k]? = some (.map es c)→w'.heap[k]? = some (.map es c)
theorem Ap.ofKept{w w':World}(k:N.Kept w w'):Ap w w':=⟨fun b _ _ _ h _=>(k.out.block b (Array.getElem?_eq_some_iff.1 h).1).trans h,fun b _ _ h=>(k.out.block b (Array.getElem?_eq_some_iff.1 h).1).trans h⟩
theorem Ap.trans{a b c:World}(h:Ap a b)(k:Ap b c):Ap a c:=⟨fun x cs t fr hx ht=>k.cells x cs t fr (h.cells x cs t fr hx ht) ht,fun x es q hx=>k.maps x es q (h.maps x es q hx)⟩
theorem Ap.other{w w':World}{b:Nat}{cs:Array Value}{t:TypeId}{fr:Nat×Nat}(hb:w.heap[b]? = some (.cells cs t fr))(ht:¬ (t=92∨t=86∨t=135∨t=107∨t=145∨t=96))(ho:∀ k o,w.heap[k]? = some o→k≠b→w'.heap[k]? = some o):Ap w w':=by
 refine⟨fun k cs' t' fr' h h2=>ho k _ h ?_,fun k es c h=>ho k _ h ?_⟩
 ·rintro rfl
  rw[hb]at h;injection h with h
  injection h with _ e _
  exact ht (e▸h2)
 ·rintro rfl
  rw[hb]at h;injection h with h
  cases h
theorem Ap.grown{w w':World}{r:Option Nat}(hg:w.grownBy w' r)(hr:∀ b,r=some b→∃ cs t fr,w.heap[b]? = some (.cells cs t fr)∧¬ (t=92∨t=86∨t=135∨t=107∨t=145∨t=96)):Ap w w':=by
 cases r with
 | none=>exact⟨fun b _ _ _ h _=>(hg.block b (Array.getElem?_eq_some_iff.1 h).1 (by simp)).trans h,fun b _ _ h=>(hg.block b (Array.getElem?_eq_some_iff.1 h).1 (by simp)).trans h⟩
 | some b=>
  obtain⟨cs,t,fr,hb,ht⟩:=hr b rfl;exact Ap.other hb ht (fun k o hk hne=>(hg.block k (Array.getElem?_eq_some_iff.1 hk).1 (by simpa using hne)).trans hk)
theorem disk_ap{B:Nat}{w w':World}{b g:Nat}{d:D.Dk}(h:D.DiskAt B w b g d)(hd:d.cuts=[])(k:Ap w w'):D.DiskAt B w' b g d:=by
 obtain⟨vw,vc,a⟩:=h.out;obtain⟨cur,hg,hc⟩:=a.secs.out;refine⟨vw,vc,⟨k.cells _ _ _ _ a.blk (by decide),⟨cur,k.cells _ _ _ _ hg (by decide),hc⟩,⟨a.waits.1,?_⟩,?_,a.leb,a.leg⟩⟩
 ·rcases a.waits.2 with h1 | ⟨r,cap,cu,e1,e2,e3,e4⟩
  ·exact .inl h1
  ·exact .inr ⟨r,cap,cu,e1,e2,k.cells _ _ _ _ e3 (by decide),e4⟩
 ·obtain⟨p,c,hv,h1,h2,h3⟩:=a.cuts.out
  refine⟨p,c,hv,h1,h2,fun j hj=>?_⟩;rw[hd]at hj;simp at hj
theorem sa_ap{w w':World}{b g m l:Nat}{u:Nat→Bool}(h:S.SA w b g m l u)(k:Ap w w'):S.SA w' b g m l u:=by
 obtain⟨⟨_,_,h1⟩,_,_,h2⟩:=h.blocks;exact h.same ((k.cells _ _ _ _ h1 (by decide)).trans h1.symm) ((k.cells _ _ _ _ h2 (by decide)).trans h2.symm)
theorem ma_ap{w w':World}{b:Nat}{M:Nat→Option G.Pag}(h:G.MAt w b M)(k:Ap w w'):G.MAt w' b M:=by
 obtain⟨_,_,h1⟩:=h.block;exact h.same ((k.maps _ _ _ h1).trans h1.symm)
theorem Pv.ap{B:Nat}{W W':World}{p m:Nat}{M:Pm}(h:Pv B W p m M)(k:Ap W W'):Pv B W' p m M:=by
 obtain⟨d,g,q,⟨a,e1,e2,hG⟩,hm,hg,r⟩:=h.out;exact⟨⟨d,g,q,⟨a,e1,e2,⟨k.cells _ _ _ _ hG.blk (by decide),disk_ap hG.disk hg.2 k,sa_ap hG.sk k,sa_ap hG.st k,sa_ap hG.sn k,ma_ap hG.fm k,ma_ap hG.hm k,hG.ne,hG.le⟩⟩,hm,hg,r⟩,h.rng,h.few,h.two⟩
theorem Pv.read{B:Nat}{w:World}{p kb m n:Nat}{M:Pm}{fr:Nat×Nat}(h:Pv B w p m M)(hk:w.heap[kb]? = some (.cells #[.int .i64 2,.int .i64 3] 3 fr)){y:Nd}(hy:M n=some y) :
  Calls Tryz.prog 73 #[.pointer (some ⟨p,0,none⟩),.int .i64 (n:Nat),.slice (some ⟨kb,0,none⟩) 2 2] w fun e w'=>(∃ xg:Nat,e=.returned (.tuple #[.agg #[.int .i64 (kindOf y),.int .i64 (n:Nat),.int .u64 (xg:Nat),.string (N.bs y.put)],.int .i64 0]))∧N.Kept w w':=by
 obtain⟨d,g,q,⟨a,e1,e2,hG⟩,hm,hg,hf,hu,hk2⟩:=h.out;have hr:=h.rng n y hy;have hfew:=h.few;refine (read_new hG (n:=n) (by omega) hk y (n:Nat) (q.gen+1) (N.bs y.put) (by rw[hf,hy];rfl)).mono ?_;rintro e w' ⟨rfl,k⟩;exact⟨⟨q.gen+1,rfl⟩,k⟩
theorem first_free(M:Pm)(m:Nat):(∃ n,2≤n∧n<m∧M n=none∧∀ j,2≤j→j<n→(M j).isSome=true)∨∀ k,2≤k→k<m→(M k).isSome=true:=by
 induction m with
 | zero=>exact .inr (fun k _ h=>by omega)
 | succ m ih=>
  rcases ih with⟨n,h1,h2,h3,h4⟩|h
  ·exact .inl ⟨n,h1,by omega,h3,h4⟩
  ·cases hm:M m with
   | some x=>
    refine .inr (fun k h1 h2=>?_);by_cases e:k=m
    ·rw[e,hm];rfl
    ·exact h k h1 (by omega)
   | none=>
    by_cases h2:2≤m
    ·exact .inl ⟨m,h2,by omega,hm,fun j a b=>h j a (by omega)⟩
    ·exact .inr (fun k a b=>by omega)
theorem Pv.add{B:Nat}{w:World}{p m:Nat}{M:Pm}(h:Pv B w p m M)(hB:B≤w.heap.size)(hL:S.Lds w)(x:Nd)(hx:x.put.length≤237) :
  Calls Tryz.prog 125 #[.pointer (some ⟨p,0,none⟩),.int .i64 (kindOf x),.string (N.bs x.put)] w fun e w'=>(∃ n:Nat,e=.returned (.tuple #[.int .i64 (n:Nat),.int .i64 0])∧2≤n∧n<m∧M n=none∧Pv B w' p m (pt M n x)∧G.On B w w'∧∀ j,2≤j→j<n→(M j).isSome=true) ∨
   (e=.returned (.tuple #[.int .i64 0,.int .i64 80])∧w'=w∧∀ k,2≤k→k<m→(M k).isSome=true):=by
 obtain⟨d,g,q,hG,hm,hg,hf,hu,hk⟩:=h.out;rcases first_free M m with⟨n,h1,h2,h3,h4⟩|h1
 ·have hr:S.IsFirst q.ut q.m 2 (n:Nat):=.inl ⟨n,rfl,h1,by rw[hm];exact h2,by rw[hu n h2,h3];simp;omega,fun j a b=>by rw[hu j (by omega),h4 j a b];simp⟩
  have hkd:1≤kindOf x∧kindOf x≤4:=by unfold kindOf;split <;> omega
  refine (G.add_ok hG hB hL n hr (by rw[hm];exact h2) (kindOf x) (N.bs x.put) (by have:=hg.1;omega) hkd.1 hkd.2 (by rw[N.bs_size];exact hx)).mono ?_;rintro e w' ⟨rfl,hG',o⟩;refine .inl ⟨n,rfl,h1,h2,h3,⟨⟨d,g,_,hG',hm,hg,?_,?_,hk⟩,?_,h.few,h.two⟩,o,h4⟩
  ·intro k
   show G.putM q.fresh n _ k=_;unfold G.putM pt;by_cases e:k=n
   ·subst e;simp;rfl
   ·rw[if_neg e,if_neg e];exact hf k
  ·intro k hkm
   show S.useAt q.ut n k=_;unfold S.useAt pt;by_cases e:k=n
   ·subst e;simp
   ·rw[if_neg e,if_neg e];exact hu k hkm
  ·intro k y hy
   unfold pt at hy;by_cases e:k=n
   ·subst e;rw[if_pos rfl]at hy;obtain rfl:=Option.some.inj hy;exact⟨h1,h2,hx⟩
   ·rw[if_neg e]at hy;exact h.rng k y hy
 ·have hr:S.IsFirst q.ut q.m 2 (-1):=.inr ⟨rfl,fun j a b=>by rw[hu j (by omega),h1 j a (by omega)];simp⟩
  refine (G.add_full hG hL hr (kindOf x) (N.bs x.put)).mono ?_;rintro e w' ⟨rfl,hw⟩;exact .inr ⟨rfl,hw,h1⟩
theorem Pv.drop{B:Nat}{w:World}{p m n:Nat}{M:Pm}(h:Pv B w p m M)(hB:B≤w.heap.size){x:Nd}(hx:M n=some x) :
  Calls Tryz.prog 72 #[.pointer (some ⟨p,0,none⟩),.int .i64 (n:Nat)] w fun e w'=>e=.returned (.tuple #[])∧Pv B w' p m (drp M [n])∧G.On B w w':=by
 obtain⟨d,g,q,hG,hm,hg,hf,hu,hk⟩:=h.out;obtain⟨r1,r2,r3⟩:=h.rng n x hx;refine (G.drop_walk hG hB n r1 (by rw[hm];exact r2)).mono ?_;rintro e w' ⟨rfl,hG',o⟩;have hs:(q.fresh n).isSome=true:=by rw[hf,hx];rfl
 have e1:q.drop n={ q with un:=S.freeAt q.un n,ut:=S.freeAt q.ut n,fresh:=G.delM q.fresh n }:=by unfold G.Pq.drop;rw[if_pos hs]
 rw[e1]at hG';refine⟨rfl,⟨⟨d,g,_,hG',hm,hg,?_,?_,hk⟩,?_,h.few,h.two⟩,o⟩
 ·intro k
  show G.delM q.fresh n k=_;unfold G.delM drp;by_cases e:k=n
  ·subst e;simp
  ·rw[if_neg e,if_neg (by simpa using e)];exact hf k
 ·intro k hkm
  show S.freeAt q.ut n k=_;unfold S.freeAt drp;by_cases e:k=n
  ·subst e;simp;omega
  ·rw[if_neg e,if_neg (by simpa using e)];exact hu k hkm
 ·intro k y hy
  unfold drp at hy;by_cases e:k=n
  ·subst e;simp at hy
  ·rw[if_neg (by simpa using e)]at hy;exact h.rng k y hy
end Go.Proofs.YtafgecaeiodmiaaGreatDoor.T