/- Joined. -/
import Derived.Test.YtifeihnhkbagpaaGreatDoorZat
import Derived.Test.YtifeihnhkbagpaaGreatDoorZbc
set_option maxRecDepth 100000
set_option maxHeartbeats 1000000
namespace Go.Proofs.YtifeihnhkbagpaaGreatDoor.T
open ChangeShapes WideShapes ChangeAt RowKit
open B (Pm pt kG)
open N (Nd)
variable {w:World}{b:Nat}{k:Int}
theorem index_one(hc:w.cell? ⟨b,0,none⟩=some (.int .i64 k)):Calls Tryz.prog 207 #[.slice (some ⟨b,0,none⟩) 2 2,.int .i64 k] w fun e w'=>e=.returned (.int .i64 0)/\w'=w:=by
 go_enter Tryz.func207,Tryz.ntmps207;go_wp2;refine wp_loop_rounds 1 ?_;rw[rounds_succ];go_wp2;go_ret;exact⟨rfl,rfl⟩
theorem KP{j:Int}(hc:w.cell? ⟨b,0,none⟩=some (.int .i64 j))(hd:w.cell? ⟨b,1,none⟩=some (.int .i64 k))(hv:¬ k=j):Calls Tryz.prog 207 #[.slice (some ⟨b,0,none⟩) 2 2,.int .i64 k] w fun e w'=>e=.returned (.int .i64 1)/\w'=w:=by
 go_enter Tryz.func207,Tryz.ntmps207;go_wp2;refine wp_loop_rounds 2 ?_;rw[rounds_succ];go_wp2;rw[rounds_succ];go_wp2;go_ret;exact⟨rfl,rfl⟩
def kindOf (x:Nd):Int:=if x.leaf=true then 2 else 3
theorem rP(x:Nd)(hc:w.cell? ⟨b,0,none⟩=some (.int .i64 2))(hd:w.cell? ⟨b,1,none⟩=some (.int .i64 3)):Calls Tryz.prog 166 #[.slice (some ⟨b,0,none⟩) 2 2,.int .i64 (kindOf x)] w fun e w'=>e=.returned (.bool true)/\w'=w:=by
 unfold kindOf;split
 ·have f:=index_one hc
  go_enter Tryz.func166,Tryz.ntmps166;go_wp2_with (go_at_call 207;(with_reducible refine f.mono ?_);rintro e w1 ⟨rfl,hw1⟩;rw[hw1];clear hw1);go_ret;exact⟨rfl,rfl⟩
 ·have f:=KP hc hd (by decide)
  go_enter Tryz.func166,Tryz.ntmps166;go_wp2_with (go_at_call 207;(with_reducible refine f.mono ?_);rintro e w1 ⟨rfl,hw1⟩;rw[hw1];clear hw1);go_ret;exact⟨rfl,rfl⟩
variable {B p:Nat}{a:G.Ad}{q:G.Pq}
theorem yg(h:G.GA B w p a q)(n:Nat)(hn:n<1024)(x:G.bG)(hx:q.fresh n=some x):
 Calls Tryz.prog 165 #[.pointer (some ⟨p,0,none⟩),.int .i64 n] w fun e w'=>e=.returned (.tuple #[x.val,.int .i64 0])/\N.Kept w w':=by
 have K1:D.Kept w (w.alloc (.cells #[.int .i64 0,.int .i64 0,.int .u64 0,.string ⟨#[]⟩] 157)):=(D.Kept.refl w).alloc _;have k1:=h.kept K1;obtain⟨c0,c1,c2,c3,c4,c5,c6,c7,c8,c9⟩:=k1.cs;have lk:=k1.fm.look n (by omega);rw[show G.nG q.fresh n=x by simp[G.nG,hx],hx]at lk;obtain⟨xk,xn,xg,xs⟩:=x;dsimp only[G.bG.val,Option.isSome_some]at lk;have Z0:=P.Pg.alloc w 0 0 0 ⟨#[]⟩ 157;have K2:P.Kept (w.alloc (.cells #[.int .i64 0,.int .i64 0,.int .u64 0,.string ⟨#[]⟩] 157)) ((w.alloc (.cells #[.int .i64 0,.int .i64 0,.int .u64 0,.string ⟨#[]⟩] 157)).alloc (.cells #[.int .i64 xk,.int .i64 xn,.int .u64 xg,.string xs] 157)):=(P.Kept.refl _).alloc _;have Z1:=K2.pg Z0;obtain⟨⟨z0,h0⟩,⟨z1,h1⟩,⟨z2,h2⟩,z3,h3⟩:=Z1.ready xk xn xg;clear hx;go_enter Tryz.func165,Tryz.ntmps165;go_wp2;have K:N.Kept w ((w.alloc (.cells #[.int .i64 xk,.int .i64 xn,.int .u64 xg,.string xs] 157)).alloc (.cells #[.int .i64 xk,.int .i64 xn,.int .u64 xg,.string xs] 157)):=((N.Kept.refl w).alloc _).alloc _;refine bodyPost_ret (v:=.tuple #[.agg #[.int .i64 xk,.int .i64 xn,.int .u64 xg,.string xs],.int .i64 0]) ?_ rfl ⟨rfl,K⟩;exact P.af (p:=4) (u:=5) (ty:=157) rfl _ _ w.heap.size 157 _ (0,0) _ rfl (((P.Kept.refl _).alloc _).pg (P.Pg.alloc w xk xn xg xs 157)).out Tryz.underlying157 rfl P.jS
variable {kb n:Nat}{fr:Nat×Nat}
theorem yh(h:G.GA B w p a q)(hn:n<1024)(hk:w.heap[kb]? = some (.cells #[.int .i64 2,.int .i64 3] 3 fr))(y:Nd)(xn:Int)(xg:Nat)(xs:ByteArray)(hx:q.fresh n=some ⟨kindOf y,xn,xg,xs⟩):
 Calls Tryz.prog 131 #[.pointer (some ⟨p,0,none⟩),.int .i64 n,.slice (some ⟨kb,0,none⟩) 2 2] w fun e w'=>e=.returned (.tuple #[.agg #[.int .i64 (kindOf y),.int .i64 xn,.int .u64 xg,.string xs],.int .i64 0])/\N.Kept w w':=by
 have f:∀ W,D.Kept w W->Calls Tryz.prog 165 #[.pointer (some ⟨p,0,none⟩),.int .i64 n] W fun e w'=>e=.returned (.tuple #[.agg #[.int .i64 (kindOf y),.int .i64 xn,.int .u64 xg,.string xs],.int .i64 0])/\N.Kept W w':=fun W hW=>yg (h.kept hW) n hn _ hx
 have Z0:=P.Pg.alloc w 0 0 0 ⟨#[]⟩ 157;have K1:D.Kept w (w.alloc (.cells #[.int .i64 0,.int .i64 0,.int .u64 0,.string ⟨#[]⟩] 157)):=(D.Kept.refl w).alloc _;have f1:=f _ K1;have f2:∀ W:World,W.heap[kb]? = some (.cells #[.int .i64 2,.int .i64 3] 3 fr)->Calls Tryz.prog 166 #[.slice (some ⟨kb,0,none⟩) 2 2,.int .i64 (kindOf y)] W fun e w'=>e=.returned (.bool true)/\w'=W:=fun W hc=>rP y (by rw[cell_of_row _ kb _ _ _ _ hc];rfl) (by rw[cell_of_row _ kb _ _ _ _ hc];rfl)
 generalize kindOf y=xk at *;clear h hx f;go_enter Tryz.func131,Tryz.ntmps131;go_wp2_with (first
  | (go_at_call 165;(with_reducible refine f1.mono ?_);rintro e w1 ⟨rfl,k1⟩;have Z1:P.Pg w1 w.heap.size 0 0 0 ⟨#[]⟩ 157:=P.Kept.pg ⟨k1.out⟩ Z0;have K2:P.Kept w1 (w1.alloc (.cells #[.int .i64 xk,.int .i64 xn,.int .u64 xg,.string xs] 157)):=(P.Kept.refl w1).alloc _;have Z2:=K2.pg Z1;have Y2:=P.Pg.alloc w1 xk xn xg xs 157;have kk:N.Kept w w1:=N.Kept.trans ⟨K1.out⟩ k1;have f3:=f2 (w1.alloc (.cells #[.int .i64 xk,.int .i64 xn,.int .u64 xg,.string xs] 157)) (((kk.alloc _).out.block kb (aaa.1 hk).1).trans hk);obtain⟨y0,y1,y2,y3⟩:=Y2.cs;obtain⟨⟨z0,h0⟩,⟨z1,h1⟩,⟨z2,h2⟩,z3,h3⟩:=Z2.ready xk xn xg;have rA:=(Z2.fill xk xn (xg:Nat) xs).out)
  | (go_at_call 166;(with_reducible refine f3.mono ?_);rintro e w2 ⟨rfl,hw2⟩;rw[hw2];clear hw2))
 refine bodyPost_ret (v:=.tuple #[.agg #[.int .i64 xk,.int .i64 xn,.int .u64 xg,.string xs],.int .i64 0]) ?_ rfl ⟨rfl,(kk.alloc _).bS (aac _) _ _ _ _⟩;exact P.af (p:=6) (u:=7) (ty:=157) rfl _ _ w.heap.size 157 _ (0,0) _ rfl rA Tryz.underlying157 rfl P.jS
structure Xm where
 n:Nat
 d:Nat
 g:Nat
 dk:D.Dk
 gen:Nat
 root:Int
 Y:Nat->Option G.bG
def sP (m:Xm) (M:Pm) (k:Nat):Option G.bG:=match M k with
 | some x=>some ⟨kindOf x,(k:Nat),m.gen+1,N.bs x.put⟩
 | none=>m.Y k
def pQ (m:Xm) (M:Pm) (k:Nat):Bool:=decide (k<2) || (M k).isSome || (m.Y k).isSome
structure Pv (B:Nat) (W:World) (p:Nat) (m:Xm) (M:Pm):Prop where
 out:∃ q,G.tZ B W p m.d m.g q/\q.m=m.n/\(q.gen=m.gen/\q.disk=m.dk/\q.root=m.root/\q.doubt=false/\∀ k,q.held k=none)/\(∀ k,q.fresh k=sP m M k)/\(∀ k,k<m.n->q.ut k=pQ m M k)/\(∀ k,k<m.n->q.un k=pQ m M k)/\(∀ k,k<m.n->q.uk k=decide (k<2))
 wU:∀ k x,M k=some x->2<=k/\k<m.n/\x.put.length<=237/\m.Y k=none
 dm:∀ k x,m.Y k=some x->2<=k/\k<m.n
 fine:m.gen<4000/\m.dk.cuts=[]
 few:m.n<=1024
 two:2<=m.n
variable {W W':World}{m:Xm}{M:Pm}
theorem Pv.kept(h:Pv B W p m M)(k:N.Kept W W'):Pv B W' p m M:=by
 obtain⟨q,⟨a,e1,e2,hG⟩,r⟩:=h.out;exact⟨⟨q,⟨a,e1,e2,hG.kept ⟨k.out⟩⟩,r⟩,h.wU,h.dm,h.fine,h.few,h.two⟩
theorem Pv.lt(h:Pv B W p m M):p<W.heap.size:=by
 obtain⟨q,⟨a,e1,e2,hG⟩,r⟩:=h.out;exact (aaa.1 hG.blk).1
structure Ac (w w':World):Prop where
 cells:∀ (k:Nat) (cs:Array Value) (t:TypeId) (fr:Nat×Nat),w.heap[k]? = some (.cells cs t fr)->(t=66\/t=60\/t=145\/t=106\/t=161\/t=53)->w'.heap[k]? = some (.cells cs t fr)
structure Ap (w w':World):Prop where
 cells:∀ (k:Nat) (cs:Array Value) (t:TypeId) (fr:Nat×Nat),w.heap[k]? = some (.cells cs t fr)->(t=66\/t=60\/t=145\/t=106\/t=161\/t=53)->w'.heap[k]? = some (.cells cs t fr)
 maps:∀ (k:Nat) (es:Array MapEntry) (c:Nat),w.heap[k]? = some (.map es c)->w'.heap[k]? = some (.map es c)
variable {w':World}
theorem Ap.ax(k:N.Kept w w'):Ap w w':=⟨fun b _ _ _ h _=>(k.out.block b (aaa.1 h).1).trans h,fun b _ _ h=>(k.out.block b (aaa.1 h).1).trans h⟩
theorem Ap.trans{a b c:World}(h:Ap a b)(k:Ap b c):Ap a c:=⟨fun x cs t fr hx ht=>k.cells x cs t fr (h.cells x cs t fr hx ht) ht,fun x es q hx=>k.maps x es q (h.maps x es q hx)⟩
theorem Ap.other{cs:Array Value}{t:TypeId}(hb:w.heap[b]? = some (.cells cs t fr))(ht:¬ (t=66\/t=60\/t=145\/t=106\/t=161\/t=53))(ho:∀ k o,w.heap[k]? = some o->k≠b->w'.heap[k]? = some o):Ap w w':=by
 refine⟨fun k cs' t' fr' h h2=>ho k _ h ?_,fun k es c h=>ho k _ h ?_⟩
 ·rintro rfl
  rw[hb]at h;injection h with h
  injection h with _ e _
  exact ht (e▸h2)
 ·rintro rfl
  rw[hb]at h;injection h with h
  cases h
theorem Ap.grown{r:Option Nat}(hg:w.grownBy w' r)(hr:∀ b,r=some b->∃ cs t fr,w.heap[b]? = some (.cells cs t fr)/\¬ (t=66\/t=60\/t=145\/t=106\/t=161\/t=53)):Ap w w':=by
 cases r with
 | none=>exact⟨fun b _ _ _ h _=>(hg.block b (aaa.1 h).1 (by simp)).trans h,fun b _ _ h=>(hg.block b (aaa.1 h).1 (by simp)).trans h⟩
 | some b=>
  obtain⟨cs,t,fr,hb,ht⟩:=hr b rfl;exact Ap.other hb ht (fun k o hk hne=>(hg.block k (aaa.1 hk).1 (by simpa using hne)).trans hk)
variable {g:Nat}
theorem IV{d:D.Dk}(h:D.aa B w b g d)(hd:d.cuts=[])(k:Ac w w'):D.aa B w' b g d:=by
 obtain⟨vw,vc,a⟩:=h.out;obtain⟨cur,hg,hc⟩:=a.secs.out;refine⟨vw,vc,⟨k.cells _ _ _ _ a.blk (by decide),⟨cur,k.cells _ _ _ _ hg (by decide),hc⟩,⟨a.waits.1,?_⟩,?_,a.xz,a.Jw⟩⟩
 ·rcases a.waits.2 with h1 | ⟨r,cap,cu,e1,e2,e3,e4⟩
  ·exact .inl h1
  ·exact .inr ⟨r,cap,cu,e1,e2,k.cells _ _ _ _ e3 (by decide),e4⟩
 ·obtain⟨p,c,hv,h1,h2,h3⟩:=a.cuts.out
  refine⟨p,c,hv,h1,h2,fun j hj=>?_⟩;rw[hd]at hj;simp at hj
variable {u:Nat->Bool}
theorem Ak{m l:Nat}(h:S.SA w b g m l u)(k:Ac w w'):S.SA w' b g m l u:=by
 obtain⟨⟨_,_,h1⟩,_,_,h2⟩:=h.blocks;exact h.same ((k.cells _ _ _ _ h1 (by decide)).trans h1.symm) ((k.cells _ _ _ _ h2 (by decide)).trans h2.symm)
theorem Ua{M:Nat->Option G.bG}(h:G.iP w b M)(k:Ap w w'):G.iP w' b M:=by
 obtain⟨_,_,h1⟩:=h.block;exact h.same ((k.maps _ _ _ h1).trans h1.symm)
theorem Pv.ap(h:Pv B W p m M)(k:Ap W W'):Pv B W' p m M:=by
 obtain⟨q,⟨a,e1,e2,hG⟩,hm,hg,r⟩:=h.out;exact⟨⟨q,⟨a,e1,e2,⟨k.cells _ _ _ _ hG.blk (by decide),IV hG.disk (by rw[hg.2.1];exact h.fine.2) ⟨k.cells⟩,Ak hG.sk ⟨k.cells⟩,Ak hG.st ⟨k.cells⟩,Ak hG.sn ⟨k.cells⟩,Ua hG.fm k,Ua hG.hm k,hG.ne,hG.le⟩⟩,hm,hg,r⟩,h.wU,h.dm,h.fine,h.few,h.two⟩
theorem Pv.read(h:Pv B w p m M)(hk:w.heap[kb]? = some (.cells #[.int .i64 2,.int .i64 3] 3 fr)){y:Nd}(hy:M n=some y):
 Calls Tryz.prog 131 #[.pointer (some ⟨p,0,none⟩),.int .i64 n,.slice (some ⟨kb,0,none⟩) 2 2] w fun e w'=>(∃ xg:Nat,e=.returned (.tuple #[.agg #[.int .i64 (kindOf y),.int .i64 n,.int .u64 xg,.string (N.bs y.put)],.int .i64 0]))/\N.Kept w w':=by
 obtain⟨q,⟨a,e1,e2,hG⟩,hm,hg,hf,hu,hk2⟩:=h.out;have hr:=h.wU n y hy;have tq:=h.few;refine (yh hG (n:=n) (by omega) hk y (n:Nat) (m.gen+1) (N.bs y.put) (by rw[hf];unfold sP;rw[hy])).mono ?_;rintro e w' ⟨rfl,k⟩;exact⟨⟨m.gen+1,rfl⟩,k⟩
def fO (M:Pm) (m:Xm):Option Nat:=(List.range m.n).find? fun n=>!pQ m M n
theorem lM(h:fO M m=none):∀ k,2<=k->k<m.n->pQ m M k=true:=by
 intro k _ h2;have:=List.find?_eq_none.1 h k (List.mem_range.2 h2);simpa using this
theorem Vt(h:pQ m M n=false):2<=n/\M n=none/\m.Y n=none:=by
 unfold pQ at h;simp at h;exact⟨by omega,h.1.2,h.2⟩
theorem il(h:fO M m=some n):2<=n/\n<m.n/\M n=none/\m.Y n=none/\∀ j,j<n->pQ m M j=true:=by
 have h1:=List.find?_some h;have h2:=List.mem_range.1 (List.mem_of_find?_eq_some h);obtain⟨a,b,c⟩:=Vt (m:=m) (M:=M) (n:=n) (by simpa using h1);refine⟨a,h2,b,c,fun j hj=>?_⟩;obtain⟨i,hi,e1,e2⟩:=List.find?_eq_some_iff_getElem.1 h |>.2;simp at e1;subst e1;have:=e2 j hj;simpa using this
variable {x:Nd}
theorem Vu(k:Nat):sP m (pt M n x) k=G.eB (sP m M) n ⟨kindOf x,(n:Nat),m.gen+1,N.bs x.put⟩ k:=by
 unfold sP G.eB pt;by_cases e:k=n
 ·subst e;simp
 ·rw[aai e,aai e]
theorem Oh(k:Nat):pQ m (pt M n x) k=S.aS (pQ m M) n k:=by
 unfold pQ S.aS pt;by_cases e:k=n
 ·subst e;simp
 ·rw[aai e,aai e]
theorem IW(h2:2<=n)(hy:m.Y n=none)(k:Nat):pQ m (kG M [n]) k=S.bQ (pQ m M) n k:=by
 unfold pQ S.bQ kG;by_cases e:k=n
 ·subst e;simp[hy];omega
 ·rw[aai e,aai (by simpa using e)]
theorem Sa(hy:m.Y n=none)(k:Nat):sP m (kG M [n]) k=G.oM (sP m M) n k:=by
 unfold sP G.oM kG;by_cases e:k=n
 ·subst e;simp[hy]
 ·rw[aai e,aai (by simpa using e)]
variable {v:Nat->Bool}
theorem nN{m:Nat}(h:∀ k,k<m->u k=v k):∀ k,k<m->S.aS u n k=S.aS v n k:=fun k hk=>by unfold S.aS;split;rfl;exact h k hk
theorem lH{m:Nat}(h:∀ k,k<m->u k=v k):∀ k,k<m->S.bQ u n k=S.bQ v n k:=fun k hk=>by unfold S.bQ;split;rfl;exact h k hk
theorem Pv.mr(h:Pv B w p m M)(hB:B<=w.heap.size)(hL:S.gU w)(x:Nd)(hx:x.put.length<=237)(hf:fO M m=some n):
 Calls Tryz.prog 128 #[.pointer (some ⟨p,0,none⟩),.int .i64 (kindOf x),.string (N.bs x.put)] w fun e w'=>e=.returned (.tuple #[.int .i64 n,.int .i64 0])/\Pv B w' p m (pt M n x)/\G.On B w w':=by
 obtain⟨h1,h2,h3,h4,h5⟩:=il hf;obtain⟨q,hG,hm,hg,hfr,hu,hn,hk⟩:=h.out;have hr:S.jf q.ut q.m 2 (n:Nat):=.inl ⟨n,rfl,h1,by rw[hm];exact h2,by rw[hu n h2];unfold pQ;rw[h3,h4];simp;omega,fun j a b=>by rw[hu j (by omega)];exact h5 j b⟩;have hkd:1<=kindOf x/\kindOf x<=4:=by unfold kindOf;split <;> omega
 refine (G.M3 hG hB hL n hr (by rw[hm];exact h2) (kindOf x) (N.bs x.put) (by have:=h.fine.1;rw[hg.1];omega) hkd.1 hkd.2 (by rw[N.au];exact hx)).mono ?_;rintro e w' ⟨rfl,hG',o⟩;refine⟨rfl,⟨⟨_,hG',hm,hg,fun k=>?_,fun k wN=>?_,fun k wN=>?_,hk⟩,fun k y hy=>?_,h.dm,h.fine,h.few,h.two⟩,o⟩
 ·rw[Vu,<- hg.1,show sP m M=q.fresh from (funext hfr).symm];rfl
 ·rw[Oh];exact nN hu k wN
 ·rw[Oh];exact nN hn k wN
 ·unfold pt at hy
  by_cases e:k=n
  ·subst e;rw[aao rfl]at hy;obtain rfl:=aaq hy;exact⟨h1,h2,hx,h4⟩
  ·rw[aai e]at hy;exact h.wU k y hy
theorem Pv.oo(h:Pv B w p m M)(hL:S.gU w)(kd:Int)(x:ByteArray)(hf:fO M m=none):
 Calls Tryz.prog 128 #[.pointer (some ⟨p,0,none⟩),.int .i64 kd,.string x] w fun e w'=>e=.returned (.tuple #[.int .i64 0,.int .i64 80])/\w'=w:=by
 obtain⟨q,hG,hm,hg,hfr,hu,hn,hk⟩:=h.out;have hr:S.jf q.ut q.m 2 (-1):=.inr ⟨rfl,fun j a b=>by rw[hu j (by omega)];exact lM hf j a (by omega)⟩;exact G.MZ hG hL hr kd x
theorem Pv.drop(h:Pv B w p m M)(hB:B<=w.heap.size){x:Nd}(hx:M n=some x):
 Calls Tryz.prog 112 #[.pointer (some ⟨p,0,none⟩),.int .i64 n] w fun e w'=>e=.returned (.tuple #[])/\Pv B w' p m (kG M [n])/\G.On B w w':=by
 obtain⟨q,hG,hm,hg,hf,hu,hn,hk⟩:=h.out;obtain⟨r1,r2,r3,r4⟩:=h.wU n x hx;refine (G.zU hG hB n r1 (by rw[hm];exact r2)).mono ?_;rintro e w' ⟨rfl,hG',o⟩;have hs:(q.fresh n).isSome=true:=by rw[hf];unfold sP;rw[hx];rfl
 have e1:q.drop n={ q with un:=S.bQ q.un n,ut:=S.bQ q.ut n,fresh:=G.oM q.fresh n }:=by unfold G.Pq.drop;rw[aao hs]
 rw[e1]at hG';refine⟨rfl,⟨⟨_,hG',hm,hg,fun k=>?_,fun k wN=>?_,fun k wN=>?_,hk⟩,fun k y hy=>?_,h.dm,h.fine,h.few,h.two⟩,o⟩
 ·rw[Sa r4,show sP m M=q.fresh from (funext hf).symm]
 ·rw[IW r1 r4];exact lH hu k wN
 ·rw[IW r1 r4];exact lH hn k wN
 ·unfold kG at hy
  by_cases e:k=n
  ·subst e;simp at hy
  ·rw[aai (by simpa using e)]at hy;exact h.wU k y hy
theorem Pv.Rf(h:Pv B w p m M)(hB:B<=w.heap.size):
 Calls Tryz.prog 37 #[.pointer (some ⟨p,0,none⟩)] w fun e w'=>e=.returned (.tuple #[])/\Pv B w' p { m with Y:=fun _=>none } (fun _=>none)/\G.On B w w':=by
 obtain⟨q,hG,hm,hg,hf,hu,hn,hk⟩:=h.out;refine (G.Ka hG hB).mono ?_;rintro e w' ⟨rfl,hG',o⟩;refine⟨rfl,⟨⟨_,hG',hm,hg,fun k=>rfl,fun k wN=>?_,fun k wN=>?_,hk⟩,(fun k x hx=>by cases hx),(fun k x hx=>by cases hx),h.fine,h.few,h.two⟩,o⟩
 ·show q.uk k=_
  rw[hk k wN];simp[pQ]
 ·show q.uk k=_
  rw[hk k wN];simp[pQ]
