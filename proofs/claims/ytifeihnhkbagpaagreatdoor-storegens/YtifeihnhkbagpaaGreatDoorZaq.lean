/- Joined. -/
import Derived.Test.YtifeihnhkbagpaaGreatDoorZam
import Derived.Test.YtifeihnhkbagpaaGreatDoorZap
import Derived.LoopN
set_option maxRecDepth 100000
set_option maxHeartbeats 4000000
namespace Go.Proofs.YtifeihnhkbagpaaGreatDoor.G
open ChangeShapes WideShapes ChangeAt RowKit
open D (Dk Ok aa)
open P (bs oZ oV fZ Small)
theorem qI{P:Program}{fn:Func}{p:Tmp}{ty:TypeId}(h:fn.results=#[.cell p ty])(tmps:Array Value)(w:World)(g:Nat)(t:TypeId)(cs:Array Value)(fr:Nat×Nat)(d:TypeDesc)(hp:tmps.getD p undef=.pointer (some ⟨g,0,none⟩))(hg:w.heap[g]? = some (.cells cs t fr))(hu:P.underlying ty=some d)(hd:(match d with | .struct _ | .array _ _=>true | _=>false)=true)(hi:(P.info? ty).map (·.size)=some cs.size) :
    (results fn tmps).run P w=.ok (.agg cs) w:=by
  have e:(results fn tmps).run P w=((asAddr (tmps.getD p undef)).run P w).andThen fun a w₁=>(loadVar ty a).run P w₁:=by
    simp only[results,h];simp[Sem.run_bind,Result.andThen]
  rw[e,hp];simp[asAddr,run_loadVar_row w g t ty cs fr d hg hu hd hi]
theorem wP:Calm 157:=by unfold Calm D.Calm;decide
theorem Q5:Calm 88:=by unfold Calm D.Calm;decide
theorem xA(w:World):Calls Tryz.prog 43 #[.pointer none] w fun e w'=>e=.returned (.int .i64 0)/\w'=w:=by
 go_enter Tryz.func43,Tryz.ntmps43;go_wp2;go_ret;exact⟨rfl,rfl⟩
variable {B p d g:Nat}{w:World}{q:Pq}
theorem xV(h:tZ B w p d g q):Calls Tryz.prog 44 #[.pointer (some ⟨p,0,none⟩)] w fun e w'=>e=.returned (.agg #[.int .u64 q.gen,.int .i64 q.root])/\D.Kept w w':=by
 obtain⟨a,rfl,rfl,k⟩:=h.out;clear h;obtain⟨c0,c1,c2,c3,c4,c5,c6,c7,c8,c9⟩:=k.cs;have Z:=P.Sp.alloc w 0 0;obtain⟨⟨z0,h0⟩,z1,h1⟩:=Z.ready (q.gen:Nat);have k2:=k.kept ((D.Kept.refl w).alloc (.cells #[.int .u64 0,.int .i64 0] 88));obtain⟨_,d1,d2,_⟩:=k2.cs;clear c0 c3 c4 c5 c6 c7 c8 c9 k k2;go_enter Tryz.func44,Tryz.ntmps44;go_wp2;refine bodyPost_ret (v:=.agg #[.int .u64 q.gen,.int .i64 q.root]) ?_ rfl ⟨rfl,(D.Kept.refl w).alloc _⟩;exact qI (p:=2) (ty:=88) rfl _ _ w.heap.size 88 _ (0,0) _ rfl (P.Sp.alloc w q.gen q.root).out Tryz.underlying88 rfl P.nH
theorem lG(h:tZ B w p d g q):Calls Tryz.prog 43 #[.pointer (some ⟨p,0,none⟩)] w fun e w'=>e=.returned (.int .i64 (S.cnt q.m q.ut:Nat))/\w'=w:=by
 obtain⟨a,rfl,rfl,k⟩:=h.out;clear h;obtain⟨c0,c1,c2,c3,c4,c5,c6,c7,c8,c9⟩:=k.cs;have f:=S.lG k.st.at;go_enter Tryz.func43,Tryz.ntmps43;go_wp2_with (go_at_call 67;(with_reducible refine f.mono ?_);rintro e w' ⟨rfl,rfl⟩);go_ret;exact⟨rfl,rfl⟩
def Pq.mark (q:Pq) (n:Nat):Pq:={ q with ut:=S.aS q.ut n,un:=S.aS q.un n,uk:=S.aS q.uk n }
variable {a:Ad}
theorem Q7(k:GA B w p a q)(n:Nat)(hn:n<q.m)(hu:q.ut n=false):Calls Tryz.prog 107 #[.pointer (some ⟨p,0,none⟩),.int .i64 n] w fun e w'=>e=.returned (.bool (!q.uk n))/\(∃ a':Ad,(a'.d=a.d/\a'.g=a.g)/\(a'.mf=a.mf/\a'.mh=a.mh)/\GA B w' p a' (q.mark n))/\On B w w':=by
 obtain⟨c0,c1,c2,c3,c4,c5,c6,c7,c8,c9⟩:=k.cs;have f1:=S.tC k.st n hn;rw[hu]at f1;go_enter Tryz.func107,Tryz.ntmps107;go_wp2_with (first
  | (go_at_call 73;(with_reducible refine f1.mono ?_);rintro e w1 ⟨rfl,gt',s1,o1,Wp⟩;obtain⟨a1,ed1,em1,k1,n1⟩:=k.Zh o1 s1 Wp;obtain⟨c10,c11,c12,c13,c14,c15,c16,c17,c18,c19⟩:=k1.cs;have f2:=S.tC k1.sn n hn)
  | (go_at_call 73;(with_reducible refine f2.mono ?_);rintro e w2 ⟨rfl,gn',s2,o2,Wo⟩;obtain⟨a2,WW,em2,k2,n2⟩:=k1.Zi o2 s2 Wo;obtain⟨c20,c21,WQ,c23,c24,c25,c26,c27,c28,c29⟩:=k2.cs;have f3:=S.tC k2.sk n hn)
  | (go_at_call 73;(with_reducible refine f3.mono ?_);rintro e w3 ⟨rfl,gk',s3,o3,hh3⟩;obtain⟨a3,Yy,em3,k3,n3⟩:=k2.Zg o3 s3 hh3))
 go_ret;exact⟨rfl,⟨a3,⟨(Yy.1.trans WW.1).trans ed1.1,(Yy.2.trans WW.2).trans ed1.2⟩,⟨(em3.1.trans em2.1).trans em1.1,(em3.2.trans em2.2).trans em1.2⟩,k3⟩,(n1.trans n2).trans n3⟩
variable {w':World}
theorem eZ(h:S.gU w)(o:Below B w w')(hB:1<B):S.gU w':=
 ⟨fun j hj=>(World.cell?_of_block (w:=w) (o.block 1 hB)).trans (h.tab j hj)⟩
theorem aC(h:S.gU w)(o:D.Kept w w'):S.gU w':=h.kept ⟨o.out⟩
variable {b m:Nat}{u:Nat->Bool}
theorem C9(h:S.SA w b g m (S.cnt m u) u)(hL:S.gU w)(r:Int)(hr:S.jf u m 2 r):
 Calls Tryz.prog 160 #[.pointer (some ⟨b,0,none⟩),.int .i64 2] w fun e w'=>e=.returned (.int .i64 r)/\w'=w:=by
 refine (S.Ma h.at hL 2 (by decide)).mono ?_;rintro e w' ⟨r',rfl,h1,rfl⟩;have e:r'=r:=S.jf.unique h1 hr;rw[e];exact⟨rfl,rfl⟩
theorem MZ(h:tZ B w p d g q)(hL:S.gU w)(hr:S.jf q.ut q.m 2 (-1))(kd:Int)(s:ByteArray):
 Calls Tryz.prog 128 #[.pointer (some ⟨p,0,none⟩),.int .i64 kd,.string s] w fun e w'=>e=.returned (.tuple #[.int .i64 0,.int .i64 80])/\w'=w:=by
 obtain⟨a,rfl,rfl,k⟩:=h.out;clear h;obtain⟨c0,c1,c2,c3,c4,c5,c6,c7,c8,c9⟩:=k.cs;have f1:=C9 k.st hL (-1) hr;clear hr;go_enter Tryz.func128,Tryz.ntmps128;go_wp2_with (go_at_call 160;(with_reducible refine f1.mono ?_);rintro e w1 ⟨rfl,rfl⟩);go_ret2;exact⟨rfl,rfl⟩
def Pq.add (q:Pq) (n:Nat) (kd:Int) (s:ByteArray):Pq:={ q with ut:=S.aS q.ut n,un:=S.aS q.un n,fresh:=eB q.fresh n ⟨kd,n,q.gen+1,s⟩ }
theorem M3(h:tZ B w p d g q)(hB:B<=w.heap.size)(hL:S.gU w)(n:Nat)(hr:S.jf q.ut q.m 2 (n:Nat))(hn:n<q.m)(kd:Int)(s:ByteArray)(hg:q.gen<4611686018427387904)(h1:1<=kd)(h4:kd<=4)(hs:s.size<=237):
 Calls Tryz.prog 128 #[.pointer (some ⟨p,0,none⟩),.int .i64 kd,.string s] w fun e w'=>e=.returned (.tuple #[.int .i64 n,.int .i64 0])/\tZ B w' p d g (q.add n kd s)/\On B w w':=by
 obtain⟨a,rfl,rfl,k⟩:=h.out;clear h;obtain⟨c0,c1,c2,c3,c4,c5,c6,c7,c8,c9⟩:=k.cs;have hm:=k.st.few;have f1:=C9 k.st hL (n:Nat) hr;have f2:∀ W,Calls Tryz.prog 122 #[.agg #[.int .i64 kd,.int .i64 n,.int .u64 ((q.gen:Int)+1),.string s]] W fun e w'=>e=.returned (.bool true)/\P.Kept W w':=fun W=>P.Hq kd n (q.gen+1) s h1 h4 (by omega) (by omega) hs W
 clear hr h1 h4 hs;go_enter Tryz.func128,Tryz.ntmps128;go_wp2_with (first
  | (go_at_call 160;(with_reducible refine f1.mono ?_);rintro e w1 ⟨rfl,hw1⟩;rw[hw1];clear hw1;have Y0:=P.Pg.alloc w kd n ((q.gen:Int)+1) s 157)
  | (go_at_call 122;(with_reducible refine (f2 _).mono ?_);rintro e w2 ⟨rfl,k2⟩;have K2:D.Kept w w2:=D.Kept.trans ((D.Kept.refl _).alloc _) ⟨k2.out⟩;have g2:=k.kept K2;have Y2:=k2.pg Y0;obtain⟨c20,c21,WQ,c23,c24,c25,c26,c27,c28,c29⟩:=g2.cs;have f3:=S.tC g2.st n hn)
  | (go_at_call 73;(with_reducible refine f3.mono ?_);rintro e w3 ⟨rfl,gt',s3,o3,hh3⟩;obtain⟨a3,Yy,eg3,g3,n3⟩:=g2.Zj o3 s3 hh3;obtain⟨Wu,c31,c32,QY,c34,c35,c36,c37,c38,c39⟩:=g3.cs;have Y3:P.Pg w3 w.heap.size kd n ((q.gen:Int)+1) s 157:=⟨n3.rows _ _ _ _ Y2.out wP⟩;have f4:=S.tC g3.sn n hn)
  | (go_at_call 73;(with_reducible refine f4.mono ?_);rintro e w4 ⟨rfl,gn',s4,o4,hh4⟩;obtain⟨a4,ed4,eg4,g4,n4⟩:=g3.Zk o4 s4 hh4;obtain⟨c40,Zo,c42,c43,c44,c45,c46,c47,c48,c49⟩:=g4.cs;have Y4:P.Pg w4 w.heap.size kd n ((q.gen:Int)+1) s 157:=⟨n4.rows _ _ _ _ Y3.out wP⟩;obtain⟨y0,y1,y2,y3⟩:=Y4.cs;obtain⟨w5,hr5,m5,o5⟩:=iP.store (w:=w4.drew) (g4.fm.same rfl) n (by omega) ⟨kd,n,q.gen+1,s⟩;have hr6:(Instr.mapUpdate 104 (.map (some a4.mf)) (.int .i64 n) (.agg #[.int .i64 kd,.int .i64 n,.int .u64 ((q.gen:Int)+1),.string s])).run Tryz.prog w4.drew=.ok () w5:=hr5;clear hr5;have c5:w5.cell? ⟨p,6,none⟩=some (.map (some a4.mf)):=(World.cell?_of_block (w:=w4) (o5.block _ g4.ps.2.2.2.2.2.2.1)).trans c46;have Y5:P.Pg w5 w.heap.size kd n ((q.gen:Int)+1) s 157:=⟨(o5.block _ (by obtain⟨_,_,hb⟩:=g4.fm.block;exact fM Y4.out hb)).trans Y4.out⟩;obtain⟨x0,x1,x2,x3⟩:=Y5.cs))
 go_region_held3 (fun W=>W.cell? ⟨p,6,none⟩=some (.map (some a4.mf))/\W.cell? ⟨w.heap.size,0,none⟩=some (.int .i64 kd)/\W.cell? ⟨w.heap.size,1,none⟩=some (.int .i64 n)/\W.cell? ⟨w.heap.size,2,none⟩=some (.int .u64 ((q.gen:Int)+1))/\W.cell? ⟨w.heap.size,3,none⟩=some (.string s)) (first | trivial | go_keep) (fail);all_goals go_wp2
 all_goals go_ret2
 all_goals
  obtain⟨g5,n5⟩:=GA.Zl (w:=w4.drew) (g4.kept ((D.Kept.refl w4).drew)) o5 m5
  exact⟨rfl,⟨a4,ed4.trans Yy,eg4.trans eg3,g5⟩,((((On.ax K2 hB).trans n3).trans n4).drew).trans n5⟩
def Pq.drop (q:Pq) (n:Nat):Pq:=if (q.fresh n).isSome then { q with un:=S.bQ q.un n,ut:=S.bQ q.ut n,fresh:=oM q.fresh n } else { q with un:=S.bQ q.un n }
theorem zU(h:tZ B w p d g q)(hB:B<=w.heap.size)(n:Nat)(h2:2<=n)(hn:n<q.m):
 Calls Tryz.prog 112 #[.pointer (some ⟨p,0,none⟩),.int .i64 n] w fun e w'=>e=.returned (.tuple #[])/\tZ B w' p d g (q.drop n)/\On B w w':=by
 obtain⟨a,rfl,rfl,k⟩:=h.out;clear h;obtain⟨c0,c1,c2,c3,c4,c5,c6,c7,c8,c9⟩:=k.cs;have hm:=k.st.few;have f1:=S.Cz k.sn n hn;unfold Pq.drop;cases hf:(q.fresh n).isSome with
 | false=>
  rw[aai (by simp)];go_enter Tryz.func112,Tryz.ntmps112;go_wp2_with (go_at_call 143;(with_reducible refine f1.mono ?_);rintro e w1 ⟨rfl,s1,o1⟩;obtain⟨k1,n1⟩:=k.onN o1 s1;obtain⟨c10,c11,c12,c13,c14,c15,c16,c17,c18,c19⟩:=k1.cs;have lk:=k1.fm.look n (by omega);rw[hf]at lk;generalize nG q.fresh n=xx at lk;obtain⟨pk,pn,pg,ps⟩:=xx;dsimp only[bG.val]at lk);first | go_end0 | refine bodyPost_ret (results_none rfl _ _ _) rfl ?_
  exact⟨rfl,⟨a,rfl,rfl,k1.kept ((D.Kept.refl _).alloc _)⟩,n1.kept ((D.Kept.refl _).alloc _) hB⟩
 | true=>
  rw[aao rfl];go_enter Tryz.func112,Tryz.ntmps112;go_wp2_with (first
   | (go_at_call 143;(with_reducible refine f1.mono ?_);rintro e w1 ⟨rfl,s1,o1⟩;obtain⟨k1,n1⟩:=k.onN o1 s1;obtain⟨c10,c11,c12,c13,c14,c15,c16,c17,c18,c19⟩:=k1.cs;have lk:=k1.fm.look n (by omega);rw[hf]at lk;generalize nG q.fresh n=xx at lk;obtain⟨pk,pn,pg,ps⟩:=xx;dsimp only[bG.val]at lk;have K2:D.Kept w1 (w1.alloc (.cells #[.int .i64 pk,.int .i64 pn,.int .u64 pg,.string ps] 157)):=(D.Kept.refl _).alloc _;have k2:=k1.kept K2;obtain⟨c20,c21,WQ,c23,c24,c25,c26,c27,c28,c29⟩:=k2.cs;have f2:=S.Cz k2.st n hn)
   | (go_at_call 143;(with_reducible refine f2.mono ?_);rintro e w3 ⟨rfl,s3,o3⟩;obtain⟨k3,n3⟩:=k2.onT o3 s3;obtain⟨Wu,c31,c32,QY,c34,c35,c36,c37,c38,c39⟩:=k3.cs;obtain⟨w4,Yz,m4,o4⟩:=k3.fm.drop n (by omega) 0;have dr:∀ ty,(Builtin.delete_ #[104,3] ty #[.map (some a.mf),.int .i64 n]).run Tryz.prog w3=.ok (.tuple #[]) w4:=fun ty=>Yz;obtain⟨k4,n4⟩:=k3.Zl o4 m4))
  first | go_end0 | refine bodyPost_ret (results_none rfl _ _ _) rfl ?_
  exact⟨rfl,⟨a,rfl,rfl,k4⟩,((n1.kept K2 hB).trans n3).trans n4⟩
variable {d:Dk}
theorem Ok.mono{n:Nat}(h:Ok m d)(hm:m<=n):Ok n d:=⟨h.secs,h.last,h.waits,aad h.acts hm,h.since,h.fails⟩
theorem um(h:D.Ws m d):Ok (m+1) d.act.1:=D.Bc h
theorem jm(h:Ok m d)(n:Int)(s:ByteArray):Ok (m+1) (d.write n s).1:=by
 unfold Dk.write;split
 ·exact Ok.mono h (Nat.le_succ _)
 ·split
  ·exact Ok.mono h (Nat.le_succ _)
  ·split
   ·exact Ok.mono h (Nat.le_succ _)
   ·rename_i h1 h2 h3
    exact um (D.Bd h _ (by show n.toNat<_;omega))
theorem Da(h:Ok m d)(n:Int):Ok (m+1) (d.read n).1:=by
 unfold Dk.read;split
 ·exact Ok.mono h (Nat.le_succ _)
 ·split
  ·exact Ok.mono h (Nat.le_succ _)
  ·split
   ·exact um h.Qk
   ·exact um h.Qk
theorem qY(h:Ok m d):Ok (m+1) d.flush.1:=by
 unfold Dk.flush;split
 ·exact Ok.mono h (Nat.le_succ _)
 ·split
  ·exact um h.Qk
  ·exact D.QL (um h.Qk)
def nR (d:Dk) (n:Int) (s:ByteArray):Dk×Int:=if (d.write n s).2≠0 then d.write n s else (d.write n s).1.flush
theorem wQ(h:Ok m d)(n:Int)(s:ByteArray):Ok (m+2) (nR d n s).1:=by
 unfold nR;split
 ·exact Ok.mono (jm h n s) (Nat.le_succ _)
 ·exact qY (jm h n s)
theorem jW(h:aa B w b g d)(hB:B<=w.heap.size)(ok:Ok m d)(hm:m<50000)(n:Int)(s:ByteArray):
 Calls Tryz.prog 51 #[.pointer (some ⟨b,0,none⟩),.int .i64 n,.string s] w fun e w'=>e=.returned (.int .i64 (nR d n s).2)/\aa B w' b g (nR d n s).1/\D.On B w w':=by
 have hw:=D.jI h hB ok (by omega) n s;have hok:=jm ok n s;unfold nR;generalize d.write n s=r at hw hok ⊢;obtain⟨d1,e1⟩:=r;by_cases he:e1=0
 ·subst he
  have hf:∀ w1,aa B w1 b g d1->B<=w1.heap.size->Calls Tryz.prog 80 #[.pointer (some ⟨b,0,none⟩)] w1 fun e w'=>e=.returned (.int .i64 d1.flush.2)/\aa B w' b g d1.flush.1/\D.On B w1 w':=fun w1 h1 hB1=>D.xM h1 hB1 hok (by omega)
  rw[aai (by simp)];generalize d1.flush=f at hf ⊢;obtain⟨d2,e2⟩:=f;go_enter Tryz.func51,Tryz.ntmps51;go_wp2_with (first
   | (go_at_call 50;(with_reducible refine hw.mono ?_);rintro e w1 ⟨rfl,h1,o1⟩;have h53:=hf w1 h1 (aad hB o1.size))
   | (go_at_call 80;(with_reducible refine h53.mono ?_);rintro e w2 ⟨rfl,h2,o2⟩))
  go_ret;exact⟨rfl,h2,o1.trans o2⟩
 ·rw[aao he]
  have hne:(e1 != 0)=true:=by simpa using he
  go_enter Tryz.func51,Tryz.ntmps51;go_wp2_with (first
   | (go_at_call 50;(with_reducible refine hw.mono ?_);rintro e w1 ⟨rfl,h1,o1⟩))
  go_ret;exact⟨rfl,h1,o1⟩
def nS (d:Dk) (g:Nat) (r:Int):Dk×Int:=nR d ((g % 2:Nat):Int) (bs (oZ g r))
theorem Hr(h:Ok m d)(g:Nat)(r:Int):Ok (m+2) (nS d g r).1:=wQ h _ _
theorem vW(h:aa B w b g d)(hB:B<=w.heap.size)(ok:Ok m d)(hm:m<50000)(x:Nat)(r:Int):
 Calls Tryz.prog 52 #[.pointer (some ⟨b,0,none⟩),.agg #[.int .u64 x,.int .i64 r]] w fun e w'=>e=.returned (.int .i64 (nS d x r).2)/\aa B w' b g (nS d x r).1/\D.On B w w':=by
 have f1:∀ W,Calls Tryz.prog 81 #[.int .u64 x] W fun e w'=>e=.returned (.int .i64 ((x % 2:Nat):Int))/\w'=W:=fun W=>P.oW x W
 have f2:∀ W,Calls Tryz.prog 82 #[.agg #[.int .u64 x,.int .i64 r]] W fun e w'=>e=.returned (.string (bs (oZ x r)))/\P.Kept W w':=fun W=>P.zS x r W
 have f3:∀ W,aa B W b g d->B<=W.heap.size->Calls Tryz.prog 51 #[.pointer (some ⟨b,0,none⟩),.int .i64 ((x % 2:Nat):Int),.string (bs (oZ x r))] W fun e w'=>e=.returned (.int .i64 (nS d x r).2)/\aa B w' b g (nS d x r).1/\D.On B W w':=fun W h1 hB1=>jW h1 hB1 ok hm _ _
 generalize nS d x r=z at f3 ⊢;obtain⟨t,ht⟩:∃ t:Int,((x % 2:Nat):Int)=t:=⟨_,rfl⟩;obtain⟨S,hS⟩:∃ S:ByteArray,bs (oZ x r)=S:=⟨_,rfl⟩;rw[hS]at f2 f3;rw[ht]at f1 f3;clear ht hS;have k0:D.Kept w (w.alloc (.cells #[.int .u64 x,.int .i64 r] 88)):=(D.Kept.refl w).alloc _;go_enter Tryz.func52,Tryz.ntmps52;go_wp2;go_region_with (first
  | (go_at_call 81;(with_reducible refine (f1 _).mono ?_);rintro e w1 ⟨rfl,rfl⟩)
  | (go_at_call 82;(with_reducible refine (f2 _).mono ?_);rintro e w1 ⟨rfl,k1⟩;have k2:D.Kept w w1:=D.Kept.trans (by first | exact k0 | exact k0.drew) ⟨k1.out⟩;have hd1:=k2.dk h;have hb1:=aad hB k2.size)
  | (go_at_call 51;(with_reducible refine (f3 _ (by first | exact hd1 | exact hd1) hb1).mono ?_);rintro e w2 ⟨rfl,h2,o2⟩))
 all_goals go_wp2
 all_goals go_ret
 all_goals exact⟨rfl,h2,(k2.on hB).trans o2⟩
def Db (d:Dk):Dk×Int:=
 if (d.write 0 ⟨#[]⟩).2≠0 then d.write 0 ⟨#[]⟩ else
  if (nR (d.write 0 ⟨#[]⟩).1 1 ⟨#[]⟩).2≠0 then nR (d.write 0 ⟨#[]⟩).1 1 ⟨#[]⟩ else nS (nR (d.write 0 ⟨#[]⟩).1 1 ⟨#[]⟩).1 1 (-1)
theorem Ht(h:Ok m d):Ok (m+5) (Db d).1:=by
 unfold Db;split
 ·exact Ok.mono (jm h _ _) (by omega)
 ·split
  ·exact Ok.mono (wQ (jm h _ _) _ _) (by omega)
  ·exact Hr (wQ (jm h _ _) _ _) _ _
theorem vX(h:aa B w b g d)(hB:B<=w.heap.size)(ok:Ok m d)(hm:m<49000):
 Calls Tryz.prog 32 #[.pointer (some ⟨b,0,none⟩)] w fun e w'=>e=.returned (.int .i64 (Db d).2)/\aa B w' b g (Db d).1/\D.On B w w':=by
 have f1:=D.jI h hB ok (by omega) 0 ⟨#[]⟩;have ok1:=jm ok 0 ⟨#[]⟩;have f2:∀ W,aa B W b g (d.write 0 ⟨#[]⟩).1->B<=W.heap.size->Calls Tryz.prog 51 #[.pointer (some ⟨b,0,none⟩),.int .i64 1,.string ⟨#[]⟩] W fun e w'=>e=.returned (.int .i64 (nR (d.write 0 ⟨#[]⟩).1 1 ⟨#[]⟩).2)/\aa B w' b g (nR (d.write 0 ⟨#[]⟩).1 1 ⟨#[]⟩).1/\D.On B W w':=fun W h1 hB1=>jW h1 hB1 ok1 (by omega) 1 ⟨#[]⟩
 have ok2:=wQ ok1 1 ⟨#[]⟩;have f3:∀ W,aa B W b g (nR (d.write 0 ⟨#[]⟩).1 1 ⟨#[]⟩).1->B<=W.heap.size->Calls Tryz.prog 52 #[.pointer (some ⟨b,0,none⟩),.agg #[.int .u64 1,.int .i64 (-1)]] W fun e w'=>e=.returned (.int .i64 (nS (nR (d.write 0 ⟨#[]⟩).1 1 ⟨#[]⟩).1 1 (-1)).2)/\aa B w' b g (nS (nR (d.write 0 ⟨#[]⟩).1 1 ⟨#[]⟩).1 1 (-1)).1/\D.On B W w':=fun W h1 hB1=>vW h1 hB1 ok2 (by omega) 1 (-1)
 unfold Db;generalize nS (nR (d.write 0 ⟨#[]⟩).1 1 ⟨#[]⟩).1 1 (-1)=z3 at f3 ⊢;generalize nR (d.write 0 ⟨#[]⟩).1 1 ⟨#[]⟩=z2 at f2 f3 ⊢;generalize d.write 0 ⟨#[]⟩=z1 at f1 f2 ⊢;obtain⟨d1,e1⟩:=z1;obtain⟨d2,e2⟩:=z2;obtain⟨d3,e3⟩:=z3;clear ok1 ok2;by_cases h1:e1=0
 ·subst h1
  rw[aai (by simp)];by_cases h2:e2=0
  ·subst h2
   rw[aai (by simp)];go_enter Tryz.func32,Tryz.ntmps32;go_wp2_with (first
    | (go_at_call 50;(with_reducible refine f1.mono ?_);rintro e w1 ⟨rfl,k1,o1⟩;have b1:=aad hB o1.size;have g2:=f2 w1 k1 b1)
    | (go_at_call 51;(with_reducible refine g2.mono ?_);rintro e w2 ⟨rfl,k2,o2⟩;have b2:=aad b1 o2.size)
    | (go_at_call 52;(with_reducible refine (f3 w2 k2 b2).mono ?_);rintro e w3 ⟨rfl,k3,o3⟩))
   go_ret;exact⟨rfl,k3,(o1.trans o2).trans o3⟩
  ·rw[aao h2]
   have hne:(e2 != 0)=true:=by simpa using h2
   go_enter Tryz.func32,Tryz.ntmps32;go_wp2_with (first
    | (go_at_call 50;(with_reducible refine f1.mono ?_);rintro e w1 ⟨rfl,k1,o1⟩;have b1:=aad hB o1.size;have g2:=f2 w1 k1 b1)
    | (go_at_call 51;(with_reducible refine g2.mono ?_);rintro e w2 ⟨rfl,k2,o2⟩))
   go_ret;exact⟨rfl,k2,o1.trans o2⟩
 ·rw[aao h1]
  have hne:(e1 != 0)=true:=by simpa using h1
  go_enter Tryz.func32,Tryz.ntmps32;go_wp2_with (first
   | (go_at_call 50;(with_reducible refine f1.mono ?_);rintro e w1 ⟨rfl,k1,o1⟩))
  go_ret;exact⟨rfl,k1,o1⟩
theorem On.new{a b:World}(h:On B a b)(hB:B<=a.heap.size){x:Nat}(hx:a.heap.size<=x)(i:Nat)(v:Value):On B a (b.setCell ⟨x,i,none⟩ v):=by
 have e:∀ k,k<a.heap.size->(b.setCell ⟨x,i,none⟩ v).heap[k]? = b.heap[k]?:=fun k hk=>Below.heap_setCell b ⟨x,i,none⟩ v k (by show k≠x;omega)
 refine⟨h.below.setCell (by show B<=x;omega) v,fun k cs t fr hk hc=>?_⟩;rw[e k (aaa.1 hk).1];exact h.rows k cs t fr hk hc
theorem M4{w0:World}{r:Nat}(h:GA B w p a q){k n:Int}{g:Int}{s:ByteArray}(Z:P.Pg w r k n g s 157)(o:On B w0 w)(hB:B<=w0.heap.size)(hr:w0.heap.size<=r)(x y z:Int)(d:ByteArray) :
  GA B ((((w.setCell ⟨r,0,none⟩ (.int .i64 x)).setCell ⟨r,1,none⟩ (.int .i64 y)).setCell ⟨r,2,none⟩ (.int .u64 z)).setCell ⟨r,3,none⟩ (.string d)) p a q /\
  On B w0 ((((w.setCell ⟨r,0,none⟩ (.int .i64 x)).setCell ⟨r,1,none⟩ (.int .i64 y)).setCell ⟨r,2,none⟩ (.int .u64 z)).setCell ⟨r,3,none⟩ (.string d)):=by
 have e:∀ (W:World) (i:Nat) (v:Value) k,k≠r->(W.setCell ⟨r,i,none⟩ v).heap[k]? = W.heap[k]?:=fun W i v k hk=>Below.heap_setCell W ⟨r,i,none⟩ v k hk
 refine⟨?_,(((o.new hB hr 0 _).new hB hr 1 _).new hB hr 2 _).new hB hr 3 _⟩;exact (((h.far Z.out Bo (e _ 0 _)).far (Z.set0 x).out Bo (e _ 1 _)).far ((Z.set0 x).set1 y).out Bo (e _ 2 _)).far (((Z.set0 x).set1 y).set2 z).out Bo (e _ 3 _)
variable {k n:Int}{s:ByteArray}
theorem Pg.EK{g:Int}(h:P.Pg w b k n g s 157)(o:D.On B w w'):P.Pg w' b k n g s 157:=⟨o.rows _ _ _ _ h.out wP.1⟩
variable {c:Nat}{M:Nat->Option bG}
theorem Pg.one{g:Int}(h:P.Pg w b k n g s 157)(m:iP w c M)(o:One c w w'):P.Pg w' b k n g s 157:=by
 obtain⟨_,_,hb⟩:=m.block;exact⟨(o.block _ (fM h.out hb)).trans h.out⟩
theorem JU(h:GA B w p a q)(hd:q.doubt=false)(x:Nat)(r:Int):
 Calls Tryz.prog 87 #[.pointer (some ⟨p,0,none⟩),.agg #[.int .u64 x,.int .i64 r]] w fun e w'=>e=.returned (.int .i64 0)/\D.Kept w w':=by
 have k:=h.kept ((D.Kept.refl w).alloc (.cells #[.int .u64 x,.int .i64 r] 88));obtain⟨c0,c1,c2,c3,c4,c5,c6,c7,c8,c9⟩:=k.cs;rw[hd]at c9;go_enter Tryz.func87,Tryz.ntmps87;go_wp2;go_ret;exact⟨rfl,(D.Kept.refl w).alloc _⟩
def bq (M:Nat->Option bG) (n:Nat):ByteArray:=bs (P.jX (nG M n).kind (nG M n).num (nG M n).gen (P.un (nG M n).data))
def jT (M:Nat->Option bG):Dk->List Nat->Dk×Int
 | d,[]=>(d,0)
 | d,n :: r=>if (d.write (n:Nat) (bq M n)).2≠0 then d.write (n:Nat) (bq M n) else jT M (d.write (n:Nat) (bq M n)).1 r
theorem Dc(M:Nat->Option bG)(n:Nat):∀ (l:List Nat) (d:Dk),(jT M d l).2=0->jT M d (l++[n])=(jT M d l).1.write (n:Nat) (bq M n)
 | [],d,_=>by
  simp only[List.nil_append,jT];by_cases h:(d.write (n:Nat) (bq M n)).2=0
  ·rw[aai (by simpa using h),<- h]
  ·rw[aao h]
 | x :: r,d,h=>by
  simp only[List.cons_append,jT]at h ⊢;split
  ·rename_i h1;rw[aao h1]at h;exact absurd h h1
  ·rename_i h1
   rw[aai h1]at h;exact Dc M n r _ h
theorem De(M:Nat->Option bG)(r:List Nat):∀ (l:List Nat) (d:Dk),(jT M d l).2≠0->jT M d (l++r)=jT M d l
 | [],d,h=>absurd rfl h
 | x :: l,d,h=>by
  simp only[List.cons_append,jT]at h ⊢;split
  ·rfl
  ·rename_i h1
   rw[aai h1]at h;exact De M r l _ h
theorem Fz{M:Nat->Option bG}:∀ (l:List Nat) {m:Nat} {d:Dk},Ok m d->Ok (m+l.length) (jT M d l).1
 | [],m,d,h=>h
 | n :: r,m,d,h=>by
  unfold jT;split
  ·exact Ok.mono (jm h _ _) (by simp)
  ·have:=Fz r (jm h (n:Nat) (bq M n)) (M:=M)
   exact Ok.mono this (by simp;omega)
def Hu (M:Nat->Option bG) (d:Dk) (l:List Nat) (g:Nat) (r:Int):Dk×Int×Bool:=
 if (jT M d l).2≠0 then ((jT M d l).1,(jT M d l).2,false) else
  if (jT M d l).1.flush.2≠0 then ((jT M d l).1.flush.1,(jT M d l).1.flush.2,false) else
   ((nS (jT M d l).1.flush.1 g r).1,(nS (jT M d l).1.flush.1 g r).2,decide ((nS (jT M d l).1.flush.1 g r).2≠0))
open D (rU Wr Ct settled qU whole)
structure qZ (d:Dk) (k:Nat):Prop where
 up:d.dead=false
 far:∀ c r,d.cuts=c :: r->((d.since+k:Nat):Int)<=c.at_
theorem qZ.act(h:qZ d 1):d.act=(d.begin,false):=by
 unfold Dk.act;split
 ·rfl
 ·rename_i c r hc
  have:=h.far c r hc;rw[aao (by omega)]
variable {k:Nat}
theorem qZ.mono{j:Nat}(h:qZ d k)(hj:j<=k):qZ d j:=⟨h.up,fun c r hc=>by have:=h.far c r hc;omega⟩
theorem zV{x:Wr}(h:qZ d k):qZ (d.wait x) k:=by
 obtain⟨e1,e2,e3,e4,e5,e6⟩:=D.vS d x;exact⟨e5.trans h.up,fun c r hc=>by rw[e3];exact h.far c r (e1▸hc)⟩
theorem r9(h:qZ d (k+1)):qZ d.begin k:=⟨h.up,fun c r hc=>by have:=h.far c r hc;show ((d.since+1+k:Nat):Int)<=_;omega⟩
theorem pE(h:qZ d 1)(n:Nat)(hn:n<d.secs.length)(s:ByteArray)(hs:s.size<=256):d.write (n:Nat) s=((d.wait ⟨n,whole s⟩).begin,0):=by
 unfold Dk.write;have e:=(zV (x:=⟨n,whole s⟩) h).act;rw[aai (by simp[h.up]),aai (by omega),aai (by omega)];have e2:((n:Nat):Int).toNat=n:=by omega
 rw[e2,e];rfl
theorem si(h:qZ d 1):d.flush=(d.begin.good,0):=by
 unfold Dk.flush;rw[aai (by simp[h.up]),h.act];rfl
theorem JV(h:qZ d 1)(n:Nat)(hn:n<d.secs.length):d.read (n:Nat)=(d.begin,d.begin.says n):=by
 unfold Dk.read;rw[aai (by simp[h.up]),aai (by omega),h.act];have e2:((n:Nat):Int).toNat=n:=by omega
 rw[e2];rfl
structure zW (d:Dk):Prop where
 waits:d.waits=[]
 last:∀ (i:Nat) (s:rU),d.secs[i]? = some s->s.last=0
 up:d.dead=false
structure uo (d0:Dk) (ws:List Wr) (d:Dk):Prop where
 waits:d.waits=ws
 len:d.secs.length=d0.secs.length
 inn:∀ x∈ws,x.sec<d0.secs.length
 nd:ws.Pairwise (fun x y=>x.sec≠y.sec)
 dm:∀ i,(∀ x∈ws,x.sec≠i)->d.secs[i]? = d0.secs[i]?
 own:∀ x∈ws,∃ (s0:rU) (q:Nat),d0.secs[x.sec]? = some s0/\d.secs[x.sec]? = some { s0 with last:=q }
 cuts:d.cuts=d0.cuts
 up:d.dead=false
 fails:d.fails=d0.fails
 since:d.since=d0.since+ws.length
theorem uo.nil(h:zW d):uo d [] d:=⟨h.waits,rfl,(by intro _ h;cases h),List.Pairwise.nil,fun _ _=>rfl,(by intro _ h;cases h),rfl,h.up,rfl,rfl⟩
variable {d0:Dk}{ws:List Wr}
theorem uo.write(h:uo d0 ws d)(h0:zW d0)(x:Wr)(hx:x.sec<d0.secs.length)(hne:∀ y∈ws,y.sec≠x.sec):uo d0 (ws++[x]) (d.wait x).begin:=by
 have hx':x.sec<d.secs.length:=by rw[h.len];exact hx
 have e0:=h.dm x.sec (fun y hy=>hne y hy);obtain⟨s0,hs0⟩:∃ s0,d0.secs[x.sec]? = some s0:=⟨_,aae hx⟩;have hs:=e0.trans hs0;have hl:=h0.last _ _ hs0;have ew:d.wait x={ d with waits:=d.waits++[x],secs:=d.secs.modify x.sec fun s=>{ s with last:=d.waits.length+1 } }:=by
  unfold Dk.wait;rw[hs];dsimp only;rw[aao (by rw[hl];exact aag _)]
 rw[ew];have other:∀ i,x.sec≠i->(d.secs.modify x.sec fun s=>{ s with last:=d.waits.length+1 })[i]? = d.secs[i]?:=fun i hi=>List.getElem?_modify_ne _ _ hi
 refine⟨by show d.waits++[x]=_;rw[h.waits],by show (List.modify _ _ _).length=_;rw[List.length_modify];exact h.len,fun y hy=>?_,?_,fun i hi=>?_,fun y hy=>?_,h.cuts,h.up,h.fails,by show d.since+1=_;rw[h.since,aah];rfl⟩
 ·rcases aav.1 hy with hy | hy
  ·exact h.inn y hy
  ·rw[List.mem_singleton.1 hy];exact hx
 ·refine List.pairwise_append.2 ⟨h.nd,List.pairwise_singleton _ _,fun y hy z hz=>?_⟩
  rw[List.mem_singleton.1 hz];exact hne y hy
 ·show (List.modify _ _ _)[i]? = _
  rw[other i (hi x (by simp))];exact h.dm i (fun y hy=>hi y (by simp[hy]))
 ·rcases aav.1 hy with hy | hy
  ·obtain⟨s1,q,h1,h2⟩:=h.own y hy
   refine⟨s1,q,h1,?_⟩;show (List.modify _ _ _)[y.sec]? = _;rw[other _ (hne y hy).symm];exact h2
  ·obtain rfl:=List.mem_singleton.1 hy
   refine⟨s0,d.waits.length+1,hs0,?_⟩;show (List.modify _ _ _)[y.sec]? = _;rw[List.getElem?_modify_eq,hs];rfl
theorem vY(l:List Wr)(f:Nat->Nat)(s:List rU)(nd:l.Pairwise (fun x y=>x.sec≠y.sec))(j:Nat)(hj:j<l.length):∀ k,(settled l f s k)[l[j].sec]? = if j<k then (s[l[j].sec]?).map (qU l[j] (f j)) else s[l[j].sec]?
 | 0=>by rw[aai (by omega)];rfl
 | k+1=>by
  have ih:=vY l f s nd j hj k;by_cases hk:k<l.length
  ·rw[D.kV _ _ _ _ hk]
   by_cases e:k=j
   ·subst e
    rw[List.getElem?_modify_eq,ih,aai (by omega),aao (by omega)];rfl
   ·have hne:l[k].sec≠l[j].sec:=by
     rcases Nat.lt_or_gt_of_ne e with h | h
     ·exact List.pairwise_iff_getElem.1 nd k j hk hj h
     ·exact (List.pairwise_iff_getElem.1 nd j k hj hk h).symm
    rw[List.getElem?_modify_ne _ _ hne,ih];by_cases h1:j<k
    ·rw[aao h1,aao (by omega)]
    ·rw[aai h1,aai (by omega)]
  ·have e:settled l f s (k+1)=settled l f s k:=by rw[settled,List.getElem?_eq_none (by omega)]
   rw[e,ih,aao (by omega),aao (by omega)]
structure M6 (d0:Dk) (ws:List Wr) (d:Dk):Prop where
 Df:zW d
 len:d.secs.length=d0.secs.length
 dm:∀ i,(∀ x∈ws,x.sec≠i)->d.secs[i]? = d0.secs[i]?
 own:∀ x∈ws,d.secs[x.sec]? = some ⟨x.bytes,false,0⟩
 cuts:d.cuts=d0.cuts
 fails:d.fails=d0.fails
 since:d.since=d0.since+ws.length+1
theorem uo.flush(h:uo d0 ws d)(h0:zW d0):M6 d0 ws d.begin.good:=by
 have dm:∀ i,(∀ x∈ws,x.sec≠i)->d.begin.good.secs[i]? = d0.secs[i]?:=by
  intro i hi;show (settled d.waits _ d.secs _)[i]? = _;rw[D.rG _ _ _ i (by rw[h.waits];exact hi)];exact h.dm i hi
 have own:∀ x∈ws,d.begin.good.secs[x.sec]? = some ⟨x.bytes,false,0⟩:=by
  intro x hx;obtain⟨j,hj,rfl⟩:=List.getElem_of_mem hx;obtain⟨s0,q,_,h2⟩:=h.own _ hx;show (settled d.waits _ d.secs d.waits.length)[_]? = _;rw[h.waits,vY ws (fun _=>1) d.secs h.nd j hj,aao hj,h2];rfl
 have len:d.begin.good.secs.length=d0.secs.length:=by
  show (settled _ _ _ _).length=_;rw[D.cZ];exact h.len
 refine⟨⟨rfl,fun i s hs=>?_,h.up⟩,len,dm,own,h.cuts,h.fails,by show d.since+1=_;rw[h.since]⟩;by_cases hi:∀ x∈ws,x.sec≠i
 ·rw[dm i hi]at hs;exact h0.last i s hs
 ·simp only[Classical.not_forall,Classical.not_not]at hi
  obtain⟨x,hx,rfl⟩:=hi;rw[own x hx]at hs;injection hs with hs
  rw[<- hs]
def Sd (A:ByteArray) (a:Nat):Option (Nat×Int)->Prop
 | some (g,r)=>oV g r/\A=bs (fZ g r)/\g % 2=a
 | none=>∀ g r,oV g r->A=bs (fZ g r)->g % 2≠a
variable {A:ByteArray}
theorem Hw{a:Nat}{o:Option (Nat×Int)}(h:Sd A a o)(w:World):
 Calls Tryz.prog 139 #[.string A,.int .i64 a] w fun e w'=>e=.returned (.tuple #[.agg #[.int .u64 ((o.getD (0,0)).1:Nat),.int .i64 (o.getD (0,0)).2],.bool o.isSome])/\P.Kept w w':=by
 cases o with
 | some x=>
  obtain⟨g,r⟩:=x;obtain⟨h1,rfl,h3⟩:=h;exact P.MX h1 (by omega) w
 | none=>
  have hs:=P.xN A;have e:=P.rH A;have:=P.zT (P.un A) hs (a:Int) w;rw[e]at this;refine this.mono (fun _ _ ⟨h1,hk⟩=>⟨h1.no (fun g r h2 h3 h4=>?_),hk⟩);refine h g r h2 ?_ (by omega);rw[<- h3,e]
def pick (o0 o1:Option (Nat×Int)):Option (Nat×Int):=match o1 with
 | some (g,r)=>if (o0.getD (0,0)).1<g then some (g,r) else o0
 | none=>o0
variable {C:ByteArray}
theorem zX{o0 o1:Option (Nat×Int)}(h0:Sd A 0 o0)(h1:Sd C 1 o1)(w:World):
 Calls Tryz.prog 101 #[.string A,.string C] w fun e w'=>e=.returned (.tuple #[.agg #[.int .u64 (((pick o0 o1).getD (0,0)).1:Nat),.int .i64 ((pick o0 o1).getD (0,0)).2],.bool (pick o0 o1).isSome])/\P.Kept w w':=by
 have f1:∀ W,_:=fun W=>Hw h0 W
 have f2:∀ W,_:=fun W=>Hw h1 W
 cases o1 with
 | none=>exact P.CY A C _ _ _ _ _ f1 f2 w
 | some x=>
  obtain⟨g,r⟩:=x;unfold pick;dsimp only;split
  ·rename_i hg
   exact P.Fy A C _ _ _ _ _ hg f1 f2 w
  ·rename_i hg
   exact P.CZ A C _ _ _ _ _ hg f1 f2 w
theorem aa.set(h:aa B w b g d){x:Nat}{cs:Array Value}{t:TypeId}{fr:Nat×Nat}(hx:w.heap[x]? = some (.cells cs t fr))(ht:¬ D.Quiet t)(i:Nat)(v:Value):aa B (w.setCell ⟨x,i,none⟩ v) b g d:=
 h.frame (fun k cs' t' fr' hk hq=>by
  rw[Below.heap_setCell w ⟨x,i,none⟩ v k (aB hk hx (fun e=>ht (e▸hq)))]
  exact hk)
theorem WX.new{a b:World}(h:D.On B a b)(hB:B<=a.heap.size){x:Nat}(hx:a.heap.size<=x)(i:Nat)(v:Value):D.On B a (b.setCell ⟨x,i,none⟩ v):=by
 have e:∀ k,k<a.heap.size->(b.setCell ⟨x,i,none⟩ v).heap[k]? = b.heap[k]?:=fun k hk=>Below.heap_setCell b ⟨x,i,none⟩ v k (by show k≠x;omega)
 refine⟨h.below.setCell (by show B<=x;omega) v,fun k cs t fr hk hc=>?_,fun k es c hk=>?_⟩
 ·rw[e k (aaa.1 hk).1];exact h.rows k cs t fr hk hc
 ·rw[e k (aaa.1 hk).1];exact h.maps k es c hk
theorem wR:¬ D.Quiet 88:=by unfold D.Quiet;decide
theorem M7:¬ D.Quiet 179:=by unfold D.Quiet;decide
theorem U4:D.Calm 88:=by unfold D.Calm;decide
theorem Q8:D.Calm 179:=by unfold D.Calm;decide
structure Tw (w:World) (s:Nat) (A C:ByteArray):Prop where
 out:w.heap[s]? = some (.cells #[.string A,.string C] 179)
variable {s:Nat}
theorem Tw.cs(h:Tw w s A C):w.cell? ⟨s,0,none⟩=some (.string A)/\w.cell? ⟨s,1,none⟩=some (.string C):=by
 constructor <;> (rw[cell_of_row w s _ _ _ _ h.out];rfl)
theorem Tw.fz(h:Tw w s A C)(j:Nat):w.frozen? ⟨s,j,none⟩=false:=frozen_of_row w s j _ _ h.out
theorem Tw.set0(h:Tw w s A C)(X:ByteArray):Tw (w.setCell ⟨s,0,none⟩ (.string X)) s X C:=⟨by rw[heap_setCell_same w s 0 _ _ _ h.out];rfl⟩
theorem Tw.set1(h:Tw w s A C)(X:ByteArray):Tw (w.setCell ⟨s,1,none⟩ (.string X)) s A X:=⟨by rw[heap_setCell_same w s 1 _ _ _ h.out];rfl⟩
theorem Tw.on(h:Tw w s A C)(o:D.On B w w'):Tw w' s A C:=⟨o.rows _ _ _ _ h.out Q8⟩
theorem Sp.on{x y:Int}(h:P.Sp w s x y)(o:D.On B w w'):P.Sp w' s x y:=⟨o.rows _ _ _ _ h.out U4⟩
theorem zY(h:aa B w b g d)(hB:B<=w.heap.size) :
  P.Sp ((w.alloc (.cells #[.int .u64 0,.int .i64 0] 88)).alloc (.cells #[.string ⟨#[]⟩,.string ⟨#[]⟩] 179)) w.heap.size 0 0/\Tw ((w.alloc (.cells #[.int .u64 0,.int .i64 0] 88)).alloc (.cells #[.string ⟨#[]⟩,.string ⟨#[]⟩] 179)) (w.heap.size+1) ⟨#[]⟩ ⟨#[]⟩ /\
  aa B ((w.alloc (.cells #[.int .u64 0,.int .i64 0] 88)).alloc (.cells #[.string ⟨#[]⟩,.string ⟨#[]⟩] 179)) b g d/\D.On B w ((w.alloc (.cells #[.int .u64 0,.int .i64 0] 88)).alloc (.cells #[.string ⟨#[]⟩,.string ⟨#[]⟩] 179)):=by
 have k:D.Kept w ((w.alloc (.cells #[.int .u64 0,.int .i64 0] 88)).alloc (.cells #[.string ⟨#[]⟩,.string ⟨#[]⟩] 179)):=((D.Kept.refl w).alloc _).alloc _;refine⟨((P.Kept.refl _).alloc _).sp (P.Sp.alloc w 0 0),⟨D.bH w _ _⟩,k.dk h,k.on hB⟩
theorem rq{W:World}(h:aa B W b g d)(t:Tw W s A C)(i:Nat)(X:ByteArray)(o:D.On B w W)(hB:B<=w.heap.size)(hs:w.heap.size<=s)(z:P.Sp W w.heap.size 0 0)(hne:w.heap.size≠s) :
  aa B (W.setCell ⟨s,i,none⟩ (.string X)) b g d/\D.On B w (W.setCell ⟨s,i,none⟩ (.string X))/\P.Sp (W.setCell ⟨s,i,none⟩ (.string X)) w.heap.size 0 0/\B<=(W.setCell ⟨s,i,none⟩ (.string X)).heap.size:=by
 have o2:=WX.new o hB hs i (.string X);exact⟨aa.set h t.out M7 i _,o2,z.far _ _ hne,aad hB o2.size⟩
theorem zI(h:aa B w b g d)(hB:B<=w.heap.size)(ok:Ok m d)(hm:m<49000){o0 o1:Option (Nat×Int)}(he0:(d.read 0).2.2=0\/(d.read 0).2.2=41)(he1:((d.read 0).1.read 1).2.2=0\/((d.read 0).1.read 1).2.2=41)(h0:Sd (d.read 0).2.1 0 o0)(h1:Sd ((d.read 0).1.read 1).2.1 1 o1)(x:Nat×Int)(hp:pick o0 o1=some x):
 Calls Tryz.prog 70 #[.pointer (some ⟨b,0,none⟩)] w fun e w'=>e=.returned (.tuple #[.agg #[.int .u64 x.1,.int .i64 x.2],.int .i64 0])/\aa B w' b g ((d.read 0).1.read 1).1/\D.On B w w':=by
 have f1:∀ W,aa B W b g d->B<=W.heap.size->Calls Tryz.prog 100 #[.pointer (some ⟨b,0,none⟩),.int .i64 0] W fun e w'=>e=.returned (.tuple #[.string (d.read 0).2.1,.int .i64 (d.read 0).2.2])/\aa B w' b g (d.read 0).1/\D.On B W w':=fun W k kB=>D.jJ k kB ok (by omega) 0
 have ok1:=Da ok 0;have f2:∀ W,aa B W b g (d.read 0).1->B<=W.heap.size->Calls Tryz.prog 100 #[.pointer (some ⟨b,0,none⟩),.int .i64 1] W fun e w'=>e=.returned (.tuple #[.string ((d.read 0).1.read 1).2.1,.int .i64 ((d.read 0).1.read 1).2.2])/\aa B w' b g ((d.read 0).1.read 1).1/\D.On B W w':=fun W k kB=>D.jJ k kB ok1 (by omega) 1
 have f3:=zX h0 h1;rw[hp]at f3;obtain⟨xg,xr⟩:=x;dsimp only[Option.getD_some,Option.isSome_some]at f3;generalize (d.read 0).1.read 1=z2 at f2 f3 he1 h1 ⊢;generalize d.read 0=z1 at f1 f2 f3 he0 h0;obtain⟨d1,A,e0⟩:=z1;obtain⟨d2,C,e1⟩:=z2;clear h0 h1 ok1 hp;obtain⟨Z0,T0,D0,O0⟩:=zY h hB;have B0:=aad hB O0.size;dsimp only at f1 f2 f3 he0 he1;rcases he0 with rfl | rfl <;> rcases he1 with rfl | rfl
 all_goals
  go_enter Tryz.func70,Tryz.ntmps70
  go_wp2
  refine wp_loop_rounds 3 ?_
  rw[rounds_succ]
  go_wp2_with (go_at_call 100;(with_reducible refine (f1 _ D0 B0).mono ?_);rintro e w1 ⟨rfl,D1,O1⟩;have T1:=T0.on O1;have Z1:=Sp.on Z0 O1;have c1:=T1.cs.1;have z1:=T1.fz 0;obtain⟨D2,O2,Z2,B2⟩:=rq D1 T1 0 A (O0.trans O1) hB (Nat.le_succ _) Z1 (by omega);have T2:=T1.set0 A)
  rw[rounds_succ]
  go_wp2_with (go_at_call 100;(with_reducible refine (f2 _ D2 B2).mono ?_);rintro e w2 ⟨rfl,D3,O3⟩;have T3:=T2.on O3;have Z3:=Sp.on Z2 O3;have c3:=T3.cs.2;have z3:=T3.fz 1;obtain⟨D4,O4,Z4,B4⟩:=rq D3 T3 1 C (O2.trans O3) hB (Nat.le_succ _) Z3 (by omega);have T4:=T3.set1 C;obtain⟨c40,Zo⟩:=T4.cs)
  rw[rounds_succ]
  go_wp2_with (go_at_call 101;(with_reducible refine (f3 _).mono ?_);rintro e w3 ⟨rfl,K5⟩;have K6:P.Kept w3 (w3.alloc (.cells #[.int .u64 xg,.int .i64 xr] 88)):=(P.Kept.refl w3).alloc _;have Z5:=K6.sp (K5.sp Z4);have Y5:=P.Sp.alloc w3 xg xr;obtain⟨y0,y1⟩:=Y5.cs;obtain⟨⟨WY,hh0⟩,WZ,Wp⟩:=Z5.ready (xg:Nat);have D5:aa B _ b g d2:=D.Kept.dk (D.Kept.trans ⟨K5.out⟩ ⟨K6.out⟩) D4;have O5:=O4.trans (D.Kept.on (D.Kept.trans ⟨K5.out⟩ ⟨K6.out⟩) B4))
  refine bodyPost_ret (v:=.tuple #[.agg #[.int .u64 xg,.int .i64 xr],.int .i64 0]) ?_ rfl ⟨rfl,?_,?_⟩
  ·exact P.af (p:=2) (u:=3) (ty:=88) rfl _ _ w.heap.size 88 _ (0,0) _ rfl (Z5.fill xg xr).out Tryz.underlying88 rfl P.nH
  ·exact aa.set (aa.set D5 Z5.out wR 0 _) (Z5.set0 xg).out wR 1 _
  ·exact WX.new (WX.new O5 hB (aac _) 0 _) hB (aac _) 1 _
theorem Bt(h:aa B w b g d)(hB:B<=w.heap.size)(ok:Ok m d)(hm:m<49000){o0 o1:Option (Nat×Int)}(he0:(d.read 0).2.2=0\/(d.read 0).2.2=41)(he1:((d.read 0).1.read 1).2.2=0\/((d.read 0).1.read 1).2.2=41)(h0:Sd (d.read 0).2.1 0 o0)(h1:Sd ((d.read 0).1.read 1).2.1 1 o1)(hp:pick o0 o1=none):
 Calls Tryz.prog 70 #[.pointer (some ⟨b,0,none⟩)] w fun e w'=>e=.returned (.tuple #[.agg #[.int .u64 0,.int .i64 0],.int .i64 81])/\aa B w' b g ((d.read 0).1.read 1).1/\D.On B w w':=by
 have f1:∀ W,aa B W b g d->B<=W.heap.size->Calls Tryz.prog 100 #[.pointer (some ⟨b,0,none⟩),.int .i64 0] W fun e w'=>e=.returned (.tuple #[.string (d.read 0).2.1,.int .i64 (d.read 0).2.2])/\aa B w' b g (d.read 0).1/\D.On B W w':=fun W k kB=>D.jJ k kB ok (by omega) 0
 have ok1:=Da ok 0;have f2:∀ W,aa B W b g (d.read 0).1->B<=W.heap.size->Calls Tryz.prog 100 #[.pointer (some ⟨b,0,none⟩),.int .i64 1] W fun e w'=>e=.returned (.tuple #[.string ((d.read 0).1.read 1).2.1,.int .i64 ((d.read 0).1.read 1).2.2])/\aa B w' b g ((d.read 0).1.read 1).1/\D.On B W w':=fun W k kB=>D.jJ k kB ok1 (by omega) 1
 have f3:=zX h0 h1;rw[hp]at f3;dsimp only[Option.getD_none,Option.isSome_none]at f3;have f3:∀ W,Calls Tryz.prog 101 _ W fun e w'=>e=.returned (.tuple #[.agg #[.int .u64 0,.int .i64 0],.bool false])/\P.Kept W w':=f3
 generalize (d.read 0).1.read 1=z2 at f2 f3 he1 h1 ⊢;generalize d.read 0=z1 at f1 f2 f3 he0 h0;obtain⟨d1,A,e0⟩:=z1;obtain⟨d2,C,e1⟩:=z2;clear h0 h1 ok1 hp;obtain⟨Z0,T0,D0,O0⟩:=zY h hB;have B0:=aad hB O0.size;dsimp only at f1 f2 f3 he0 he1;rcases he0 with rfl | rfl <;> rcases he1 with rfl | rfl
 all_goals
  go_enter Tryz.func70,Tryz.ntmps70
  go_wp2
  refine wp_loop_rounds 3 ?_
  rw[rounds_succ]
  go_wp2_with (go_at_call 100;(with_reducible refine (f1 _ D0 B0).mono ?_);rintro e w1 ⟨rfl,D1,O1⟩;have T1:=T0.on O1;have Z1:=Sp.on Z0 O1;have c1:=T1.cs.1;have z1:=T1.fz 0;obtain⟨D2,O2,Z2,B2⟩:=rq D1 T1 0 A (O0.trans O1) hB (Nat.le_succ _) Z1 (by omega);have T2:=T1.set0 A)
  rw[rounds_succ]
  go_wp2_with (go_at_call 100;(with_reducible refine (f2 _ D2 B2).mono ?_);rintro e w2 ⟨rfl,D3,O3⟩;have T3:=T2.on O3;have Z3:=Sp.on Z2 O3;have c3:=T3.cs.2;have z3:=T3.fz 1;obtain⟨D4,O4,Z4,B4⟩:=rq D3 T3 1 C (O2.trans O3) hB (Nat.le_succ _) Z3 (by omega);have T4:=T3.set1 C;obtain⟨c40,Zo⟩:=T4.cs)
  rw[rounds_succ]
  go_wp2_with (go_at_call 101;(with_reducible refine (f3 _).mono ?_);rintro e w3 ⟨rfl,K5⟩;have K6:P.Kept w3 (w3.alloc (.cells #[.int .u64 0,.int .i64 0] 88)):=(P.Kept.refl w3).alloc _;have Z5:=K6.sp (K5.sp Z4);obtain⟨⟨WY,hh0⟩,WZ,Wp⟩:=Z5.ready 0;have D5:aa B _ b g d2:=D.Kept.dk (D.Kept.trans ⟨K5.out⟩ ⟨K6.out⟩) D4;have O5:=O4.trans (D.Kept.on (D.Kept.trans ⟨K5.out⟩ ⟨K6.out⟩) B4))
  refine bodyPost_ret (v:=.tuple #[.agg #[.int .u64 0,.int .i64 0],.int .i64 81]) ?_ rfl ⟨rfl,?_,?_⟩
  ·exact P.af (p:=2) (u:=3) (ty:=88) rfl _ _ w.heap.size 88 _ (0,0) _ rfl (Z5.fill 0 0).out Tryz.underlying88 rfl P.nH
  ·exact aa.set (aa.set D5 Z5.out wR 0 _) (Z5.set0 0).out wR 1 _
  ·exact WX.new (WX.new O5 hB (aac _) 0 _) hB (aac _) 1 _
def ahead:Nat->Bool:=S.aS (S.aS (fun _=>false) 0) 1
theorem M8(m:Nat):S.cnt m (fun _=>false)=m:=by
 induction m with
 | zero=>simp[S.cnt]
 | succ m ih=>rw[S.lS,ih];rfl
theorem JX(m:Nat)(h:2<=m):S.cnt m ahead=m-2:=by
 have h1:=S.tu (m:=m) (n:=0) (u:=fun _=>false) (by omega) rfl;have h2:=S.tu (m:=m) (n:=1) (u:=S.aS (fun _=>false) 0) (by omega) (by simp[S.aS]);rw[M8]at h1;unfold ahead;omega
theorem Q9(m:Nat)(h2:2<=m)(h64:m<=1024)(w:World) :
  (Calls Tryz.prog 71 #[.int .i64 m] w fun e w'=>∃ b,e=.returned (.pointer (some ⟨b,0,none⟩))/\S.wJ w.heap.size w' b m m (fun _=>false)/\D.Kept w w'):=by
 refine (S.dN m (by omega) w).mono ?_;rintro e w' ⟨b,rfl,h1,hk⟩;exact⟨b,rfl,h1,⟨hk.out⟩⟩
def opened (d:Dk) (x:Nat×Int):Pq:=⟨d,x.1,x.2,d.secs.length,ahead,ahead,ahead,fun _=>none,fun _=>none,0,false⟩
variable {X:World}
theorem iP.empty(h:X.heap[b]? = some (.map #[] c)):iP X b (fun _=>none):=by
 refine⟨.map [],⟨#[],c,h,⟨by simp,MapKept.stamped_empty c,by simp⟩,aac _,rfl⟩,fun _=>rfl,?_,?_⟩
 ·intro k p h;cases h
 ·intro x h;cases h
theorem SA.Wv{l:Nat}(h:S.SA w b g m l u):b<w.heap.size/\g<w.heap.size:=by
 obtain⟨⟨_,_,h1⟩,_,_,h2⟩:=h.blocks;exact⟨(aaa.1 h1).1,(aaa.1 h2).1⟩
variable {d2:Dk}{r:Int}
theorem M9{w5 v1 v2:World}{bk gk b1 g1 b2 g2 mf mh:Nat}{x:Nat}(hX:aa B X b g d2)(a5:S.SA w5 bk gk d2.secs.length (S.cnt d2.secs.length ahead) ahead)(s1:S.SA v1 b1 g1 d2.secs.length (S.cnt d2.secs.length ahead) ahead)(s2:S.SA v2 b2 g2 d2.secs.length (S.cnt d2.secs.length ahead) ahead)(k5:D.Kept w5 X)(k1:D.Kept v1 X)(k2:D.Kept v2 X)(hf:X.heap[mf]? = some (.map #[] 0))(hh:X.heap[mh]? = some (.map #[] 0))(ne:mf≠mh)(hbk:B<=bk)(Ra:B<=gk)(hB:B<=w5.heap.size)(hp:p=X.heap.size)(l1:w5.heap.size<=b1)(U5:w5.heap.size<=g1)(l2:v1.heap.size<=b2)(Zq:v1.heap.size<=g2)(lf:w5.heap.size<=mf)(lh:w5.heap.size<=mh) :
  tZ B (X.alloc (.cells #[.pointer (some ⟨b,0,none⟩),.int .u64 x,.int .i64 r,.pointer (some ⟨bk,0,none⟩),.pointer (some ⟨b1,0,none⟩),.pointer (some ⟨b2,0,none⟩),.map (some mf),.map (some mh),.int .i64 0,.bool false] 106)) p b g (opened d2 (x,r)):=by
 subst hp;have hB':=hB;have kA:D.Kept X (X.alloc (.cells #[.pointer (some ⟨b,0,none⟩),.int .u64 x,.int .i64 r,.pointer (some ⟨bk,0,none⟩),.pointer (some ⟨b1,0,none⟩),.pointer (some ⟨b2,0,none⟩),.map (some mf),.map (some mh),.int .i64 0,.bool false] 106)):=(D.Kept.refl X).alloc _;have e5:=SA.Wv a5;have e1:=SA.Wv s1;have e2:=SA.Wv s2;have e6:=k5.size;have q5:=k5.trans kA;have q1:=k1.trans kA;have q2:=k2.trans kA;refine⟨⟨b,g,bk,gk,b1,g1,b2,g2,mf,mh⟩,rfl,rfl,⟨heap_alloc_new X _,kA.dk hX,a5.kept ⟨q5.out⟩,s1.kept ⟨q1.out⟩,s2.kept ⟨q2.out⟩,iP.empty (kA.block hf),iP.empty (kA.block hh),⟨?_,?_,?_,?_,?_,?_,ne⟩,⟨?_,hbk,Ra,?_,?_,?_,?_,?_,?_⟩⟩⟩ <;> (try dsimp only) <;> omega
theorem U6(hB:B<=w.heap.size)(h2:2<=d2.secs.length)(h64:d2.secs.length<=1024)(x:Nat)(r:Int)(f1:Calls Tryz.prog 70 #[.pointer (some ⟨b,0,none⟩)] w fun e w'=>e=.returned (.tuple #[.agg #[.int .u64 x,.int .i64 r],.int .i64 0])/\aa B w' b g d2/\D.On B w w'):
 Calls Tryz.prog 48 #[.pointer (some ⟨b,0,none⟩)] w fun e w'=>∃ p,e=.returned (.tuple #[.pointer (some ⟨p,0,none⟩),.int .i64 0])/\tZ B w' p b g (opened d2 (x,r))/\On B w w':=by
 obtain⟨m,hm⟩:∃ m,d2.secs.length=m:=⟨_,rfl⟩;have HC:Hid (S.cnt m ahead=m-2):=JX m (by omega);have f2:∀ W,aa B W b g d2->Calls Tryz.prog 72 #[.pointer (some ⟨b,0,none⟩)] W fun e w'=>e=.returned (.int .i64 (m:Nat))/\w'=W:=fun W k=>by have:=D.Bb k;rw[hm]at this;exact this
 have HM:Hid (d2.secs.length=m):=hm;rw[hm]at h2 h64;have f3:=Q9 m h2 h64;clear hm;go_enter Tryz.func48,Tryz.ntmps48;go_wp2_with (first
  | (go_at_call 70;(with_reducible refine f1.mono ?_);rintro e w1 ⟨rfl,D1,O1⟩;have K2:D.Kept w1 (w1.alloc (.cells #[.int .u64 x,.int .i64 r] 88)):=(D.Kept.refl w1).alloc _;have D2:=K2.dk D1;have Y2:=P.Sp.alloc w1 x r)
  | (go_at_call 72;(with_reducible refine (f2 _ D2).mono ?_);rintro e w' ⟨rfl,rfl⟩)
  | (go_at_call 71;(with_reducible refine (f3 _).mono ?_);rintro e w3 ⟨bk,rfl,s3,K3⟩;have EL:=K2.trans K3;have Y3:P.Sp w3 w1.heap.size x r:=⟨K3.block Y2.out⟩))
 refine wp_loop_rounds 3 ?_;rw[rounds_succ];have u1:Calls Tryz.prog 73 #[.pointer (some ⟨bk,0,none⟩),.int .i64 0] w3 _:=S.GR s3 K3.size 0 (by omega) rfl (by omega);go_wp2_with (go_at_call 73;(with_reducible refine u1.mono ?_);rintro e w4 ⟨rfl,s4,o4⟩;have K4:D.Kept w1 w4:=⟨EL.out.trans (o4.below.mono K2.size)⟩;have Y4:P.Sp w4 w1.heap.size x r:=⟨(o4.below.block w1.heap.size (by simp)).trans Y3.out⟩;have u2:Calls Tryz.prog 73 #[.pointer (some ⟨bk,0,none⟩),.int .i64 1] w4 _:=S.GR s4 (aad K3.size o4.size) 1 (by omega) (by simp[S.aS]) (by omega));rw[rounds_succ];go_wp2_with (go_at_call 73;(with_reducible refine u2.mono ?_);rintro e w5 ⟨rfl,s5,o5⟩;have K5:D.Kept w1 w5:=⟨K4.out.trans (o5.below.mono K2.size)⟩;have Y5:P.Sp w5 w1.heap.size x r:=⟨(o5.below.block w1.heap.size (by simp)).trans Y4.out⟩);rw[rounds_succ];have hs5:S.wJ (w1.alloc (.cells #[.int .u64 x,.int .i64 r] 88)).heap.size w5 bk m (m-1-1) ahead:=s5;obtain⟨gk,a5,Ra,hbk⟩:=S.wJ.YP hs5 (by simp[ahead,S.aS]) h64;rw[show m-1-1=S.cnt m ahead by have:=HC.out;omega]at a5;have cp:∀ W,D.Kept w5 W->Calls Tryz.prog 58 #[.pointer (some ⟨bk,0,none⟩)] W fun e w'=>∃ b' g',e=.returned (.pointer (some ⟨b',0,none⟩))/\S.SA w' b' g' m (S.cnt m ahead) ahead/\W.heap.size<=b'/\W.heap.size<=g'/\D.Kept W w':=fun W hW=>(S.Cy (a5.kept ⟨hW.out⟩)).mono (by rintro e w' ⟨b',g',rfl,h1,h2,h3,h4⟩;exact⟨b',g',rfl,h1,h2,h3,⟨h4.out⟩⟩)
 obtain⟨y0,y1⟩:=Y5.cs;have tok:Hid True:=trivial;have hO5:On B w w5:=(On.JO O1).kept K5 hB;have YA:B<=w5.heap.size:=aad hB hO5.size;have hBw:B<=(w1.alloc (.cells #[.int .u64 x,.int .i64 r] 88)).heap.size:=aad (aad hB O1.size) K2.size;have hbk2:B<=bk:=aad hBw hbk;have Zr:B<=gk:=aad hBw Ra;clear hBw;have mk:∀ W:World,(Instr.makeMap 104 none).run Tryz.prog W=.ok (.map (some W.heap.size)) (W.alloc (.map #[] 0)):=fun W=>rfl
 clear u1 u2 s3 s4 s5 hs5 o4 o5 K3 K4 EL Y2 Y3 Y4 f1 f2 f3;go_wp2;go_region_held3 (fun W=>W.cell? ⟨w1.heap.size,0,none⟩=some (.int .u64 x)/\W.cell? ⟨w1.heap.size,1,none⟩=some (.int .i64 r)) (go_keep) (first
  | (go_at_call 58;clear tok;(with_reducible refine (cp _ (by repeat' first | exact D.Kept.refl _ | refine D.Kept.alloc ?_ _ | refine D.Kept.drew ?_)).mono ?_);rintro e v1 ⟨b1,g1,rfl,s1,l1,U5,q1⟩;have qJ:D.Kept w5 v1:=D.Kept.trans (by repeat' first | exact D.Kept.refl _ | refine D.Kept.alloc ?_ _ | refine D.Kept.drew ?_) q1;obtain⟨y10,y11⟩:=(P.Sp.cs ⟨qJ.block Y5.out⟩:v1.cell? ⟨w1.heap.size,0,none⟩=some (.int .u64 x)/\_))
  | (go_at_call 58;(with_reducible refine (cp _ (by repeat' first | exact qJ | refine D.Kept.alloc ?_ _ | refine D.Kept.drew ?_)).mono ?_);rintro e v2 ⟨b2,g2,rfl,s2,l2,Zq,q2⟩;have wL:D.Kept w5 v2:=D.Kept.trans (by repeat' first | exact qJ | refine D.Kept.alloc ?_ _ | refine D.Kept.drew ?_) q2;obtain⟨y20,y21⟩:=(P.Sp.cs ⟨wL.block Y5.out⟩:v2.cell? ⟨w1.heap.size,0,none⟩=some (.int .u64 x)/\_)))
 all_goals go_wp2
 all_goals go_ret2
 all_goals
  have z1:=q1.size
  have z2:=q2.size
  simp at z1 z2
  refine⟨_,rfl,M9 (w5:=w5) (v1:=v1) (v2:=v2) (d2:=d2) (D.Kept.dk (D.Kept.trans K5 (by (repeat' first | exact D.Kept.refl _ | exact wL | exact qJ | refine D.Kept.trans ?_ q2 | refine D.Kept.trans ?_ q1 | refine D.Kept.alloc ?_ _ | refine D.Kept.drew ?_))) D1) (by rw[HM.out];exact a5) (by rw[HM.out];exact s1) (by rw[HM.out];exact s2) (by (repeat' first | exact D.Kept.refl _ | exact wL | exact qJ | refine D.Kept.trans ?_ q2 | refine D.Kept.trans ?_ q1 | refine D.Kept.alloc ?_ _ | refine D.Kept.drew ?_)) (by (repeat' first | exact D.Kept.refl _ | exact wL | exact qJ | refine D.Kept.trans ?_ q2 | refine D.Kept.trans ?_ q1 | refine D.Kept.alloc ?_ _ | refine D.Kept.drew ?_)) (by (repeat' first | exact D.Kept.refl _ | exact wL | exact qJ | refine D.Kept.trans ?_ q2 | refine D.Kept.trans ?_ q1 | refine D.Kept.alloc ?_ _ | refine D.Kept.drew ?_)) (by first|(refine D.Kept.block (w:=(v2).alloc (.map #[] 0)) ?_ (heap_alloc_new _ _);(repeat' first | exact D.Kept.refl _ | exact wL | exact qJ | refine D.Kept.trans ?_ q2 | refine D.Kept.trans ?_ q1 | refine D.Kept.alloc ?_ _ | refine D.Kept.drew ?_);done)|(refine D.Kept.block (w:=((v2).alloc (.map #[] 0)).alloc (.map #[] 0)) ?_ (D.bH _ _ _);(repeat' first | exact D.Kept.refl _ | exact wL | exact qJ | refine D.Kept.trans ?_ q2 | refine D.Kept.trans ?_ q1 | refine D.Kept.alloc ?_ _ | refine D.Kept.drew ?_);done)|(refine D.Kept.block (w:=(v1).alloc (.map #[] 0)) ?_ (heap_alloc_new _ _);(repeat' first | exact D.Kept.refl _ | exact wL | exact qJ | refine D.Kept.trans ?_ q2 | refine D.Kept.trans ?_ q1 | refine D.Kept.alloc ?_ _ | refine D.Kept.drew ?_);done)|(refine D.Kept.block (w:=((v1).alloc (.map #[] 0)).alloc (.map #[] 0)) ?_ (D.bH _ _ _);(repeat' first | exact D.Kept.refl _ | exact wL | exact qJ | refine D.Kept.trans ?_ q2 | refine D.Kept.trans ?_ q1 | refine D.Kept.alloc ?_ _ | refine D.Kept.drew ?_);done)|(refine D.Kept.block (w:=(w5).alloc (.map #[] 0)) ?_ (heap_alloc_new _ _);(repeat' first | exact D.Kept.refl _ | exact wL | exact qJ | refine D.Kept.trans ?_ q2 | refine D.Kept.trans ?_ q1 | refine D.Kept.alloc ?_ _ | refine D.Kept.drew ?_);done)|(refine D.Kept.block (w:=((w5).alloc (.map #[] 0)).alloc (.map #[] 0)) ?_ (D.bH _ _ _);(repeat' first | exact D.Kept.refl _ | exact wL | exact qJ | refine D.Kept.trans ?_ q2 | refine D.Kept.trans ?_ q1 | refine D.Kept.alloc ?_ _ | refine D.Kept.drew ?_);done)|(refine D.Kept.block (w:=(w5.drew).alloc (.map #[] 0)) ?_ (heap_alloc_new _ _);(repeat' first | exact D.Kept.refl _ | exact wL | exact qJ | refine D.Kept.trans ?_ q2 | refine D.Kept.trans ?_ q1 | refine D.Kept.alloc ?_ _ | refine D.Kept.drew ?_);done)|(refine D.Kept.block (w:=((w5.drew).alloc (.map #[] 0)).alloc (.map #[] 0)) ?_ (D.bH _ _ _);(repeat' first | exact D.Kept.refl _ | exact wL | exact qJ | refine D.Kept.trans ?_ q2 | refine D.Kept.trans ?_ q1 | refine D.Kept.alloc ?_ _ | refine D.Kept.drew ?_);done)) (by first|(refine D.Kept.block (w:=(v2).alloc (.map #[] 0)) ?_ (heap_alloc_new _ _);(repeat' first | exact D.Kept.refl _ | exact wL | exact qJ | refine D.Kept.trans ?_ q2 | refine D.Kept.trans ?_ q1 | refine D.Kept.alloc ?_ _ | refine D.Kept.drew ?_);done)|(refine D.Kept.block (w:=((v2).alloc (.map #[] 0)).alloc (.map #[] 0)) ?_ (D.bH _ _ _);(repeat' first | exact D.Kept.refl _ | exact wL | exact qJ | refine D.Kept.trans ?_ q2 | refine D.Kept.trans ?_ q1 | refine D.Kept.alloc ?_ _ | refine D.Kept.drew ?_);done)|(refine D.Kept.block (w:=(v1).alloc (.map #[] 0)) ?_ (heap_alloc_new _ _);(repeat' first | exact D.Kept.refl _ | exact wL | exact qJ | refine D.Kept.trans ?_ q2 | refine D.Kept.trans ?_ q1 | refine D.Kept.alloc ?_ _ | refine D.Kept.drew ?_);done)|(refine D.Kept.block (w:=((v1).alloc (.map #[] 0)).alloc (.map #[] 0)) ?_ (D.bH _ _ _);(repeat' first | exact D.Kept.refl _ | exact wL | exact qJ | refine D.Kept.trans ?_ q2 | refine D.Kept.trans ?_ q1 | refine D.Kept.alloc ?_ _ | refine D.Kept.drew ?_);done)|(refine D.Kept.block (w:=(w5).alloc (.map #[] 0)) ?_ (heap_alloc_new _ _);(repeat' first | exact D.Kept.refl _ | exact wL | exact qJ | refine D.Kept.trans ?_ q2 | refine D.Kept.trans ?_ q1 | refine D.Kept.alloc ?_ _ | refine D.Kept.drew ?_);done)|(refine D.Kept.block (w:=((w5).alloc (.map #[] 0)).alloc (.map #[] 0)) ?_ (D.bH _ _ _);(repeat' first | exact D.Kept.refl _ | exact wL | exact qJ | refine D.Kept.trans ?_ q2 | refine D.Kept.trans ?_ q1 | refine D.Kept.alloc ?_ _ | refine D.Kept.drew ?_);done)|(refine D.Kept.block (w:=(w5.drew).alloc (.map #[] 0)) ?_ (heap_alloc_new _ _);(repeat' first | exact D.Kept.refl _ | exact wL | exact qJ | refine D.Kept.trans ?_ q2 | refine D.Kept.trans ?_ q1 | refine D.Kept.alloc ?_ _ | refine D.Kept.drew ?_);done)|(refine D.Kept.block (w:=((w5.drew).alloc (.map #[] 0)).alloc (.map #[] 0)) ?_ (D.bH _ _ _);(repeat' first | exact D.Kept.refl _ | exact wL | exact qJ | refine D.Kept.trans ?_ q2 | refine D.Kept.trans ?_ q1 | refine D.Kept.alloc ?_ _ | refine D.Kept.drew ?_);done)) (by omega) hbk2 Zr YA (by simp) (aad (by simp <;> omega) l1) (aad (by simp <;> omega) U5) (aad (by simp <;> omega) l2) (aad (by simp <;> omega) Zq) (by omega) (by omega),hO5.kept (by repeat' first | exact D.Kept.refl _ | exact wL | refine D.Kept.alloc ?_ _ | refine D.Kept.drew ?_) hB⟩
def keysOf (M:Nat->Option bG):List Nat:=(List.range 1024).filter (fun n=>(M n).isSome)
theorem vC(M:Nat->Option bG):(keysOf M).Pairwise (· < ·):=List.Pairwise.filter _ List.pairwise_lt_range
theorem mem_keys{n:Nat}:n∈keysOf M↔n<1024/\(M n).isSome=true:=by simp[keysOf]
theorem JY{D0:DataW Unit}(h1:w.ownsMap Tryz.prog 3 R4 b (Maps.size D0) D0)(h2:∀ k:Nat,Maps.has D0 (.int .i64 (k:Nat))=(M k).isSome)(h4:∀ x:Int,Maps.has D0 (.int .i64 x)=true->∃ k:Nat,x=(k:Int)/\k<1024){ss:List Int}(hp:ss.Perm (intKeys D0)):ss.mergeSort (fun x y=>decide (x<=y))=(keysOf M).map (fun n:Nat=>(n:Int)):=by
 obtain⟨k1,k2,_⟩:=xy h1;have tr:∀ a b c:Int,decide (a<=b)=true->decide (b<=c)=true->decide (a<=c)=true:=fun a b c h1 h2=>by simp only[decide_eq_true_eq]at *;omega
 have tot:∀ a b:Int,(decide (a<=b) || decide (b<=a))=true:=fun a b=>by simp only[Bool.or_eq_true,decide_eq_true_eq];omega
 have nd:((keysOf M).map (fun n:Nat=>(n:Int))).Nodup:=List.pairwise_map.2 ((vC M).imp (fun {a b} h=>by omega));refine List.Perm.eq_of_pairwise (le:=fun a b=>decide (a<=b)=true) (fun a b _ _ h1 h2=>by simp only[decide_eq_true_eq]at h1 h2;omega) (List.pairwise_mergeSort tr tot ss) (List.pairwise_map.2 ((vC M).imp (fun {a b} h=>by simp only[decide_eq_true_eq];omega))) ?_;refine ((List.mergeSort_perm ss _).trans hp).trans ((List.perm_ext_iff_of_nodup k1 nd).2 fun x=>?_);rw[k2 x,List.mem_map];constructor
 ·intro hx
  obtain⟨k,rfl,hk⟩:=h4 x hx;exact⟨k,mem_keys.2 ⟨hk,by rw[<- h2];exact hx⟩,rfl⟩
 ·rintro⟨k,hk,rfl⟩
  rw[h2];exact (mem_keys.1 hk).2
theorem Dh(h:iP w b M):
 Calls Tryz.prog 88 #[.func (.func 121) #[] #[.pointer (some ⟨w.heap.size,0,none⟩)]] (w.alloc (.cells #[.map (some b)] 104)) fun e w'=>∃ v,e=.returned v/\D.aW 0 w' v ((keysOf M).map (fun n:Nat=>(n:Int)))/\D.Kept w w':=by
 obtain⟨D0,h1,h0,h2,h3,h4⟩:=h.few;refine (Tryz.sorted_call b _ D0 R4 w h1 (by unfold maxLen;omega) (by omega)).mono ?_;rintro e w' ⟨v,ss,rfl,hp,hrow,_,hb⟩;have e:=JY h1 h2 h4 hp;have e2:ss.length=((keysOf M).map (fun n:Nat=>(n:Int))).length:=by rw[<- e,List.length_mergeSort]
 rw[e,e2]at hrow;exact⟨v,rfl,D.aW.own hrow,⟨hb⟩⟩
variable {v:Value}{l:List Int}
theorem aW.kept(h:D.aW 0 w v l)(k:D.Kept w w'):D.aW 0 w' v l:=h.on (k.on (aag _))
theorem aW.EK(h:D.aW 0 w v l)(k:D.On B w w'):D.aW 0 w' v l:=h.on (k.mono (aag _))
theorem aW.len(h:D.aW 0 w v l):∃ p c,v=.slice p l.length c:=by
 obtain⟨p,c,hv,_⟩:=h.out;exact⟨p,c,hv⟩
theorem U7(uu:∀ n,(nG M n).gen<18446744073709551616)(n:Nat)(W:World):
 Calls Tryz.prog 90 #[(nG M n).val] W fun e w'=>e=.returned (.string (bq M n))/\P.Kept W w':=by
 have:=P.fB (nG M n).kind (nG M n).num (nG M n).gen (uu n) (P.un (nG M n).data) W;rw[P.rH]at this;exact this
theorem ru{g:Int}(h:P.Sp w b g r)(o:On B w w'):P.Sp w' b g r:=⟨o.rows _ _ _ _ h.out Q5⟩
structure Lp (B:Nat) (w:World) (p:Nat) (a:Ad) (q:Pq) (l:List Nat) (x:Nat) (r:Int) (v:Value) (i:Nat) (wx:World):Prop where
 ga:GA B wx p a { q with disk:=(jT q.fresh q.disk (l.take i)).1 }
 no:(jT q.fresh q.disk (l.take i)).2=0
 row:D.aW 0 wx v (l.map (fun n:Nat=>(n:Int)))
 st:P.Sp wx w.heap.size x r
 on:On B w wx
variable {l:List Nat}{i:Nat}
theorem JZ(h:i<l.length):l.take (i+1)=l.take i++[l[i]]:=by rw[List.take_succ_eq_append_getElem h]
theorem Di(h:i<l.length)(h0:(jT M d (l.take i)).2=0):jT M d (l.take (i+1))=(jT M d (l.take i)).1.write (l[i]:Nat) (bq M l[i]):=by
 rw[JZ h,Dc M _ _ _ h0]
theorem Rb(h:i<l.length)(h0:(jT M d (l.take i)).2=0)(h1:((jT M d (l.take i)).1.write (l[i]:Nat) (bq M l[i])).2≠0):jT M d l=(jT M d (l.take i)).1.write (l[i]:Nat) (bq M l[i]):=by
 have e:=Di h h0;have e2:l=l.take (i+1)++l.drop (i+1):=(aax _ _).symm;have e3:=De M (l.drop (i+1)) (l.take (i+1)) d (by rw[e];exact h1);rw[<- e2]at e3;rw[e3,e]
theorem Rc{pv:Option Addr}{cv:Nat}(h:D.aW 0 w (.slice pv l.length cv) (l.map (fun n:Nat=>(n:Int))))(i:Nat)(hi:i<l.length) :
  ∃ b off,pv=some ⟨b,off,none⟩/\w.cell? ⟨b,off+i,none⟩=some (.int .i64 (l[i]:Nat)):=by
 obtain⟨p',c',hv,hc⟩:=h.out;injection hv with e1 _ _
 subst e1;obtain⟨b,off,hp,_,hx⟩:=hc i (by simpa using hi);refine⟨b,off,hp,?_⟩;rw[hx];simp[List.getD,hi]
theorem jI{B:Nat}{w:World}{p m:Nat}{a:Ad}{q:Pq}(h:GA B w p a q)(hB:B<=w.heap.size)(ok:Ok m q.disk)(hm:m<48000)(hd:q.doubt=false)(uu:∀ n,(nG q.fresh n).gen<18446744073709551616)(x:Nat)(r:Int):
 Calls Tryz.prog 56 #[.pointer (some ⟨p,0,none⟩),.agg #[.int .u64 x,.int .i64 r]] w fun e w'=>e=.returned (.int .i64 (Hu q.fresh q.disk (keysOf q.fresh) x r).2.1)/\GA B w' p a { q with disk:=(Hu q.fresh q.disk (keysOf q.fresh) x r).1,doubt:=(Hu q.fresh q.disk (keysOf q.fresh) x r).2.2 }/\On B w w':=by
 obtain⟨l,hl⟩:∃ l,keysOf q.fresh=l:=⟨_,rfl⟩;have adf:l.length<=1024:=by rw[<- hl];unfold keysOf;exact aad (List.length_filter_le _ _) (by simp)
 have hlk:∀ n∈l,n<1024:=fun n hn=>(mem_keys.1 (by rw[hl];exact hn)).1
 rw[hl];have K1:D.Kept w (w.alloc (.cells #[.int .u64 x,.int .i64 r] 88)):=(D.Kept.refl w).alloc _;have Y1:=P.Sp.alloc w x r;obtain⟨y10,y11⟩:=Y1.cs;have k1:=h.kept K1;have f1:=JU k1 hd x r;have hL:Hid (∀ n∈l,n<1024):=hlk;have HG:Hid _:=uu;have hdt:Hid (q.doubt=false):=hd;clear hlk uu hd;go_enter Tryz.func56,Tryz.ntmps56;go_wp2_with (first
  | (go_at_call 87;(with_reducible refine f1.mono ?_);rintro e w1 ⟨rfl,K2⟩;have k2:=k1.kept K2;have Y2:P.Sp w1 w.heap.size x r:=⟨K2.block Y1.out⟩;obtain⟨c0,c1,c2,c3,c4,c5,c6,c7,c8,c9⟩:=k2.cs;have f2:=Tryz.keys_call (some a.mf) w1;have f3:=Dh k2.fm;rw[hl]at f3)
  | (go_at_call 89;(with_reducible refine f2.mono ?_);rintro e w2 ⟨rfl,hw2⟩;rw[hw2];clear hw2)
  | (go_at_call 88;(with_reducible refine f3.mono ?_);rintro e w3 ⟨v,rfl,F3,K3⟩;have k3:=k2.kept K3;have Y3:P.Sp w3 w.heap.size x r:=⟨K3.block Y2.out⟩;obtain⟨pv,cv,hv⟩:=aW.len F3;subst hv;have N3:On B w w3:=((On.ax K1 hB).kept K2 hB).kept K3 hB))
 rw[List.length_map]at F3;have HL:Hid (Lp B w p a q l x r (.slice pv l.length cv) 0 w3):=⟨k3,rfl,F3,Y3,N3⟩;have adg:(l.length:Int)<=1024:=by omega
 clear k3 F3 Y3 N3 k2 Y2 K2 K3 f1 f2 f3 c0 c1 c2 c3 c4 c5 c6 c7 c8 c9 k1 Y1 y10 y11 K1;go_loopg [24] l.length (fun n c wx=>∃ i:Nat,i+n=l.length/\c=.int .i64 i/\Lp B w p a q l x r (.slice pv l.length cv) i wx);case atStart=>exact⟨0,by omega,rfl,HL.out⟩
 case round=>
  obtain⟨i,hin,rfl,LP⟩:=hrel;clear HL;have YB:=Fz (M:=q.fresh) (l.take i) ok;rw[aam]at YB;have J7:Ok (m+1024) (jT q.fresh q.disk (l.take i)).1:=Ok.mono YB (by omega);obtain⟨c0,c1,c2,c3,c4,c5,c6,c7,c8,c9⟩:=LP.ga.cs;have hBr:=aad hB LP.on.size;by_cases hlt:i<l.length
  ·obtain⟨vb,vo,rfl,hcell⟩:=Rc LP.row i hlt
   have Zt:=hL.out l[i] (List.getElem_mem hlt);have i1:(0:Int)<=(i:Int):=by omega
   have i2:(i:Int)<(l.length:Int):=by omega
   have HE:=Rb hlt LP.no;have HN:=Di hlt LP.no;obtain⟨n,hnn⟩:∃ n,l[i]=n:=⟨_,rfl⟩;rw[hnn]at HE HN hcell Zt;have fp:∀ W,Calls Tryz.prog 90 #[(nG q.fresh n).val] W fun e w'=>e=.returned (.string (bq q.fresh n))/\P.Kept W w':=fun W=>U7 HG.out n W
   have fw:∀ W,aa B W a.d a.g (jT q.fresh q.disk (l.take i)).1->B<=W.heap.size->Calls Tryz.prog 50 #[.pointer (some ⟨a.d,0,none⟩),.int .i64 (n:Nat),.string (bq q.fresh n)] W fun e w'=>e=.returned (.int .i64 ((jT q.fresh q.disk (l.take i)).1.write (n:Nat) (bq q.fresh n)).2)/\aa B w' a.d a.g ((jT q.fresh q.disk (l.take i)).1.write (n:Nat) (bq q.fresh n)).1/\D.On B W w':=fun W k1 k2=>D.jI k1 k2 J7 (by omega) _ _
   have lk:=iP.get (w:=wr.drew) (LP.ga.fm.same rfl) n (by omega);have Ww:Hid (Lp B w p a q l x r (.slice (some ⟨vb,vo,none⟩) l.length cv) i wr):=LP;have hD:=LP.ga.disk;clear LP YB J7 hnn;have HE':Hid (((jT q.fresh q.disk (l.take i)).1.write (n:Nat) (bq q.fresh n)).2≠0->jT q.fresh q.disk l=(jT q.fresh q.disk (l.take i)).1.write (n:Nat) (bq q.fresh n)):=HE;have HN':Hid (jT q.fresh q.disk (l.take (i+1))=(jT q.fresh q.disk (l.take i)).1.write (n:Nat) (bq q.fresh n)):=HN;clear HE HN;obtain⟨z,hz⟩:∃ z,(jT q.fresh q.disk (l.take i)).1.write (n:Nat) (bq q.fresh n)=z:=⟨_,rfl⟩;rw[hz]at fw HE' HN';generalize bq q.fresh n=SS at fp fw;generalize (jT q.fresh q.disk (l.take i)).1=di at fw hD;dsimp only at hD;generalize nG q.fresh n=xx at fp lk;obtain⟨xk,xn,xg,xs⟩:=xx;dsimp only[bG.val]at fp lk;clear hz;obtain⟨zd,ze⟩:=z;go_wp2;go_region_held3 (fun W=>W.cell? ⟨p,0,none⟩=some (.pointer (some ⟨a.d,0,none⟩))/\W.cell? ⟨p,6,none⟩=some (.map (some a.mf))) (first | trivial | go_keep) (first
    | (go_at_call 90;(with_reducible refine (fp _).mono ?_);rintro e v1 ⟨rfl,q1⟩;have K1:D.Kept wr v1:=D.Kept.trans ((D.Kept.refl wr).drew) ⟨q1.out⟩;have g1:=Ww.out.ga.kept K1;obtain⟨u0,_,_,_,_,_,u6,_,_,_⟩:=g1.cs;have hB1:=aad hBr K1.size)
    | (go_at_call 50;(with_reducible refine (fw _ (K1.dk hD) hB1).mono ?_);rintro e v2 ⟨rfl,d2,o2⟩;have g2:=g1.EK o2 d2;obtain⟨x0,_,_,_,_,_,x6,_,_,_⟩:=g2.cs;have N2:=(Ww.out.on.kept K1 hB).trans (On.JO o2)))
   by_cases YC:ze=0
   ·subst YC
    go_wp2;obtain⟨n',rfl⟩:∃ n',gk=n'+1:=⟨gk-1,by omega⟩;go_roundg n';case measure=>omega
    case rel=>
     have e1:=HN'.out;refine⟨i+1,by omega,by go_num,⟨by rw[e1];exact g2,by rw[e1],aW.EK (aW.kept Ww.out.row K1) o2,ru (⟨K1.block Ww.out.st.out⟩:P.Sp v1 _ _ _) (On.JO o2),N2⟩⟩
   ·have hne:(ze != 0)=true:=by simpa using YC
    go_wp2;go_ret;have e1:=HE'.out YC;have e2:Hu q.fresh q.disk l x r=(zd,ze,false):=by unfold Hu;rw[e1,aao YC]
    rw[e2];exact⟨rfl,by rw[<- hdt.out];exact g2,N2⟩
  ·have hie:l.take i=l:=aaz (by omega)
   have hil:i=l.length:=by omega
   subst hil;have Ww:Hid (Lp B w p a q l x r (.slice pv l.length cv) l.length wr):=LP;have hD:=LP.ga.disk;have hno:=LP.no;have hga:=LP.ga;have hst:=LP.st;have hon:=LP.on;rw[hie]at hD hno J7 hga;clear LP YB Ww hie;have ff:=D.xM hD hBr J7 (by omega);have okF:=qY J7;have fc:∀ W,aa B W a.d a.g (jT q.fresh q.disk l).1.flush.1->B<=W.heap.size->Calls Tryz.prog 52 #[.pointer (some ⟨a.d,0,none⟩),.agg #[.int .u64 x,.int .i64 r]] W fun e w'=>e=.returned (.int .i64 (nS (jT q.fresh q.disk l).1.flush.1 x r).2)/\aa B w' a.d a.g (nS (jT q.fresh q.disk l).1.flush.1 x r).1/\D.On B W w':=fun W k1 k2=>vW k1 k2 okF (by omega) x r
   have HW:Hid (Hu q.fresh q.disk l x r=if (jT q.fresh q.disk l).1.flush.2≠0 then ((jT q.fresh q.disk l).1.flush.1,(jT q.fresh q.disk l).1.flush.2,false) else ((nS (jT q.fresh q.disk l).1.flush.1 x r).1,(nS (jT q.fresh q.disk l).1.flush.1 x r).2,decide ((nS (jT q.fresh q.disk l).1.flush.1 x r).2≠0))):=by
    show Hu q.fresh q.disk l x r=_;unfold Hu;rw[aai (by simpa using hno)]
   clear okF J7 hno;generalize nS (jT q.fresh q.disk l).1.flush.1 x r=zc at fc HW;generalize (jT q.fresh q.disk l).1.flush=zf at ff fc HW;obtain⟨fd,fe⟩:=zf;obtain⟨cd,ce⟩:=zc;by_cases hfe:fe=0
   ·subst hfe
    go_wp2_with (go_at_call 80;(with_reducible refine ff.mono ?_);rintro e v1 ⟨rfl,d1,o1⟩;have g1:=hga.EK o1 d1;obtain⟨u0,u1,u2,u3,u4,u5,u6,u7,u8,u9⟩:=g1.cs;have s1:=ru hst (On.JO o1);obtain⟨s10,s11⟩:=s1.cs;have N1:=hon.trans (On.JO o1);have hB1:=aad hB N1.size);go_region_held3 (fun W=>W.cell? ⟨p,0,none⟩=some (.pointer (some ⟨a.d,0,none⟩))/\W.cell? ⟨w.heap.size,0,none⟩=some (.int .u64 x)/\W.cell? ⟨w.heap.size,1,none⟩=some (.int .i64 r)) (first | trivial | go_keep) (first
     | (go_at_call 52;(with_reducible refine (fc v1.drew (((D.Kept.refl v1).drew).dk d1) (aad hB1 ((D.Kept.refl v1).drew).size)).mono ?_);rintro e v2 ⟨rfl,d2,o2⟩;have g2:GA B v2 p a { q with disk:=cd }:=GA.EK (g1.kept ((D.Kept.refl v1).drew)) o2 d2;obtain⟨t0,t1,t2,t3,t4,t5,t6,t7,t8,t9⟩:=g2.cs;have t9f:=g2.fz 9;have s2:P.Sp v2 w.heap.size x r:=ru (⟨((D.Kept.refl v1).drew).block s1.out⟩:P.Sp v1.drew _ _ _) (On.JO o2);obtain⟨s20,s21⟩:=s2.cs;obtain⟨gT,nT⟩:=g2.MR (decide (ce≠0));have N2:On B w v2:=(N1.drew).trans (On.JO o2)))
    by_cases hce:ce=0
    ·subst hce
     have gT':GA B (v2.setCell ⟨p,9,none⟩ (.bool false)) p a { q with disk:=cd,doubt:=false }:=gT;have nT':On B v2 (v2.setCell ⟨p,9,none⟩ (.bool false)):=nT;clear gT nT;go_wp2;go_ret;rw[HW.out,aai (by simp)];exact⟨rfl,gT',N2.trans nT'⟩
    ·have hne:(ce != 0)=true:=by simpa using hce
     rw[show decide (ce≠0)=true by simpa using hce]at gT nT;go_wp2;go_ret;rw[HW.out,aai (by simp)];rw[show decide (ce≠0)=true by simpa using hce];exact⟨rfl,gT,N2.trans nT⟩
   ·have hne:(fe != 0)=true:=by simpa using hfe
    go_wp2_with (go_at_call 80;(with_reducible refine ff.mono ?_);rintro e v1 ⟨rfl,d1,o1⟩;have g1:=hga.EK o1 d1;have N1:=hon.trans (On.JO o1));go_ret;rw[HW.out,aao hfe];exact⟨rfl,by rw[<- hdt.out];exact g1,N1⟩
theorem M6.live(h:M6 d0 ws d){k:Nat}(hl:qZ d0 (ws.length+1+k)):qZ d k:=
 ⟨h.Df.up,fun c r hc=>by have:=hl.far c r (h.cuts▸hc);rw[h.since];omega⟩
theorem uo.live(h:uo d0 ws d){k:Nat}(hl:qZ d0 (ws.length+k)):qZ d k:=
 ⟨h.up,fun c r hc=>by have:=hl.far c r (h.cuts▸hc);rw[h.since];omega⟩
theorem zZ(h:zW d)(hl:qZ d 2)(n:Nat)(hn:n<d.secs.length)(s:ByteArray)(hs:s.size<=256):∃ d',nR d (n:Nat) s=(d',0)/\M6 d [⟨n,whole s⟩] d':=by
 have e1:=pE (hl.mono (by omega)) n hn s hs;have p1:=(uo.nil h).write h ⟨n,whole s⟩ hn (by intro _ h;cases h);have e2:=si (p1.live (k:=1) hl);refine⟨_,?_,p1.flush h⟩;unfold nR;rw[e1,aai (by simp),e2]
def Na (M:Nat->Option bG) (l:List Nat):List Wr:=l.map (fun n=>⟨n,whole (bq M n)⟩)
theorem Dj(M:Nat->Option bG)(hM:∀ n,(bq M n).size<=256){d0:Dk}(h0:zW d0):∀ (l:List Nat) (ws:List Wr) (d:Dk),uo d0 ws d->qZ d l.length->l.Pairwise (·≠·)->(∀ n∈l,n<d0.secs.length/\∀ y∈ws,y.sec≠n) ->
    ∃ d',jT M d l=(d',0)/\uo d0 (ws++Na M l) d'
  | [],ws,d,h,_,_,_=>⟨d,rfl,by simpa[Na] using h⟩
  | n :: l,ws,d,h,hl,nd,hn=>by
    obtain⟨hn1,hn2⟩:=hn n (by simp);have e1:=pE (hl.mono (by simp)) n (by rw[h.len];exact hn1) (bq M n) (hM n);have p1:=h.write h0 ⟨n,whole (bq M n)⟩ hn1 hn2;have l1:qZ (d.wait ⟨n,whole (bq M n)⟩).begin l.length:=r9 (zV hl);obtain⟨nd1,nd2⟩:=List.pairwise_cons.1 nd;obtain⟨d',e2,p2⟩:=Dj M hM h0 l _ _ p1 l1 nd2 (fun k hk=>⟨(hn k (by simp[hk])).1,fun y hy=>by
      rcases aav.1 hy with hy | hy
      · exact (hn k (by simp[hk])).2 y hy
      · rw[List.mem_singleton.1 hy];exact nd1 k hk⟩)
    refine⟨d',?_,?_⟩
    · unfold jT
      rw[e1,aai (by simp)];exact e2
    · have e3:ws++Na M (n :: l)=ws++[⟨n,whole (bq M n)⟩]++Na M l:=by simp[Na]
      rw[e3];exact p2
theorem xW(s:ByteArray)(h:s.size=256):whole s=s:=by
 unfold whole;rw[h];cases s;simp
theorem Dl(g:Nat)(r:Int):(bs (oZ g r)).size<=256:=by
 rw[P.au];by_cases h:oV g r
 ·rw[P.qH h,P.vU h];exact aac _
 ·rw[P.Br h];simp
theorem z8(h:oV g r):whole (bs (oZ g r))=bs (fZ g r):=by
 rw[P.qH h];exact xW _ (by rw[P.au,P.vU h])
theorem Nb(M:Nat->Option bG)(n:Nat):(bq M n).size<=256:=by
 unfold bq;rw[P.au];exact P.CU _ _ _ _
theorem Nc(M:Nat->Option bG){d:Dk}(h:zW d){l:List Nat}(hl:qZ d (l.length+3))(nd:l.Pairwise (·≠·))(hn:∀ n∈l,n<d.secs.length)(h2:2<=d.secs.length)(g:Nat)(r:Int)(hs:oV g r) :
    ∃ d1 d',Hu M d l g r=(d',0,false)/\M6 d (Na M l) d1/\M6 d1 [⟨g % 2,bs (fZ g r)⟩] d':=by
  obtain⟨dp,e1,p1⟩:=Dj M (Nb M) h l [] d (uo.nil h) (hl.mono (by omega)) nd (fun n hn'=>⟨hn n hn',by intro _ h;cases h⟩);rw[List.nil_append]at p1;have hlen:(Na M l).length=l.length:=by simp[Na]
  have l1:qZ dp 3:=p1.live (by rw[hlen];exact hl);have e2:=si (l1.mono (j:=1) (by omega));have w1:=p1.flush h;have l2:qZ dp.begin.good 2:=w1.live (by rw[hlen];exact hl);obtain⟨d',e3,w2⟩:=zZ w1.Df l2 (g % 2) (by rw[w1.len];omega) (bs (oZ g r)) (Dl g r);rw[z8 hs]at w2;refine⟨_,d',?_,w1,w2⟩;unfold Hu;rw[e1,aai (by simp),e2,aai (by simp)];unfold nS;rw[e3];rfl
theorem Hy:oV 1 (-1):=by unfold oV;decide
theorem J8(h:zW d)(hl:qZ d 5)(h2:2<=d.secs.length):∃ d1 d',Db d=(d',0)/\M6 d [⟨0,whole ⟨#[]⟩⟩,⟨1,whole ⟨#[]⟩⟩] d1/\M6 d1 [⟨1,bs (fZ 1 (-1))⟩] d':=by
 have e1:d.write 0 ⟨#[]⟩=_:=pE (hl.mono (j:=1) (by omega)) 0 (by omega) ⟨#[]⟩ (by decide);have p1:=(uo.nil h).write h ⟨0,whole ⟨#[]⟩⟩ (show 0<_ by omega) (by intro _ h;cases h);have l1:qZ (d.wait ⟨0,whole ⟨#[]⟩⟩).begin 4:=p1.live hl;have e2:(d.wait ⟨0,whole ⟨#[]⟩⟩).begin.write 1 ⟨#[]⟩=_:=pE (l1.mono (j:=1) (by omega)) 1 (by rw[p1.len];omega) ⟨#[]⟩ (by decide);have p2:=p1.write h ⟨1,whole ⟨#[]⟩⟩ (show 1<_ by omega) (by intro y hy;simp at hy;subst hy;decide);have l2:qZ ((d.wait ⟨0,whole ⟨#[]⟩⟩).begin.wait ⟨1,whole ⟨#[]⟩⟩).begin 3:=p2.live hl;have e3:=si (l2.mono (j:=1) (by omega));have w1:=p2.flush h;obtain⟨d',e4,w2⟩:=zZ w1.Df (w1.live (k:=2) hl) 1 (by rw[w1.len];omega) (bs (oZ 1 (-1))) (Dl _ _);rw[z8 Hy]at w2;refine⟨_,d',?_,w1,w2⟩;have es:nR (d.wait ⟨0,whole ⟨#[]⟩⟩).begin 1 ⟨#[]⟩=(((d.wait ⟨0,whole ⟨#[]⟩⟩).begin.wait ⟨1,whole ⟨#[]⟩⟩).begin.begin.good,0):=by
  unfold nR;rw[e2,aai (by simp),e3]
 unfold Db;rw[e1,aai (by simp),es,aai (by simp)];exact e4
theorem nU(h:zW d):zW d.begin:=⟨h.waits,h.last,h.up⟩
def qK (s:rU):ByteArray×Int:=if s.tH then (⟨#[]⟩,41) else (s.kept,0)
theorem qL(h:zW d)(hl:qZ d 1){n:Nat}{s:rU}(hs:d.secs[n]? = some s):d.read (n:Nat)=(d.begin,qK s):=by
 have hn:n<d.secs.length:=(aal.1 hs).1;rw[JV hl n hn];have hz:=h.last n s hs;have e:d.begin.says n=qK s:=by
  unfold Dk.says;show (match d.secs[n]? with | none=>_ | some s=>_)=_;rw[hs];dsimp only;rw[hz];rfl
 rw[e]
theorem Nf{k:List Nat}(hl:Small l)(hk:Small k)(h:bs l=bs k):l=k:=by
 have:=P.CO hl hk;rw[h]at this;simpa using this.symm
theorem Re(n:Nat):(⟨#[]++Array.replicate n 0⟩:ByteArray)=bs (List.replicate n 0):=by
 unfold bs;simp
theorem J9:whole ⟨#[]⟩=bs (List.replicate 256 0):=by
 have e:256-(⟨#[]⟩:ByteArray).size=256:=rfl;unfold whole;rw[e];exact Re 256
theorem uw(a:Nat):Sd (whole ⟨#[]⟩) a none:=by
 intro g r h1 h2;rw[J9]at h2;have hz:Small (List.replicate 256 0):=by intro x hx;rw[List.eq_of_mem_replicate hx];decide
 have e:=Nf hz (P.rX g r) h2;have e1:=(P.nQ h1).2.1;rw[<- e]at e1;have e2:P.fK (List.replicate 256 0)=0:=by decide
 rw[e2]at e1;cases e1
theorem uz(h:oV g r){a:Nat}(ha:g % 2=a):Sd (bs (fZ g r)) a (some (g,r)):=⟨h,rfl,ha⟩
structure GB (B:Nat) (w:World) (p:Nat) (a:Ad) (q:Pq):Prop where
 blk:w.heap[p]? = some (.cells (q.cells a) 106)
 disk:D.aa B w a.d a.g q.disk
 sk:S.SA w a.k a.gk q.m (S.cnt q.m q.uk) q.uk
 fm:iP w a.mf q.fresh
 hm:iP w a.mh q.held
 mm:a.mf≠a.mh
 le:B<=p/\B<=a.k/\B<=a.gk/\B<=a.mf/\B<=a.mh
theorem GA.gb(h:GA B w p a q):GB B w p a q:=
 ⟨h.blk,h.disk,h.sk,h.fm,h.hm,h.ne.2.2.2.2.2.2,⟨h.le.1,h.le.2.1,h.le.2.2.1,h.le.2.2.2.2.2.2.2.1,h.le.2.2.2.2.2.2.2.2⟩⟩
theorem GB.kept(h:GB B w p a q)(k:D.Kept w w'):GB B w' p a q:=by
 obtain⟨_,_,f1⟩:=h.fm.block;obtain⟨_,_,h1⟩:=h.hm.block;exact⟨k.block h.blk,k.dk h.disk,h.sk.kept ⟨k.out⟩,h.fm.same ((k.block f1).trans f1.symm),h.hm.same ((k.block h1).trans h1.symm),h.mm,h.le⟩
theorem GB.cs(h:GB B w p a q) :
  w.cell? ⟨p,3,none⟩=some (.pointer (some ⟨a.k,0,none⟩))/\w.cell? ⟨p,4,none⟩=some (.pointer (some ⟨a.t,0,none⟩))/\w.cell? ⟨p,5,none⟩=some (.pointer (some ⟨a.n,0,none⟩))/\w.cell? ⟨p,6,none⟩=some (.map (some a.mf)):=by
 refine⟨?_,?_,?_,?_⟩ <;> (rw[cell_of_row w p _ _ _ _ h.blk];rfl)
theorem GB.fz(h:GB B w p a q)(j:Nat):w.frozen? ⟨p,j,none⟩=false:=frozen_of_row w p j _ _ h.blk
theorem GB.swap(h:GB B w p a q){b1 g1 b2 g2:Nat}{u:Nat->Bool}(s1:S.SA w b1 g1 q.m (S.cnt q.m u) u)(s2:S.SA w b2 g2 q.m (S.cnt q.m u) u)(hne:a.k≠b1/\a.k≠b2/\b1≠b2/\a.gk≠g1/\a.gk≠g2/\g1≠g2)(hle:B<=b1/\B<=g1/\B<=b2/\B<=g2){W:World}(hW:W=(w.setCell ⟨p,4,none⟩ (.pointer (some ⟨b1,0,none⟩))).setCell ⟨p,5,none⟩ (.pointer (some ⟨b2,0,none⟩))\/W=(w.setCell ⟨p,5,none⟩ (.pointer (some ⟨b2,0,none⟩))).setCell ⟨p,4,none⟩ (.pointer (some ⟨b1,0,none⟩))) :
  GA B W p { a with t:=b1,gt:=g1,n:=b2,gn:=g2 } { q with ut:=u,un:=u }/\On B w W:=by
 have hb:W.heap[p]? = some (.cells (Pq.cells { q with ut:=u,un:=u } { a with t:=b1,gt:=g1,n:=b2,gn:=g2 }) 106):=by
  rcases hW with rfl | rfl
  ·rw[heap_setCell_same _ p 5 _ _ _ (heap_setCell_same w p 4 _ _ _ h.blk)];rfl
  ·rw[heap_setCell_same _ p 4 _ _ _ (heap_setCell_same w p 5 _ _ _ h.blk)];rfl
 have e:∀ k,k≠p->W.heap[k]? = w.heap[k]?:=by
  intro k hk;rcases hW with rfl | rfl <;> rw[Below.heap_setCell _ _ _ _ hk,Below.heap_setCell _ _ _ _ hk]
 have hO:On B w W:=by
  rcases hW with rfl | rfl
  ·exact ((On.refl B w).setCell h.le.1 h.blk qG 4 _).setCell h.le.1 (heap_setCell_same w p 4 _ _ _ h.blk) qG 5 _
  ·exact ((On.refl B w).setCell h.le.1 h.blk qG 5 _).setCell h.le.1 (heap_setCell_same w p 5 _ _ _ h.blk) qG 4 _
 obtain⟨_,_,f1⟩:=h.fm.block;obtain⟨_,_,Wp⟩:=h.hm.block;have p7:=fM h.blk f1;have p8:=fM h.blk Wp;have sp:∀ {b g m l:Nat} {u:Nat->Bool},S.SA w b g m l u->S.SA W b g m l u:=by
  intro b g m l u s;obtain⟨⟨_,_,k1⟩,_,_,k2⟩:=s.blocks;exact s.same (e _ (aB k1 h.blk (by decide))) (e _ (aB k2 h.blk (by decide)))
 refine⟨⟨hb,h.disk.frame (fun k cs t fr hk hq=>by rw[e k (aB hk h.blk (qF hq).1)];exact hk),sp h.sk,sp s1,sp s2,h.fm.same (e _ p7.symm),h.hm.same (e _ p8.symm),⟨hne.1,hne.2.1,hne.2.2.1,hne.2.2.2.1,hne.2.2.2.2.1,hne.2.2.2.2.2,h.mm⟩,⟨h.le.1,h.le.2.1,h.le.2.2.1,hle.1,hle.2.1,hle.2.2.1,hle.2.2.2,h.le.2.2.2.1,h.le.2.2.2.2⟩⟩,hO⟩
def Pq.Rf (q:Pq):Pq:={ q with ut:=q.uk,un:=q.uk,fresh:=fun _=>none }
theorem Wv{l:Nat}(h:S.SA w b g m l u):b<w.heap.size/\g<w.heap.size:=by
 obtain⟨⟨_,_,h1⟩,_,_,h2⟩:=h.blocks;exact⟨(aaa.1 h1).1,(aaa.1 h2).1⟩
theorem TQ(h:w.heap[p]? = some (.cells (q.cells a) 106))(i:Nat)(v:Value)(hi:i≠3):(w.setCell ⟨p,i,none⟩ v).cell? ⟨p,3,none⟩=some (.pointer (some ⟨a.k,0,none⟩)):=by
 rw[cell_of_row _ p 3 _ _ _ (heap_setCell_same w p i _ _ _ h),aaI hi];rfl
theorem Ng(h:w.heap[p]? = some (.cells (q.cells a) 106))(i j:Nat)(v u:Value)(hi:i≠3)(hj:j≠3):((w.setCell ⟨p,i,none⟩ v).setCell ⟨p,j,none⟩ u).cell? ⟨p,3,none⟩=some (.pointer (some ⟨a.k,0,none⟩)):=by
 rw[cell_of_row _ p 3 _ _ _ (heap_setCell_same _ p j _ _ _ (heap_setCell_same w p i _ _ _ h)),aaI hj,aaI hi];rfl
theorem Hz(k:GB B w p a q)(hB:B<=w.heap.size):
 Calls Tryz.prog 37 #[.pointer (some ⟨p,0,none⟩)] w fun e w'=>e=.returned (.tuple #[])/\tZ B w' p a.d a.g q.Rf/\On B w w':=by
 obtain⟨c3,c4,c5,c6⟩:=k.cs;have cp:∀ W,D.Kept w W->Calls Tryz.prog 58 #[.pointer (some ⟨a.k,0,none⟩)] W fun e w'=>∃ b' g',e=.returned (.pointer (some ⟨b',0,none⟩))/\S.SA w' b' g' q.m (S.cnt q.m q.uk) q.uk/\W.heap.size<=b'/\W.heap.size<=g'/\D.Kept W w':=fun W hW=>(S.Cy (k.sk.kept ⟨hW.out⟩)).mono (by rintro e w' ⟨b',g',rfl,h1,h2,h3,h4⟩;exact⟨b',g',rfl,h1,h2,h3,⟨h4.out⟩⟩)
 have tok:Hid True:=trivial;go_enter Tryz.func37,Tryz.ntmps37;go_wp2;go_region_held3 (fun W=>W.cell? ⟨p,3,none⟩=some (.pointer (some ⟨a.k,0,none⟩))) (first | trivial | go_keep | exact y4 _ | exact y5 _ | exact y45 _ _ | exact y54 _ _) (first
  | (go_at_call 58;clear tok;(with_reducible refine (cp _ (by first | exact D.Kept.refl _ | exact (D.Kept.refl _).drew)).mono ?_);rintro e v1 ⟨b1,g1,rfl,s1,l1,U5,q1⟩;have qJ:D.Kept w v1:=D.Kept.trans (by first | exact D.Kept.refl _ | exact (D.Kept.refl _).drew) q1;have x13:=(k.kept qJ).cs.1)
  | (go_at_call 58;(with_reducible refine (cp _ qJ).mono ?_);rintro e v2 ⟨b2,g2,rfl,s2,l2,Zq,q2⟩;have wL:D.Kept w v2:=qJ.trans q2;have k2:=k.kept wL;obtain⟨x23,x24,x25,_⟩:=k2.cs;have z24:=k2.fz 4;have z25:=k2.fz 5;have y4:∀ v,(v2.setCell ⟨p,4,none⟩ v).cell? ⟨p,3,none⟩=some (.pointer (some ⟨a.k,0,none⟩)):=fun v=>TQ k2.blk 4 v (by decide);have y5:∀ v,(v2.setCell ⟨p,5,none⟩ v).cell? ⟨p,3,none⟩=some (.pointer (some ⟨a.k,0,none⟩)):=fun v=>TQ k2.blk 5 v (by decide);have y45:∀ v u,((v2.setCell ⟨p,4,none⟩ v).setCell ⟨p,5,none⟩ u).cell? ⟨p,3,none⟩=some (.pointer (some ⟨a.k,0,none⟩)):=fun v u=>Ng k2.blk 4 5 v u (by decide) (by decide);have y54:∀ v u,((v2.setCell ⟨p,5,none⟩ v).setCell ⟨p,4,none⟩ u).cell? ⟨p,3,none⟩=some (.pointer (some ⟨a.k,0,none⟩)):=fun v u=>Ng k2.blk 5 4 v u (by decide) (by decide);have w45:∀ v,(v2.setCell ⟨p,4,none⟩ v).cell? ⟨p,5,none⟩=some (.pointer (some ⟨a.n,0,none⟩)):=fun v=>(by rw[cell_of_row _ p 5 _ _ _ (heap_setCell_same v2 p 4 _ _ _ k2.blk)] <;> rfl);have w54:∀ v,(v2.setCell ⟨p,5,none⟩ v).cell? ⟨p,4,none⟩=some (.pointer (some ⟨a.t,0,none⟩)):=fun v=>(by rw[cell_of_row _ p 4 _ _ _ (heap_setCell_same v2 p 5 _ _ _ k2.blk)] <;> rfl);have v45:∀ v,(v2.setCell ⟨p,4,none⟩ v).frozen? ⟨p,5,none⟩=false:=fun v=>frozen_of_row _ p 5 _ _ (heap_setCell_same v2 p 4 _ _ _ k2.blk);have v54:∀ v,(v2.setCell ⟨p,5,none⟩ v).frozen? ⟨p,4,none⟩=false:=fun v=>frozen_of_row _ p 4 _ _ (heap_setCell_same v2 p 5 _ _ _ k2.blk);have b20:=Wv k.sk;have b21:=Wv s1;obtain⟨kA,NA⟩:=k2.swap (s1.kept ⟨q2.out⟩) s2 ⟨by have:=l1;simp at this;omega,by have:=qJ.size;omega,by omega,by have:=U5;simp at this;omega,by have:=qJ.size;omega,by omega⟩ ⟨by have:=l1;simp at this;omega,by have:=U5;simp at this;omega,by have:=qJ.size;omega,by have:=qJ.size;omega⟩ (.inl rfl);obtain⟨kA2,NA2⟩:=k2.swap (s1.kept ⟨q2.out⟩) s2 ⟨by have:=l1;simp at this;omega,by have:=qJ.size;omega,by omega,by have:=U5;simp at this;omega,by have:=qJ.size;omega,by omega⟩ ⟨by have:=l1;simp at this;omega,by have:=U5;simp at this;omega,by have:=qJ.size;omega,by have:=qJ.size;omega⟩ (.inr rfl)))
 have NA':On B w _:=(On.ax wL hB).trans NA;obtain⟨d0,d1,d2,d3,d4,d5,d6,d7,d8,d9⟩:=kA.cs;obtain⟨W3,cl0,m3,o3⟩:=kA.fm.clear 0;have cl:∀ ty,(Builtin.clear_ #[104] ty #[.map (some a.mf)]).run Tryz.prog _=.ok (.tuple #[]) W3:=fun ty=>cl0
 obtain⟨k3,n3⟩:=kA.Zl o3 m3;clear kA2 NA2 y4 y5 y45 y54 w45 w54 v45 v54 cl0;generalize ((v2.setCell ⟨p,4,none⟩ (.pointer (some ⟨b1,0,none⟩))).setCell ⟨p,5,none⟩ (.pointer (some ⟨b2,0,none⟩)))=W at *;go_wp2;first | go_end0 | refine bodyPost_ret (results_none rfl _ _ _) rfl ?_
 exact⟨rfl,⟨{ a with t:=b1,gt:=g1,n:=b2,gn:=g2 },rfl,rfl,k3⟩,NA'.trans n3⟩
theorem Ka{d:Nat}(h:tZ B w p d g q)(hB:B<=w.heap.size):
 Calls Tryz.prog 37 #[.pointer (some ⟨p,0,none⟩)] w fun e w'=>e=.returned (.tuple #[])/\tZ B w' p d g q.Rf/\On B w w':=by
 obtain⟨a,rfl,rfl,k⟩:=h.out;exact Hz k.gb hB
