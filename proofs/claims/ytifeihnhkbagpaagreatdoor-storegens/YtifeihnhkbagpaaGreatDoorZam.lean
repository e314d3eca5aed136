/- Joined. -/
import Derived.Test.YtifeihnhkbagpaaGreatDoorZab
import Derived.Test.YtifeihnhkbagpaaGreatDoorZae
import Derived.Test.YtifeihnhkbagpaaGreatDoorZai
import Derived.Test.YtifeihnhkbagpaaGreatDoorZal
namespace Go.Proofs.YtifeihnhkbagpaaGreatDoor.G
open ChangeShapes WideShapes ChangeAt RowKit
structure Pq where
 disk:D.Dk
 gen:Nat
 root:Int
 m:Nat
 uk:Nat->Bool
 ut:Nat->Bool
 un:Nat->Bool
 fresh:Nat->Option bG
 held:Nat->Option bG
 fails:Nat
 doubt:Bool
structure Ad where
 d:Nat
 g:Nat
 k:Nat
 gk:Nat
 t:Nat
 gt:Nat
 n:Nat
 gn:Nat
 mf:Nat
 mh:Nat
def Calm (t:TypeId):Prop:=D.Calm t/\t≠106/\t≠161/\t≠53
structure On (B:Nat) (w w':World):Prop where
 below:Below B w w'
 rows:∀ (b:Nat) (cs:Array Value) (t:TypeId) (fr:Nat×Nat),w.heap[b]? = some (.cells cs t fr)->Calm t->w'.heap[b]? = some (.cells cs t fr)
theorem On.refl(B:Nat)(w:World):On B w w:=⟨Below.refl _ _,fun _ _ _ _ h _=>h⟩
variable {B:Nat}{a b c:World}
theorem On.trans(h:On B a b)(k:On B b c):On B a c:=⟨h.below.trans k.below,fun x cs t fr hx ht=>k.rows x cs t fr (h.rows x cs t fr hx ht) ht⟩
variable {w w':World}
theorem On.mono{B':Nat}(h:On B w w')(hB:B'<=B):On B' w w':=⟨h.below.mono hB,h.rows⟩
theorem On.size(h:On B w w'):w.heap.size<=w'.heap.size:=h.below.size
theorem On.drew(h:On B a b):On B a b.drew:=⟨h.below.drew,h.rows⟩
theorem On.ax(h:D.Kept w w'){B:Nat}(hB:B<=w.heap.size):On B w w':=⟨h.out.mono hB,fun _ _ _ _ hx _=>h.block hx⟩
theorem On.kept(h:On B a b)(k:D.Kept b c)(hB:B<=a.heap.size):On B a c:=h.trans (On.ax k (aad hB h.size))
theorem On.JO(h:D.On B w w'):On B w w':=⟨h.below,fun b cs t fr hx hc=>h.rows b cs t fr hx hc.1⟩
variable {t:TypeId}
theorem qF(h:D.Quiet t):t≠106/\t≠161/\t≠53:=by rcases h with rfl | rfl | rfl | rfl | rfl <;> decide
theorem A7:¬ Calm 161:=fun h=>h.2.2.1 rfl
theorem GQ:¬ Calm 53:=fun h=>h.2.2.2 rfl
theorem qG:¬ Calm 106:=fun h=>h.2.1 rfl
variable {b c:Nat}{fr:Nat×Nat}
theorem aB{cs cs':Array Value}{t':TypeId}{fr':Nat×Nat}(h:w.heap[b]? = some (.cells cs t fr))(k:w.heap[c]? = some (.cells cs' t' fr'))(ht:t≠t'):b≠c:=by
 intro e;subst e;rw[h]at k;injection k with k
 injection k with _ e2 _
 exact ht e2
theorem fM{cs:Array Value}{es:Array MapEntry}{q:Nat}(h:w.heap[b]? = some (.cells cs t fr))(k:w.heap[c]? = some (.map es q)):b≠c:=by
 intro e;subst e;rw[h]at k;injection k with k
 cases k
variable {g m l:Nat}{u:Nat->Bool}
theorem On.Zd(s:S.SA w b g m l u)(h:S.Only b g w w')(hb:B<=b)(hg:B<=g):On B w w':=by
 obtain⟨⟨cs1,fr1,h1⟩,cs2,Ze,h2⟩:=s.blocks;refine⟨h.below B hb hg (aa3 (Nat.lt_of_le_of_lt hb (aaa.1 h1).1)),fun x cs t fr hx hc=>?_⟩;exact h.block x _ hx (aB hx h1 (fun e=>A7 (e▸hc))) (aB hx h2 (fun e=>GQ (e▸hc)))
variable {M:Nat->Option bG}
theorem On.TN(s:iP w b M)(h:One b w w')(hb:B<=b):On B w w':=by
 obtain⟨es,c,h1⟩:=s.block;refine⟨h.below B hb,fun x cs t fr hx _=>?_⟩;rw[h.block x (fM hx h1)];exact hx
theorem On.setCell{b:World}(h:On B a b){g:Nat}(hg:B<=g){cs:Array Value}{t:TypeId}{fr:Nat×Nat}(hb:b.heap[g]? = some (.cells cs t fr))(ht:¬ Calm t)(i:Nat)(u:Value):On B a (b.setCell ⟨g,i,none⟩ u):=by
 refine⟨h.below.setCell hg u,fun x cs' t' fr' hx hc=>?_⟩;have h1:=h.rows x cs' t' fr' hx hc;rw[Below.heap_setCell b ⟨g,i,none⟩ u x (aB h1 hb (fun e=>ht (e▸hc)))];exact h1
def Pq.cells (q:Pq) (a:Ad):Array Value:=#[.pointer (some ⟨a.d,0,none⟩),.int .u64 (q.gen:Nat),.int .i64 q.root,.pointer (some ⟨a.k,0,none⟩),.pointer (some ⟨a.t,0,none⟩),.pointer (some ⟨a.n,0,none⟩),.map (some a.mf),.map (some a.mh),.int .i64 (q.fails:Nat),.bool q.doubt]
structure GA (B:Nat) (w:World) (p:Nat) (a:Ad) (q:Pq):Prop where
 blk:w.heap[p]? = some (.cells (q.cells a) 106)
 disk:D.aa B w a.d a.g q.disk
 sk:S.SA w a.k a.gk q.m (S.cnt q.m q.uk) q.uk
 st:S.SA w a.t a.gt q.m (S.cnt q.m q.ut) q.ut
 sn:S.SA w a.n a.gn q.m (S.cnt q.m q.un) q.un
 fm:iP w a.mf q.fresh
 hm:iP w a.mh q.held
 ne:a.k≠a.t/\a.k≠a.n/\a.t≠a.n/\a.gk≠a.gt/\a.gk≠a.gn/\a.gt≠a.gn/\a.mf≠a.mh
 le:B<=p/\B<=a.k/\B<=a.gk/\B<=a.t/\B<=a.gt/\B<=a.n/\B<=a.gn/\B<=a.mf/\B<=a.mh
structure tZ (B:Nat) (w:World) (p d g:Nat) (q:Pq):Prop where
 out:∃ a:Ad,a.d=d/\a.g=g/\GA B w p a q
variable {p:Nat}{a:Ad}{q:Pq}
theorem GA.cs(h:GA B w p a q) :
  w.cell? ⟨p,0,none⟩=some (.pointer (some ⟨a.d,0,none⟩))/\w.cell? ⟨p,1,none⟩=some (.int .u64 q.gen)/\w.cell? ⟨p,2,none⟩=some (.int .i64 q.root)/\w.cell? ⟨p,3,none⟩=some (.pointer (some ⟨a.k,0,none⟩)) /\
  w.cell? ⟨p,4,none⟩=some (.pointer (some ⟨a.t,0,none⟩))/\w.cell? ⟨p,5,none⟩=some (.pointer (some ⟨a.n,0,none⟩))/\w.cell? ⟨p,6,none⟩=some (.map (some a.mf))/\w.cell? ⟨p,7,none⟩=some (.map (some a.mh)) /\
  w.cell? ⟨p,8,none⟩=some (.int .i64 q.fails)/\w.cell? ⟨p,9,none⟩=some (.bool q.doubt):=by
 refine⟨?_,?_,?_,?_,?_,?_,?_,?_,?_,?_⟩ <;> (rw[cell_of_row w p _ _ _ _ h.blk];rfl)
theorem GA.fz(h:GA B w p a q)(j:Nat):w.frozen? ⟨p,j,none⟩=false:=frozen_of_row w p j _ _ h.blk
theorem GA.ps(h:GA B w p a q):p≠a.k/\p≠a.gk/\p≠a.t/\p≠a.gt/\p≠a.n/\p≠a.gn/\p≠a.mf/\p≠a.mh:=by
 obtain⟨⟨_,_,k1⟩,_,_,k2⟩:=h.sk.blocks;obtain⟨⟨_,_,t1⟩,_,_,t2⟩:=h.st.blocks;obtain⟨⟨_,_,n1⟩,_,_,n2⟩:=h.sn.blocks;obtain⟨_,_,f1⟩:=h.fm.block;obtain⟨_,_,h1⟩:=h.hm.block;exact⟨aB h.blk k1 (by decide),aB h.blk k2 (by decide),aB h.blk t1 (by decide),aB h.blk t2 (by decide),aB h.blk n1 (by decide),aB h.blk n2 (by decide),fM h.blk f1,fM h.blk h1⟩
theorem GA.kept(h:GA B w p a q)(k:D.Kept w w'):GA B w' p a q:=by
 obtain⟨_,_,f1⟩:=h.fm.block;obtain⟨_,_,h1⟩:=h.hm.block;exact⟨k.block h.blk,k.dk h.disk,h.sk.kept ⟨k.out⟩,h.st.kept ⟨k.out⟩,h.sn.kept ⟨k.out⟩,h.fm.same ((k.block f1).trans f1.symm),h.hm.same ((k.block h1).trans h1.symm),h.ne,h.le⟩
theorem MP(h:t=106\/t=161\/t=53):D.Calm t:=by rcases h with rfl | rfl | rfl <;> (unfold D.Calm;decide)
theorem SA.EK(s:S.SA w b g m l u)(h:D.On B w w'):S.SA w' b g m l u:=by
 obtain⟨⟨_,_,k1⟩,_,_,k2⟩:=s.blocks;exact s.same ((h.rows _ _ _ _ k1 (MP (.inr (.inl rfl)))).trans k1.symm) ((h.rows _ _ _ _ k2 (MP (.inr (.inr rfl)))).trans k2.symm)
theorem iP.EK(s:iP w b M)(h:D.On B w w'):iP w' b M:=by
 obtain⟨_,_,k1⟩:=s.block;exact s.same ((h.maps _ _ _ k1).trans k1.symm)
theorem GA.EK(h:GA B w p a q)(o:D.On B w w'){d:D.Dk}(hd:D.aa B w' a.d a.g d):GA B w' p a { q with disk:=d }:=
 ⟨o.rows _ _ _ _ h.blk (MP (.inl rfl)),hd,SA.EK h.sk o,SA.EK h.st o,SA.EK h.sn o,iP.EK h.fm o,iP.EK h.hm o,h.ne,h.le⟩
theorem Fu(s:S.SA w b g m l u)(h:S.Only b g w w')(k:Nat)(cs:Array Value)(t:TypeId)(fr:Nat×Nat)(hk:w.heap[k]? = some (.cells cs t fr))(hq:D.Quiet t):w'.heap[k]? = some (.cells cs t fr):=by
 obtain⟨⟨cs1,fr1,h1⟩,cs2,Ze,h2⟩:=s.blocks;exact h.block k _ hk (aB hk h1 (qF hq).2.1) (aB hk h2 (qF hq).2.2)
theorem iP.JP(x:iP w c M)(s:S.SA w b g m l u)(h:S.Only b g w w'):iP w' c M:=by
 obtain⟨⟨cs1,fr1,h1⟩,cs2,Ze,h2⟩:=s.blocks;obtain⟨_,_,k1⟩:=x.block;exact x.same ((h.block c _ k1 (fM h1 k1).symm (fM h2 k1).symm).trans k1.symm)
variable {g':Nat}
theorem SA.JP{b' m' l':Nat}{u':Nat->Bool}(x:S.SA w b' g' m' l' u')(s:S.SA w b g m l u)(h:S.Only b g w w')(hb:b'≠b)(hg:g'≠g):S.SA w' b' g' m' l' u':=by
 obtain⟨⟨_,_,h1⟩,_,_,h2⟩:=s.blocks;obtain⟨⟨_,_,k1⟩,_,_,k2⟩:=x.blocks;exact x.same ((h.block b' _ k1 hb (aB k1 h2 (by decide))).trans k1.symm) ((h.block g' _ k2 (aB k2 h1 (by decide)) hg).trans k2.symm)
theorem SA.ug(h:S.SA w b g m l u):b<w.heap.size/\g<w.heap.size:=by
 obtain⟨⟨_,_,h1⟩,_,_,h2⟩:=h.blocks;exact⟨(aaa.1 h1).1,(aaa.1 h2).1⟩
variable {x s:Nat}
theorem vB(hg:g'=g\/s<=g')(h:x≠g)(hx:x<s):x≠g':=by
 rcases hg with rfl | hg
 ·exact h
 ·omega
theorem Fv(hg:g'=g\/s<=g')(h:x<=g)(hx:g<s):x<=g':=by
 rcases hg with rfl | hg
 ·exact h
 ·omega
theorem GA.UU(h:GA B w p a q)(o:S.Only a.t a.gt w w'){u:Nat->Bool}(hs:S.SA w' a.t g' q.m (S.cnt q.m u) u)(hg:g'=a.gt\/w.heap.size<=g'):GA B w' p { a with gt:=g' } { q with ut:=u }/\On B w w':=by
 obtain⟨p1,p2,p3,p4,p5,p6,p7,p8⟩:=h.ps;obtain⟨n1,n2,n3,n4,n5,n6,n7⟩:=h.ne;obtain⟨l1,l2,l3,l4,l5,l6,l7,l8,l9⟩:=h.le;have x1:=(SA.ug h.sk).2;have x2:=(SA.ug h.sn).2;have y1:a.gk≠g':=vB hg n4 x1;have y2:g'≠a.gn:=(vB hg n6.symm x2).symm;have y3:B<=g':=Fv hg l5 (SA.ug h.st).2;have z1:w'.heap[p]? = some (.cells (q.cells a) 106):=o.block p _ h.blk p3 p4;have z2:=h.disk.frame (Fu h.st o);have z3:=SA.JP h.sk h.st o n1 n4;have z4:=SA.JP h.sn h.st o n3.symm n6.symm;have z5:=iP.JP h.fm h.st o;have z6:=iP.JP h.hm h.st o;have z7:=On.Zd h.st o l4 l5;clear hg x1 x2 h o;obtain⟨ad,ag,ak,agk,at',agt,an,agn,amf,amh⟩:=a;obtain⟨qd,qg,qr,qm,qk,qt,qn,qf,qh,qx,qy⟩:=q;exact⟨⟨z1,z2,z3,hs,z4,z5,z6,⟨n1,n2,n3,y1,n5,y2,n7⟩,⟨l1,l2,l3,l4,y3,l6,l7,l8,l9⟩⟩,z7⟩
theorem GA.UW(h:GA B w p a q)(o:S.Only a.n a.gn w w'){u:Nat->Bool}(hs:S.SA w' a.n g' q.m (S.cnt q.m u) u)(hg:g'=a.gn\/w.heap.size<=g'):GA B w' p { a with gn:=g' } { q with un:=u }/\On B w w':=by
 obtain⟨p1,p2,p3,p4,p5,p6,p7,p8⟩:=h.ps;obtain⟨n1,n2,n3,n4,n5,n6,n7⟩:=h.ne;obtain⟨l1,l2,l3,l4,l5,l6,l7,l8,l9⟩:=h.le;have x1:=(SA.ug h.sk).2;have x2:=(SA.ug h.st).2;have y1:a.gk≠g':=vB hg n5 x1;have y2:a.gt≠g':=vB hg n6 x2;have y3:B<=g':=Fv hg l7 (SA.ug h.sn).2;have z1:w'.heap[p]? = some (.cells (q.cells a) 106):=o.block p _ h.blk p5 p6;have z2:=h.disk.frame (Fu h.sn o);have z3:=SA.JP h.sk h.sn o n2 n5;have z4:=SA.JP h.st h.sn o n3 n6;have z5:=iP.JP h.fm h.sn o;have z6:=iP.JP h.hm h.sn o;have z7:=On.Zd h.sn o l6 l7;clear hg x1 x2 h o;obtain⟨ad,ag,ak,agk,at',agt,an,agn,amf,amh⟩:=a;obtain⟨qd,qg,qr,qm,qk,qt,qn,qf,qh,qx,qy⟩:=q;exact⟨⟨z1,z2,z3,z4,hs,z5,z6,⟨n1,n2,n3,n4,y1,y2,n7⟩,⟨l1,l2,l3,l4,l5,l6,y3,l8,l9⟩⟩,z7⟩
theorem GA.onT(h:GA B w p a q)(o:S.Only a.t a.gt w w'){u:Nat->Bool}(hs:S.SA w' a.t a.gt q.m (S.cnt q.m u) u):GA B w' p a { q with ut:=u }/\On B w w':=h.UU o hs (.inl rfl)
theorem GA.onN(h:GA B w p a q)(o:S.Only a.n a.gn w w'){u:Nat->Bool}(hs:S.SA w' a.n a.gn q.m (S.cnt q.m u) u):GA B w' p a { q with un:=u }/\On B w w':=h.UW o hs (.inl rfl)
theorem GA.Zf(h:GA B w p a q)(o:S.Only a.k a.gk w w'){u:Nat->Bool}(hs:S.SA w' a.k g' q.m (S.cnt q.m u) u)(hg:g'=a.gk\/w.heap.size<=g'):GA B w' p { a with gk:=g' } { q with uk:=u }/\On B w w':=by
 obtain⟨p1,p2,p3,p4,p5,p6,p7,p8⟩:=h.ps;obtain⟨n1,n2,n3,n4,n5,n6,n7⟩:=h.ne;obtain⟨l1,l2,l3,l4,l5,l6,l7,l8,l9⟩:=h.le;have x1:=(SA.ug h.st).2;have x2:=(SA.ug h.sn).2;have y1:g'≠a.gt:=(vB hg n4.symm x1).symm;have y2:g'≠a.gn:=(vB hg n5.symm x2).symm;have y3:B<=g':=Fv hg l3 (SA.ug h.sk).2;have z1:w'.heap[p]? = some (.cells (q.cells a) 106):=o.block p _ h.blk p1 p2;have z2:=h.disk.frame (Fu h.sk o);have z3:=SA.JP h.st h.sk o n1.symm n4.symm;have z4:=SA.JP h.sn h.sk o n2.symm n5.symm;have z5:=iP.JP h.fm h.sk o;have z6:=iP.JP h.hm h.sk o;have z7:=On.Zd h.sk o l2 l3;clear hg x1 x2 h o;obtain⟨ad,ag,ak,agk,at',agt,an,agn,amf,amh⟩:=a;obtain⟨qd,qg,qr,qm,qk,qt,qn,qf,qh,qx,qy⟩:=q;exact⟨⟨z1,z2,hs,z3,z4,z5,z6,⟨n1,n2,n3,y1,y2,n6,n7⟩,⟨l1,l2,y3,l4,l5,l6,l7,l8,l9⟩⟩,z7⟩
theorem GA.Zg(h:GA B w p a q)(o:S.Only a.k a.gk w w'){u:Nat->Bool}(hs:S.SA w' a.k g' q.m (S.cnt q.m u) u)(hg:g'=a.gk\/w.heap.size<=g'):∃ a':Ad,(a'.d=a.d/\a'.g=a.g)/\(a'.mf=a.mf/\a'.mh=a.mh)/\GA B w' p a' { q with uk:=u }/\On B w w':=
 ⟨{ a with gk:=g' },⟨rfl,rfl⟩,⟨rfl,rfl⟩,h.Zf o hs hg⟩
theorem GA.Zh(h:GA B w p a q)(o:S.Only a.t a.gt w w'){u:Nat->Bool}(hs:S.SA w' a.t g' q.m (S.cnt q.m u) u)(hg:g'=a.gt\/w.heap.size<=g'):∃ a':Ad,(a'.d=a.d/\a'.g=a.g)/\(a'.mf=a.mf/\a'.mh=a.mh)/\GA B w' p a' { q with ut:=u }/\On B w w':=
 ⟨{ a with gt:=g' },⟨rfl,rfl⟩,⟨rfl,rfl⟩,h.UU o hs hg⟩
theorem GA.Zi(h:GA B w p a q)(o:S.Only a.n a.gn w w'){u:Nat->Bool}(hs:S.SA w' a.n g' q.m (S.cnt q.m u) u)(hg:g'=a.gn\/w.heap.size<=g'):∃ a':Ad,(a'.d=a.d/\a'.g=a.g)/\(a'.mf=a.mf/\a'.mh=a.mh)/\GA B w' p a' { q with un:=u }/\On B w w':=
 ⟨{ a with gn:=g' },⟨rfl,rfl⟩,⟨rfl,rfl⟩,h.UW o hs hg⟩
theorem GA.Zj(h:GA B w p a q)(o:S.Only a.t a.gt w w'){u:Nat->Bool}(hs:S.SA w' a.t g' q.m (S.cnt q.m u) u)(hg:g'=a.gt\/w.heap.size<=g'):∃ a':Ad,a'.d=a.d/\a'.g=a.g/\GA B w' p a' { q with ut:=u }/\On B w w':=
 ⟨{ a with gt:=g' },rfl,rfl,h.UU o hs hg⟩
theorem GA.Zk(h:GA B w p a q)(o:S.Only a.n a.gn w w'){u:Nat->Bool}(hs:S.SA w' a.n g' q.m (S.cnt q.m u) u)(hg:g'=a.gn\/w.heap.size<=g'):∃ a':Ad,a'.d=a.d/\a'.g=a.g/\GA B w' p a' { q with un:=u }/\On B w w':=
 ⟨{ a with gn:=g' },rfl,rfl,h.UW o hs hg⟩
theorem SA.Wt(x:S.SA w b g m l u)(s:iP w c M)(h:One c w w'):S.SA w' b g m l u:=by
 obtain⟨_,_,h1⟩:=s.block;obtain⟨⟨_,_,k1⟩,_,_,k2⟩:=x.blocks;exact x.same (h.block b (fM k1 h1)) (h.block g (fM k2 h1))
theorem MQ(s:iP w c M)(h:One c w w')(k:Nat)(cs:Array Value)(t:TypeId)(fr:Nat×Nat)(hk:w.heap[k]? = some (.cells cs t fr))(_:D.Quiet t):w'.heap[k]? = some (.cells cs t fr):=by
 obtain⟨_,_,h1⟩:=s.block;rw[h.block k (fM hk h1)];exact hk
theorem GA.Zl(h:GA B w p a q)(o:One a.mf w w'){M:Nat->Option bG}(hs:iP w' a.mf M):GA B w' p a { q with fresh:=M }/\On B w w':=by
 obtain⟨p1,p2,p3,p4,p5,p6,p7,p8⟩:=h.ps;exact⟨⟨(o.block p p7).trans h.blk,h.disk.frame (MQ h.fm o),SA.Wt h.sk h.fm o,SA.Wt h.st h.fm o,SA.Wt h.sn h.fm o,hs,h.hm.same (o.block _ h.ne.2.2.2.2.2.2.symm),h.ne,h.le⟩,On.TN h.fm o h.le.2.2.2.2.2.2.2.1⟩
theorem GA.onH(h:GA B w p a q)(o:One a.mh w w'){M:Nat->Option bG}(hs:iP w' a.mh M):GA B w' p a { q with held:=M }/\On B w w':=by
 obtain⟨p1,p2,p3,p4,p5,p6,p7,p8⟩:=h.ps;exact⟨⟨(o.block p p8).trans h.blk,h.disk.frame (MQ h.hm o),SA.Wt h.sk h.hm o,SA.Wt h.st h.hm o,SA.Wt h.sn h.hm o,h.fm.same (o.block _ h.ne.2.2.2.2.2.2),hs,h.ne,h.le⟩,On.TN h.hm o h.le.2.2.2.2.2.2.2.2⟩
theorem GA.turn(h:GA B w p a q)(i:Nat)(v:Value) :
  (D.aa B (w.setCell ⟨p,i,none⟩ v) a.d a.g q.disk/\S.SA (w.setCell ⟨p,i,none⟩ v) a.k a.gk q.m (S.cnt q.m q.uk) q.uk/\S.SA (w.setCell ⟨p,i,none⟩ v) a.t a.gt q.m (S.cnt q.m q.ut) q.ut/\S.SA (w.setCell ⟨p,i,none⟩ v) a.n a.gn q.m (S.cnt q.m q.un) q.un /\
   iP (w.setCell ⟨p,i,none⟩ v) a.mf q.fresh/\iP (w.setCell ⟨p,i,none⟩ v) a.mh q.held)/\On B w (w.setCell ⟨p,i,none⟩ v):=by
 obtain⟨p1,p2,p3,p4,p5,p6,p7,p8⟩:=h.ps;have e:∀ k,p≠k->(w.setCell ⟨p,i,none⟩ v).heap[k]? = w.heap[k]?:=fun k hk=>Below.heap_setCell w ⟨p,i,none⟩ v k (Ne.symm hk)
 refine⟨⟨h.disk.frame (fun k cs t fr hk hq=>?_),h.sk.same (e _ p1) (e _ p2),h.st.same (e _ p3) (e _ p4),h.sn.same (e _ p5) (e _ p6),h.fm.same (e _ p7),h.hm.same (e _ p8)⟩,(On.refl B w).setCell h.le.1 h.blk qG i v⟩;rw[e k (aB h.blk hk (qF hq).1.symm)];exact hk
theorem GA.MR(h:GA B w p a q)(x:Bool):GA B (w.setCell ⟨p,9,none⟩ (.bool x)) p a { q with doubt:=x }/\On B w (w.setCell ⟨p,9,none⟩ (.bool x)):=by
 obtain⟨⟨h1,h2,h3,h4,h5,h6⟩,ho⟩:=h.turn 9 (.bool x);exact⟨⟨by rw[heap_setCell_same w p 9 _ _ _ h.blk];rfl,h1,h2,h3,h4,h5,h6,h.ne,h.le⟩,ho⟩
def Zm (t:TypeId):Prop:=¬ D.Quiet t/\t≠106/\t≠161/\t≠53
theorem GA.far(h:GA B w p a q){x:Nat}{cs:Array Value}{t:TypeId}{fr:Nat×Nat}(hx:w.heap[x]? = some (.cells cs t fr))(ht:Zm t)(e:∀ k,k≠x->w'.heap[k]? = w.heap[k]?):GA B w' p a q:=by
 obtain⟨⟨_,_,k1⟩,_,_,k2⟩:=h.sk.blocks;obtain⟨⟨_,_,t1⟩,_,_,t2⟩:=h.st.blocks;obtain⟨⟨_,_,n1⟩,_,_,n2⟩:=h.sn.blocks;obtain⟨_,_,f1⟩:=h.fm.block;obtain⟨_,_,h1⟩:=h.hm.block;refine⟨(e p (aB h.blk hx ht.2.1.symm)).trans h.blk,h.disk.frame (fun k cs' t' fr' hk hq=>?_),h.sk.same (e _ (aB k1 hx ht.2.2.1.symm)) (e _ (aB k2 hx ht.2.2.2.symm)),h.st.same (e _ (aB t1 hx ht.2.2.1.symm)) (e _ (aB t2 hx ht.2.2.2.symm)),
  h.sn.same (e _ (aB n1 hx ht.2.2.1.symm)) (e _ (aB n2 hx ht.2.2.2.symm)),h.fm.same (e _ (fM hx f1).symm),h.hm.same (e _ (fM hx h1).symm),h.ne,h.le⟩
 rw[e k (aB hk hx (fun e=>ht.1 (e▸hq)))];exact hk
theorem Bo:Zm 157:=by unfold Zm D.Quiet;decide
