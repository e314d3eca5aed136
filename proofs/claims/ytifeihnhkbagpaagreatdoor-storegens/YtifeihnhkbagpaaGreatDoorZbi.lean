/- Joined. -/
import Derived.Test.YtifeihnhkbagpaaGreatDoorZbd
import Derived.Test.YtifeihnhkbagpaaGreatDoorZbf
import Derived.Test.YtifeihnhkbagpaaGreatDoorZbg
import Derived.Test.YtifeihnhkbagpaaGreatDoorZbh
set_option maxRecDepth 100000
set_option maxHeartbeats 2000000
namespace Go.Proofs.YtifeihnhkbagpaaGreatDoor.T
open ChangeShapes WideShapes ChangeAt RowKit
open B (Pm pt kG)
open N (Nd NV Rw Rx Kept dA dQ aO Vl C4)
structure dI (W:World) (t p:Nat) (root:Int):Prop where
 out:W.heap[t]? = some (.cells #[.pointer (some ⟨p,0,none⟩),.int .i64 root] 110)
variable {W W':World}{t p:Nat}{root:Int}
theorem dI.kept(h:dI W t p root)(k:Kept W W'):dI W' t p root:=⟨(k.out.block t (aaa.1 h.out).1).trans h.out⟩
theorem dI.cs(h:dI W t p root):W.cell? ⟨t,0,none⟩=some (.pointer (some ⟨p,0,none⟩))/\W.cell? ⟨t,1,none⟩=some (.int .i64 root):=by
 refine⟨?_,?_⟩ <;> (rw[cell_of_row W t _ _ _ _ h.out];rfl)
theorem I1:G.Calm 110:=by unfold G.Calm D.Calm;decide
theorem Ud:G.Calm 9:=by unfold G.Calm D.Calm;decide
theorem nK:G.Calm 77:=by unfold G.Calm D.Calm;decide
theorem nD:G.Calm 3:=by unfold G.Calm D.Calm;decide
theorem fU:G.Calm 121:=by unfold G.Calm D.Calm;decide
theorem pM:G.Calm 170:=by unfold G.Calm D.Calm;decide
theorem Ta:G.Calm 196:=by unfold G.Calm D.Calm;decide
theorem dI.on{B:Nat}(h:dI W t p root)(o:G.On B W W'):dI W' t p root:=⟨o.rows _ _ _ _ h.out I1⟩
variable {w w':World}
theorem I4{B:Nat}(o:G.On B w w'){e:TypeId}(he:G.Calm e){p:Option Addr}{c:Nat}(h:Rx w e p c):Rx w' e p c:=
 ⟨(fun b off ph hp=>by obtain⟨cs,fr,hb⟩:=h.typ b off ph hp;exact⟨cs,fr,o.rows _ _ _ _ hb he⟩),h.nil⟩
theorem I5{B:Nat}(o:G.On B w w'){e:TypeId}(he:G.Calm e){sz:Nat}{p:Option Addr}{n c:Nat}{cs:List Value}(h:Rw w sz p n c cs)(hx:Rx w e p c):Rw w' sz p n c cs:=by
 refine⟨h.len,h.le,h.cap,?_⟩;rcases h.out with h0 | ⟨b,off,rfl,f⟩
 ·exact .inl h0
 ·refine .inr ⟨b,off,rfl,fun j u hu=>?_⟩
  obtain⟨cs',fr,hb⟩:=hx.typ b off none rfl;rw[<- f j u hu];exact World.cell?_of_block ((o.rows _ _ _ _ hb he).trans hb.symm)
theorem yP{B:Nat}(o:G.On B w w'){l:Bool}{kp:Option Addr}{nk kc:Nat}{vp:Option Addr}{nv vc:Nat}{ip:Option Addr}{ni ic:Nat}{x:Nd}(h:NV w l kp nk kc vp nv vc ip ni ic x):NV w' l kp nk kc vp nv vc ip ni ic x:=
 ⟨h.hl,I5 o Ud h.k h.kx,I5 o nK h.v h.vx,I5 o nD h.i h.ix,I4 o Ud h.kx,I4 o nK h.vx,I4 o nD h.ix⟩
theorem jR(h:dI w t p root):Calls Tryz.prog 57 #[.pointer (some ⟨t,0,none⟩)] w fun e w'=>e=.returned (.bool false)/\w'=w:=by
 obtain⟨c0,c1⟩:=h.cs;go_enter Tryz.func57,Tryz.ntmps57;go_wp2;go_ret;exact⟨rfl,rfl⟩
theorem oF(h:dI w t p root):Calls Tryz.prog 36 #[.pointer (some ⟨t,0,none⟩)] w fun e w'=>e=.returned (.int .i64 root)/\w'=w:=by
 obtain⟨c0,c1⟩:=h.cs;have f:=jR h;go_enter Tryz.func36,Tryz.ntmps36;go_wp2_with (go_at_call 57;(with_reducible refine f.mono ?_);rintro e w1 ⟨rfl,hw1⟩;rw[hw1];clear hw1);go_ret;exact⟨rfl,rfl⟩
theorem dN(w:World)(p:Nat)(root:Int):Calls Tryz.prog 59 #[.pointer (some ⟨p,0,none⟩),.int .i64 root] w fun e w'=>e=.returned (.pointer (some ⟨w.heap.size,0,none⟩))/\dI w' w.heap.size p root/\Kept w w':=by
 go_enter Tryz.func59,Tryz.ntmps59;go_wp2;go_ret;exact⟨rfl,⟨heap_alloc_new w _⟩,(Kept.refl w).alloc _⟩
theorem D9(w:World)(k:ByteArray):Calls Tryz.prog 84 #[.string k] w fun e w'=>e=.returned (.bool (decide (k.size<=64)))/\w'=w:=by
 go_enter Tryz.func84,Tryz.ntmps84;go_wp2;go_ret;refine⟨?_,rfl⟩;congr 2;simp;omega
structure fV (W:World) (c t:Nat) (v:Value):Prop where
 out:W.heap[c]? = some (.cells #[.pointer (some ⟨t,0,none⟩),v] 196)
variable {c:Nat}{v:Value}
theorem fV.kept(h:fV W c t v)(k:Kept W W'):fV W' c t v:=⟨(k.out.block c (aaa.1 h.out).1).trans h.out⟩
theorem fV.on{B:Nat}(h:fV W c t v)(o:G.On B W W'):fV W' c t v:=⟨o.rows _ _ _ _ h.out Ta⟩
theorem fV.cs(h:fV W c t v):W.cell? ⟨c,0,none⟩=some (.pointer (some ⟨t,0,none⟩))/\W.cell? ⟨c,1,none⟩=some v:=by
 refine⟨?_,?_⟩ <;> (rw[cell_of_row W c _ _ _ _ h.out];rfl)
theorem aC(h:S.gU w)(k:Kept w w'):S.gU w':=h.kept ⟨k.out⟩
theorem eZ{B:Nat}(h:S.gU w)(o:G.On B w w')(hB:1<B):S.gU w':=G.eZ h o.below hB
theorem Ue{B:Nat}(o:G.On B w w'){b:Nat}{a0 a1 a2 a3:Value}(h:C4 w b 121 a0 a1 a2 a3):C4 w' b 121 a0 a1 a2 a3:=⟨o.rows _ _ _ _ h.out fU⟩
theorem mr{B:Nat}{w:World}{c t p:Nat}{m:Xm}{n:Nat}{jv:Value}{root:Int}{M:Pm}(hC:fV w c t jv)(hT:dI w t p root)(h:Pv B w p m M)(hB:B<=w.heap.size)(hL:S.gU w){l:Bool}{kp:Option Addr}{nk kc:Nat}{vp:Option Addr}{nv vc:Nat}{ip:Option Addr}{ni ic:Nat}{x:Nd}(hx:NV w l kp nk kc vp nv vc ip ni ic x)(g:N.Good x)(hs:x.put.length<=237)(hf:fO M m=some n):
 Calls Tryz.prog 151 #[.pointer (some ⟨c,0,none⟩),.agg #[.bool l,.slice kp nk kc,.slice vp nv vc,.slice ip ni ic]] w fun e w'=>e=.returned (.tuple #[.int .i64 n,.int .i64 0])/\Pv B w' p m (pt M n x)/\G.On B w w':=by
 have K0:Kept w (w.alloc (.cells #[.bool l,.slice kp nk kc,.slice vp nv vc,.slice ip ni ic] 121)):=(Kept.refl w).alloc _;have X0:=C4.alloc w 121 (.bool l) (.slice kp nk kc) (.slice vp nv vc) (.slice ip ni ic);have HP:Hid (∀ W,Kept w W->Calls Tryz.prog 180 #[.agg #[.bool l,.slice kp nk kc,.slice vp nv vc,.slice ip ni ic]] W fun e w'=>e=.returned (.string (N.bs x.put))/\Kept W w'):=fun W k=>N.fB (hx.kept k) g
 have HA:Hid (∀ W,Kept w W->Calls Tryz.prog 128 #[.pointer (some ⟨p,0,none⟩),.int .i64 (kindOf x),.string (N.bs x.put)] W fun e w'=>e=.returned (.tuple #[.int .i64 n,.int .i64 0])/\Pv B w' p m (pt M n x)/\G.On B W w'):=fun W k=>(h.kept k).mr (aad hB k.size) (aC hL k) x hs hf
 have hk:kindOf x=if l=true then 2 else 3:=by unfold kindOf;rw[hx.hl]
 rw[hk]at HA;obtain⟨c0,c1⟩:=(hC.kept K0).cs;obtain⟨t0,t1⟩:=(hT.kept K0).cs;obtain⟨x0,x1,x2,x3⟩:=X0.cs;have HC:Hid _:=hC;have HT:Hid _:=hT;have HV:Hid _:=h;generalize N.bs x.put=sx at HP HA;clear hx g hs hk h hC hT hf;cases l with
 | true=>
  simp only[if_true]at HA;go_enter Tryz.func151,Tryz.ntmps151;go_wp2;go_region_held3 (fun W=>W.cell? ⟨c,0,none⟩=some (.pointer (some ⟨t,0,none⟩))/\W.cell? ⟨t,0,none⟩=some (.pointer (some ⟨p,0,none⟩))/\W.cell? ⟨w.heap.size,0,none⟩=some (.bool true)/\W.cell? ⟨w.heap.size,1,none⟩=some (.slice kp nk kc)/\W.cell? ⟨w.heap.size,2,none⟩=some (.slice vp nv vc)/\W.cell? ⟨w.heap.size,3,none⟩=some (.slice ip ni ic)) (first | trivial | go_keep) (first
   | (go_at_call 180;(with_reducible refine (HP.out _ (by first | exact K0.drew | exact K0)).mono ?_);rintro e w1 ⟨rfl,k1⟩;have K1:Kept w w1:=Kept.trans (by first | exact K0.drew | exact K0) k1;obtain⟨d0,d1⟩:=(HC.out.kept K1).cs;obtain⟨e0,e1⟩:=(HT.out.kept K1).cs;have X1:C4 w1 w.heap.size 121 (.bool true) (.slice kp nk kc) (.slice vp nv vc) (.slice ip ni ic):=C4.kept (by first | exact X0.drew | exact X0) k1;obtain⟨y0,y1,y2,y3⟩:=X1.cs)
   | (go_at_call 128;(with_reducible refine (HA.out _ K1).mono ?_);rintro e w2 ⟨rfl,h2,o2⟩;obtain⟨d0,d1⟩:=((HC.out.kept K1).on o2).cs;obtain⟨e0,e1⟩:=((HT.out.kept K1).on o2).cs;obtain⟨y0,y1,y2,y3⟩:=(Ue o2 X1).cs))
  all_goals go_wp2
  all_goals go_ret2
  all_goals exact⟨rfl,by first | exact h2 | exact h2.kept ((Kept.refl _).drew),by first | exact (G.On.ax ⟨K1.out⟩ hB).trans o2 | exact ((G.On.ax ⟨K1.out⟩ hB).trans o2).drew⟩
 | false=>
  simp only[Bool.false_eq_true,if_false]at HA;go_enter Tryz.func151,Tryz.ntmps151;go_wp2;go_region_held3 (fun W=>W.cell? ⟨c,0,none⟩=some (.pointer (some ⟨t,0,none⟩))/\W.cell? ⟨t,0,none⟩=some (.pointer (some ⟨p,0,none⟩))/\W.cell? ⟨w.heap.size,0,none⟩=some (.bool false)/\W.cell? ⟨w.heap.size,1,none⟩=some (.slice kp nk kc)/\W.cell? ⟨w.heap.size,2,none⟩=some (.slice vp nv vc)/\W.cell? ⟨w.heap.size,3,none⟩=some (.slice ip ni ic)) (first | trivial | go_keep) (first
   | (go_at_call 180;(with_reducible refine (HP.out _ (by first | exact K0.drew | exact K0)).mono ?_);rintro e w1 ⟨rfl,k1⟩;have K1:Kept w w1:=Kept.trans (by first | exact K0.drew | exact K0) k1;obtain⟨d0,d1⟩:=(HC.out.kept K1).cs;obtain⟨e0,e1⟩:=(HT.out.kept K1).cs;have X1:C4 w1 w.heap.size 121 (.bool false) (.slice kp nk kc) (.slice vp nv vc) (.slice ip ni ic):=C4.kept (by first | exact X0.drew | exact X0) k1;obtain⟨y0,y1,y2,y3⟩:=X1.cs)
   | (go_at_call 128;(with_reducible refine (HA.out _ K1).mono ?_);rintro e w2 ⟨rfl,h2,o2⟩;obtain⟨d0,d1⟩:=((HC.out.kept K1).on o2).cs;obtain⟨e0,e1⟩:=((HT.out.kept K1).on o2).cs;obtain⟨y0,y1,y2,y3⟩:=(Ue o2 X1).cs))
  all_goals go_wp2
  all_goals go_ret2
  all_goals exact⟨rfl,by first | exact h2 | exact h2.kept ((Kept.refl _).drew),by first | exact (G.On.ax ⟨K1.out⟩ hB).trans o2 | exact ((G.On.ax ⟨K1.out⟩ hB).trans o2).drew⟩
theorem oo{B:Nat}{w:World}{c t p:Nat}{m:Xm}{jv:Value}{root:Int}{M:Pm}(hC:fV w c t jv)(hT:dI w t p root)(h:Pv B w p m M)(_:B<=w.heap.size)(hL:S.gU w){l:Bool}{kp:Option Addr}{nk kc:Nat}{vp:Option Addr}{nv vc:Nat}{ip:Option Addr}{ni ic:Nat}{x:Nd}(hx:NV w l kp nk kc vp nv vc ip ni ic x)(g:N.Good x)(_:x.put.length<=237)(hf:fO M m=none):
 Calls Tryz.prog 151 #[.pointer (some ⟨c,0,none⟩),.agg #[.bool l,.slice kp nk kc,.slice vp nv vc,.slice ip ni ic]] w fun e w'=>e=.returned (.tuple #[.int .i64 0,.int .i64 80])/\Kept w w':=by
 have K0:Kept w (w.alloc (.cells #[.bool l,.slice kp nk kc,.slice vp nv vc,.slice ip ni ic] 121)):=(Kept.refl w).alloc _;have X0:=C4.alloc w 121 (.bool l) (.slice kp nk kc) (.slice vp nv vc) (.slice ip ni ic);have HP:Hid (∀ W,Kept w W->Calls Tryz.prog 180 #[.agg #[.bool l,.slice kp nk kc,.slice vp nv vc,.slice ip ni ic]] W fun e w'=>e=.returned (.string (N.bs x.put))/\Kept W w'):=fun W k=>N.fB (hx.kept k) g
 have HA:Hid (∀ W,Kept w W->Calls Tryz.prog 128 #[.pointer (some ⟨p,0,none⟩),.int .i64 (kindOf x),.string (N.bs x.put)] W fun e w'=>e=.returned (.tuple #[.int .i64 0,.int .i64 80])/\w'=W):=fun W k=>(h.kept k).oo (aC hL k) _ _ hf
 have hk:kindOf x=if l=true then 2 else 3:=by unfold kindOf;rw[hx.hl]
 rw[hk]at HA;obtain⟨c0,c1⟩:=(hC.kept K0).cs;obtain⟨t0,t1⟩:=(hT.kept K0).cs;obtain⟨x0,x1,x2,x3⟩:=X0.cs;have HC:Hid _:=hC;have HT:Hid _:=hT;have HV:Hid _:=h;generalize N.bs x.put=sx at HP HA;clear hx g hk h hC hT hf;cases l with
 | true=>
  simp only[if_true]at HA;go_enter Tryz.func151,Tryz.ntmps151;go_wp2;go_region_held3 (fun W=>W.cell? ⟨c,0,none⟩=some (.pointer (some ⟨t,0,none⟩))/\W.cell? ⟨t,0,none⟩=some (.pointer (some ⟨p,0,none⟩))/\W.cell? ⟨w.heap.size,0,none⟩=some (.bool true)/\W.cell? ⟨w.heap.size,1,none⟩=some (.slice kp nk kc)/\W.cell? ⟨w.heap.size,2,none⟩=some (.slice vp nv vc)/\W.cell? ⟨w.heap.size,3,none⟩=some (.slice ip ni ic)) (first | trivial | go_keep) (first
   | (go_at_call 180;(with_reducible refine (HP.out _ (by first | exact K0.drew | exact K0)).mono ?_);rintro e w1 ⟨rfl,k1⟩;have K1:Kept w w1:=Kept.trans (by first | exact K0.drew | exact K0) k1;obtain⟨d0,d1⟩:=(HC.out.kept K1).cs;obtain⟨e0,e1⟩:=(HT.out.kept K1).cs;have X1:C4 w1 w.heap.size 121 (.bool true) (.slice kp nk kc) (.slice vp nv vc) (.slice ip ni ic):=C4.kept (by first | exact X0.drew | exact X0) k1;obtain⟨y0,y1,y2,y3⟩:=X1.cs)
   | (go_at_call 128;(with_reducible refine (HA.out _ K1).mono ?_);rintro e w2 ⟨rfl,hw2⟩;rw[hw2];clear hw2))
  all_goals go_wp2
  all_goals go_ret2
  all_goals exact⟨rfl,by first | exact K1 | exact K1.drew⟩
 | false=>
  simp only[Bool.false_eq_true,if_false]at HA;go_enter Tryz.func151,Tryz.ntmps151;go_wp2;go_region_held3 (fun W=>W.cell? ⟨c,0,none⟩=some (.pointer (some ⟨t,0,none⟩))/\W.cell? ⟨t,0,none⟩=some (.pointer (some ⟨p,0,none⟩))/\W.cell? ⟨w.heap.size,0,none⟩=some (.bool false)/\W.cell? ⟨w.heap.size,1,none⟩=some (.slice kp nk kc)/\W.cell? ⟨w.heap.size,2,none⟩=some (.slice vp nv vc)/\W.cell? ⟨w.heap.size,3,none⟩=some (.slice ip ni ic)) (first | trivial | go_keep) (first
   | (go_at_call 180;(with_reducible refine (HP.out _ (by first | exact K0.drew | exact K0)).mono ?_);rintro e w1 ⟨rfl,k1⟩;have K1:Kept w w1:=Kept.trans (by first | exact K0.drew | exact K0) k1;obtain⟨d0,d1⟩:=(HC.out.kept K1).cs;obtain⟨e0,e1⟩:=(HT.out.kept K1).cs;have X1:C4 w1 w.heap.size 121 (.bool false) (.slice kp nk kc) (.slice vp nv vc) (.slice ip ni ic):=C4.kept (by first | exact X0.drew | exact X0) k1;obtain⟨y0,y1,y2,y3⟩:=X1.cs)
   | (go_at_call 128;(with_reducible refine (HA.out _ K1).mono ?_);rintro e w2 ⟨rfl,hw2⟩;rw[hw2];clear hw2))
  all_goals go_wp2
  all_goals go_ret2
  all_goals exact⟨rfl,by first | exact K1 | exact K1.drew⟩
open N (Nw Up)
variable {m:Xm}{n:Nat}{M:Pm}
theorem vK{B:Nat}(hT:dI w t p root)(h:Pv B w p m M){y:Nd}(hy:M n=some y)(g:N.Good y)(hu:Up y.ks)(l:Bool)(hl:y.leaf=l):
 Calls Tryz.prog 94 #[.pointer (some ⟨t,0,none⟩),.int .i64 n] w fun e w'=>∃ kp nk kc vp nv vc ip ni ic,e=.returned (.tuple #[.agg #[.bool l,.slice kp nk kc,.slice vp nv vc,.slice ip ni ic],.int .i64 0])/\NV w' l kp nk kc vp nv vc ip ni ic y/\Kept w w'/\Nw w.heap.size ip:=by
 have HN:Hid (∀ W,Kept w W->Calls Tryz.prog 57 #[.pointer (some ⟨t,0,none⟩)] W fun e w'=>e=.returned (.bool false)/\w'=W):=fun W k=>jR (hT.kept k)
 have HR:Hid (∀ W kb fr,Kept w W->W.heap[kb]? = some (.cells #[.int .i64 2,.int .i64 3] 3 fr)->Calls Tryz.prog 131 #[.pointer (some ⟨p,0,none⟩),.int .i64 n,.slice (some ⟨kb,0,none⟩) 2 2] W fun e w'=>(∃ xg:Nat,e=.returned (.tuple #[.agg #[.int .i64 (kindOf y),.int .i64 n,.int .u64 (xg:Nat),.string (N.bs y.put)],.int .i64 0]))/\Kept W w'):=fun W kb fr k hk=>(h.kept k).read hk hy
 have HG:Hid (∀ W,Calls Tryz.prog 132 #[.string (N.bs y.put),.bool l] W fun e w'=>∃ kp nk kc vp nv vc ip ni ic,e=.returned (.tuple #[.agg #[.bool l,.slice kp nk kc,.slice vp nv vc,.slice ip ni ic],.int .i64 0])/\NV w' l kp nk kc vp nv vc ip ni ic y/\Kept W w'/\Nw W.heap.size ip):=fun W=>N.DU g g.few hu l hl
 have hkd:kindOf y=if l=true then 2 else 3:=by unfold kindOf;rw[hl]
 rw[hkd]at HR;have K0:Kept w (w.alloc (.cells #[.bool false,.slice none 0 0,.slice none 0 0,.slice none 0 0] 121)):=(Kept.refl w).alloc _;have R0:=C4.alloc w 121 (.bool false) (.slice none 0 0) (.slice none 0 0) (.slice none 0 0);have S0:=N.size_alloc w (.cells #[.bool false,.slice none 0 0,.slice none 0 0,.slice none 0 0] 121);obtain⟨c0,c1⟩:=(hT.kept K0).cs;generalize N.bs y.put=sx at *;clear hkd hl hu g hy h hT;have KB:Kept w ((w.alloc (.cells #[.bool false,.slice none 0 0,.slice none 0 0,.slice none 0 0] 121)).alloc (.cells #[.int .i64 2,.int .i64 3] 3)):=K0.alloc _;have hb:((w.alloc (.cells #[.bool false,.slice none 0 0,.slice none 0 0,.slice none 0 0] 121)).alloc (.cells #[.int .i64 2,.int .i64 3] 3)).heap[(w.alloc (.cells #[.bool false,.slice none 0 0,.slice none 0 0,.slice none 0 0] 121)).heap.size]? = some (.cells #[.int .i64 2,.int .i64 3] 3 (0,0)):=heap_alloc_new _ _;rw[S0]at hb;have RB:C4 ((w.alloc (.cells #[.bool false,.slice none 0 0,.slice none 0 0,.slice none 0 0] 121)).alloc (.cells #[.int .i64 2,.int .i64 3] 3)) w.heap.size 121 (.bool false) (.slice none 0 0) (.slice none 0 0) (.slice none 0 0):=R0.kept ((Kept.refl _).alloc _);cases l with
 | true=>
  simp only[if_true]at HR;go_enter Tryz.func94,Tryz.ntmps94;go_wp2_with (first
   | (go_at_call 57;(with_reducible refine (HN.out _ K0).mono ?_);rintro e w1 ⟨rfl,hw1⟩;rw[hw1];clear hw1)
   | (go_at_call 131;(with_reducible refine (HR.out _ _ _ KB hb).mono ?_);rintro e w2 ⟨⟨xg,rfl⟩,k2⟩;have K2:=KB.trans k2;have R2:=RB.kept k2;have P2:=P.Pg.alloc w2 2 (n:Nat) xg sx 157;have K3:Kept w2 (w2.alloc (.cells #[.int .i64 2,.int .i64 n,.int .u64 (xg:Nat),.string sx] 157)):=(Kept.refl _).alloc _;have R3:=R2.kept K3;obtain⟨y0,y1,y2,y3⟩:=P2.cs;have EL:=K2.trans K3)
   | (go_at_call 132;(with_reducible refine (HG.out _).mono ?_);rintro e v4 ⟨kp,nk,kc,vp,nv,vc,ip,ni,ic,rfl,N4,k4,OJ⟩;have VA:Hid (Nw w.heap.size ip):=OJ.mono EL.size;clear OJ;have K4:=EL.trans k4;have R4:=R3.kept k4;have k5:=(Kept.refl v4).alloc (.cells #[.bool true,.slice kp nk kc,.slice vp nv vc,.slice ip ni ic] 121);have N5:=N4.kept k5;have R5:=R4.kept k5;have X5:=C4.alloc v4 121 (.bool true) (.slice kp nk kc) (.slice vp nv vc) (.slice ip ni ic);have K5:=K4.trans k5;obtain⟨x0,x1,x2,x3⟩:=X5.cs;obtain⟨⟨g0,f0⟩,⟨g1,f1⟩,⟨g2,f2⟩,⟨g3,f3⟩,hfin⟩:=N.aD R5.out (.bool true) (.slice kp nk kc) (.slice vp nv vc) (.slice ip ni ic)))
  have q1:=N5.other R5 (fun k hk=>N.aG _ hk (.bool true) (.slice kp nk kc) (.slice vp nv vc) (.slice ip ni ic));have q2:=K5.bS (b:=w.heap.size) (aac _) (.bool true) (.slice kp nk kc) (.slice vp nv vc) (.slice ip ni ic);generalize ((((World.setCell _ ⟨w.heap.size,0,none⟩ (.bool true)).setCell ⟨w.heap.size,1,none⟩ (.slice kp nk kc)).setCell ⟨w.heap.size,2,none⟩ (.slice vp nv vc)).setCell ⟨w.heap.size,3,none⟩ (.slice ip ni ic))=WF at hfin q1 q2 ⊢;refine bodyPost_ret (v:=.tuple #[.agg #[.bool true,.slice kp nk kc,.slice vp nv vc,.slice ip ni ic],.int .i64 0]) ?_ rfl ⟨_,_,_,_,_,_,_,_,_,rfl,q1,q2,VA.out⟩;exact N.af (p:=4) (u:=5) (ty:=121) rfl _ _ w.heap.size 121 #[.bool true,.slice kp nk kc,.slice vp nv vc,.slice ip ni ic] (0,0) _ rfl hfin Tryz.underlying121 rfl N.aN
 | false=>
  simp only[Bool.false_eq_true,if_false]at HR;go_enter Tryz.func94,Tryz.ntmps94;go_wp2_with (first
   | (go_at_call 57;(with_reducible refine (HN.out _ K0).mono ?_);rintro e w1 ⟨rfl,hw1⟩;rw[hw1];clear hw1)
   | (go_at_call 131;(with_reducible refine (HR.out _ _ _ KB hb).mono ?_);rintro e w2 ⟨⟨xg,rfl⟩,k2⟩;have K2:=KB.trans k2;have R2:=RB.kept k2;have P2:=P.Pg.alloc w2 3 (n:Nat) xg sx 157;have K3:Kept w2 (w2.alloc (.cells #[.int .i64 3,.int .i64 n,.int .u64 (xg:Nat),.string sx] 157)):=(Kept.refl _).alloc _;have R3:=R2.kept K3;obtain⟨y0,y1,y2,y3⟩:=P2.cs;have EL:=K2.trans K3)
   | (go_at_call 132;(with_reducible refine (HG.out _).mono ?_);rintro e v4 ⟨kp,nk,kc,vp,nv,vc,ip,ni,ic,rfl,N4,k4,OJ⟩;have VA:Hid (Nw w.heap.size ip):=OJ.mono EL.size;clear OJ;have K4:=EL.trans k4;have R4:=R3.kept k4;have k5:=(Kept.refl v4).alloc (.cells #[.bool false,.slice kp nk kc,.slice vp nv vc,.slice ip ni ic] 121);have N5:=N4.kept k5;have R5:=R4.kept k5;have X5:=C4.alloc v4 121 (.bool false) (.slice kp nk kc) (.slice vp nv vc) (.slice ip ni ic);have K5:=K4.trans k5;obtain⟨x0,x1,x2,x3⟩:=X5.cs;obtain⟨⟨g0,f0⟩,⟨g1,f1⟩,⟨g2,f2⟩,⟨g3,f3⟩,hfin⟩:=N.aD R5.out (.bool false) (.slice kp nk kc) (.slice vp nv vc) (.slice ip ni ic)))
  have q1:=N5.other R5 (fun k hk=>N.aG _ hk (.bool false) (.slice kp nk kc) (.slice vp nv vc) (.slice ip ni ic));have q2:=K5.bS (b:=w.heap.size) (aac _) (.bool false) (.slice kp nk kc) (.slice vp nv vc) (.slice ip ni ic);generalize ((((World.setCell _ ⟨w.heap.size,0,none⟩ (.bool false)).setCell ⟨w.heap.size,1,none⟩ (.slice kp nk kc)).setCell ⟨w.heap.size,2,none⟩ (.slice vp nv vc)).setCell ⟨w.heap.size,3,none⟩ (.slice ip ni ic))=WF at hfin q1 q2 ⊢;refine bodyPost_ret (v:=.tuple #[.agg #[.bool false,.slice kp nk kc,.slice vp nv vc,.slice ip ni ic],.int .i64 0]) ?_ rfl ⟨_,_,_,_,_,_,_,_,_,rfl,q1,q2,VA.out⟩;exact N.af (p:=4) (u:=5) (ty:=121) rfl _ _ w.heap.size 121 #[.bool false,.slice kp nk kc,.slice vp nv vc,.slice ip ni ic] (0,0) _ rfl hfin Tryz.underlying121 rfl N.aN
variable {l:Bool}{kp vp ip:Option Addr}{nk kc vc ni ic:Nat}{x:Nd}
theorem yQ{nv:Nat}(h:NV w l kp nk kc vp nv vc ip ni ic x)(g:N.Good x)(key:ByteArray):
 Calls Tryz.prog 95 #[.agg #[.bool l,.slice kp nk kc,.slice vp nv vc,.slice ip ni ic],.string key] w fun e w'=>e=.returned (.int .i64 (B.nI x key:Nat))/\Kept w w':=by
 have K0:Kept w (w.alloc (.cells #[.bool l,.slice kp nk kc,.slice vp nv vc,.slice ip ni ic] 121)):=(Kept.refl w).alloc _;have X0:=C4.alloc w 121 (.bool l) (.slice kp nk kc) (.slice vp nv vc) (.slice ip ni ic);obtain⟨x0,x1,x2,x3⟩:=X0.cs;have hn:=h.nk;have hf:=g.few;have f:=N.jO ((h.kept K0).k) (by omega) key;have hle:=N.kN key x.ks;have HP:Hid (B.nI x key=N.bP key x.ks+(if N.gG key x.ks=true then 1 else 0)):=rfl;have hb:N.bP key x.ks<=120:=by omega
 generalize N.bP key x.ks=i at *;generalize N.gG key x.ks=b at *;clear hle hf hn h g;cases b with
 | true=>
  go_enter Tryz.func95,Tryz.ntmps95;go_wp2_with (go_at_call 64;(with_reducible refine f.mono ?_);rintro e w1 ⟨rfl,hw1⟩;rw[hw1];clear hw1);go_ret;refine⟨?_,K0⟩;rw[HP.out];simp
 | false=>
  go_enter Tryz.func95,Tryz.ntmps95;go_wp2_with (go_at_call 64;(with_reducible refine f.mono ?_);rintro e w1 ⟨rfl,hw1⟩;rw[hw1];clear hw1);go_ret;refine⟨?_,K0⟩;rw[HP.out];simp
open N (Own)
theorem lC(w:World)(B:Nat)(e:TypeId)(sz:Nat):Own w B e sz none 0 0 []:=⟨World.ownsRow_nil _ _ _ _⟩
theorem one_cell(w:World)(v:Value)(t:TypeId):∀ j u,[v][j]? = some u->(w.alloc (.cells #[v] t)).cell? ((⟨w.heap.size,0,none⟩:Addr).add j)=some u:=by
 intro j u hj;rw[Addr.add_lit,aaj,cell_of_row _ _ _ _ _ _ (heap_alloc_new w (.cells #[v] t))];cases j with
 | zero=>simpa using hj
 | succ j=>simp at hj
variable {e:TypeId}{sz:Nat}
theorem aF{B:Nat}{cs:List Value}(h:w.ownsRow B e sz v n cs):∃ p c,v=.slice p n c:=by
 rcases h.2 with⟨rfl,rfl⟩|⟨g,cap,cur,rfl,_⟩
 ·exact⟨_,_,rfl⟩
 ·exact⟨_,_,rfl⟩
variable {a b:World}
theorem OL{B:Nat}{c:World}(h:G.On B a b)(hB:B<=a.heap.size){r:Option Nat}(hg:b.grownBy c r)(hr:∀ k,r=some k->a.heap.size<=k):G.On B a c:=by
 refine⟨h.below.grown hg (aad hB h.size) (fun k e=>aad hB (hr k e)),fun x cs t fr hx ht=>?_⟩;have h1:=h.rows x cs t fr hx ht;refine (hg.block x (aaa.1 h1).1 (fun e=>?_)).trans h1;have:=hr x e.symm;have:=(aaa.1 hx).1;omega
theorem kQ{B B':Nat}(o:G.On B w w'){e:TypeId}(he:G.Calm e){sz:Nat}{p:Option Addr}{n c:Nat}{cs:List Value}(h:Own w B' e sz p n c cs):Own w' B' e sz p n c cs:=by
 refine⟨h.out.1,?_⟩;rcases h.out.2 with h1 | ⟨g,cap,cur,e1,e2,e3,e4⟩
 ·exact .inl h1
 ·exact .inr ⟨g,cap,cur,e1,e2,o.rows _ _ _ _ e3 he,e4⟩
theorem iq{B:Nat}{p:Option Addr}{cs:List Value}(h:Own w B e sz p n c cs):∀ b,(Value.slice p n c).ownBlock=some b->B<=b/\∃ cs' fr,w.heap[b]? = some (.cells cs' e fr):=by
 intro b hb;rcases h.cases with⟨rfl,_⟩|⟨g,cur,rfl,h1,_,h2,_⟩
 ·cases hb
 ·have e:some g=some b:=hb
  obtain rfl:=aaq e;exact⟨h1,_,_,h2⟩
variable {jv:Value}
theorem Uf{B:Nat}(hC:fV w c t jv)(hT:dI w t p root)(h:Pv B w p m M)(hB:B<=w.heap.size)(hL:S.gU w){l:Bool}{kp:Option Addr}{nk kc:Nat}{vp:Option Addr}{nv vc:Nat}{ip:Option Addr}{ni ic:Nat}{x:Nd}(hx:NV w l kp nk kc vp nv vc ip ni ic x)(g:N.Good x)(hs:x.put.length<=237)(hf:fO M m=some n):
 Calls Tryz.prog 147 #[.pointer (some ⟨c,0,none⟩),.agg #[.bool l,.slice kp nk kc,.slice vp nv vc,.slice ip ni ic]] w fun e w'=>∃ pp pc,e=.returned (.tuple #[.slice pp 1 pc,.slice none 0 0,.int .i64 0])/\Own w' w.heap.size 3 1 pp 1 pc (aO [(n:Int)])/\Pv B w' p m (pt M n x)/\G.On B w w':=by
 obtain⟨i3,hi3,sI,sJ,hz32⟩:=info_parts N.info3;obtain⟨i9,hi9,hz90,hz91,hz92⟩:=info_parts N.lX;have K0:Kept w (w.alloc (.cells #[.bool l,.slice kp nk kc,.slice vp nv vc,.slice ip ni ic] 121)):=(Kept.refl w).alloc _;have X0:=C4.alloc w 121 (.bool l) (.slice kp nk kc) (.slice vp nv vc) (.slice ip ni ic);obtain⟨x0,x1,x2,x3⟩:=X0.cs;have HC:Hid _:=hC;have HT:Hid _:=hT;have HV:Hid _:=h;have HL:Hid _:=hL;have HF:Hid (fO M m=some n):=hf;have HP:=N.yE (hx.kept K0) g hs;have VB:Hid _:=g;have HS:Hid (x.put.length<=237):=hs;clear hC hT h hL hf g hs hx;go_enter Tryz.func147,Tryz.ntmps147;go_wp2_with (go_at_call 182;(with_reducible refine HP.mono ?_);rintro e w1 ⟨gp,kp',aY,bO,wD,eO,kY,wE,kZ,rfl,C1,N1,k1⟩;have K1:=K0.trans k1;have k2:Kept w1 (w1.alloc (.cells #[.bool l,.slice kp' nk aY,.slice bO wD eO,.slice kY wE kZ] 121)):=(Kept.refl w1).alloc _;have K2:=K1.trans k2;have X2:=C4.alloc w1 121 (.bool l) (.slice kp' nk aY) (.slice bO wD eO) (.slice kY wE kZ);have HA:=mr (HC.out.kept K2) (HT.out.kept K2) (HV.out.kept K2) (aad hB K2.size) (aC HL.out K2) (N1.kept k2) VB.out HS.out HF.out;obtain⟨y0,y1,y2,y3⟩:=C1.cs;obtain⟨z0,z1,z2,z3⟩:=X2.cs;clear HP);refine wp_loop_rounds 2 ?_;rw[rounds_succ];go_wp2_with (first
  | (go_at_call 151;(with_reducible refine HA.mono ?_);rintro e w3 ⟨rfl,h3,o3⟩;have ob:w.heap.size<=w3.heap.size:=aad K2.size o3.size)
  | (at_builtin;refine wpList_append_own _ rfl _ _ 94 rfl w.heap.size 3 i3 _ 1 8 Tryz.underlying94 hi3 sI sJ hz32 rfl (by decide) (.slice none 0 0) 0 (aO []) rfl (lC _ _ _ _).out ⟨w3.heap.size,0,none⟩ 1 1 [.int .i64 n] rfl rfl (one_cell w3 _ 3) (by intro u hu;simp at hu;subst hu;rfl) (by decide) (by decide) (aad ob ((Kept.refl w3).alloc _).size) ?_;intro v' w4 o4 g4 _;obtain⟨pp,pc,rfl⟩:=aF o4;have Ug:Kept w3 w4:=N.aL (B:=w3.heap.size) w3 ((Kept.refl w3).alloc _) g4 (aac _) (fun k e=>by cases e);have O4:Hid (Own w4 w.heap.size 3 1 pp 1 pc (aO [(n:Int)])):=⟨o4⟩;clear o4 g4))
 rw[rounds_succ];go_wp2;go_ret3;exact⟨_,_,rfl,O4.out,h3.kept Ug,((G.On.ax ⟨K2.out⟩ hB).trans o3).kept ⟨Ug.out⟩ hB⟩
theorem Uh{B:Nat}(hC:fV w c t jv)(hT:dI w t p root)(h:Pv B w p m M)(hB:B<=w.heap.size)(hL:S.gU w){l:Bool}{kp:Option Addr}{nk kc:Nat}{vp:Option Addr}{nv vc:Nat}{ip:Option Addr}{ni ic:Nat}{x:Nd}(hx:NV w l kp nk kc vp nv vc ip ni ic x)(g:N.Good x)(hs:x.put.length<=237)(hf:fO M m=none):
 Calls Tryz.prog 147 #[.pointer (some ⟨c,0,none⟩),.agg #[.bool l,.slice kp nk kc,.slice vp nv vc,.slice ip ni ic]] w fun e w'=>e=.returned (.tuple #[.slice none 0 0,.slice none 0 0,.int .i64 80])/\Kept w w':=by
 obtain⟨i3,hi3,sI,sJ,hz32⟩:=info_parts N.info3;obtain⟨i9,hi9,hz90,hz91,hz92⟩:=info_parts N.lX;have K0:Kept w (w.alloc (.cells #[.bool l,.slice kp nk kc,.slice vp nv vc,.slice ip ni ic] 121)):=(Kept.refl w).alloc _;have X0:=C4.alloc w 121 (.bool l) (.slice kp nk kc) (.slice vp nv vc) (.slice ip ni ic);obtain⟨x0,x1,x2,x3⟩:=X0.cs;have HC:Hid _:=hC;have HT:Hid _:=hT;have HV:Hid _:=h;have HL:Hid _:=hL;have HF:Hid (fO M m=none):=hf;have HP:=N.yE (hx.kept K0) g hs;have VB:Hid _:=g;have HS:Hid (x.put.length<=237):=hs;clear hC hT h hL hf g hs hx;go_enter Tryz.func147,Tryz.ntmps147;go_wp2_with (go_at_call 182;(with_reducible refine HP.mono ?_);rintro e w1 ⟨gp,kp',aY,bO,wD,eO,kY,wE,kZ,rfl,C1,N1,k1⟩;have K1:=K0.trans k1;have k2:Kept w1 (w1.alloc (.cells #[.bool l,.slice kp' nk aY,.slice bO wD eO,.slice kY wE kZ] 121)):=(Kept.refl w1).alloc _;have K2:=K1.trans k2;have X2:=C4.alloc w1 121 (.bool l) (.slice kp' nk aY) (.slice bO wD eO) (.slice kY wE kZ);have HA:=oo (HC.out.kept K2) (HT.out.kept K2) (HV.out.kept K2) (aad hB K2.size) (aC HL.out K2) (N1.kept k2) VB.out HS.out HF.out;obtain⟨y0,y1,y2,y3⟩:=C1.cs;obtain⟨z0,z1,z2,z3⟩:=X2.cs;clear HP);refine wp_loop_rounds 2 ?_;rw[rounds_succ];go_wp2_with (go_at_call 151;(with_reducible refine HA.mono ?_);rintro e w3 ⟨rfl,k3⟩);go_ret3;exact⟨rfl,K2.trans k3⟩
variable {mm:Nat}{key:ByteArray}
theorem VD{B:Nat}(hC:fV w c t jv)(hT:dI w t p root)(h:Pv B w p m M)(hB:B<=w.heap.size)(hL:S.gU w)(hB0:1<B){l:Bool}{kp:Option Addr}{nk kc:Nat}{vp:Option Addr}{nv vc:Nat}{ip:Option Addr}{ni ic:Nat}{x:Nd}(hx:NV w l kp nk kc vp nv vc ip ni ic x)(g:N.Good x)(hbig:237<x.put.length)(hm:N.Mid x 0 mm)(hk:x.ks[mm]? = some key)(g1:N.Good (x.fst mm))(g2:N.Good (x.snd mm))(s1:(x.fst mm).put.length<=237)(s2:(x.snd mm).put.length<=237)(hf:fO M m=none):
 Calls Tryz.prog 147 #[.pointer (some ⟨c,0,none⟩),.agg #[.bool l,.slice kp nk kc,.slice vp nv vc,.slice ip ni ic]] w fun e w'=>e=.returned (.tuple #[.slice none 0 0,.slice none 0 0,.int .i64 80])/\Kept w w':=by
 obtain⟨i3,hi3,sI,sJ,hz32⟩:=info_parts N.info3;obtain⟨i9,hi9,hz90,hz91,hz92⟩:=info_parts N.lX;have K0:Kept w (w.alloc (.cells #[.bool l,.slice kp nk kc,.slice vp nv vc,.slice ip ni ic] 121)):=(Kept.refl w).alloc _;have X0:=C4.alloc w 121 (.bool l) (.slice kp nk kc) (.slice vp nv vc) (.slice ip ni ic);obtain⟨x0,x1,x2,x3⟩:=X0.cs;have HC:Hid _:=hC;have HT:Hid _:=hT;have HV:Hid _:=h;have HL:Hid _:=hL;have HB0:Hid (1<B):=hB0;have HM:Hid _:=hm;have OM:Hid (x.ks[mm]? = some key):=hk;have G1:Hid _:=g1;have G2:Hid _:=g2;have S1:Hid ((x.fst mm).put.length<=237):=s1;have S2:Hid ((x.snd mm).put.length<=237):=s2;have HF:Hid (fO M m=none):=hf;have HP:=N.vG (hx.kept K0) g hbig;clear hC hT h hL g hbig hx hm hk g1 g2 s1 s2 hB0;go_enter Tryz.func147,Tryz.ntmps147;go_wp2_with (go_at_call 182;(with_reducible refine HP.mono ?_);rintro e w1 ⟨gp,m',key',gH,aV,gI,jd,eH,je,iM,dG,iN,gm,aT,gq,iX,eG,iY,iG,dC,iH,rfl,hk',hm',C1,Z1,Z2,k1⟩;obtain rfl:=HM.out.one hm';obtain rfl:key=key':=aaq (OM.out.symm.trans hk');clear hk' hm';have N1:=Z1.nv;have N2:=Z2.nv;clear Z1 Z2;have K1:=K0.trans k1;have k2:Kept w1 (w1.alloc (.cells #[.bool l,.slice gH aV gI,.slice jd eH je,.slice iM dG iN] 121)):=(Kept.refl w1).alloc _;have K2:=K1.trans k2;have X2:=C4.alloc w1 121 (.bool l) (.slice gH aV gI) (.slice jd eH je) (.slice iM dG iN);have VE:=N1.kept k2;have WB:=N2.kept k2;have C2:=k2.block C1;have BU:=HC.out.kept K2;have HT2:=HT.out.kept K2;have LU:=HV.out.kept K2;have HL2:=aC HL.out K2;have hB2:=aad hB K2.size;obtain⟨y0,y1,y2,y3⟩:w1.cell? ⟨gp,0,none⟩=some (.bool l)/\w1.cell? ⟨gp,1,none⟩=some (.slice gH aV gI)/\w1.cell? ⟨gp,2,none⟩=some (.slice jd eH je)/\w1.cell? ⟨gp,3,none⟩=some (.slice iM dG iN):=(by refine⟨?_,?_,?_,?_⟩ <;> (rw[cell_of_row _ _ _ _ _ _ C1];rfl));obtain⟨z0,z1,z2,z3⟩:=X2.cs;clear HP)
 have HA:=oo BU HT2 LU hB2 HL2 VE G1.out S1.out HF.out;refine wp_loop_rounds 3 ?_;rw[rounds_succ];go_wp2_with (go_at_call 151;(with_reducible refine HA.mono ?_);rintro e w3 ⟨rfl,k3⟩);go_ret3;exact⟨rfl,K2.trans k3⟩
variable {n1:Nat}
theorem VF{B:Nat}(hC:fV w c t jv)(hT:dI w t p root)(h:Pv B w p m M)(hB:B<=w.heap.size)(hL:S.gU w)(hB0:1<B){l:Bool}{kp:Option Addr}{nk kc:Nat}{vp:Option Addr}{nv vc:Nat}{ip:Option Addr}{ni ic:Nat}{x:Nd}(hx:NV w l kp nk kc vp nv vc ip ni ic x)(g:N.Good x)(hbig:237<x.put.length)(hm:N.Mid x 0 mm)(hk:x.ks[mm]? = some key)(g1:N.Good (x.fst mm))(g2:N.Good (x.snd mm))(s1:(x.fst mm).put.length<=237)(s2:(x.snd mm).put.length<=237)(hf1:fO M m=some n1)(hf2:fO (pt M n1 (x.fst mm)) m=none):
 Calls Tryz.prog 147 #[.pointer (some ⟨c,0,none⟩),.agg #[.bool l,.slice kp nk kc,.slice vp nv vc,.slice ip ni ic]] w fun e w'=>e=.returned (.tuple #[.slice none 0 0,.slice none 0 0,.int .i64 80])/\Pv B w' p m (pt M n1 (x.fst mm))/\G.On B w w':=by
 obtain⟨i3,hi3,sI,sJ,hz32⟩:=info_parts N.info3;obtain⟨i9,hi9,hz90,hz91,hz92⟩:=info_parts N.lX;have K0:Kept w (w.alloc (.cells #[.bool l,.slice kp nk kc,.slice vp nv vc,.slice ip ni ic] 121)):=(Kept.refl w).alloc _;have X0:=C4.alloc w 121 (.bool l) (.slice kp nk kc) (.slice vp nv vc) (.slice ip ni ic);obtain⟨x0,x1,x2,x3⟩:=X0.cs;have HC:Hid _:=hC;have HT:Hid _:=hT;have HV:Hid _:=h;have HL:Hid _:=hL;have HB0:Hid (1<B):=hB0;have HM:Hid _:=hm;have OM:Hid (x.ks[mm]? = some key):=hk;have G1:Hid _:=g1;have G2:Hid _:=g2;have S1:Hid ((x.fst mm).put.length<=237):=s1;have S2:Hid ((x.snd mm).put.length<=237):=s2;have HF1:Hid (fO M m=some n1):=hf1;have RA:Hid (fO (pt M n1 (x.fst mm)) m=none):=hf2;have HP:=N.vG (hx.kept K0) g hbig;clear hC hT h hL g hbig hx hm hk g1 g2 s1 s2 hB0;go_enter Tryz.func147,Tryz.ntmps147;go_wp2_with (go_at_call 182;(with_reducible refine HP.mono ?_);rintro e w1 ⟨gp,m',key',gH,aV,gI,jd,eH,je,iM,dG,iN,gm,aT,gq,iX,eG,iY,iG,dC,iH,rfl,hk',hm',C1,Z1,Z2,k1⟩;obtain rfl:=HM.out.one hm';obtain rfl:key=key':=aaq (OM.out.symm.trans hk');clear hk' hm';have N1:=Z1.nv;have N2:=Z2.nv;clear Z1 Z2;have K1:=K0.trans k1;have k2:Kept w1 (w1.alloc (.cells #[.bool l,.slice gH aV gI,.slice jd eH je,.slice iM dG iN] 121)):=(Kept.refl w1).alloc _;have K2:=K1.trans k2;have X2:=C4.alloc w1 121 (.bool l) (.slice gH aV gI) (.slice jd eH je) (.slice iM dG iN);have VE:=N1.kept k2;have WB:=N2.kept k2;have C2:=k2.block C1;have BU:=HC.out.kept K2;have HT2:=HT.out.kept K2;have LU:=HV.out.kept K2;have HL2:=aC HL.out K2;have hB2:=aad hB K2.size;obtain⟨y0,y1,y2,y3⟩:w1.cell? ⟨gp,0,none⟩=some (.bool l)/\w1.cell? ⟨gp,1,none⟩=some (.slice gH aV gI)/\w1.cell? ⟨gp,2,none⟩=some (.slice jd eH je)/\w1.cell? ⟨gp,3,none⟩=some (.slice iM dG iN):=(by refine⟨?_,?_,?_,?_⟩ <;> (rw[cell_of_row _ _ _ _ _ _ C1];rfl));obtain⟨z0,z1,z2,z3⟩:=X2.cs;clear HP)
 have HA:=mr BU HT2 LU hB2 HL2 VE G1.out S1.out HF1.out;refine wp_loop_rounds 3 ?_;rw[rounds_succ];go_wp2_with (first
  | (go_at_call 151;(with_reducible refine HA.mono ?_);rintro e w3 ⟨rfl,h3,o3⟩;have ob:w.heap.size<=w3.heap.size:=aad K2.size o3.size)
  | (at_builtin;refine wpList_append_own _ rfl _ _ 94 rfl w.heap.size 3 i3 _ 1 8 Tryz.underlying94 hi3 sI sJ hz32 rfl (by decide) (.slice none 0 0) 0 (aO []) rfl (lC _ _ _ _).out ⟨w3.heap.size,0,none⟩ 1 1 [.int .i64 n1] rfl rfl (one_cell w3 _ 3) (by intro u hu;simp at hu;subst hu;rfl) (by decide) (by decide) (aad ob ((Kept.refl w3).alloc _).size) ?_;intro v' w4 o4 g4 _;obtain⟨pp,pc,rfl⟩:=aF o4;have Ug:Kept w3 w4:=N.aL (B:=w3.heap.size) w3 ((Kept.refl w3).alloc _) g4 (aac _) (fun k e=>by cases e);have O4:Hid (Own w4 w.heap.size 3 1 pp 1 pc (aO [(n1:Int)])):=⟨o4⟩;clear o4 g4))
 have k5:Kept w4 (w4.alloc (.cells #[.bool l,.slice gm aT gq,.slice iX eG iY,.slice iG dC iH] 121)):=(Kept.refl w4).alloc _;have Ar:=Ug.trans k5;have OO:w4.heap[gp]? = some (.cells #[.bool l,.slice gH aV gI,.slice jd eH je,.slice iM dG iN,.bool l,.slice gm aT gq,.slice iX eG iY,.slice iG dC iH] 121):=Ug.block (o3.rows _ _ _ _ C2 fU);have X5:=C4.alloc w4 121 (.bool l) (.slice gm aT gq) (.slice iX eG iY) (.slice iG dC iH);have N25:=(yP o3 WB).kept Ar;have Xz:G.On B w (w4.alloc (.cells #[.bool l,.slice gm aT gq,.slice iX eG iY,.slice iG dC iH] 121)):=((G.On.ax ⟨K2.out⟩ hB).trans o3).kept ⟨Ar.out⟩ hB;have HA2:=oo ((BU.on o3).kept Ar) ((HT2.on o3).kept Ar) (h3.kept Ar) (aad hB Xz.size) (aC (eZ HL2 o3 HB0.out) Ar) N25 G2.out S2.out RA.out;obtain⟨u0,u1,u2,u3⟩:w4.cell? ⟨gp,4,none⟩=some (.bool l)/\w4.cell? ⟨gp,5,none⟩=some (.slice gm aT gq)/\w4.cell? ⟨gp,6,none⟩=some (.slice iX eG iY)/\w4.cell? ⟨gp,7,none⟩=some (.slice iG dC iH):=by
  refine⟨?_,?_,?_,?_⟩ <;> (rw[cell_of_row _ _ _ _ _ _ OO];rfl)
 obtain⟨t0,t1,t2,t3⟩:=X5.cs;clear HA VE WB N1 N2 C1 C2 k1 k2 K0 K1 X0 X2 x0 x1 x2 x3 y0 y1 y2 y3 z0 z1 z2 z3;have O5:Hid (Own (w4.alloc (.cells #[.bool l,.slice gm aT gq,.slice iX eG iY,.slice iG dC iH] 121)) w.heap.size 3 1 pp 1 pc (aO [(n1:Int)])):=O4.out.kept k5;rw[rounds_succ];go_wp2_with (go_at_call 151;(with_reducible refine HA2.mono ?_);rintro e w6 ⟨rfl,k6⟩);go_ret3;exact⟨rfl,(h3.kept Ar).kept k6,Xz.kept ⟨k6.out⟩ hB⟩
theorem VG{B:Nat}{n2:Nat}(hC:fV w c t jv)(hT:dI w t p root)(h:Pv B w p m M)(hB:B<=w.heap.size)(hL:S.gU w)(hB0:1<B){l:Bool}{kp:Option Addr}{nk kc:Nat}{vp:Option Addr}{nv vc:Nat}{ip:Option Addr}{ni ic:Nat}{x:Nd}(hx:NV w l kp nk kc vp nv vc ip ni ic x)(g:N.Good x)(hbig:237<x.put.length)(hm:N.Mid x 0 mm)(hk:x.ks[mm]? = some key)(g1:N.Good (x.fst mm))(g2:N.Good (x.snd mm))(s1:(x.fst mm).put.length<=237)(s2:(x.snd mm).put.length<=237)(hf1:fO M m=some n1)(hf2:fO (pt M n1 (x.fst mm)) m=some n2):
 Calls Tryz.prog 147 #[.pointer (some ⟨c,0,none⟩),.agg #[.bool l,.slice kp nk kc,.slice vp nv vc,.slice ip ni ic]] w fun e w'=>∃ pp pc kp' aY,e=.returned (.tuple #[.slice pp 2 pc,.slice kp' 1 aY,.int .i64 0])/\Own w' w.heap.size 3 1 pp 2 pc (aO [(n1:Int),(n2:Int)])/\Own w' w.heap.size 9 1 kp' 1 aY (dA [key])/\Pv B w' p m (pt (pt M n1 (x.fst mm)) n2 (x.snd mm))/\G.On B w w':=by
 obtain⟨i3,hi3,sI,sJ,hz32⟩:=info_parts N.info3;obtain⟨i9,hi9,hz90,hz91,hz92⟩:=info_parts N.lX;have K0:Kept w (w.alloc (.cells #[.bool l,.slice kp nk kc,.slice vp nv vc,.slice ip ni ic] 121)):=(Kept.refl w).alloc _;have X0:=C4.alloc w 121 (.bool l) (.slice kp nk kc) (.slice vp nv vc) (.slice ip ni ic);obtain⟨x0,x1,x2,x3⟩:=X0.cs;have HC:Hid _:=hC;have HT:Hid _:=hT;have HV:Hid _:=h;have HL:Hid _:=hL;have HB0:Hid (1<B):=hB0;have HM:Hid _:=hm;have OM:Hid (x.ks[mm]? = some key):=hk;have G1:Hid _:=g1;have G2:Hid _:=g2;have S1:Hid ((x.fst mm).put.length<=237):=s1;have S2:Hid ((x.snd mm).put.length<=237):=s2;have HF1:Hid (fO M m=some n1):=hf1;have RA:Hid (fO (pt M n1 (x.fst mm)) m=some n2):=hf2;have HP:=N.vG (hx.kept K0) g hbig;clear hC hT h hL g hbig hx hm hk g1 g2 s1 s2 hB0;go_enter Tryz.func147,Tryz.ntmps147;go_wp2_with (go_at_call 182;(with_reducible refine HP.mono ?_);rintro e w1 ⟨gp,m',key',gH,aV,gI,jd,eH,je,iM,dG,iN,gm,aT,gq,iX,eG,iY,iG,dC,iH,rfl,hk',hm',C1,Z1,Z2,k1⟩;obtain rfl:=HM.out.one hm';obtain rfl:key=key':=aaq (OM.out.symm.trans hk');clear hk' hm';have N1:=Z1.nv;have N2:=Z2.nv;clear Z1 Z2;have K1:=K0.trans k1;have k2:Kept w1 (w1.alloc (.cells #[.bool l,.slice gH aV gI,.slice jd eH je,.slice iM dG iN] 121)):=(Kept.refl w1).alloc _;have K2:=K1.trans k2;have X2:=C4.alloc w1 121 (.bool l) (.slice gH aV gI) (.slice jd eH je) (.slice iM dG iN);have VE:=N1.kept k2;have WB:=N2.kept k2;have C2:=k2.block C1;have BU:=HC.out.kept K2;have HT2:=HT.out.kept K2;have LU:=HV.out.kept K2;have HL2:=aC HL.out K2;have hB2:=aad hB K2.size;obtain⟨y0,y1,y2,y3⟩:w1.cell? ⟨gp,0,none⟩=some (.bool l)/\w1.cell? ⟨gp,1,none⟩=some (.slice gH aV gI)/\w1.cell? ⟨gp,2,none⟩=some (.slice jd eH je)/\w1.cell? ⟨gp,3,none⟩=some (.slice iM dG iN):=(by refine⟨?_,?_,?_,?_⟩ <;> (rw[cell_of_row _ _ _ _ _ _ C1];rfl));obtain⟨z0,z1,z2,z3⟩:=X2.cs;clear HP)
 have HA:=mr BU HT2 LU hB2 HL2 VE G1.out S1.out HF1.out;refine wp_loop_rounds 3 ?_;rw[rounds_succ];go_wp2_with (first
  | (go_at_call 151;(with_reducible refine HA.mono ?_);rintro e w3 ⟨rfl,h3,o3⟩;have ob:w.heap.size<=w3.heap.size:=aad K2.size o3.size)
  | (at_builtin;refine wpList_append_own _ rfl _ _ 94 rfl w.heap.size 3 i3 _ 1 8 Tryz.underlying94 hi3 sI sJ hz32 rfl (by decide) (.slice none 0 0) 0 (aO []) rfl (lC _ _ _ _).out ⟨w3.heap.size,0,none⟩ 1 1 [.int .i64 n1] rfl rfl (one_cell w3 _ 3) (by intro u hu;simp at hu;subst hu;rfl) (by decide) (by decide) (aad ob ((Kept.refl w3).alloc _).size) ?_;intro v' w4 o4 g4 _;obtain⟨pp,pc,rfl⟩:=aF o4;have Ug:Kept w3 w4:=N.aL (B:=w3.heap.size) w3 ((Kept.refl w3).alloc _) g4 (aac _) (fun k e=>by cases e);have O4:Hid (Own w4 w.heap.size 3 1 pp 1 pc (aO [(n1:Int)])):=⟨o4⟩;clear o4 g4))
 have k5:Kept w4 (w4.alloc (.cells #[.bool l,.slice gm aT gq,.slice iX eG iY,.slice iG dC iH] 121)):=(Kept.refl w4).alloc _;have Ar:=Ug.trans k5;have OO:w4.heap[gp]? = some (.cells #[.bool l,.slice gH aV gI,.slice jd eH je,.slice iM dG iN,.bool l,.slice gm aT gq,.slice iX eG iY,.slice iG dC iH] 121):=Ug.block (o3.rows _ _ _ _ C2 fU);have X5:=C4.alloc w4 121 (.bool l) (.slice gm aT gq) (.slice iX eG iY) (.slice iG dC iH);have N25:=(yP o3 WB).kept Ar;have Xz:G.On B w (w4.alloc (.cells #[.bool l,.slice gm aT gq,.slice iX eG iY,.slice iG dC iH] 121)):=((G.On.ax ⟨K2.out⟩ hB).trans o3).kept ⟨Ar.out⟩ hB;have HA2:=mr ((BU.on o3).kept Ar) ((HT2.on o3).kept Ar) (h3.kept Ar) (aad hB Xz.size) (aC (eZ HL2 o3 HB0.out) Ar) N25 G2.out S2.out RA.out;obtain⟨u0,u1,u2,u3⟩:w4.cell? ⟨gp,4,none⟩=some (.bool l)/\w4.cell? ⟨gp,5,none⟩=some (.slice gm aT gq)/\w4.cell? ⟨gp,6,none⟩=some (.slice iX eG iY)/\w4.cell? ⟨gp,7,none⟩=some (.slice iG dC iH):=by
  refine⟨?_,?_,?_,?_⟩ <;> (rw[cell_of_row _ _ _ _ _ _ OO];rfl)
 obtain⟨t0,t1,t2,t3⟩:=X5.cs;clear HA VE WB N1 N2 C1 C2 k1 k2 K0 K1 X0 X2 x0 x1 x2 x3 y0 y1 y2 y3 z0 z1 z2 z3;have O5:Hid (Own (w4.alloc (.cells #[.bool l,.slice gm aT gq,.slice iX eG iY,.slice iG dC iH] 121)) w.heap.size 3 1 pp 1 pc (aO [(n1:Int)])):=O4.out.kept k5;rw[rounds_succ];go_wp2_with (first
  | (go_at_call 151;(with_reducible refine HA2.mono ?_);rintro e w6 ⟨rfl,h6,o6⟩;have O6:Hid (Own w6 w.heap.size 3 1 pp 1 pc (aO [(n1:Int)])):=kQ o6 nD O5.out;have On6:Hid (G.On B w w6):=Xz.trans o6;have ob6:w.heap.size<=w6.heap.size:=On6.out.size)
  | (at_builtin;refine wpList_append_own _ rfl _ _ 94 rfl w.heap.size 3 i3 _ 1 8 Tryz.underlying94 hi3 sI sJ hz32 rfl (by decide) (.slice pp 1 pc) 1 (aO [(n1:Int)]) rfl (O6.out.kept ((Kept.refl w6).alloc _)).out ⟨w6.heap.size,0,none⟩ 1 1 [.int .i64 n2] rfl rfl (one_cell w6 _ 3) (by intro u hu;simp at hu;subst hu;rfl) (by decide) (by decide) (aad ob6 ((Kept.refl w6).alloc _).size) ?_;intro v' w7 o7 g7 _;obtain⟨pq,qc,rfl⟩:=aF o7;have O7:Hid (Own w7 w.heap.size 3 1 pq 2 qc (aO [(n1:Int),(n2:Int)])):=⟨o7⟩;have ow6:=iq (O6.out.kept ((Kept.refl w6).alloc (.cells #[.int .i64 n2] 3)));have On7:Hid (G.On B w w7):=OL (On6.out.kept ⟨((Kept.refl w6).alloc _).out⟩ hB) hB g7 (fun k e=>(ow6 k e).1);have h7:Hid (Pv B w7 p m _):=(h6.kept ((Kept.refl w6).alloc _)).ap (Ap.grown g7 (fun b e=>by obtain⟨_,cs,fr,hb⟩:=ow6 b e;exact⟨cs,_,fr,hb,by decide⟩));have ob7:w.heap.size<=w7.heap.size:=On7.out.size;clear o7 g7 ow6)
  | (at_builtin;refine wpList_append_own _ rfl _ _ 49 rfl w.heap.size 9 i9 _ 1 16 Tryz.underlying49 hi9 hz90 hz91 hz92 rfl (by decide) (.slice none 0 0) 0 (dA []) rfl (lC _ _ _ _).out ⟨w7.heap.size,0,none⟩ 1 1 [.string key] rfl rfl (one_cell w7 _ 9) (by intro u hu;simp at hu;subst hu;rfl) (by decide) (by decide) (aad ob7 ((Kept.refl w7).alloc _).size) ?_;intro v' w8 o8 g8 _;obtain⟨kq,YG,rfl⟩:=aF o8;have k78:Kept w7 w8:=N.aL (B:=w7.heap.size) w7 ((Kept.refl w7).alloc _) g8 (aac _) (fun k e=>by cases e);have O8:Hid (Own w8 w.heap.size 9 1 kq 1 YG (dA [key])):=⟨o8⟩;clear o8 g8))
 rw[rounds_succ];go_wp2;go_ret3;exact⟨_,_,_,_,rfl,O7.out.kept k78,O8.out,h7.out.kept k78,On7.out.kept ⟨k78.out⟩ hB⟩
theorem Gi{nv:Nat}:
 Calls Tryz.prog 118 #[.pointer (some ⟨c,0,none⟩),.agg #[.bool true,.slice kp 0 kc,.slice vp nv vc,.slice ip ni ic]] w fun e w'=>e=.returned (.tuple #[.int .i64 (-1),.int .i64 0])/\Kept w w':=by
 have K0:Kept w (w.alloc (.cells #[.bool true,.slice kp 0 kc,.slice vp nv vc,.slice ip ni ic] 121)):=(Kept.refl w).alloc _;have X0:=C4.alloc w 121 (.bool true) (.slice kp 0 kc) (.slice vp nv vc) (.slice ip ni ic);obtain⟨x0,x1,x2,x3⟩:=X0.cs;go_enter Tryz.func118,Tryz.ntmps118;go_wp2;go_ret2;exact⟨rfl,K0⟩
variable {ib io:Nat}
theorem Ea{nv:Nat}{q:Int}(hn:0<ni)(hq:w.cell? ⟨ib,io,none⟩=some (.int .i64 q)):
 Calls Tryz.prog 118 #[.pointer (some ⟨c,0,none⟩),.agg #[.bool false,.slice kp 0 kc,.slice vp nv vc,.slice (some ⟨ib,io,none⟩) ni ic]] w fun e w'=>e=.returned (.tuple #[.int .i64 q,.int .i64 0])/\Kept w w':=by
 have K0:Kept w (w.alloc (.cells #[.bool false,.slice kp 0 kc,.slice vp nv vc,.slice (some ⟨ib,io,none⟩) ni ic] 121)):=(Kept.refl w).alloc _;have X0:=C4.alloc w 121 (.bool false) (.slice kp 0 kc) (.slice vp nv vc) (.slice (some ⟨ib,io,none⟩) ni ic);obtain⟨x0,x1,x2,x3⟩:=X0.cs;have hq1:=K0.cell hq;have h0:(0:Int)<(ni:Int):=by omega
 go_enter Tryz.func118,Tryz.ntmps118;go_wp2;go_ret2;exact⟨rfl,K0⟩
variable {Q:World->Prop}
theorem Au{nv:Nat}(hn:0<nk)(f:Calls Tryz.prog 147 #[.pointer (some ⟨c,0,none⟩),.agg #[.bool l,.slice kp nk kc,.slice vp nv vc,.slice ip ni ic]] (w.alloc (.cells #[.bool l,.slice kp nk kc,.slice vp nv vc,.slice ip ni ic] 121)) fun e w'=>e=.returned (.tuple #[.slice none 0 0,.slice none 0 0,.int .i64 80])/\Q w'):
 Calls Tryz.prog 118 #[.pointer (some ⟨c,0,none⟩),.agg #[.bool l,.slice kp nk kc,.slice vp nv vc,.slice ip ni ic]] w fun e w'=>e=.returned (.tuple #[.int .i64 0,.int .i64 80])/\Q w':=by
 have X0:=C4.alloc w 121 (.bool l) (.slice kp nk kc) (.slice vp nv vc) (.slice ip ni ic);obtain⟨x0,x1,x2,x3⟩:=X0.cs;have h0:¬ nk=0:=by omega
 go_enter Tryz.func118,Tryz.ntmps118;go_wp2_with (go_at_call 147;(with_reducible refine f.mono ?_);rintro e w1 ⟨rfl,q1⟩);go_ret2;exact⟨rfl,q1⟩
theorem Av{B:Nat}{nv:Nat}(hn:0<nk)(f:Calls Tryz.prog 147 #[.pointer (some ⟨c,0,none⟩),.agg #[.bool l,.slice kp nk kc,.slice vp nv vc,.slice ip ni ic]] (w.alloc (.cells #[.bool l,.slice kp nk kc,.slice vp nv vc,.slice ip ni ic] 121)) fun e w'=>∃ pp pc,e=.returned (.tuple #[.slice pp 1 pc,.slice none 0 0,.int .i64 0])/\Own w' B 3 1 pp 1 pc (aO [(n:Int)])/\Q w'):
 Calls Tryz.prog 118 #[.pointer (some ⟨c,0,none⟩),.agg #[.bool l,.slice kp nk kc,.slice vp nv vc,.slice ip ni ic]] w fun e w'=>e=.returned (.tuple #[.int .i64 n,.int .i64 0])/\Q w':=by
 have X0:=C4.alloc w 121 (.bool l) (.slice kp nk kc) (.slice vp nv vc) (.slice ip ni ic);obtain⟨x0,x1,x2,x3⟩:=X0.cs;have h0:¬ nk=0:=by omega
 go_enter Tryz.func118,Tryz.ntmps118;go_wp2_with (go_at_call 147;(with_reducible refine f.mono ?_);rintro e w1 ⟨pp,pc,rfl,o1,q1⟩;obtain⟨g,rfl⟩:=o1.jU (by decide);have y0:=o1.cell (j:=0) (u:=.int .i64 n) rfl);go_ret2;exact⟨rfl,q1⟩
theorem Aw{B:Nat}{n1 n2 a b:Int}{nv:Nat}{Q2:World->Prop}(hn:0<nk)(f:Calls Tryz.prog 147 #[.pointer (some ⟨c,0,none⟩),.agg #[.bool l,.slice kp nk kc,.slice vp nv vc,.slice ip ni ic]] (w.alloc (.cells #[.bool l,.slice kp nk kc,.slice vp nv vc,.slice ip ni ic] 121)) fun e w'=>∃ pp pc kp' aY,e=.returned (.tuple #[.slice pp 2 pc,.slice kp' 1 aY,.int .i64 0])/\Own w' B 3 1 pp 2 pc (aO [n1,n2])/\Own w' B 9 1 kp' 1 aY (dA [key])/\Q w')(f2:∀ W pp pc kp' aY,Own W B 3 1 pp 2 pc (aO [n1,n2])->Own W B 9 1 kp' 1 aY (dA [key])->Q W->Calls Tryz.prog 151 #[.pointer (some ⟨c,0,none⟩),.agg #[.bool false,.slice kp' 1 aY,.slice none 0 0,.slice pp 2 pc]] W fun e w'=>e=.returned (.tuple #[.int .i64 a,.int .i64 b])/\Q2 w'):
 Calls Tryz.prog 118 #[.pointer (some ⟨c,0,none⟩),.agg #[.bool l,.slice kp nk kc,.slice vp nv vc,.slice ip ni ic]] w fun e w'=>e=.returned (.tuple #[.int .i64 a,.int .i64 b])/\Q2 w':=by
 have X0:=C4.alloc w 121 (.bool l) (.slice kp nk kc) (.slice vp nv vc) (.slice ip ni ic);obtain⟨x0,x1,x2,x3⟩:=X0.cs;have h0:¬ nk=0:=by omega
 go_enter Tryz.func118,Tryz.ntmps118;go_wp2_with (first
  | (go_at_call 147;(with_reducible refine f.mono ?_);rintro e w1 ⟨pp,pc,kp',aY,rfl,o1,o2,q1⟩)
  | (go_at_call 151;(with_reducible refine (f2 _ _ _ _ _ o1 o2 q1).mono ?_);rintro e w2 ⟨rfl,q2⟩))
 go_ret2;exact⟨rfl,q2⟩
open B (Stp nI)
structure Sm where
 page:Nat
 kid:Nat
 l:Bool
 kp:Option Addr
 nk:Nat
 kc:Nat
 vp:Option Addr
 nv:Nat
 vc:Nat
 ip:Option Addr
 ni:Nat
 ic:Nat
 x:Nd
def Sm.wZ (s:Sm):Stp:=⟨s.page,s.x,s.kid⟩
def Sm.cells (s:Sm):List Value:=[.int .i64 (s.page:Nat),.bool s.l,.slice s.kp s.nk s.kc,.slice s.vp s.nv s.vc,.slice s.ip s.ni s.ic,.int .i64 (s.kid:Nat)]
def Sm.ok (w:World) (s:Sm):Prop:=NV w s.l s.kp s.nk s.kc s.vp s.nv s.vc s.ip s.ni s.ic s.x
def sN (L:List Sm):List Value:=L.flatMap Sm.cells
theorem Eb(L:List Sm)(s:Sm):sN (L++[s])=sN L++s.cells:=by simp[sN]
theorem yR:∀ L:List Sm,(sN L).length=L.length*6
 | []=>rfl
 | s :: r=>by
  have:sN (s :: r)=s.cells++sN r:=by simp[sN]
  rw[this,aah,yR r];simp[Sm.cells];omega
theorem mD:∀ (L:List Sm) (k:Nat) (s:Sm),L[k]? = some s->∀ j,j<6->(sN L)[k*6+j]? = s.cells[j]?
 | [],_,_,h,_,_=>by simp at h
 | a :: r,0,s,h,j,hj=>by
  simp at h;subst h;have:sN (a :: r)=a.cells++sN r:=by simp[sN]
  rw[this,Nat.zero_mul,aaj,aa2 (by simp[Sm.cells];omega)]
 | a :: r,k+1,s,h,j,hj=>by
  have:sN (a :: r)=a.cells++sN r:=by simp[sN]
  have hl:a.cells.length=6:=rfl;rw[this,aa0 (by rw[hl];omega),hl,<- mD r k s (by simpa using h) j hj];congr 1;omega
variable {c0 c1 c2 c3 c4 c5:Value}
theorem Gj{b:Nat}{t:TypeId}(h0:W.heap[b]? = some (.cells #[c0,c1,c2,c3,c4,c5] t))(v0 v1 v2 v3 v4 v5:Value) :
  (W.cell? ⟨b,0,none⟩=some c0/\W.frozen? ⟨b,0,none⟩=false) /\
  ((W.setCell ⟨b,0,none⟩ v0).cell? ⟨b,1,none⟩=some c1/\(W.setCell ⟨b,0,none⟩ v0).frozen? ⟨b,1,none⟩=false) /\
  (((W.setCell ⟨b,0,none⟩ v0).setCell ⟨b,1,none⟩ v1).cell? ⟨b,2,none⟩=some c2/\((W.setCell ⟨b,0,none⟩ v0).setCell ⟨b,1,none⟩ v1).frozen? ⟨b,2,none⟩=false) /\
  ((((W.setCell ⟨b,0,none⟩ v0).setCell ⟨b,1,none⟩ v1).setCell ⟨b,2,none⟩ v2).cell? ⟨b,3,none⟩=some c3/\(((W.setCell ⟨b,0,none⟩ v0).setCell ⟨b,1,none⟩ v1).setCell ⟨b,2,none⟩ v2).frozen? ⟨b,3,none⟩=false) /\
  (((((W.setCell ⟨b,0,none⟩ v0).setCell ⟨b,1,none⟩ v1).setCell ⟨b,2,none⟩ v2).setCell ⟨b,3,none⟩ v3).cell? ⟨b,4,none⟩=some c4/\((((W.setCell ⟨b,0,none⟩ v0).setCell ⟨b,1,none⟩ v1).setCell ⟨b,2,none⟩ v2).setCell ⟨b,3,none⟩ v3).frozen? ⟨b,4,none⟩=false) /\
  ((((((W.setCell ⟨b,0,none⟩ v0).setCell ⟨b,1,none⟩ v1).setCell ⟨b,2,none⟩ v2).setCell ⟨b,3,none⟩ v3).setCell ⟨b,4,none⟩ v4).cell? ⟨b,5,none⟩=some c5/\(((((W.setCell ⟨b,0,none⟩ v0).setCell ⟨b,1,none⟩ v1).setCell ⟨b,2,none⟩ v2).setCell ⟨b,3,none⟩ v3).setCell ⟨b,4,none⟩ v4).frozen? ⟨b,5,none⟩=false) /\
  ((((((W.setCell ⟨b,0,none⟩ v0).setCell ⟨b,1,none⟩ v1).setCell ⟨b,2,none⟩ v2).setCell ⟨b,3,none⟩ v3).setCell ⟨b,4,none⟩ v4).setCell ⟨b,5,none⟩ v5).heap[b]? = some (.cells #[v0,v1,v2,v3,v4,v5] t):=by
 have h1:(W.setCell ⟨b,0,none⟩ v0).heap[b]? = some (.cells #[v0,c1,c2,c3,c4,c5] t):=by rw[heap_setCell_same _ b 0 _ _ _ h0];rfl
 have h2:((W.setCell ⟨b,0,none⟩ v0).setCell ⟨b,1,none⟩ v1).heap[b]? = some (.cells #[v0,v1,c2,c3,c4,c5] t):=by rw[heap_setCell_same _ b 1 _ _ _ h1];rfl
 have h3:(((W.setCell ⟨b,0,none⟩ v0).setCell ⟨b,1,none⟩ v1).setCell ⟨b,2,none⟩ v2).heap[b]? = some (.cells #[v0,v1,v2,c3,c4,c5] t):=by rw[heap_setCell_same _ b 2 _ _ _ h2];rfl
 have h4:((((W.setCell ⟨b,0,none⟩ v0).setCell ⟨b,1,none⟩ v1).setCell ⟨b,2,none⟩ v2).setCell ⟨b,3,none⟩ v3).heap[b]? = some (.cells #[v0,v1,v2,v3,c4,c5] t):=by rw[heap_setCell_same _ b 3 _ _ _ h3];rfl
 have h5:(((((W.setCell ⟨b,0,none⟩ v0).setCell ⟨b,1,none⟩ v1).setCell ⟨b,2,none⟩ v2).setCell ⟨b,3,none⟩ v3).setCell ⟨b,4,none⟩ v4).heap[b]? = some (.cells #[v0,v1,v2,v3,v4,c5] t):=by rw[heap_setCell_same _ b 4 _ _ _ h4];rfl
 have h6:((((((W.setCell ⟨b,0,none⟩ v0).setCell ⟨b,1,none⟩ v1).setCell ⟨b,2,none⟩ v2).setCell ⟨b,3,none⟩ v3).setCell ⟨b,4,none⟩ v4).setCell ⟨b,5,none⟩ v5).heap[b]? = some (.cells #[v0,v1,v2,v3,v4,v5] t):=by rw[heap_setCell_same _ b 5 _ _ _ h5];rfl
 exact⟨⟨by rw[cell_of_row _ b 0 _ _ _ h0];rfl,frozen_of_row _ b 0 _ _ h0⟩,⟨by rw[cell_of_row _ b 1 _ _ _ h1];rfl,frozen_of_row _ b 1 _ _ h1⟩,⟨by rw[cell_of_row _ b 2 _ _ _ h2];rfl,frozen_of_row _ b 2 _ _ h2⟩,⟨by rw[cell_of_row _ b 3 _ _ _ h3];rfl,frozen_of_row _ b 3 _ _ h3⟩,⟨by rw[cell_of_row _ b 4 _ _ _ h4];rfl,frozen_of_row _ b 4 _ _ h4⟩,⟨by rw[cell_of_row _ b 5 _ _ _ h5];rfl,frozen_of_row _ b 5 _ _ h5⟩,h6⟩
theorem aM{b:Nat}{t:TypeId}(h:W.heap[b]? = some (.cells #[c0,c1,c2,c3,c4,c5] t)) :
  W.cell? ⟨b,0,none⟩=some c0/\W.cell? ⟨b,1,none⟩=some c1/\W.cell? ⟨b,2,none⟩=some c2/\W.cell? ⟨b,3,none⟩=some c3/\W.cell? ⟨b,4,none⟩=some c4/\W.cell? ⟨b,5,none⟩=some c5:=
 ⟨by rw[cell_of_row _ b 0 _ _ _ h];rfl,by rw[cell_of_row _ b 1 _ _ _ h];rfl,by rw[cell_of_row _ b 2 _ _ _ h];rfl,by rw[cell_of_row _ b 3 _ _ _ h];rfl,by rw[cell_of_row _ b 4 _ _ _ h];rfl,by rw[cell_of_row _ b 5 _ _ _ h];rfl⟩
structure EN (w:World) (p:Option Addr) (n c:Nat) (L:List Sm):Prop where
 row:Rw w 6 p n c (sN L)
 rx:Rx w 170 p c
 ok:∀ s∈L,s.ok w
variable {p:Option Addr}{L:List Sm}
theorem EN.kept(h:EN w p n c L)(k:Kept w w'):EN w' p n c L:=⟨k.rw h.row,h.rx.kept k,fun s hs=>NV.kept (h.ok s hs) k⟩
theorem EN.on{B:Nat}(h:EN w p n c L)(o:G.On B w w'):EN w' p n c L:=⟨I5 o pM h.row h.rx,I4 o pM h.rx,fun s hs=>yP o (h.ok s hs)⟩
theorem EN.len(h:EN w p n c L):L.length=n:=by
 have:=h.row.len;rw[yR]at this;omega
structure Wy (M:Pm) (key:ByteArray) (P:List Stp):Prop where
 nod:∀ (k:Nat) (s:Stp),P[k]? = some s->M s.page=some s.x/\N.Good s.x/\Up s.x.ks/\s.kid=nI s.x key/\s.x.leaf=decide (k+1=P.length)
 nM:∀ (k:Nat) (s s':Stp),P[k]? = some s->P[k+1]? = some s'->s.x.is[s.kid]? = some (s'.page:Int)
 few:P.length<=1000
structure Wg (w W:World) (P:List Stp) (k:Nat) (v u:Value):Prop where
 out:∃ p c L n,v=.slice p k c/\u=.int .i64 n/\L.map Sm.wZ=P.take k/\Own W w.heap.size 170 6 p k c (sN L)/\(∀ s∈L,s.ok W)/\Kept w W/\(∀ s,P[k]? = some s->n=(s.page:Nat))
theorem Ed(w:World)(a0 a1 a2 a3 a4 a5:Value)(t:TypeId):∀ j u,[a0,a1,a2,a3,a4,a5][j]? = some u->(w.alloc (.cells #[a0,a1,a2,a3,a4,a5] t)).cell? ((⟨w.heap.size,0,none⟩:Addr).add j)=some u:=by
 intro j u hj;rw[Addr.add_lit,aaj,cell_of_row _ _ _ _ _ _ (heap_alloc_new w (.cells #[a0,a1,a2,a3,a4,a5] t))];simpa using hj
theorem I6:(Tryz.prog.info? 170).map (fun i=>(i.zero,i.size,i.bytes))=some (some (.agg #[.int .i64 0,.bool false,.slice none 0 0,.slice none 0 0,.slice none 0 0,.int .i64 0]),6,96):=by kernel_rfl
variable {r:Option Nat}
theorem yS(hg:w.grownBy w' r)(hr:∀ b,r=some b->∃ cs fr,w.heap[b]? = some (.cells cs 170 fr)){e:TypeId}(he:e≠170){p:Option Addr}{c:Nat}(h:Rx w e p c):Rx w' e p c:=by
 refine⟨fun b off ph hp=>?_,h.nil⟩;obtain⟨cs,fr,hb⟩:=h.typ b off ph hp;refine⟨cs,fr,(hg.block b (aaa.1 hb).1 (fun e2=>?_)).trans hb⟩;obtain⟨cs',fr',hb'⟩:=hr b e2.symm;rw[hb]at hb';injection hb' with hb'
 injection hb' with _ e3 _
 exact he e3
theorem yT(hg:w.grownBy w' r)(hr:∀ b,r=some b->∃ cs fr,w.heap[b]? = some (.cells cs 170 fr)){e:TypeId}(he:e≠170){sz:Nat}{p:Option Addr}{n c:Nat}{cs:List Value}(h:Rw w sz p n c cs)(hx:Rx w e p c):Rw w' sz p n c cs:=by
 refine⟨h.len,h.le,h.cap,?_⟩;rcases h.out with h0 | ⟨b,off,rfl,f⟩
 ·exact .inl h0
 ·refine .inr ⟨b,off,rfl,fun j u hu=>?_⟩
  obtain⟨cs',fr,hb⟩:=hx.typ b off none rfl;rw[<- f j u hu];refine World.cell?_of_block (hg.block b (aaa.1 hb).1 (fun e2=>?_));obtain⟨cs2,Ze,hb'⟩:=hr b e2.symm;rw[hb]at hb';injection hb' with hb'
  injection hb' with _ e3 _
  exact he e3
theorem uQ(hg:w.grownBy w' r)(hr:∀ b,r=some b->∃ cs fr,w.heap[b]? = some (.cells cs 170 fr)){l:Bool}{kp:Option Addr}{nk kc:Nat}{vp:Option Addr}{nv vc:Nat}{ip:Option Addr}{ni ic:Nat}{x:Nd}(h:NV w l kp nk kc vp nv vc ip ni ic x):NV w' l kp nk kc vp nv vc ip ni ic x:=
 ⟨h.hl,yT hg hr (by decide) h.k h.kx,yT hg hr (by decide) h.v h.vx,yT hg hr (by decide) h.i h.ix,yS hg hr (by decide) h.kx,yS hg hr (by decide) h.vx,yS hg hr (by decide) h.ix⟩
variable {q:Option Addr}{k:Nat}
theorem Ee{cs:List Value}(o:Own W w.heap.size 170 6 q k c cs)(hg:W.grownBy w' (Value.slice q k c).ownBlock)(hK:Kept w W){l:Bool}{kp:Option Addr}{nk kc:Nat}{vp:Option Addr}{nv vc:Nat}{ip:Option Addr}{ni ic:Nat}{x:Nd}(hN:NV W l kp nk kc vp nv vc ip ni ic x){L:List Sm}(hL:∀ s∈L,s.ok W) :
  Kept w w'/\(NV w' l kp nk kc vp nv vc ip ni ic x/\∀ s∈L,s.ok w')/\∀ b a0 a1 a2 a3,C4 W b 121 a0 a1 a2 a3->C4 w' b 121 a0 a1 a2 a3:=by
 have ob:=iq o;have hr:∀ b,(Value.slice q k c).ownBlock=some b->∃ cs fr,W.heap[b]? = some (.cells cs 170 fr):=fun b e=>(ob b e).2
 refine⟨N.aL (B:=w.heap.size) w hK hg (aac _) (fun b e=>(ob b e).1),⟨uQ hg hr hN,fun s hs=>uQ hg hr (hL s hs)⟩,fun b a0 a1 a2 a3 h=>⟨(hg.block b h.lt (fun e=>?_)).trans h.out⟩⟩;obtain⟨cs',fr',hb'⟩:=hr b e.symm;have:=h.out;rw[hb']at this;injection this with this
 injection this with _ e3 _
 exact absurd e3 (by decide)
theorem Ay(hg:W.grownBy w' (Value.slice q k c).ownBlock){bs:Nat}{o:Obj}(hb:W.heap[bs]? = some o)(hne:∀ b,(Value.slice q k c).ownBlock=some b->b≠bs):w'.heap[bs]? = some o:=
 (hg.block bs (aaa.1 hb).1 (fun e=>hne bs e.symm rfl)).trans hb
theorem vL{nv:Nat}(h:NV w l kp nk kc vp nv vc (some ⟨ib,io,none⟩) ni ic x){j:Nat}{q:Int}(hq:x.is[j]? = some q):w.cell? ⟨ib,io+j,none⟩=some (.int .i64 q):=by
 rcases h.i.out with⟨h0,_⟩|⟨b,off,e,f⟩
 ·cases h0
 ·injection e with e
  injection e with e1 e2 _
  subst e1;subst e2;exact f j _ (N.BB hq)
variable {p:Nat}
theorem Ef{B:Nat}{root:Nat}{P:List Stp}(hT:dI w t p (root:Nat))(h:Pv B w p m M)(hP:Wy M key P)(hne:0<P.length)(h0:∀ s,P[0]? = some s->s.page=root):
 Calls Tryz.prog 62 #[.pointer (some ⟨t,0,none⟩),.string key] w fun e w'=>∃ q c L,e=.returned (.tuple #[.slice q P.length c,.int .i64 0])/\L.map Sm.wZ=P/\EN w' q P.length c L/\Kept w w':=by
 obtain⟨i0,hi0,hz0,hz1,hz2⟩:=info_parts I6;obtain⟨c0,c1⟩:=hT.cs;have HT:Hid _:=hT;have HV:Hid _:=h;have HP:Hid _:=hP;have HF:Hid (P.length<=1000):=hP.few;have W0:Hid (Wg w w P 0 (.slice none 0 0) (.int .i64 root)):=⟨none,0,[],_,rfl,rfl,rfl,lC _ _ _ _,(fun s hs=>by cases hs),Kept.refl w,fun s hs=>by rw[h0 s hs]⟩;clear hT h hP h0;obtain⟨len,hlen⟩:∃ len,P.length=len:=⟨_,rfl⟩;rw[hlen]at hne HF ⊢;have Eg:Hid (P.length=len):=hlen;clear hlen;go_enter Tryz.func62,Tryz.ntmps62;go_wp2;go_loopg [6,7] len (fun gg v u wx=>∃ k,Hid (gg=len-k)/\k<len/\Wg w wx P k v u);case atStart=>exact⟨0,rfl,hne,W0.out⟩
 case round=>
  obtain⟨k,Ra,hk,hw⟩:=hrel;obtain⟨q,c,L,n,rfl,rfl,hL,hO,hok,hK,hn⟩:=hw.out;obtain⟨s,hs⟩:∃ s,P[k]? = some s:=⟨_,aae (by rw[Eg.out];exact hk)⟩;obtain rfl:=hn s hs;obtain⟨sM,sG,sU,sk,sl⟩:=HP.out.nod k s hs;have HN:=vK (HT.out.kept hK) (HV.out.kept hK) sM sG sU s.x.leaf rfl;have VB:Hid (N.Good s.x):=sG;have HS:Hid (P[k]? = some s):=hs;have HSk:Hid (s.kid=nI s.x key):=sk;have XA:Hid (s.x.leaf=decide (k+1=P.length)):=sl;have HL':Hid (L.map Sm.wZ=P.take k):=hL;have HO:Hid (Own wr w.heap.size 170 6 q k c (sN L)):=hO;have HOk:Hid (∀ s∈L,s.ok wr):=hok;have hneg:¬ (s.page:Int)=-1:=by omega
  have aan:¬ (k:Int)=16384:=by have:=HF.out;omega
  clear hw hn hL hO hok hs sM sG sU sk sl W0;generalize s.x.leaf=l at *;go_upto_region 9 with (go_at_call 94;(with_reducible refine HN.mono ?_);rintro e w1 ⟨kp,nk,kc,vp,nv,vc,ip,ni,ic,rfl,N1,k1,_⟩;have k2:Kept w1 (w1.alloc (.cells #[.bool l,.slice kp nk kc,.slice vp nv vc,.slice ip ni ic] 121)):=(Kept.refl w1).alloc _;have N2:=N1.kept k2;have X2:=C4.alloc w1 121 (.bool l) (.slice kp nk kc) (.slice vp nv vc) (.slice ip ni ic);obtain⟨y0,y1,y2,y3⟩:=X2.cs;have K2:=(hK.trans k1).trans k2)
  have Az:Hid (∀ W,Kept (w1.alloc (.cells #[.bool l,.slice kp nk kc,.slice vp nv vc,.slice ip ni ic] 121)) W->Calls Tryz.prog 95 #[.agg #[.bool l,.slice kp nk kc,.slice vp nv vc,.slice ip ni ic],.string key] W fun e w'=>e=.returned (.int .i64 (s.kid:Nat))/\Kept W w'/\Kept (w1.alloc (.cells #[.bool l,.slice kp nk kc,.slice vp nv vc,.slice ip ni ic] 121)) w'):=fun W kW=>by rw[HSk.out];exact (yQ (N2.kept kW) VB.out key).mono (fun e w' hh=>⟨hh.1,hh.2,kW.trans hh.2⟩)
  go_cut [10] (fun tv wx=>∃ bs,tv=.pointer (some ⟨bs,0,none⟩)/\wx.heap[bs]? = some (.cells #[.int .i64 (s.page:Nat),.bool l,.slice kp nk kc,.slice vp nv vc,.slice ip ni ic,.int .i64 (s.kid:Nat)] 170)/\w1.heap.size<bs/\Kept (w1.alloc (.cells #[.bool l,.slice kp nk kc,.slice vp nv vc,.slice ip ni ic] 121)) wx);case first=>
   have kA:Kept (w1.alloc (.cells #[.bool l,.slice kp nk kc,.slice vp nv vc,.slice ip ni ic] 121)) (w1.alloc (.cells #[.bool l,.slice kp nk kc,.slice vp nv vc,.slice ip ni ic] 121)).drew:=(Kept.refl _).drew;have kB:Kept (w1.alloc (.cells #[.bool l,.slice kp nk kc,.slice vp nv vc,.slice ip ni ic] 121)) ((w1.alloc (.cells #[.bool l,.slice kp nk kc,.slice vp nv vc,.slice ip ni ic] 121)).alloc (.cells #[.int .i64 0,.bool false,.slice none 0 0,.slice none 0 0,.slice none 0 0,.int .i64 0] 170)).drew:=((Kept.refl _).alloc _).drew;have HPA:=Az.out _ kA;have HPB:=Az.out _ kB;have zB:((w1.alloc (.cells #[.bool l,.slice kp nk kc,.slice vp nv vc,.slice ip ni ic] 121)).alloc (.cells #[.int .i64 0,.bool false,.slice none 0 0,.slice none 0 0,.slice none 0 0,.int .i64 0] 170)).drew.heap[w1.heap.size+1]? = some (.cells #[.int .i64 0,.bool false,.slice none 0 0,.slice none 0 0,.slice none 0 0,.int .i64 0] 170):=D.bH w1 _ _;have HZB:Hid (((w1.alloc (.cells #[.bool l,.slice kp nk kc,.slice vp nv vc,.slice ip ni ic] 121)).alloc (.cells #[.int .i64 0,.bool false,.slice none 0 0,.slice none 0 0,.slice none 0 0,.int .i64 0] 170)).drew.heap[w1.heap.size+1]? = some (.cells #[.int .i64 0,.bool false,.slice none 0 0,.slice none 0 0,.slice none 0 0,.int .i64 0] 170)):=zB;have hsz:(w1.alloc (.cells #[.bool l,.slice kp nk kc,.slice vp nv vc,.slice ip ni ic] 121)).heap.size<=w1.heap.size+1:=by rw[N.size_alloc];exact aac _
   clear Az kA kB zB HN;have hy0:=fun o=>(X2.kept ((Kept.refl _).alloc o)).cs.1
   have hy1:=fun o=>(X2.kept ((Kept.refl _).alloc o)).cs.2.1
   have hy2:=fun o=>(X2.kept ((Kept.refl _).alloc o)).cs.2.2.1
   have hy3:=fun o=>(X2.kept ((Kept.refl _).alloc o)).cs.2.2.2
   go_region_with (first
    | (go_at_call 95;(with_reducible refine HPA.mono ?_);rintro e w3 ⟨rfl,k3,kk⟩;obtain⟨r0,r1,r2,r3⟩:=(X2.kept kk).cs;have hz0:=fun o=>((X2.kept kk).kept ((Kept.refl _).alloc o)).cs.1;have hz1:=fun o=>((X2.kept kk).kept ((Kept.refl _).alloc o)).cs.2.1;have hz2:=fun o=>((X2.kept kk).kept ((Kept.refl _).alloc o)).cs.2.2.1;have hz3:=fun o=>((X2.kept kk).kept ((Kept.refl _).alloc o)).cs.2.2.2;clear HPA HPB)
    | (go_at_call 95;(with_reducible refine HPB.mono ?_);rintro e w3 ⟨rfl,k3,kk⟩;obtain⟨r0,r1,r2,r3⟩:=(X2.kept kk).cs;have Z0:=k3.block HZB.out;obtain⟨⟨a0,f0⟩,⟨a1,f1⟩,⟨a2,f2⟩,⟨a3,f3⟩,⟨a4,f4⟩,⟨a5,f5⟩,hfin⟩:=Gj Z0 (.int .i64 (s.page:Nat)) (.bool l) (.slice kp nk kc) (.slice vp nv vc) (.slice ip ni ic) (.int .i64 (s.kid:Nat));clear HPA HPB))
   all_goals go_wp2_with fail
   all_goals go_meet
   all_goals
    first
     | exact⟨_,rfl,hfin,aaK _,((kk.bS (b:=w1.heap.size+1) hsz _ _ _ _).set (a:=⟨w1.heap.size+1,4,none⟩) hsz _).set (a:=⟨w1.heap.size+1,5,none⟩) hsz _⟩
     | exact⟨_,rfl,heap_alloc_new w3 _,(by have:=kk.size;rw[N.size_alloc]at this;omega),kk.alloc _⟩
  case rest=>
   obtain⟨bs,rfl,hbs,hlt,KU⟩:=hcut;have VH:Hid (∀ b,(Value.slice q k c).ownBlock=some b->b≠bs):=fun b e=>by
    obtain⟨_,cs',fr',hb'⟩:=iq HO.out b e;have h1:=(aaa.1 hb').1;have h2:=k1.size;omega
   clear Az;have kw:Kept wr wc:=(k1.trans k2).trans KU;obtain⟨b0,b1,b2,b3,b4,b5⟩:=aM hbs;obtain⟨z0,z1,z2,z3⟩:=(X2.kept KU).cs;have N3:=N2.kept KU;have K3:=K2.trans KU;have ka:Kept wc (wc.alloc (.cells #[.int .i64 (s.page:Nat),.bool l,.slice kp nk kc,.slice vp nv vc,.slice ip ni ic,.int .i64 (s.kid:Nat)] 170)):=(Kept.refl wc).alloc _;have OA:=(HO.out.kept kw).kept ka;have OQ:Hid (∀ z∈L,z.ok (wc.alloc (.cells #[.int .i64 (s.page:Nat),.bool l,.slice kp nk kc,.slice vp nv vc,.slice ip ni ic,.int .i64 (s.kid:Nat)] 170))):=fun z hz=>NV.kept (NV.kept (HOk.out z hz) kw) ka
   have XB:=Ed wc (.int .i64 (s.page:Nat)) (.bool l) (.slice kp nk kc) (.slice vp nv vc) (.slice ip ni ic) (.int .i64 (s.kid:Nat)) 170;have dV:∀ u∈[Value.int .i64 (s.page:Nat),.bool l,.slice kp nk kc,.slice vp nv vc,.slice ip ni ic,.int .i64 (s.kid:Nat)],u.oneCell'=true:=by intro u hu;simp at hu;rcases hu with rfl | rfl | rfl | rfl | rfl | rfl <;> rfl
   have hkb:k+1<=1000:=by have:=HF.out;omega
   have rV:w.heap.size<=(wc.alloc (.cells #[.int .i64 (s.page:Nat),.bool l,.slice kp nk kc,.slice vp nv vc,.slice ip ni ic,.int .i64 (s.kid:Nat)] 170)).heap.size:=(K3.trans ka).size;have hsn:Hid ((L++[(⟨s.page,s.kid,l,kp,nk,kc,vp,nv,vc,ip,ni,ic,s.x⟩:Sm)]).map Sm.wZ=P.take (k+1)):=by
    show _=_;rw[List.map_append,HL'.out,aaP,HS.out];rfl
   have hcl:Hid (sN (L++[(⟨s.page,s.kid,l,kp,nk,kc,vp,nv,vc,ip,ni,ic,s.x⟩:Sm)])=sN L++[.int .i64 (s.page:Nat),.bool l,.slice kp nk kc,.slice vp nv vc,.slice ip ni ic,.int .i64 (s.kid:Nat)]):=Eb _ _;by_cases hlast:k+1=len
   ·obtain rfl:l=true:=by rw[XA.out,Eg.out];simpa using hlast
    go_wp2_with (at_builtin;refine wpList_append_own _ rfl _ _ 116 rfl w.heap.size 170 i0 _ 6 96 Tryz.underlying116 hi0 hz0 hz1 hz2 rfl (by decide) (.slice q k c) k (sN L) rfl OA.out ⟨wc.heap.size,0,none⟩ 1 1 [.int .i64 (s.page:Nat),.bool true,.slice kp nk kc,.slice vp nv vc,.slice ip ni ic,.int .i64 (s.kid:Nat)] rfl rfl XB dV (by unfold maxLen;omega) (by omega) rV ?_;intro v' w5 o5 g5 _;obtain⟨q5,c5,rfl⟩:=aF o5;obtain⟨VI,KV,VJ⟩:=Ee OA g5 (K3.trans ka) (N3.kept ka) OQ.out;obtain⟨WY,WZ,zz2,zz3⟩:=(VJ _ _ _ _ _ ((X2.kept KU).kept ka)).cs;have O5:Hid (Own w5 w.heap.size 170 6 q5 (k+1) c5 (sN (L++[(⟨s.page,s.kid,true,kp,nk,kc,vp,nv,vc,ip,ni,ic,s.x⟩:Sm)]))):=⟨by rw[hcl.out];exact o5⟩;clear o5 g5);go_ret2;subst hlast;refine⟨_,_,_,rfl,?_,⟨O5.out.rw,O5.out.rx,fun z hz=>?_⟩,VI⟩
    ·rw[hsn.out,<- Eg.out,List.take_length]
    ·rcases aav.1 hz with hz | hz
     ·exact KV.2 z hz
     ·simp at hz;subst hz;exact KV.1
   ·obtain rfl:l=false:=by rw[XA.out,Eg.out];simpa using hlast
    obtain⟨s',hs'⟩:∃ s',P[k+1]? = some s':=⟨_,aae (by rw[Eg.out];omega)⟩;have hnx:=HP.out.nM k s s' HS.out hs';have U3:Hid (s.x.is[s.kid]? = some (s'.page:Int)):=hnx;have HS':Hid (P[k+1]? = some s'):=hs';have hkl:s.kid<ni:=by have a:=(aal.1 hnx).1;have b:=N3.ni;omega
    have aar:(s.kid:Int)<(ni:Int):=by omega
    obtain⟨ib,io,rfl,_⟩:=N3.i.some (by omega);clear hnx hs';go_wp2_with (at_builtin;refine wpList_append_own _ rfl _ _ 116 rfl w.heap.size 170 i0 _ 6 96 Tryz.underlying116 hi0 hz0 hz1 hz2 rfl (by decide) (.slice q k c) k (sN L) rfl OA.out ⟨wc.heap.size,0,none⟩ 1 1 [.int .i64 (s.page:Nat),.bool false,.slice kp nk kc,.slice vp nv vc,.slice (some ⟨ib,io,none⟩) ni ic,.int .i64 (s.kid:Nat)] rfl rfl XB dV (by unfold maxLen;omega) (by omega) rV ?_;intro v' w5 o5 g5 _;obtain⟨q5,c5,rfl⟩:=aF o5;obtain⟨VI,KV,VJ⟩:=Ee OA g5 (K3.trans ka) (N3.kept ka) OQ.out;obtain⟨WY,WZ,zz2,zz3⟩:=(VJ _ _ _ _ _ ((X2.kept KU).kept ka)).cs;have ci:=vL KV.1 U3.out;have hb5:=Ay g5 (ka.block hbs) VH.out;obtain⟨e0,e1,e2,e3,e4,e5⟩:=aM hb5;have O5:Hid (Own w5 w.heap.size 170 6 q5 (k+1) c5 (sN (L++[(⟨s.page,s.kid,false,kp,nk,kc,vp,nv,vc,some ⟨ib,io,none⟩,ni,ic,s.x⟩:Sm)]))):=⟨by rw[hcl.out];exact o5⟩;clear o5 g5);go_roundg (len-(k+1));case measure=>rw[Ra.out];omega
    case rel=>
     refine⟨k+1,rfl,by omega,⟨q5,c5,_,_,rfl,rfl,hsn.out,O5.out,fun z hz=>?_,VI,fun s2 hs2=>?_⟩⟩
     ·rcases aav.1 hz with hz | hz
      ·exact KV.2 z hz
      ·simp at hz;subst hz;exact KV.1
     ·rw[HS'.out]at hs2;obtain rfl:=aaq hs2;rfl
theorem I7(hT:dI w t p (-1)):Calls Tryz.prog 62 #[.pointer (some ⟨t,0,none⟩),.string key] w fun e w'=>e=.returned (.tuple #[.slice none 0 0,.int .i64 0])/\w'=w:=by
 obtain⟨c0,c1⟩:=hT.cs;go_enter Tryz.func62,Tryz.ntmps62;go_wp2;refine wp_loop_rounds 1 ?_;rw[rounds_succ];go_wp2;go_ret2;exact⟨rfl,rfl⟩
theorem Bu(w:World):Calls Tryz.prog 63 #[.slice none 0 0] w fun e w'=>e=.returned (.agg #[.bool true,.slice none 0 0,.slice none 0 0,.slice none 0 0])/\Kept w w':=by
 have K0:Kept w (w.alloc (.cells #[.bool true,.slice none 0 0,.slice none 0 0,.slice none 0 0] 121)):=(Kept.refl w).alloc _;have R0:=C4.alloc w 121 (.bool true) (.slice none 0 0) (.slice none 0 0) (.slice none 0 0);go_enter Tryz.func63,Tryz.ntmps63;go_wp2;refine bodyPost_ret (v:=.agg #[.bool true,.slice none 0 0,.slice none 0 0,.slice none 0 0]) ?_ rfl ⟨rfl,K0⟩;exact G.qI (p:=2) (ty:=121) rfl _ _ w.heap.size 121 #[.bool true,.slice none 0 0,.slice none 0 0,.slice none 0 0] (0,0) _ rfl R0.out Tryz.underlying121 rfl N.aN
open B (Ext Pn RZ jC us sF)
theorem nV(h:EN w q n c L)(hk:k<=1000)(hn:n=k+1){s:Sm}(hs:L[k]? = some s):
 Calls Tryz.prog 63 #[.slice q n c] w fun e w'=>e=.returned (.agg #[.bool s.l,.slice s.kp s.nk s.kc,.slice s.vp s.nv s.vc,.slice s.ip s.ni s.ic])/\Kept w w':=by
 obtain⟨b,off,rfl,f⟩:=h.row.some (by omega);have K0:Kept w (w.alloc (.cells #[.bool false,.slice none 0 0,.slice none 0 0,.slice none 0 0] 121)):=(Kept.refl w).alloc _;have a1:(w.alloc (.cells #[.bool false,.slice none 0 0,.slice none 0 0,.slice none 0 0] 121)).cell? ⟨b,off+k*6+1,none⟩=some (.bool s.l):=K0.cell (f (k*6+1) _ (by rw[mD L k s hs 1 (by decide)];rfl));have a2:(w.alloc (.cells #[.bool false,.slice none 0 0,.slice none 0 0,.slice none 0 0] 121)).cell? ⟨b,off+k*6+1+1,none⟩=some (.slice s.kp s.nk s.kc):=K0.cell (f (k*6+2) _ (by rw[mD L k s hs 2 (by decide)];rfl));have a3:(w.alloc (.cells #[.bool false,.slice none 0 0,.slice none 0 0,.slice none 0 0] 121)).cell? ⟨b,off+k*6+1+2,none⟩=some (.slice s.vp s.nv s.vc):=K0.cell (f (k*6+3) _ (by rw[mD L k s hs 3 (by decide)];rfl));have a4:(w.alloc (.cells #[.bool false,.slice none 0 0,.slice none 0 0,.slice none 0 0] 121)).cell? ⟨b,off+k*6+1+3,none⟩=some (.slice s.ip s.ni s.ic):=K0.cell (f (k*6+4) _ (by rw[mD L k s hs 4 (by decide)];rfl));obtain⟨sp,sk,sl,skp,bC,dM,dR,bg,dS,sip,aR,dU,sx⟩:=s;dsimp only at a1 a2 a3 a4 ⊢;have e1:IntKind.i64.wrap ((n:Int)-1)=(k:Int):=by rw[IntKind.wrap_i64];omega
 have hn0:¬ n=0:=by omega
 have hkn:(k:Int)<(n:Int):=by omega
 clear f h hs hn;go_enter Tryz.func63,Tryz.ntmps63;go_wp2;refine bodyPost_ret (v:=.agg #[.bool sl,.slice skp bC dM,.slice dR bg dS,.slice sip aR dU]) ?_ rfl ⟨rfl,(Kept.refl w).alloc _⟩;exact G.qI (p:=2) (ty:=121) rfl _ _ w.heap.size 121 #[.bool sl,.slice skp bC dM,.slice dR bg dS,.slice sip aR dU] (0,0) _ rfl (heap_alloc_new w _) Tryz.underlying121 rfl N.aN
def PR (M:Pm) (m:Xm) (y:Nd) (M':Pm) (ns:List Nat) (K:List ByteArray):Prop:=
 (y.put.length<=237/\∃ n,fO M m=some n/\M'=pt M n y/\ns=[n]/\K=[]) \/
 (237<y.put.length/\∃ mm key n1 n2,N.Mid y 0 mm/\y.ks[mm]? = some key/\fO M m=some n1/\fO (pt M n1 (y.fst mm)) m=some n2/\M'=pt (pt M n1 (y.fst mm)) n2 (y.snd mm)/\ns=[n1,n2]/\K=[key])
def PE (M:Pm) (m:Xm) (y:Nd) (M':Pm):Prop:=
 (y.put.length<=237/\fO M m=none/\M'=M) \/
 (237<y.put.length/\∃ mm key,N.Mid y 0 mm/\y.ks[mm]? = some key/\((fO M m=none/\M'=M)\/∃ n1,fO M m=some n1/\fO (pt M n1 (y.fst mm)) m=none/\M'=pt M n1 (y.fst mm)))
theorem xc(M:Pm)(m:Xm){y:Nd}(h:y.ks≠[]):(∃ M' ns K,PR M m y M' ns K)\/∃ M',PE M m y M':=by
 by_cases hs:y.put.length<=237
 ·cases hf:fO M m with
  | none=>exact .inr ⟨M,.inl ⟨hs,hf,rfl⟩⟩
  | some n=>exact .inl ⟨_,_,_,.inl ⟨hs,n,hf,rfl,rfl,rfl⟩⟩
 ·obtain⟨mm,key,h1,h2⟩:=B.Vx h
  cases hf:fO M m with
  | none=>exact .inr ⟨M,.inr ⟨by omega,mm,key,h1,h2,.inl ⟨hf,rfl⟩⟩⟩
  | some n1=>
   cases hf2:fO (pt M n1 (y.fst mm)) m with
   | none=>exact .inr ⟨_,.inr ⟨by omega,mm,key,h1,h2,.inr ⟨n1,hf,hf2,rfl⟩⟩⟩
   | some n2=>exact .inl ⟨_,_,_,.inr ⟨by omega,mm,key,n1,n2,h1,h2,hf,hf2,rfl,rfl,rfl⟩⟩
variable {M':Pm}{y:Nd}
theorem PE.ext(h:PE M m y M'):Ext M M':=by
 rcases h with⟨_,_,rfl⟩|⟨_,mm,key,_,_,⟨_,rfl⟩|⟨n1,h1,_,rfl⟩⟩
 ·exact B.Ext.refl _
 ·exact B.Ext.refl _
 ·exact B.pI (il h1).2.2.1
variable {ns:List Nat}{K:List ByteArray}
theorem PR.pn(h:PR M m y M' ns K)(hm:m.n<=1024):∃ ps,RZ y ps K/\Pn M M' ps ns:=by
 rcases h with⟨hs,n,h1,rfl,rfl,rfl⟩|⟨hs,mm,key,n1,n2,h0,hk,h1,h2,rfl,rfl,rfl⟩
 ·obtain⟨a,b,c,_⟩:=il h1
  refine⟨[y],.inl ⟨hs,rfl,rfl⟩,B.pI c,fun q=>B.wH c q,rfl,?_,fun q hq=>by simp at hq;omega⟩;intro i n' y' hn hy;match i,hn,hy with
  | 0,hn,hy=>simp at hn hy;subst hn;subst hy;exact B.lu _ _ _
  | _+1,hn,_=>simp at hn
 ·obtain⟨a,b,c,_⟩:=il h1
  obtain⟨a2,b2,c2,_⟩:=il h2;refine⟨[y.fst mm,y.snd mm],.inr ⟨hs,mm,key,hk,h0,rfl,rfl⟩,(B.pI c).trans (B.pI c2),fun q=>?_,rfl,?_,fun q hq=>?_⟩
  ·rw[B.wH c2,B.wH c];simp[List.count_cons];omega
  ·intro i n' y' hn hy
   match i,hn,hy with
   | 0,hn,hy=>simp at hn hy;subst hn;subst hy;exact B.pI c2 _ _ (B.lu _ _ _)
   | 1,hn,hy=>simp at hn hy;subst hn;subst hy;exact B.lu _ _ _
   | _+2,hn,_=>simp at hn
  ·simp at hq;omega
variable {d:Nat}
theorem Ca{B:Nat}(hC:fV w c t jv)(hT:dI w t p root)(h:Pv B w p m M)(hB:B<=w.heap.size)(hL:S.gU w)(hB0:1<B){l:Bool}{kp:Option Addr}{nk kc:Nat}{vp:Option Addr}{nv vc:Nat}{ip:Option Addr}{ni ic:Nat}{y:Nd}(hx:NV w l kp nk kc vp nv vc ip ni ic y)(wf:jC M d y)(hb:y.put.length<=(if d=0 then 352 else 380))(hR:PR M m y M' ns K):
 Calls Tryz.prog 147 #[.pointer (some ⟨c,0,none⟩),.agg #[.bool l,.slice kp nk kc,.slice vp nv vc,.slice ip ni ic]] w fun e w'=>∃ pp pc kq aY,e=.returned (.tuple #[.slice pp ns.length pc,.slice kq K.length aY,.int .i64 0])/\Own w' w.heap.size 3 1 pp ns.length pc (aO (ns.map fun n:Nat=>(n:Int)))/\Own w' w.heap.size 9 1 kq K.length aY (dA K)/\Pv B w' p m M'/\G.On B w w'/\(K.length=0->kq=none/\aY=0):=by
 rcases hR with⟨hs,n,h1,rfl,rfl,rfl⟩|⟨hs,mm,key,n1,n2,h0,hk,h1,h2,rfl,rfl,rfl⟩
 ·refine (Uf hC hT h hB hL hx wf.good hs h1).mono ?_
  rintro e w' ⟨pp,pc,rfl,a,b,o⟩;exact⟨pp,pc,none,0,rfl,a,lC _ _ _ _,b,o,fun _=>⟨rfl,rfl⟩⟩
 ·obtain⟨w1,w2,e1,e2,f1,f2⟩:=sF wf hs h0 hb
  refine (VG hC hT h hB hL hB0 hx wf.good hs h0 hk w1.good w2.good f1 f2 h1 h2).mono ?_;rintro e w' ⟨pp,pc,kq,aY,rfl,a,b,v,o⟩;exact⟨pp,pc,kq,aY,rfl,a,b,v,o,fun h=>by simp at h⟩
theorem xe{B:Nat}(hC:fV w c t jv)(hT:dI w t p root)(h:Pv B w p m M)(hB:B<=w.heap.size)(hL:S.gU w)(hB0:1<B){l:Bool}{kp:Option Addr}{nk kc:Nat}{vp:Option Addr}{nv vc:Nat}{ip:Option Addr}{ni ic:Nat}{y:Nd}(hx:NV w l kp nk kc vp nv vc ip ni ic y)(wf:jC M d y)(hb:y.put.length<=(if d=0 then 352 else 380))(hR:PE M m y M'):
 Calls Tryz.prog 147 #[.pointer (some ⟨c,0,none⟩),.agg #[.bool l,.slice kp nk kc,.slice vp nv vc,.slice ip ni ic]] w fun e w'=>e=.returned (.tuple #[.slice none 0 0,.slice none 0 0,.int .i64 80])/\Pv B w' p m M'/\G.On B w w':=by
 rcases hR with⟨hs,h1,rfl⟩|⟨hs,mm,key,h0,hk,⟨h1,rfl⟩|⟨n1,h1,h2,rfl⟩⟩
 ·refine (Uh hC hT h hB hL hx wf.good hs h1).mono ?_
  rintro e w' ⟨rfl,k⟩;exact⟨rfl,h.kept k,G.On.ax ⟨k.out⟩ hB⟩
 ·obtain⟨w1,w2,e1,e2,f1,f2⟩:=sF wf hs h0 hb
  refine (VD hC hT h hB hL hB0 hx wf.good hs h0 hk w1.good w2.good f1 f2 h1).mono ?_;rintro e w' ⟨rfl,k⟩;exact⟨rfl,h.kept k,G.On.ax ⟨k.out⟩ hB⟩
 ·obtain⟨w1,w2,e1,e2,f1,f2⟩:=sF wf hs h0 hb
  exact VF hC hT h hB hL hB0 hx wf.good hs h0 hk w1.good w2.good f1 f2 h1 h2
open B (jn)
open N (NZ blk)
structure Jx (c:Nat) (j:Option Nat) (w w':World):Prop where
 zero:Below 0 w w'
 block:∀ (b:Nat) (o:Obj),w.heap[b]? = some o->b≠c->j≠some b->w'.heap[b]? = some o
variable {j:Option Nat}
theorem Jx.ax(k:Kept w w'):Jx c j w w':=⟨k.out.mono (aag _),fun _ _ h _ _=>k.block h⟩
theorem Jx.size(h:Jx c j w w'):w.heap.size<=w'.heap.size:=h.zero.size
theorem Jx.trans{d:World}(h:Jx c j a b)(k:Jx c j b d):Jx c j a d:=⟨h.zero.trans k.zero,fun x o hx h1 h2=>k.block x o (h.block x o hx h1 h2) h1 h2⟩
theorem Jx.kept{d:World}(h:Jx c j a b)(k:Kept b d):Jx c j a d:=h.trans (Jx.ax k)
theorem Jx.grown(h:Jx c j w W){r:Option Nat}(hg:W.grownBy W' r)(hr:∀ k,r=some k->j=some k\/w.heap.size<=k):Jx c j w W':=by
 refine⟨h.zero.trans ⟨hg.os,hg.tape,hg.output,hg.size,fun _ h=>absurd h (Nat.not_lt_zero _)⟩,fun b o hb h1 h2=>?_⟩;have hb2:=h.block b o hb h1 h2;refine (hg.block b (aaa.1 hb2).1 (fun e=>?_)).trans hb2;rcases hr b e.symm with h3 | h3
 ·exact h2 h3
 ·have:=(aaa.1 hb).1;omega
theorem Jx.set(h:Jx c j w W)(a:Addr)(v:Value)(ha:a.block=c\/w.heap.size<=a.block):Jx c j w (W.setCell a v):=by
 refine⟨h.zero.setCell (aag _) v,fun b o hb h1 h2=>?_⟩;rw[heap_setCell_other W a b v (fun e=>?_)]
 ·exact h.block b o hb h1 h2
 ·rcases ha with h3 | h3
  ·exact h1 (e.trans h3)
  ·have:=(aaa.1 hb).1;omega
structure Jt (w:World) (c:Nat) (j:Option Nat):Prop where
 c:∃ cs fr,w.heap[c]? = some (.cells cs 196 fr)
 j:∀ b,j=some b->∃ cs fr,w.heap[b]? = some (.cells cs 3 fr)
theorem Jx.cells(h:Jx c j w w')(ht:Jt w c j){b:Nat}{cs:Array Value}{t:TypeId}{fr:Nat×Nat}(hb:w.heap[b]? = some (.cells cs t fr))(h1:t≠196)(h2:t≠3):w'.heap[b]? = some (.cells cs t fr):=by
 refine h.block b _ hb ?_ ?_
 ·rintro rfl
  obtain⟨cs',fr',e⟩:=ht.c;rw[hb]at e;injection e with e;injection e with _ e _;exact h1 e
 ·intro e
  obtain⟨cs',fr',e⟩:=ht.j b e;rw[hb]at e;injection e with e;injection e with _ e _;exact h2 e
theorem Jx.ap(h:Jx c j w w')(ht:Jt w c j):Ap w w':=by
 refine⟨fun k cs t fr hk h2=>h.cells ht hk (by rintro rfl;revert h2;decide) (by rintro rfl;revert h2;decide),fun k es n hk=>h.block k _ hk ?_ ?_⟩
 ·rintro rfl
  obtain⟨cs',fr',e⟩:=ht.c;rw[hk]at e;cases e
 ·intro e
  obtain⟨cs',fr',e⟩:=ht.j k e;rw[hk]at e;cases e
theorem Jx.rx(h:Jx c j w w'){e:TypeId}{p:Option Addr}{n:Nat}(k:Rx w e p n)(hp:∀ b off ph,p=some ⟨b,off,ph⟩->b≠c/\j≠some b):Rx w' e p n:=
 ⟨fun b off ph hb=>by obtain⟨cs,fr,hc⟩:=k.typ b off ph hb;exact⟨cs,fr,h.block _ _ hc (hp b off ph hb).1 (hp b off ph hb).2⟩,k.nil⟩
theorem Jx.rw(h:Jx c j w w'){e:TypeId}{sz:Nat}{p:Option Addr}{n cap:Nat}{cs:List Value}(r:Rw w sz p n cap cs)(k:Rx w e p cap)(hp:∀ b off ph,p=some ⟨b,off,ph⟩->b≠c/\j≠some b):Rw w' sz p n cap cs:=by
 refine⟨r.len,r.le,r.cap,?_⟩;rcases r.out with h0 | ⟨b,off,rfl,f⟩
 ·exact .inl h0
 ·refine .inr ⟨b,off,rfl,fun i u hu=>?_⟩
  obtain⟨cs',fr,hb⟩:=k.typ b off none rfl;rw[<- f i u hu];exact World.cell?_of_block ((h.block _ _ hb (hp b off none rfl).1 (hp b off none rfl).2).trans hb.symm)
def nL (c:Nat) (j:Option Nat) (p:Option Addr):Prop:=∀ b off ph,p=some ⟨b,off,ph⟩->b≠c/\j≠some b
theorem Cb(ht:Jt w c j){e:TypeId}{p:Option Addr}{n:Nat}(k:Rx w e p n)(h1:e≠196)(h2:e≠3):nL c j p:=by
 intro b off ph hb;obtain⟨cs,fr,hc⟩:=k.typ b off ph hb;refine⟨?_,?_⟩
 ·rintro rfl
  obtain⟨cs',fr',e⟩:=ht.c;rw[hc]at e;injection e with e;injection e with _ e _;exact h1 e
 ·intro e
  obtain⟨cs',fr',e⟩:=ht.j b e;rw[hc]at e;injection e with e;injection e with _ e _;exact h2 e
theorem Jx.nv(h:Jx c j w w')(ht:Jt w c j){l:Bool}{kp:Option Addr}{nk kc:Nat}{vp:Option Addr}{nv vc:Nat}{ip:Option Addr}{ni ic:Nat}{x:Nd}(k:NV w l kp nk kc vp nv vc ip ni ic x)(hi:nL c j ip):NV w' l kp nk kc vp nv vc ip ni ic x:=
 ⟨k.hl,h.rw k.k k.kx (Cb ht k.kx (by decide) (by decide)),h.rw k.v k.vx (Cb ht k.vx (by decide) (by decide)),h.rw k.i k.ix hi,h.rx k.kx (Cb ht k.kx (by decide) (by decide)),h.rx k.vx (Cb ht k.vx (by decide) (by decide)),h.rx k.ix hi⟩
theorem Jx.EO(h:Jx c j w w')(ht:Jt w c j){t p:Nat}{root:Int}(k:dI w t p root):dI w' t p root:=⟨h.cells ht k.out (by decide) (by decide)⟩
theorem iV{K nj jc:Nat}{jp:Option Addr}{cs:List Value}(hC:fV w c t (.slice jp nj jc))(hJ:Own w K 3 1 jp nj jc cs):Jt w c (blk jp):=by
 refine⟨⟨_,_,hC.out⟩,fun b hb=>?_⟩;rcases hJ.cases with⟨rfl,_⟩|⟨g,cur,rfl,_,_,hg,_⟩
 ·cases hb
 ·have e:some g=some b:=hb
  obtain rfl:=aaq e;exact⟨_,_,hg⟩
theorem NV.nz{nv:Nat}(h:NV w l kp nk kc vp nv vc ip ni ic x):NZ w l kp nk kc vp nv vc ip ni ic x:=⟨h,h.kx.nil,h.vx.nil,h.ix.nil⟩
theorem kJ{nv:Nat}(h:NV w l kp nk kc vp nv vc ip ni ic x)(g:N.Good x):nk<=120/\nv<=120/\ni<=121:=by
 have a:=h.nk;have b:=h.nv;have c:=h.ni;have f:=g.few;cases hl:x.leaf with
 | true=>obtain⟨h1,h2⟩:=g.lv hl;rw[h2]at c;simp at c;omega
 | false=>obtain⟨h1,h2⟩:=g.li hl;rw[h2]at b;simp at b;omega
theorem AA{gH:Option Addr}{aV gI:Nat}{jd:Option Addr}{eH je:Nat}{iM:Option Addr}{dG iN:Nat}{gm:Option Addr}{aT gq:Nat}{iX:Option Addr}{eG iY:Nat}{iG:Option Addr}{dC iH:Nat}{xa xb:Nd}(ha:NV w l gH aV gI jd eH je iM dG iN xa)(hb:NV w l gm aT gq iX eG iY iG dC iH xb)(ga:N.Good xa)(gb:N.Good xb)(key:ByteArray):
 Calls Tryz.prog 181 #[.agg #[.bool l,.slice gH aV gI,.slice jd eH je,.slice iM dG iN],.string key,.agg #[.bool l,.slice gm aT gq,.slice iX eG iY,.slice iG dC iH]] w fun e w'=>∃ kp nk kc vp nv vc ip ni ic,e=.returned (.agg #[.bool l,.slice kp nk kc,.slice vp nv vc,.slice ip ni ic])/\NV w' l kp nk kc vp nv vc ip ni ic (jn xa key xb)/\Kept w w':=by
 obtain⟨a1,a2,a3⟩:=kJ ha ga;obtain⟨b1,b2,b3⟩:=kJ hb gb;cases l with
 | true=>rw[B.jV ha.hl];exact N.KQ (NV.nz ha) (NV.nz hb) key (by omega) (by omega) (by omega) (by omega)
 | false=>rw[B.fE ha.hl];exact N.Ga (NV.nz ha) (NV.nz hb) key (by omega) (by omega) (by omega) (by omega)
