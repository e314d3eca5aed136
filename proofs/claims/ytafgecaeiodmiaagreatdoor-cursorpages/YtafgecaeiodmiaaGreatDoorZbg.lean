/- Joined. -/
import Derived.Test.YtafgecaeiodmiaaGreatDoorZbb
import Derived.Test.YtafgecaeiodmiaaGreatDoorZbd
import Derived.Test.YtafgecaeiodmiaaGreatDoorZbe
import Derived.Test.YtafgecaeiodmiaaGreatDoorZbf
import Derived.Deep.QuietTactic
import Derived.BigQuiet
import Derived.Deep.RegionHeld3
import Derived.Deep.DrawnRows
import Derived.LoopN
import Derived.Deep.RegionLaw
namespace Go.Proofs.YtafgecaeiodmiaaGreatDoor.T
open Go.ChangeShapes Go.WideShapes Go.ChangeAt Go.RowKit
open B (Pm pt drp)
open N (Nd NV Rw Rx Kept kcl vcl icl Vl C4)
structure TAt (W:World) (t p:Nat) (root:Int):Prop where
 out:W.heap[t]? = some (.cells #[.pointer (some ⟨p,0,none⟩),.int .i64 root] 82)
theorem TAt.kept{W W':World}{t p:Nat}{root:Int}(h:TAt W t p root)(k:Kept W W'):TAt W' t p root:=⟨(k.out.block t (Array.getElem?_eq_some_iff.1 h.out).1).trans h.out⟩
theorem TAt.cs{W:World}{t p:Nat}{root:Int}(h:TAt W t p root):W.cell? ⟨t,0,none⟩=some (.pointer (some ⟨p,0,none⟩))∧W.cell? ⟨t,1,none⟩=some (.int .i64 root):=by
 refine⟨?_,?_⟩ <;> (rw[cell_of_row W t _ _ _ _ h.out];rfl)
theorem calm82:G.Calm 82:=by unfold G.Calm D.Calm;decide
theorem calm9:G.Calm 9:=by unfold G.Calm D.Calm;decide
theorem calm35:G.Calm 35:=by unfold G.Calm D.Calm;decide
theorem calm3:G.Calm 3:=by unfold G.Calm D.Calm;decide
theorem calm71:G.Calm 71:=by unfold G.Calm D.Calm;decide
theorem calm148:G.Calm 148:=by unfold G.Calm D.Calm;decide
theorem calm154:G.Calm 154:=by unfold G.Calm D.Calm;decide
theorem TAt.on{B:Nat}{W W':World}{t p:Nat}{root:Int}(h:TAt W t p root)(o:G.On B W W'):TAt W' t p root:=⟨o.rows _ _ _ _ h.out calm82⟩
theorem rx_on{B:Nat}{w w':World}(o:G.On B w w'){e:TypeId}(he:G.Calm e){p:Option Addr}{c:Nat}(h:Rx w e p c):Rx w' e p c:=
 ⟨(fun b off ph hp=>by obtain⟨cs,fr,hb⟩:=h.typ b off ph hp;exact⟨cs,fr,o.rows _ _ _ _ hb he⟩),h.nil⟩
theorem rw_on{B:Nat}{w w':World}(o:G.On B w w'){e:TypeId}(he:G.Calm e){sz:Nat}{p:Option Addr}{n c:Nat}{cs:List Value}(h:Rw w sz p n c cs)(hx:Rx w e p c):Rw w' sz p n c cs:=by
 refine⟨h.len,h.le,h.cap,?_⟩;rcases h.out with h0 | ⟨b,off,rfl,f⟩
 ·exact .inl h0
 ·refine .inr ⟨b,off,rfl,fun j u hu=>?_⟩
  obtain⟨cs',fr,hb⟩:=hx.typ b off none rfl;rw[← f j u hu];exact World.cell?_of_block ((o.rows _ _ _ _ hb he).trans hb.symm)
theorem nv_on{B:Nat}{w w':World}(o:G.On B w w'){l:Bool}{kp:Option Addr}{nk kc:Nat}{vp:Option Addr}{nv vc:Nat}{ip:Option Addr}{ni ic:Nat}{x:Nd}(h:NV w l kp nk kc vp nv vc ip ni ic x):NV w' l kp nk kc vp nv vc ip ni ic x:=
 ⟨h.hl,rw_on o calm9 h.k h.kx,rw_on o calm35 h.v h.vx,rw_on o calm3 h.i h.ix,rx_on o calm9 h.kx,rx_on o calm35 h.vx,rx_on o calm3 h.ix⟩
theorem none_nil(w:World):Calls Tryz.prog 29 #[.pointer none] w fun e w'=>e=.returned (.bool true)∧w'=w:=by
 go_enter Tryz.func29,Tryz.ntmps29;go_wp2;go_ret;exact⟨rfl,rfl⟩
theorem none_walk{w:World}{t p:Nat}{root:Int}(h:TAt w t p root):Calls Tryz.prog 29 #[.pointer (some ⟨t,0,none⟩)] w fun e w'=>e=.returned (.bool false)∧w'=w:=by
 obtain⟨c0,c1⟩:=h.cs;go_enter Tryz.func29,Tryz.ntmps29;go_wp2;go_ret;exact⟨rfl,rfl⟩
theorem root_nil(w:World):Calls Tryz.prog 16 #[.pointer none] w fun e w'=>e=.returned (.int .i64 (-1))∧w'=w:=by
 have f:=none_nil w;go_enter Tryz.func16,Tryz.ntmps16;go_wp2_with (go_at_call 29;(with_reducible refine f.mono ?_);rintro e w1 ⟨rfl,hw1⟩;rw[hw1];clear hw1);go_ret;exact⟨rfl,rfl⟩
theorem root_walk{w:World}{t p:Nat}{root:Int}(h:TAt w t p root):Calls Tryz.prog 16 #[.pointer (some ⟨t,0,none⟩)] w fun e w'=>e=.returned (.int .i64 root)∧w'=w:=by
 obtain⟨c0,c1⟩:=h.cs;have f:=none_walk h;go_enter Tryz.func16,Tryz.ntmps16;go_wp2_with (go_at_call 29;(with_reducible refine f.mono ?_);rintro e w1 ⟨rfl,hw1⟩;rw[hw1];clear hw1);go_ret;exact⟨rfl,rfl⟩
theorem new_walk(w:World)(p:Nat)(root:Int):Calls Tryz.prog 21 #[.pointer (some ⟨p,0,none⟩),.int .i64 root] w fun e w'=>e=.returned (.pointer (some ⟨w.heap.size,0,none⟩))∧TAt w' w.heap.size p root∧Kept w w':=by
 go_enter Tryz.func21,Tryz.ntmps21;go_wp2;go_ret;exact⟨rfl,⟨heap_alloc_new w _⟩,(Kept.refl w).alloc _⟩
theorem mayKey_walk(w:World)(k:ByteArray):Calls Tryz.prog 41 #[.string k] w fun e w'=>e=.returned (.bool (decide (k.size≤64)))∧w'=w:=by
 go_enter Tryz.func41,Tryz.ntmps41;go_wp2;go_ret;refine⟨?_,rfl⟩;congr 2;simp;omega
def frst (M:Pm) (m:Nat):Option Nat:=(List.range m).find? fun n=>decide (2≤n) && (M n).isNone
theorem frst_none{M:Pm}{m:Nat}(h:frst M m=none):∀ k,2≤k→k<m→(M k).isSome=true:=by
 intro k h1 h2;have:=List.find?_eq_none.1 h k (List.mem_range.2 h2);cases hm:M k with
 | none=>rw[hm]at this;simp at this;omega
 | some x=>rfl
theorem frst_some{M:Pm}{m n:Nat}(h:frst M m=some n):2≤n∧n<m∧M n=none∧∀ j,2≤j→j<n→(M j).isSome=true:=by
 have h1:=List.find?_some h;have h2:=List.mem_range.1 (List.mem_of_find?_eq_some h);simp at h1;refine⟨h1.1,h2,by simpa using h1.2,fun j a b=>?_⟩;obtain⟨i,hi,e1,e2⟩:=List.find?_eq_some_iff_getElem.1 h |>.2;simp at e1;subst e1;have:=e2 j b;simp at this;cases hm:M j with
 | none=>rw[hm]at this;simp at this;omega
 | some x=>rfl
theorem Pv.add_some{B:Nat}{w:World}{p m n:Nat}{M:Pm}(h:Pv B w p m M)(hB:B≤w.heap.size)(hL:S.Lds w)(x:Nd)(hx:x.put.length≤237)(hf:frst M m=some n) :
  Calls Tryz.prog 125 #[.pointer (some ⟨p,0,none⟩),.int .i64 (kindOf x),.string (N.bs x.put)] w fun e w'=>e=.returned (.tuple #[.int .i64 (n:Nat),.int .i64 0])∧Pv B w' p m (pt M n x)∧G.On B w w':=by
 obtain⟨f1,f2,f3,f4⟩:=frst_some hf;refine (h.add hB hL x hx).mono ?_;rintro e w' (⟨n',rfl,h1,h2,h3,h4,h5,h6⟩|⟨_,_,h6⟩)
 ·obtain rfl:n'=n:=by
   rcases Nat.lt_trichotomy n' n with q | q | q
   ·have:=f4 n' h1 q;rw[h3]at this;cases this
   ·exact q
   ·exact absurd (h6 n f1 q) (by rw[f3];simp)
  exact⟨rfl,h4,h5⟩
 ·exact absurd (h6 n f1 f2) (by rw[f3];simp)
theorem Pv.add_none{B:Nat}{w:World}{p m:Nat}{M:Pm}(h:Pv B w p m M)(hB:B≤w.heap.size)(hL:S.Lds w)(x:Nd)(hx:x.put.length≤237)(hf:frst M m=none) :
  Calls Tryz.prog 125 #[.pointer (some ⟨p,0,none⟩),.int .i64 (kindOf x),.string (N.bs x.put)] w fun e w'=>e=.returned (.tuple #[.int .i64 0,.int .i64 80])∧w'=w:=by
 refine (h.add hB hL x hx).mono ?_;rintro e w' (⟨n,rfl,h1,h2,h3,_⟩|⟨rfl,h5,_⟩)
 ·exact absurd (frst_none hf n h1 h2) (by rw[h3];simp)
 ·exact⟨rfl,h5⟩
structure CAt (W:World) (c t:Nat) (v:Value):Prop where
 out:W.heap[c]? = some (.cells #[.pointer (some ⟨t,0,none⟩),v] 154)
theorem CAt.kept{W W':World}{c t:Nat}{v:Value}(h:CAt W c t v)(k:Kept W W'):CAt W' c t v:=⟨(k.out.block c (Array.getElem?_eq_some_iff.1 h.out).1).trans h.out⟩
theorem CAt.on{B:Nat}{W W':World}{c t:Nat}{v:Value}(h:CAt W c t v)(o:G.On B W W'):CAt W' c t v:=⟨o.rows _ _ _ _ h.out calm154⟩
theorem CAt.cs{W:World}{c t:Nat}{v:Value}(h:CAt W c t v):W.cell? ⟨c,0,none⟩=some (.pointer (some ⟨t,0,none⟩))∧W.cell? ⟨c,1,none⟩=some v:=by
 refine⟨?_,?_⟩ <;> (rw[cell_of_row W c _ _ _ _ h.out];rfl)
theorem lds_kept{w w':World}(h:S.Lds w)(k:Kept w w'):S.Lds w':=h.kept ⟨k.out⟩
theorem lds_on{B:Nat}{w w':World}(h:S.Lds w)(o:G.On B w w')(hB:1<B):S.Lds w':=G.lds_on h o.below hB
theorem c4_on{B:Nat}{w w':World}(o:G.On B w w'){b:Nat}{a0 a1 a2 a3:Value}(h:C4 w b 71 a0 a1 a2 a3):C4 w' b 71 a0 a1 a2 a3:=⟨o.rows _ _ _ _ h.out calm71⟩
set_option maxRecDepth 100000 in
set_option maxHeartbeats 1000000 in
theorem add_some{B:Nat}{w:World}{c t p m n:Nat}{jv:Value}{root:Int}{M:Pm}(hC:CAt w c t jv)(hT:TAt w t p root)(h:Pv B w p m M)(hB:B≤w.heap.size)(hL:S.Lds w){l:Bool}{kp:Option Addr}{nk kc:Nat}{vp:Option Addr}{nv vc:Nat}{ip:Option Addr}{ni ic:Nat}{x:Nd}(hx:NV w l kp nk kc vp nv vc ip ni ic x)(g:N.Good x)(hs:x.put.length≤237)(hf:frst M m=some n) :
  Calls Tryz.prog 97 #[.pointer (some ⟨c,0,none⟩),.agg #[.bool l,.slice kp nk kc,.slice vp nv vc,.slice ip ni ic]] w fun e w'=>e=.returned (.tuple #[.int .i64 (n:Nat),.int .i64 0])∧Pv B w' p m (pt M n x)∧G.On B w w':=by
 have K0:Kept w (w.alloc (.cells #[.bool l,.slice kp nk kc,.slice vp nv vc,.slice ip ni ic] 71)):=(Kept.refl w).alloc _;have X0:=C4.alloc w 71 (.bool l) (.slice kp nk kc) (.slice vp nv vc) (.slice ip ni ic);have HP:Hid (∀ W,Kept w W→Calls Tryz.prog 116 #[.agg #[.bool l,.slice kp nk kc,.slice vp nv vc,.slice ip ni ic]] W fun e w'=>e=.returned (.string (N.bs x.put))∧Kept W w'):=fun W k=>N.put_walk (hx.kept k) g
 have HA:Hid (∀ W,Kept w W→Calls Tryz.prog 125 #[.pointer (some ⟨p,0,none⟩),.int .i64 (kindOf x),.string (N.bs x.put)] W fun e w'=>e=.returned (.tuple #[.int .i64 (n:Nat),.int .i64 0])∧Pv B w' p m (pt M n x)∧G.On B W w'):=fun W k=>(h.kept k).add_some (Nat.le_trans hB k.size) (lds_kept hL k) x hs hf
 have hk:kindOf x=if l=true then 2 else 3:=by unfold kindOf;rw[hx.hl]
 rw[hk]at HA;obtain⟨c0,c1⟩:=(hC.kept K0).cs;obtain⟨t0,t1⟩:=(hT.kept K0).cs;obtain⟨x0,x1,x2,x3⟩:=X0.cs;have HC:Hid (CAt w c t jv):=hC;have HT:Hid (TAt w t p root):=hT;have HV:Hid (Pv B w p m M):=h;generalize N.bs x.put=sx at HP HA;clear hx g hs hk h hC hT hf;cases l with
 | true=>
  simp only[if_true]at HA;go_enter Tryz.func97,Tryz.ntmps97;go_wp2;go_region_held3 (fun W=>W.cell? ⟨c,0,none⟩=some (.pointer (some ⟨t,0,none⟩))∧W.cell? ⟨t,0,none⟩=some (.pointer (some ⟨p,0,none⟩))∧W.cell? ⟨w.heap.size,0,none⟩=some (.bool true)∧W.cell? ⟨w.heap.size,1,none⟩=some (.slice kp nk kc)∧W.cell? ⟨w.heap.size,2,none⟩=some (.slice vp nv vc)∧W.cell? ⟨w.heap.size,3,none⟩=some (.slice ip ni ic)) (first | trivial | go_keep) (first
   | (go_at_call 116;(with_reducible refine (HP.out _ (by first | exact K0.drew | exact K0)).mono ?_);rintro e w1 ⟨rfl,k1⟩;have K1:Kept w w1:=Kept.trans (by first | exact K0.drew | exact K0) k1;obtain⟨d0,d1⟩:=(HC.out.kept K1).cs;obtain⟨e0,e1⟩:=(HT.out.kept K1).cs;have X1:C4 w1 w.heap.size 71 (.bool true) (.slice kp nk kc) (.slice vp nv vc) (.slice ip ni ic):=C4.kept (by first | exact X0.drew | exact X0) k1;obtain⟨y0,y1,y2,y3⟩:=X1.cs)
   | (go_at_call 125;(with_reducible refine (HA.out _ K1).mono ?_);rintro e w2 ⟨rfl,h2,o2⟩;obtain⟨d0,d1⟩:=((HC.out.kept K1).on o2).cs;obtain⟨e0,e1⟩:=((HT.out.kept K1).on o2).cs;obtain⟨y0,y1,y2,y3⟩:=(c4_on o2 X1).cs))
  all_goals go_wp2
  all_goals go_ret2
  all_goals exact⟨rfl,by first | exact h2 | exact h2.kept ((Kept.refl _).drew),by first | exact (G.On.ofKept ⟨K1.out⟩ hB).trans o2 | exact ((G.On.ofKept ⟨K1.out⟩ hB).trans o2).drew⟩
 | false=>
  simp only[Bool.false_eq_true,if_false]at HA;go_enter Tryz.func97,Tryz.ntmps97;go_wp2;go_region_held3 (fun W=>W.cell? ⟨c,0,none⟩=some (.pointer (some ⟨t,0,none⟩))∧W.cell? ⟨t,0,none⟩=some (.pointer (some ⟨p,0,none⟩))∧W.cell? ⟨w.heap.size,0,none⟩=some (.bool false)∧W.cell? ⟨w.heap.size,1,none⟩=some (.slice kp nk kc)∧W.cell? ⟨w.heap.size,2,none⟩=some (.slice vp nv vc)∧W.cell? ⟨w.heap.size,3,none⟩=some (.slice ip ni ic)) (first | trivial | go_keep) (first
   | (go_at_call 116;(with_reducible refine (HP.out _ (by first | exact K0.drew | exact K0)).mono ?_);rintro e w1 ⟨rfl,k1⟩;have K1:Kept w w1:=Kept.trans (by first | exact K0.drew | exact K0) k1;obtain⟨d0,d1⟩:=(HC.out.kept K1).cs;obtain⟨e0,e1⟩:=(HT.out.kept K1).cs;have X1:C4 w1 w.heap.size 71 (.bool false) (.slice kp nk kc) (.slice vp nv vc) (.slice ip ni ic):=C4.kept (by first | exact X0.drew | exact X0) k1;obtain⟨y0,y1,y2,y3⟩:=X1.cs)
   | (go_at_call 125;(with_reducible refine (HA.out _ K1).mono ?_);rintro e w2 ⟨rfl,h2,o2⟩;obtain⟨d0,d1⟩:=((HC.out.kept K1).on o2).cs;obtain⟨e0,e1⟩:=((HT.out.kept K1).on o2).cs;obtain⟨y0,y1,y2,y3⟩:=(c4_on o2 X1).cs))
  all_goals go_wp2
  all_goals go_ret2
  all_goals exact⟨rfl,by first | exact h2 | exact h2.kept ((Kept.refl _).drew),by first | exact (G.On.ofKept ⟨K1.out⟩ hB).trans o2 | exact ((G.On.ofKept ⟨K1.out⟩ hB).trans o2).drew⟩
set_option maxRecDepth 100000 in
set_option maxHeartbeats 1000000 in
theorem add_none{B:Nat}{w:World}{c t p m:Nat}{jv:Value}{root:Int}{M:Pm}(hC:CAt w c t jv)(hT:TAt w t p root)(h:Pv B w p m M)(hB:B≤w.heap.size)(hL:S.Lds w){l:Bool}{kp:Option Addr}{nk kc:Nat}{vp:Option Addr}{nv vc:Nat}{ip:Option Addr}{ni ic:Nat}{x:Nd}(hx:NV w l kp nk kc vp nv vc ip ni ic x)(g:N.Good x)(hs:x.put.length≤237)(hf:frst M m=none) :
  Calls Tryz.prog 97 #[.pointer (some ⟨c,0,none⟩),.agg #[.bool l,.slice kp nk kc,.slice vp nv vc,.slice ip ni ic]] w fun e w'=>e=.returned (.tuple #[.int .i64 0,.int .i64 80])∧Kept w w':=by
 have K0:Kept w (w.alloc (.cells #[.bool l,.slice kp nk kc,.slice vp nv vc,.slice ip ni ic] 71)):=(Kept.refl w).alloc _;have X0:=C4.alloc w 71 (.bool l) (.slice kp nk kc) (.slice vp nv vc) (.slice ip ni ic);have HP:Hid (∀ W,Kept w W→Calls Tryz.prog 116 #[.agg #[.bool l,.slice kp nk kc,.slice vp nv vc,.slice ip ni ic]] W fun e w'=>e=.returned (.string (N.bs x.put))∧Kept W w'):=fun W k=>N.put_walk (hx.kept k) g
 have HA:Hid (∀ W,Kept w W→Calls Tryz.prog 125 #[.pointer (some ⟨p,0,none⟩),.int .i64 (kindOf x),.string (N.bs x.put)] W fun e w'=>e=.returned (.tuple #[.int .i64 0,.int .i64 80])∧w'=W):=fun W k=>(h.kept k).add_none (Nat.le_trans hB k.size) (lds_kept hL k) x hs hf
 have hk:kindOf x=if l=true then 2 else 3:=by unfold kindOf;rw[hx.hl]
 rw[hk]at HA;obtain⟨c0,c1⟩:=(hC.kept K0).cs;obtain⟨t0,t1⟩:=(hT.kept K0).cs;obtain⟨x0,x1,x2,x3⟩:=X0.cs;have HC:Hid (CAt w c t jv):=hC;have HT:Hid (TAt w t p root):=hT;have HV:Hid (Pv B w p m M):=h;generalize N.bs x.put=sx at HP HA;clear hx g hs hk h hC hT hf;cases l with
 | true=>
  simp only[if_true]at HA;go_enter Tryz.func97,Tryz.ntmps97;go_wp2;go_region_held3 (fun W=>W.cell? ⟨c,0,none⟩=some (.pointer (some ⟨t,0,none⟩))∧W.cell? ⟨t,0,none⟩=some (.pointer (some ⟨p,0,none⟩))∧W.cell? ⟨w.heap.size,0,none⟩=some (.bool true)∧W.cell? ⟨w.heap.size,1,none⟩=some (.slice kp nk kc)∧W.cell? ⟨w.heap.size,2,none⟩=some (.slice vp nv vc)∧W.cell? ⟨w.heap.size,3,none⟩=some (.slice ip ni ic)) (first | trivial | go_keep) (first
   | (go_at_call 116;(with_reducible refine (HP.out _ (by first | exact K0.drew | exact K0)).mono ?_);rintro e w1 ⟨rfl,k1⟩;have K1:Kept w w1:=Kept.trans (by first | exact K0.drew | exact K0) k1;obtain⟨d0,d1⟩:=(HC.out.kept K1).cs;obtain⟨e0,e1⟩:=(HT.out.kept K1).cs;have X1:C4 w1 w.heap.size 71 (.bool true) (.slice kp nk kc) (.slice vp nv vc) (.slice ip ni ic):=C4.kept (by first | exact X0.drew | exact X0) k1;obtain⟨y0,y1,y2,y3⟩:=X1.cs)
   | (go_at_call 125;(with_reducible refine (HA.out _ K1).mono ?_);rintro e w2 ⟨rfl,hw2⟩;rw[hw2];clear hw2))
  all_goals go_wp2
  all_goals go_ret2
  all_goals exact⟨rfl,by first | exact K1 | exact K1.drew⟩
 | false=>
  simp only[Bool.false_eq_true,if_false]at HA;go_enter Tryz.func97,Tryz.ntmps97;go_wp2;go_region_held3 (fun W=>W.cell? ⟨c,0,none⟩=some (.pointer (some ⟨t,0,none⟩))∧W.cell? ⟨t,0,none⟩=some (.pointer (some ⟨p,0,none⟩))∧W.cell? ⟨w.heap.size,0,none⟩=some (.bool false)∧W.cell? ⟨w.heap.size,1,none⟩=some (.slice kp nk kc)∧W.cell? ⟨w.heap.size,2,none⟩=some (.slice vp nv vc)∧W.cell? ⟨w.heap.size,3,none⟩=some (.slice ip ni ic)) (first | trivial | go_keep) (first
   | (go_at_call 116;(with_reducible refine (HP.out _ (by first | exact K0.drew | exact K0)).mono ?_);rintro e w1 ⟨rfl,k1⟩;have K1:Kept w w1:=Kept.trans (by first | exact K0.drew | exact K0) k1;obtain⟨d0,d1⟩:=(HC.out.kept K1).cs;obtain⟨e0,e1⟩:=(HT.out.kept K1).cs;have X1:C4 w1 w.heap.size 71 (.bool false) (.slice kp nk kc) (.slice vp nv vc) (.slice ip ni ic):=C4.kept (by first | exact X0.drew | exact X0) k1;obtain⟨y0,y1,y2,y3⟩:=X1.cs)
   | (go_at_call 125;(with_reducible refine (HA.out _ K1).mono ?_);rintro e w2 ⟨rfl,hw2⟩;rw[hw2];clear hw2))
  all_goals go_wp2
  all_goals go_ret2
  all_goals exact⟨rfl,by first | exact K1 | exact K1.drew⟩
open N (Nw Up)
set_option maxRecDepth 100000 in
set_option maxHeartbeats 2000000 in
theorem node_walk{B:Nat}{w:World}{t p m n:Nat}{root:Int}{M:Pm}(hT:TAt w t p root)(h:Pv B w p m M){y:Nd}(hy:M n=some y)(g:N.Good y)(hu:Up y.ks)(l:Bool)(hl:y.leaf=l) :
  Calls Tryz.prog 47 #[.pointer (some ⟨t,0,none⟩),.int .i64 (n:Nat)] w fun e w'=>∃ kp nk kc vp nv vc ip ni ic,e=.returned (.tuple #[.agg #[.bool l,.slice kp nk kc,.slice vp nv vc,.slice ip ni ic],.int .i64 0])∧NV w' l kp nk kc vp nv vc ip ni ic y∧Kept w w'∧Nw w.heap.size ip:=by
 have HN:Hid (∀ W,Kept w W→Calls Tryz.prog 29 #[.pointer (some ⟨t,0,none⟩)] W fun e w'=>e=.returned (.bool false)∧w'=W):=fun W k=>none_walk (hT.kept k)
 have HR:Hid (∀ W kb fr,Kept w W→W.heap[kb]? = some (.cells #[.int .i64 2,.int .i64 3] 3 fr)→Calls Tryz.prog 73 #[.pointer (some ⟨p,0,none⟩),.int .i64 (n:Nat),.slice (some ⟨kb,0,none⟩) 2 2] W fun e w'=>(∃ xg:Nat,e=.returned (.tuple #[.agg #[.int .i64 (kindOf y),.int .i64 (n:Nat),.int .u64 (xg:Nat),.string (N.bs y.put)],.int .i64 0]))∧Kept W w'):=fun W kb fr k hk=>(h.kept k).read hk hy
 have HG:Hid (∀ W,Calls Tryz.prog 74 #[.string (N.bs y.put),.bool l] W fun e w'=>∃ kp nk kc vp nv vc ip ni ic,e=.returned (.tuple #[.agg #[.bool l,.slice kp nk kc,.slice vp nv vc,.slice ip ni ic],.int .i64 0])∧NV w' l kp nk kc vp nv vc ip ni ic y∧Kept W w'∧Nw W.heap.size ip):=fun W=>N.get_walk g g.few hu l hl
 have hkd:kindOf y=if l=true then 2 else 3:=by unfold kindOf;rw[hl]
 rw[hkd]at HR;have K0:Kept w (w.alloc (.cells #[.bool false,.slice none 0 0,.slice none 0 0,.slice none 0 0] 71)):=(Kept.refl w).alloc _;have R0:=C4.alloc w 71 (.bool false) (.slice none 0 0) (.slice none 0 0) (.slice none 0 0);have S0:=N.size_alloc w (.cells #[.bool false,.slice none 0 0,.slice none 0 0,.slice none 0 0] 71);obtain⟨c0,c1⟩:=(hT.kept K0).cs;generalize N.bs y.put=sx at *;clear hkd hl hu g hy h hT;have KB:Kept w ((w.alloc (.cells #[.bool false,.slice none 0 0,.slice none 0 0,.slice none 0 0] 71)).alloc (.cells #[.int .i64 2,.int .i64 3] 3)):=K0.alloc _;have hb:((w.alloc (.cells #[.bool false,.slice none 0 0,.slice none 0 0,.slice none 0 0] 71)).alloc (.cells #[.int .i64 2,.int .i64 3] 3)).heap[(w.alloc (.cells #[.bool false,.slice none 0 0,.slice none 0 0,.slice none 0 0] 71)).heap.size]? = some (.cells #[.int .i64 2,.int .i64 3] 3 (0,0)):=heap_alloc_new _ _;rw[S0]at hb;have RB:C4 ((w.alloc (.cells #[.bool false,.slice none 0 0,.slice none 0 0,.slice none 0 0] 71)).alloc (.cells #[.int .i64 2,.int .i64 3] 3)) w.heap.size 71 (.bool false) (.slice none 0 0) (.slice none 0 0) (.slice none 0 0):=R0.kept ((Kept.refl _).alloc _);cases l with
 | true=>
  simp only[if_true]at HR;go_enter Tryz.func47,Tryz.ntmps47;go_wp2_with (first
   | (go_at_call 29;(with_reducible refine (HN.out _ K0).mono ?_);rintro e w1 ⟨rfl,hw1⟩;rw[hw1];clear hw1)
   | (go_at_call 73;(with_reducible refine (HR.out _ _ _ KB hb).mono ?_);rintro e w2 ⟨⟨xg,rfl⟩,k2⟩;have K2:=KB.trans k2;have R2:=RB.kept k2;have P2:=P.Pg.alloc w2 2 (n:Nat) xg sx 159;have K3:Kept w2 (w2.alloc (.cells #[.int .i64 2,.int .i64 (n:Nat),.int .u64 (xg:Nat),.string sx] 159)):=(Kept.refl _).alloc _;have R3:=R2.kept K3;obtain⟨y0,y1,y2,y3⟩:=P2.cs;have K30:=K2.trans K3)
   | (go_at_call 74;(with_reducible refine (HG.out _).mono ?_);rintro e v4 ⟨kp,nk,kc,vp,nv,vc,ip,ni,ic,rfl,N4,k4,nw4⟩;have nw5:Hid (Nw w.heap.size ip):=nw4.mono K30.size;clear nw4;have K4:=K30.trans k4;have R4:=R3.kept k4;have k5:=(Kept.refl v4).alloc (.cells #[.bool true,.slice kp nk kc,.slice vp nv vc,.slice ip ni ic] 71);have N5:=N4.kept k5;have R5:=R4.kept k5;have X5:=C4.alloc v4 71 (.bool true) (.slice kp nk kc) (.slice vp nv vc) (.slice ip ni ic);have K5:=K4.trans k5;obtain⟨x0,x1,x2,x3⟩:=X5.cs;obtain⟨⟨g0,f0⟩,⟨g1,f1⟩,⟨g2,f2⟩,⟨g3,f3⟩,hfin⟩:=N.ready4 R5.out (.bool true) (.slice kp nk kc) (.slice vp nv vc) (.slice ip ni ic)))
  have q1:=N5.other R5 (fun k hk=>N.others4 _ hk (.bool true) (.slice kp nk kc) (.slice vp nv vc) (.slice ip ni ic));have q2:=K5.st4 (b:=w.heap.size) (Nat.le_refl _) (.bool true) (.slice kp nk kc) (.slice vp nv vc) (.slice ip ni ic);generalize ((((World.setCell _ ⟨w.heap.size,0,none⟩ (.bool true)).setCell ⟨w.heap.size,1,none⟩ (.slice kp nk kc)).setCell ⟨w.heap.size,2,none⟩ (.slice vp nv vc)).setCell ⟨w.heap.size,3,none⟩ (.slice ip ni ic))=WF at hfin q1 q2 ⊢;refine bodyPost_ret (v:=.tuple #[.agg #[.bool true,.slice kp nk kc,.slice vp nv vc,.slice ip ni ic],.int .i64 0]) ?_ rfl ⟨_,_,_,_,_,_,_,_,_,rfl,q1,q2,nw5.out⟩;exact N.results_two (p:=4) (u:=5) (ty:=71) rfl _ _ w.heap.size 71 #[.bool true,.slice kp nk kc,.slice vp nv vc,.slice ip ni ic] (0,0) _ rfl hfin Tryz.underlying71 rfl N.size71
 | false=>
  simp only[Bool.false_eq_true,if_false]at HR;go_enter Tryz.func47,Tryz.ntmps47;go_wp2_with (first
   | (go_at_call 29;(with_reducible refine (HN.out _ K0).mono ?_);rintro e w1 ⟨rfl,hw1⟩;rw[hw1];clear hw1)
   | (go_at_call 73;(with_reducible refine (HR.out _ _ _ KB hb).mono ?_);rintro e w2 ⟨⟨xg,rfl⟩,k2⟩;have K2:=KB.trans k2;have R2:=RB.kept k2;have P2:=P.Pg.alloc w2 3 (n:Nat) xg sx 159;have K3:Kept w2 (w2.alloc (.cells #[.int .i64 3,.int .i64 (n:Nat),.int .u64 (xg:Nat),.string sx] 159)):=(Kept.refl _).alloc _;have R3:=R2.kept K3;obtain⟨y0,y1,y2,y3⟩:=P2.cs;have K30:=K2.trans K3)
   | (go_at_call 74;(with_reducible refine (HG.out _).mono ?_);rintro e v4 ⟨kp,nk,kc,vp,nv,vc,ip,ni,ic,rfl,N4,k4,nw4⟩;have nw5:Hid (Nw w.heap.size ip):=nw4.mono K30.size;clear nw4;have K4:=K30.trans k4;have R4:=R3.kept k4;have k5:=(Kept.refl v4).alloc (.cells #[.bool false,.slice kp nk kc,.slice vp nv vc,.slice ip ni ic] 71);have N5:=N4.kept k5;have R5:=R4.kept k5;have X5:=C4.alloc v4 71 (.bool false) (.slice kp nk kc) (.slice vp nv vc) (.slice ip ni ic);have K5:=K4.trans k5;obtain⟨x0,x1,x2,x3⟩:=X5.cs;obtain⟨⟨g0,f0⟩,⟨g1,f1⟩,⟨g2,f2⟩,⟨g3,f3⟩,hfin⟩:=N.ready4 R5.out (.bool false) (.slice kp nk kc) (.slice vp nv vc) (.slice ip ni ic)))
  have q1:=N5.other R5 (fun k hk=>N.others4 _ hk (.bool false) (.slice kp nk kc) (.slice vp nv vc) (.slice ip ni ic));have q2:=K5.st4 (b:=w.heap.size) (Nat.le_refl _) (.bool false) (.slice kp nk kc) (.slice vp nv vc) (.slice ip ni ic);generalize ((((World.setCell _ ⟨w.heap.size,0,none⟩ (.bool false)).setCell ⟨w.heap.size,1,none⟩ (.slice kp nk kc)).setCell ⟨w.heap.size,2,none⟩ (.slice vp nv vc)).setCell ⟨w.heap.size,3,none⟩ (.slice ip ni ic))=WF at hfin q1 q2 ⊢;refine bodyPost_ret (v:=.tuple #[.agg #[.bool false,.slice kp nk kc,.slice vp nv vc,.slice ip ni ic],.int .i64 0]) ?_ rfl ⟨_,_,_,_,_,_,_,_,_,rfl,q1,q2,nw5.out⟩;exact N.results_two (p:=4) (u:=5) (ty:=71) rfl _ _ w.heap.size 71 #[.bool false,.slice kp nk kc,.slice vp nv vc,.slice ip ni ic] (0,0) _ rfl hfin Tryz.underlying71 rfl N.size71
theorem place_walk{w:World}{l:Bool}{kp:Option Addr}{nk kc:Nat}{vp:Option Addr}{nv vc:Nat}{ip:Option Addr}{ni ic:Nat}{x:Nd}(h:NV w l kp nk kc vp nv vc ip ni ic x)(g:N.Good x)(key:ByteArray) :
  Calls Tryz.prog 65 #[.agg #[.bool l,.slice kp nk kc,.slice vp nv vc,.slice ip ni ic],.string key] w fun e w'=>e=.returned (.int .i64 (B.plc x key:Nat))∧Kept w w':=by
 have K0:Kept w (w.alloc (.cells #[.bool l,.slice kp nk kc,.slice vp nv vc,.slice ip ni ic] 71)):=(Kept.refl w).alloc _;have X0:=C4.alloc w 71 (.bool l) (.slice kp nk kc) (.slice vp nv vc) (.slice ip ni ic);obtain⟨x0,x1,x2,x3⟩:=X0.cs;have hn:=h.nk;have hf:=g.few;have f:=N.find_walk ((h.kept K0).k) (by omega) key;have hle:=N.fnd_le key x.ks;have HP:Hid (B.plc x key=N.fnd key x.ks+(if N.isk key x.ks=true then 1 else 0)):=rfl;have hb:N.fnd key x.ks≤120:=by omega
 generalize N.fnd key x.ks=i at *;generalize N.isk key x.ks=b at *;clear hle hf hn h g;cases b with
 | true=>
  go_enter Tryz.func65,Tryz.ntmps65;go_wp2_with (go_at_call 50;(with_reducible refine f.mono ?_);rintro e w1 ⟨rfl,hw1⟩;rw[hw1];clear hw1);go_ret;refine⟨?_,K0⟩;rw[HP.out];simp
 | false=>
  go_enter Tryz.func65,Tryz.ntmps65;go_wp2_with (go_at_call 50;(with_reducible refine f.mono ?_);rintro e w1 ⟨rfl,hw1⟩;rw[hw1];clear hw1);go_ret;refine⟨?_,K0⟩;rw[HP.out];simp
open N (Own)
theorem own_nil(w:World)(B:Nat)(e:TypeId)(sz:Nat):Own w B e sz none 0 0 []:=⟨World.ownsRow_nil _ _ _ _⟩
theorem one_cell(w:World)(v:Value)(t:TypeId):∀ j u,[v][j]? = some u→(w.alloc (.cells #[v] t)).cell? ((⟨w.heap.size,0,none⟩:Addr).add j)=some u:=by
 intro j u hj;rw[Addr.add_lit,Nat.zero_add,cell_of_row _ _ _ _ _ _ (heap_alloc_new w (.cells #[v] t))];cases j with
 | zero=>simpa using hj
 | succ j=>simp at hj
theorem owns_shape{w:World}{B:Nat}{e:TypeId}{sz:Nat}{v:Value}{n:Nat}{cs:List Value}(h:w.ownsRow B e sz v n cs):∃ p c,v=.slice p n c:=by
 rcases h.2 with⟨rfl,rfl⟩|⟨g,cap,cur,rfl,_⟩
 ·exact⟨_,_,rfl⟩
 ·exact⟨_,_,rfl⟩
theorem on_grown{B:Nat}{a b c:World}(h:G.On B a b)(hB:B≤a.heap.size){r:Option Nat}(hg:b.grownBy c r)(hr:∀ k,r=some k→a.heap.size≤k):G.On B a c:=by
 refine⟨h.below.grown hg (Nat.le_trans hB h.size) (fun k e=>Nat.le_trans hB (hr k e)),fun x cs t fr hx ht=>?_⟩;have h1:=h.rows x cs t fr hx ht;refine (hg.block x (Array.getElem?_eq_some_iff.1 h1).1 (fun e=>?_)).trans h1;have:=hr x e.symm;have:=(Array.getElem?_eq_some_iff.1 hx).1;omega
theorem own_on{B B':Nat}{w w':World}(o:G.On B w w'){e:TypeId}(he:G.Calm e){sz:Nat}{p:Option Addr}{n c:Nat}{cs:List Value}(h:Own w B' e sz p n c cs):Own w' B' e sz p n c cs:=by
 refine⟨h.out.1,?_⟩;rcases h.out.2 with h1 | ⟨g,cap,cur,e1,e2,e3,e4⟩
 ·exact .inl h1
 ·exact .inr ⟨g,cap,cur,e1,e2,o.rows _ _ _ _ e3 he,e4⟩
theorem own_blk{B:Nat}{w:World}{e:TypeId}{sz:Nat}{p:Option Addr}{n c:Nat}{cs:List Value}(h:Own w B e sz p n c cs):∀ b,(Value.slice p n c).ownBlock=some b→B≤b∧∃ cs' fr,w.heap[b]? = some (.cells cs' e fr):=by
 intro b hb;rcases h.cases with⟨rfl,_⟩|⟨g,cur,rfl,h1,_,h2,_⟩
 ·cases hb
 ·have e:some g=some b:=hb
  obtain rfl:=Option.some.inj e;exact⟨h1,_,_,h2⟩
set_option maxRecDepth 100000 in
set_option maxHeartbeats 1000000 in
theorem put_i{B:Nat}{w:World}{c t p m n:Nat}{jv:Value}{root:Int}{M:Pm}(hC:CAt w c t jv)(hT:TAt w t p root)(h:Pv B w p m M)(hB:B≤w.heap.size)(hL:S.Lds w){l:Bool}{kp:Option Addr}{nk kc:Nat}{vp:Option Addr}{nv vc:Nat}{ip:Option Addr}{ni ic:Nat}{x:Nd}(hx:NV w l kp nk kc vp nv vc ip ni ic x)(g:N.Good x)(hs:x.put.length≤237)(hf:frst M m=some n) :
  Calls Tryz.prog 93 #[.pointer (some ⟨c,0,none⟩),.agg #[.bool l,.slice kp nk kc,.slice vp nv vc,.slice ip ni ic]] w fun e w'=>∃ pp pc,e=.returned (.tuple #[.slice pp 1 pc,.slice none 0 0,.int .i64 0])∧Own w' w.heap.size 3 1 pp 1 pc (icl [(n:Int)])∧Pv B w' p m (pt M n x)∧G.On B w w':=by
 obtain⟨i3,hi3,hz30,hz31,hz32⟩:=info_parts N.info3;obtain⟨i9,hi9,hz90,hz91,hz92⟩:=info_parts N.info9;have K0:Kept w (w.alloc (.cells #[.bool l,.slice kp nk kc,.slice vp nv vc,.slice ip ni ic] 71)):=(Kept.refl w).alloc _;have X0:=C4.alloc w 71 (.bool l) (.slice kp nk kc) (.slice vp nv vc) (.slice ip ni ic);obtain⟨x0,x1,x2,x3⟩:=X0.cs;have HC:Hid (CAt w c t jv):=hC;have HT:Hid (TAt w t p root):=hT;have HV:Hid (Pv B w p m M):=h;have HL:Hid (S.Lds w):=hL;have HF:Hid (frst M m=some n):=hf;have HP:=N.part_small (hx.kept K0) g hs;have HGd:Hid (N.Good x):=g;have HS:Hid (x.put.length≤237):=hs;clear hC hT h hL hf g hs hx;go_enter Tryz.func93,Tryz.ntmps93;go_wp2_with (go_at_call 118;(with_reducible refine HP.mono ?_);rintro e w1 ⟨gp,kp',kc',vp',nv',vc',ip',ni',ic',rfl,C1,N1,k1⟩;have K1:=K0.trans k1;have k2:Kept w1 (w1.alloc (.cells #[.bool l,.slice kp' nk kc',.slice vp' nv' vc',.slice ip' ni' ic'] 71)):=(Kept.refl w1).alloc _;have K2:=K1.trans k2;have X2:=C4.alloc w1 71 (.bool l) (.slice kp' nk kc') (.slice vp' nv' vc') (.slice ip' ni' ic');have HA:=add_some (HC.out.kept K2) (HT.out.kept K2) (HV.out.kept K2) (Nat.le_trans hB K2.size) (lds_kept HL.out K2) (N1.kept k2) HGd.out HS.out HF.out;obtain⟨y0,y1,y2,y3⟩:=C1.cs;obtain⟨z0,z1,z2,z3⟩:=X2.cs;clear HP);refine wp_loop_rounds 2 ?_;rw[rounds_succ];go_wp2_with (first
  | (go_at_call 97;(with_reducible refine HA.mono ?_);rintro e w3 ⟨rfl,h3,o3⟩;have ob:w.heap.size≤w3.heap.size:=Nat.le_trans K2.size o3.size)
  | (at_builtin;refine wpList_append_own _ rfl _ _ 49 rfl w.heap.size 3 i3 _ 1 8 Tryz.underlying49 hi3 hz30 hz31 hz32 rfl (by decide) (.slice none 0 0) 0 (icl []) rfl (own_nil _ _ _ _).out ⟨w3.heap.size,0,none⟩ 1 1 [.int .i64 (n:Nat)] rfl rfl (one_cell w3 _ 3) (by intro u hu;simp at hu;subst hu;rfl) (by decide) (by decide) (Nat.le_trans ob ((Kept.refl w3).alloc _).size) ?_;intro v' w4 o4 g4 _;obtain⟨pp,pc,rfl⟩:=owns_shape o4;have k34:Kept w3 w4:=N.grown_kept (B:=w3.heap.size) w3 ((Kept.refl w3).alloc _) g4 (Nat.le_refl _) (fun k e=>by cases e);have O4:Hid (Own w4 w.heap.size 3 1 pp 1 pc (icl [(n:Int)])):=⟨o4⟩;clear o4 g4))
 rw[rounds_succ];go_wp2;go_ret3;exact⟨_,_,rfl,O4.out,h3.kept k34,((G.On.ofKept ⟨K2.out⟩ hB).trans o3).kept ⟨k34.out⟩ hB⟩
set_option maxRecDepth 100000 in
set_option maxHeartbeats 1000000 in
theorem put_o{B:Nat}{w:World}{c t p m:Nat}{jv:Value}{root:Int}{M:Pm}(hC:CAt w c t jv)(hT:TAt w t p root)(h:Pv B w p m M)(hB:B≤w.heap.size)(hL:S.Lds w){l:Bool}{kp:Option Addr}{nk kc:Nat}{vp:Option Addr}{nv vc:Nat}{ip:Option Addr}{ni ic:Nat}{x:Nd}(hx:NV w l kp nk kc vp nv vc ip ni ic x)(g:N.Good x)(hs:x.put.length≤237)(hf:frst M m=none) :
  Calls Tryz.prog 93 #[.pointer (some ⟨c,0,none⟩),.agg #[.bool l,.slice kp nk kc,.slice vp nv vc,.slice ip ni ic]] w fun e w'=>e=.returned (.tuple #[.slice none 0 0,.slice none 0 0,.int .i64 80])∧Kept w w':=by
 obtain⟨i3,hi3,hz30,hz31,hz32⟩:=info_parts N.info3;obtain⟨i9,hi9,hz90,hz91,hz92⟩:=info_parts N.info9;have K0:Kept w (w.alloc (.cells #[.bool l,.slice kp nk kc,.slice vp nv vc,.slice ip ni ic] 71)):=(Kept.refl w).alloc _;have X0:=C4.alloc w 71 (.bool l) (.slice kp nk kc) (.slice vp nv vc) (.slice ip ni ic);obtain⟨x0,x1,x2,x3⟩:=X0.cs;have HC:Hid (CAt w c t jv):=hC;have HT:Hid (TAt w t p root):=hT;have HV:Hid (Pv B w p m M):=h;have HL:Hid (S.Lds w):=hL;have HF:Hid (frst M m=none):=hf;have HP:=N.part_small (hx.kept K0) g hs;have HGd:Hid (N.Good x):=g;have HS:Hid (x.put.length≤237):=hs;clear hC hT h hL hf g hs hx;go_enter Tryz.func93,Tryz.ntmps93;go_wp2_with (go_at_call 118;(with_reducible refine HP.mono ?_);rintro e w1 ⟨gp,kp',kc',vp',nv',vc',ip',ni',ic',rfl,C1,N1,k1⟩;have K1:=K0.trans k1;have k2:Kept w1 (w1.alloc (.cells #[.bool l,.slice kp' nk kc',.slice vp' nv' vc',.slice ip' ni' ic'] 71)):=(Kept.refl w1).alloc _;have K2:=K1.trans k2;have X2:=C4.alloc w1 71 (.bool l) (.slice kp' nk kc') (.slice vp' nv' vc') (.slice ip' ni' ic');have HA:=add_none (HC.out.kept K2) (HT.out.kept K2) (HV.out.kept K2) (Nat.le_trans hB K2.size) (lds_kept HL.out K2) (N1.kept k2) HGd.out HS.out HF.out;obtain⟨y0,y1,y2,y3⟩:=C1.cs;obtain⟨z0,z1,z2,z3⟩:=X2.cs;clear HP);refine wp_loop_rounds 2 ?_;rw[rounds_succ];go_wp2_with (go_at_call 97;(with_reducible refine HA.mono ?_);rintro e w3 ⟨rfl,k3⟩);go_ret3;exact⟨rfl,K2.trans k3⟩
set_option maxRecDepth 100000 in
set_option maxHeartbeats 2000000 in
theorem put_oo{B:Nat}{w:World}{c t p m mm:Nat}{jv:Value}{root:Int}{M:Pm}{key:ByteArray}(hC:CAt w c t jv)(hT:TAt w t p root)(h:Pv B w p m M)(hB:B≤w.heap.size)(hL:S.Lds w)(hB0:1<B){l:Bool}{kp:Option Addr}{nk kc:Nat}{vp:Option Addr}{nv vc:Nat}{ip:Option Addr}{ni ic:Nat}{x:Nd}(hx:NV w l kp nk kc vp nv vc ip ni ic x)(g:N.Good x)(hbig:237<x.put.length)(hm:N.Mid x 0 mm)(hk:x.ks[mm]? = some key)(g1:N.Good (x.fst mm))(g2:N.Good (x.snd mm))(s1:(x.fst mm).put.length≤237)(s2:(x.snd mm).put.length≤237)(hf:frst M m=none) :
  Calls Tryz.prog 93 #[.pointer (some ⟨c,0,none⟩),.agg #[.bool l,.slice kp nk kc,.slice vp nv vc,.slice ip ni ic]] w fun e w'=>e=.returned (.tuple #[.slice none 0 0,.slice none 0 0,.int .i64 80])∧Kept w w':=by
 obtain⟨i3,hi3,hz30,hz31,hz32⟩:=info_parts N.info3;obtain⟨i9,hi9,hz90,hz91,hz92⟩:=info_parts N.info9;have K0:Kept w (w.alloc (.cells #[.bool l,.slice kp nk kc,.slice vp nv vc,.slice ip ni ic] 71)):=(Kept.refl w).alloc _;have X0:=C4.alloc w 71 (.bool l) (.slice kp nk kc) (.slice vp nv vc) (.slice ip ni ic);obtain⟨x0,x1,x2,x3⟩:=X0.cs;have HC:Hid (CAt w c t jv):=hC;have HT:Hid (TAt w t p root):=hT;have HV:Hid (Pv B w p m M):=h;have HL:Hid (S.Lds w):=hL;have HB0:Hid (1<B):=hB0;have HM:Hid (N.Mid x 0 mm):=hm;have HKy:Hid (x.ks[mm]? = some key):=hk;have G1:Hid (N.Good (x.fst mm)):=g1;have G2:Hid (N.Good (x.snd mm)):=g2;have S1:Hid ((x.fst mm).put.length≤237):=s1;have S2:Hid ((x.snd mm).put.length≤237):=s2;have HF:Hid (frst M m=none):=hf;have HP:=N.part_walk (hx.kept K0) g hbig;clear hC hT h hL g hbig hx hm hk g1 g2 s1 s2 hB0;go_enter Tryz.func93,Tryz.ntmps93;go_wp2_with (go_at_call 118;(with_reducible refine HP.mono ?_);rintro e w1 ⟨gp,m',key',kpA,nkA,kcA,vpA,nvA,vcA,ipA,niA,icA,kpB,nkB,kcB,vpB,nvB,vcB,ipB,niB,icB,rfl,hk',hm',C1,Z1,Z2,k1⟩;obtain rfl:=HM.out.one hm';obtain rfl:key=key':=Option.some.inj (HKy.out.symm.trans hk');clear hk' hm';have N1:=Z1.nv;have N2:=Z2.nv;clear Z1 Z2;have K1:=K0.trans k1;have k2:Kept w1 (w1.alloc (.cells #[.bool l,.slice kpA nkA kcA,.slice vpA nvA vcA,.slice ipA niA icA] 71)):=(Kept.refl w1).alloc _;have K2:=K1.trans k2;have X2:=C4.alloc w1 71 (.bool l) (.slice kpA nkA kcA) (.slice vpA nvA vcA) (.slice ipA niA icA);have N12:=N1.kept k2;have N22:=N2.kept k2;have C2:=k2.block C1;have HC2:=HC.out.kept K2;have HT2:=HT.out.kept K2;have HV2:=HV.out.kept K2;have HL2:=lds_kept HL.out K2;have hB2:=Nat.le_trans hB K2.size;obtain⟨y0,y1,y2,y3⟩:w1.cell? ⟨gp,0,none⟩=some (.bool l)∧w1.cell? ⟨gp,1,none⟩=some (.slice kpA nkA kcA)∧w1.cell? ⟨gp,2,none⟩=some (.slice vpA nvA vcA)∧w1.cell? ⟨gp,3,none⟩=some (.slice ipA niA icA):=(by refine⟨?_,?_,?_,?_⟩ <;> (rw[cell_of_row _ _ _ _ _ _ C1];rfl));obtain⟨z0,z1,z2,z3⟩:=X2.cs;clear HP)
 have HA:=add_none HC2 HT2 HV2 hB2 HL2 N12 G1.out S1.out HF.out;refine wp_loop_rounds 3 ?_;rw[rounds_succ];go_wp2_with (go_at_call 97;(with_reducible refine HA.mono ?_);rintro e w3 ⟨rfl,k3⟩);go_ret3;exact⟨rfl,K2.trans k3⟩
set_option maxRecDepth 100000 in
set_option maxHeartbeats 2000000 in
theorem put_io{B:Nat}{w:World}{c t p m mm n1:Nat}{jv:Value}{root:Int}{M:Pm}{key:ByteArray}(hC:CAt w c t jv)(hT:TAt w t p root)(h:Pv B w p m M)(hB:B≤w.heap.size)(hL:S.Lds w)(hB0:1<B){l:Bool}{kp:Option Addr}{nk kc:Nat}{vp:Option Addr}{nv vc:Nat}{ip:Option Addr}{ni ic:Nat}{x:Nd}(hx:NV w l kp nk kc vp nv vc ip ni ic x)(g:N.Good x)(hbig:237<x.put.length)(hm:N.Mid x 0 mm)(hk:x.ks[mm]? = some key)(g1:N.Good (x.fst mm))(g2:N.Good (x.snd mm))(s1:(x.fst mm).put.length≤237)(s2:(x.snd mm).put.length≤237)(hf1:frst M m=some n1)(hf2:frst (pt M n1 (x.fst mm)) m=none) :
  Calls Tryz.prog 93 #[.pointer (some ⟨c,0,none⟩),.agg #[.bool l,.slice kp nk kc,.slice vp nv vc,.slice ip ni ic]] w fun e w'=>e=.returned (.tuple #[.slice none 0 0,.slice none 0 0,.int .i64 80])∧Pv B w' p m (pt M n1 (x.fst mm))∧G.On B w w':=by
 obtain⟨i3,hi3,hz30,hz31,hz32⟩:=info_parts N.info3;obtain⟨i9,hi9,hz90,hz91,hz92⟩:=info_parts N.info9;have K0:Kept w (w.alloc (.cells #[.bool l,.slice kp nk kc,.slice vp nv vc,.slice ip ni ic] 71)):=(Kept.refl w).alloc _;have X0:=C4.alloc w 71 (.bool l) (.slice kp nk kc) (.slice vp nv vc) (.slice ip ni ic);obtain⟨x0,x1,x2,x3⟩:=X0.cs;have HC:Hid (CAt w c t jv):=hC;have HT:Hid (TAt w t p root):=hT;have HV:Hid (Pv B w p m M):=h;have HL:Hid (S.Lds w):=hL;have HB0:Hid (1<B):=hB0;have HM:Hid (N.Mid x 0 mm):=hm;have HKy:Hid (x.ks[mm]? = some key):=hk;have G1:Hid (N.Good (x.fst mm)):=g1;have G2:Hid (N.Good (x.snd mm)):=g2;have S1:Hid ((x.fst mm).put.length≤237):=s1;have S2:Hid ((x.snd mm).put.length≤237):=s2;have HF1:Hid (frst M m=some n1):=hf1;have HF2:Hid (frst (pt M n1 (x.fst mm)) m=none):=hf2;have HP:=N.part_walk (hx.kept K0) g hbig;clear hC hT h hL g hbig hx hm hk g1 g2 s1 s2 hB0;go_enter Tryz.func93,Tryz.ntmps93;go_wp2_with (go_at_call 118;(with_reducible refine HP.mono ?_);rintro e w1 ⟨gp,m',key',kpA,nkA,kcA,vpA,nvA,vcA,ipA,niA,icA,kpB,nkB,kcB,vpB,nvB,vcB,ipB,niB,icB,rfl,hk',hm',C1,Z1,Z2,k1⟩;obtain rfl:=HM.out.one hm';obtain rfl:key=key':=Option.some.inj (HKy.out.symm.trans hk');clear hk' hm';have N1:=Z1.nv;have N2:=Z2.nv;clear Z1 Z2;have K1:=K0.trans k1;have k2:Kept w1 (w1.alloc (.cells #[.bool l,.slice kpA nkA kcA,.slice vpA nvA vcA,.slice ipA niA icA] 71)):=(Kept.refl w1).alloc _;have K2:=K1.trans k2;have X2:=C4.alloc w1 71 (.bool l) (.slice kpA nkA kcA) (.slice vpA nvA vcA) (.slice ipA niA icA);have N12:=N1.kept k2;have N22:=N2.kept k2;have C2:=k2.block C1;have HC2:=HC.out.kept K2;have HT2:=HT.out.kept K2;have HV2:=HV.out.kept K2;have HL2:=lds_kept HL.out K2;have hB2:=Nat.le_trans hB K2.size;obtain⟨y0,y1,y2,y3⟩:w1.cell? ⟨gp,0,none⟩=some (.bool l)∧w1.cell? ⟨gp,1,none⟩=some (.slice kpA nkA kcA)∧w1.cell? ⟨gp,2,none⟩=some (.slice vpA nvA vcA)∧w1.cell? ⟨gp,3,none⟩=some (.slice ipA niA icA):=(by refine⟨?_,?_,?_,?_⟩ <;> (rw[cell_of_row _ _ _ _ _ _ C1];rfl));obtain⟨z0,z1,z2,z3⟩:=X2.cs;clear HP)
 have HA:=add_some HC2 HT2 HV2 hB2 HL2 N12 G1.out S1.out HF1.out;refine wp_loop_rounds 3 ?_;rw[rounds_succ];go_wp2_with (first
  | (go_at_call 97;(with_reducible refine HA.mono ?_);rintro e w3 ⟨rfl,h3,o3⟩;have ob:w.heap.size≤w3.heap.size:=Nat.le_trans K2.size o3.size)
  | (at_builtin;refine wpList_append_own _ rfl _ _ 49 rfl w.heap.size 3 i3 _ 1 8 Tryz.underlying49 hi3 hz30 hz31 hz32 rfl (by decide) (.slice none 0 0) 0 (icl []) rfl (own_nil _ _ _ _).out ⟨w3.heap.size,0,none⟩ 1 1 [.int .i64 (n1:Nat)] rfl rfl (one_cell w3 _ 3) (by intro u hu;simp at hu;subst hu;rfl) (by decide) (by decide) (Nat.le_trans ob ((Kept.refl w3).alloc _).size) ?_;intro v' w4 o4 g4 _;obtain⟨pp,pc,rfl⟩:=owns_shape o4;have k34:Kept w3 w4:=N.grown_kept (B:=w3.heap.size) w3 ((Kept.refl w3).alloc _) g4 (Nat.le_refl _) (fun k e=>by cases e);have O4:Hid (Own w4 w.heap.size 3 1 pp 1 pc (icl [(n1:Int)])):=⟨o4⟩;clear o4 g4))
 have k5:Kept w4 (w4.alloc (.cells #[.bool l,.slice kpB nkB kcB,.slice vpB nvB vcB,.slice ipB niB icB] 71)):=(Kept.refl w4).alloc _;have k35:=k34.trans k5;have C4':w4.heap[gp]? = some (.cells #[.bool l,.slice kpA nkA kcA,.slice vpA nvA vcA,.slice ipA niA icA,.bool l,.slice kpB nkB kcB,.slice vpB nvB vcB,.slice ipB niB icB] 71):=k34.block (o3.rows _ _ _ _ C2 calm71);have X5:=C4.alloc w4 71 (.bool l) (.slice kpB nkB kcB) (.slice vpB nvB vcB) (.slice ipB niB icB);have N25:=(nv_on o3 N22).kept k35;have On5:G.On B w (w4.alloc (.cells #[.bool l,.slice kpB nkB kcB,.slice vpB nvB vcB,.slice ipB niB icB] 71)):=((G.On.ofKept ⟨K2.out⟩ hB).trans o3).kept ⟨k35.out⟩ hB;have HA2:=add_none ((HC2.on o3).kept k35) ((HT2.on o3).kept k35) (h3.kept k35) (Nat.le_trans hB On5.size) (lds_kept (lds_on HL2 o3 HB0.out) k35) N25 G2.out S2.out HF2.out;obtain⟨u0,u1,u2,u3⟩:w4.cell? ⟨gp,4,none⟩=some (.bool l)∧w4.cell? ⟨gp,5,none⟩=some (.slice kpB nkB kcB)∧w4.cell? ⟨gp,6,none⟩=some (.slice vpB nvB vcB)∧w4.cell? ⟨gp,7,none⟩=some (.slice ipB niB icB):=by
  refine⟨?_,?_,?_,?_⟩ <;> (rw[cell_of_row _ _ _ _ _ _ C4'];rfl)
 obtain⟨t0,t1,t2,t3⟩:=X5.cs;clear HA N12 N22 N1 N2 C1 C2 k1 k2 K0 K1 X0 X2 x0 x1 x2 x3 y0 y1 y2 y3 z0 z1 z2 z3;have O5:Hid (Own (w4.alloc (.cells #[.bool l,.slice kpB nkB kcB,.slice vpB nvB vcB,.slice ipB niB icB] 71)) w.heap.size 3 1 pp 1 pc (icl [(n1:Int)])):=O4.out.kept k5;rw[rounds_succ];go_wp2_with (go_at_call 97;(with_reducible refine HA2.mono ?_);rintro e w6 ⟨rfl,k6⟩);go_ret3;exact⟨rfl,(h3.kept k35).kept k6,On5.kept ⟨k6.out⟩ hB⟩
set_option maxRecDepth 100000 in
set_option maxHeartbeats 2000000 in
theorem put_ii{B:Nat}{w:World}{c t p m mm n1 n2:Nat}{jv:Value}{root:Int}{M:Pm}{key:ByteArray}(hC:CAt w c t jv)(hT:TAt w t p root)(h:Pv B w p m M)(hB:B≤w.heap.size)(hL:S.Lds w)(hB0:1<B){l:Bool}{kp:Option Addr}{nk kc:Nat}{vp:Option Addr}{nv vc:Nat}{ip:Option Addr}{ni ic:Nat}{x:Nd}(hx:NV w l kp nk kc vp nv vc ip ni ic x)(g:N.Good x)(hbig:237<x.put.length)(hm:N.Mid x 0 mm)(hk:x.ks[mm]? = some key)(g1:N.Good (x.fst mm))(g2:N.Good (x.snd mm))(s1:(x.fst mm).put.length≤237)(s2:(x.snd mm).put.length≤237)(hf1:frst M m=some n1)(hf2:frst (pt M n1 (x.fst mm)) m=some n2) :
  Calls Tryz.prog 93 #[.pointer (some ⟨c,0,none⟩),.agg #[.bool l,.slice kp nk kc,.slice vp nv vc,.slice ip ni ic]] w fun e w'=>∃ pp pc kp' kc',e=.returned (.tuple #[.slice pp 2 pc,.slice kp' 1 kc',.int .i64 0])∧Own w' w.heap.size 3 1 pp 2 pc (icl [(n1:Int),(n2:Int)])∧Own w' w.heap.size 9 1 kp' 1 kc' (kcl [key])∧Pv B w' p m (pt (pt M n1 (x.fst mm)) n2 (x.snd mm))∧G.On B w w':=by
 obtain⟨i3,hi3,hz30,hz31,hz32⟩:=info_parts N.info3;obtain⟨i9,hi9,hz90,hz91,hz92⟩:=info_parts N.info9;have K0:Kept w (w.alloc (.cells #[.bool l,.slice kp nk kc,.slice vp nv vc,.slice ip ni ic] 71)):=(Kept.refl w).alloc _;have X0:=C4.alloc w 71 (.bool l) (.slice kp nk kc) (.slice vp nv vc) (.slice ip ni ic);obtain⟨x0,x1,x2,x3⟩:=X0.cs;have HC:Hid (CAt w c t jv):=hC;have HT:Hid (TAt w t p root):=hT;have HV:Hid (Pv B w p m M):=h;have HL:Hid (S.Lds w):=hL;have HB0:Hid (1<B):=hB0;have HM:Hid (N.Mid x 0 mm):=hm;have HKy:Hid (x.ks[mm]? = some key):=hk;have G1:Hid (N.Good (x.fst mm)):=g1;have G2:Hid (N.Good (x.snd mm)):=g2;have S1:Hid ((x.fst mm).put.length≤237):=s1;have S2:Hid ((x.snd mm).put.length≤237):=s2;have HF1:Hid (frst M m=some n1):=hf1;have HF2:Hid (frst (pt M n1 (x.fst mm)) m=some n2):=hf2;have HP:=N.part_walk (hx.kept K0) g hbig;clear hC hT h hL g hbig hx hm hk g1 g2 s1 s2 hB0;go_enter Tryz.func93,Tryz.ntmps93;go_wp2_with (go_at_call 118;(with_reducible refine HP.mono ?_);rintro e w1 ⟨gp,m',key',kpA,nkA,kcA,vpA,nvA,vcA,ipA,niA,icA,kpB,nkB,kcB,vpB,nvB,vcB,ipB,niB,icB,rfl,hk',hm',C1,Z1,Z2,k1⟩;obtain rfl:=HM.out.one hm';obtain rfl:key=key':=Option.some.inj (HKy.out.symm.trans hk');clear hk' hm';have N1:=Z1.nv;have N2:=Z2.nv;clear Z1 Z2;have K1:=K0.trans k1;have k2:Kept w1 (w1.alloc (.cells #[.bool l,.slice kpA nkA kcA,.slice vpA nvA vcA,.slice ipA niA icA] 71)):=(Kept.refl w1).alloc _;have K2:=K1.trans k2;have X2:=C4.alloc w1 71 (.bool l) (.slice kpA nkA kcA) (.slice vpA nvA vcA) (.slice ipA niA icA);have N12:=N1.kept k2;have N22:=N2.kept k2;have C2:=k2.block C1;have HC2:=HC.out.kept K2;have HT2:=HT.out.kept K2;have HV2:=HV.out.kept K2;have HL2:=lds_kept HL.out K2;have hB2:=Nat.le_trans hB K2.size;obtain⟨y0,y1,y2,y3⟩:w1.cell? ⟨gp,0,none⟩=some (.bool l)∧w1.cell? ⟨gp,1,none⟩=some (.slice kpA nkA kcA)∧w1.cell? ⟨gp,2,none⟩=some (.slice vpA nvA vcA)∧w1.cell? ⟨gp,3,none⟩=some (.slice ipA niA icA):=(by refine⟨?_,?_,?_,?_⟩ <;> (rw[cell_of_row _ _ _ _ _ _ C1];rfl));obtain⟨z0,z1,z2,z3⟩:=X2.cs;clear HP)
 have HA:=add_some HC2 HT2 HV2 hB2 HL2 N12 G1.out S1.out HF1.out;refine wp_loop_rounds 3 ?_;rw[rounds_succ];go_wp2_with (first
  | (go_at_call 97;(with_reducible refine HA.mono ?_);rintro e w3 ⟨rfl,h3,o3⟩;have ob:w.heap.size≤w3.heap.size:=Nat.le_trans K2.size o3.size)
  | (at_builtin;refine wpList_append_own _ rfl _ _ 49 rfl w.heap.size 3 i3 _ 1 8 Tryz.underlying49 hi3 hz30 hz31 hz32 rfl (by decide) (.slice none 0 0) 0 (icl []) rfl (own_nil _ _ _ _).out ⟨w3.heap.size,0,none⟩ 1 1 [.int .i64 (n1:Nat)] rfl rfl (one_cell w3 _ 3) (by intro u hu;simp at hu;subst hu;rfl) (by decide) (by decide) (Nat.le_trans ob ((Kept.refl w3).alloc _).size) ?_;intro v' w4 o4 g4 _;obtain⟨pp,pc,rfl⟩:=owns_shape o4;have k34:Kept w3 w4:=N.grown_kept (B:=w3.heap.size) w3 ((Kept.refl w3).alloc _) g4 (Nat.le_refl _) (fun k e=>by cases e);have O4:Hid (Own w4 w.heap.size 3 1 pp 1 pc (icl [(n1:Int)])):=⟨o4⟩;clear o4 g4))
 have k5:Kept w4 (w4.alloc (.cells #[.bool l,.slice kpB nkB kcB,.slice vpB nvB vcB,.slice ipB niB icB] 71)):=(Kept.refl w4).alloc _;have k35:=k34.trans k5;have C4':w4.heap[gp]? = some (.cells #[.bool l,.slice kpA nkA kcA,.slice vpA nvA vcA,.slice ipA niA icA,.bool l,.slice kpB nkB kcB,.slice vpB nvB vcB,.slice ipB niB icB] 71):=k34.block (o3.rows _ _ _ _ C2 calm71);have X5:=C4.alloc w4 71 (.bool l) (.slice kpB nkB kcB) (.slice vpB nvB vcB) (.slice ipB niB icB);have N25:=(nv_on o3 N22).kept k35;have On5:G.On B w (w4.alloc (.cells #[.bool l,.slice kpB nkB kcB,.slice vpB nvB vcB,.slice ipB niB icB] 71)):=((G.On.ofKept ⟨K2.out⟩ hB).trans o3).kept ⟨k35.out⟩ hB;have HA2:=add_some ((HC2.on o3).kept k35) ((HT2.on o3).kept k35) (h3.kept k35) (Nat.le_trans hB On5.size) (lds_kept (lds_on HL2 o3 HB0.out) k35) N25 G2.out S2.out HF2.out;obtain⟨u0,u1,u2,u3⟩:w4.cell? ⟨gp,4,none⟩=some (.bool l)∧w4.cell? ⟨gp,5,none⟩=some (.slice kpB nkB kcB)∧w4.cell? ⟨gp,6,none⟩=some (.slice vpB nvB vcB)∧w4.cell? ⟨gp,7,none⟩=some (.slice ipB niB icB):=by
  refine⟨?_,?_,?_,?_⟩ <;> (rw[cell_of_row _ _ _ _ _ _ C4'];rfl)
 obtain⟨t0,t1,t2,t3⟩:=X5.cs;clear HA N12 N22 N1 N2 C1 C2 k1 k2 K0 K1 X0 X2 x0 x1 x2 x3 y0 y1 y2 y3 z0 z1 z2 z3;have O5:Hid (Own (w4.alloc (.cells #[.bool l,.slice kpB nkB kcB,.slice vpB nvB vcB,.slice ipB niB icB] 71)) w.heap.size 3 1 pp 1 pc (icl [(n1:Int)])):=O4.out.kept k5;rw[rounds_succ];go_wp2_with (first
  | (go_at_call 97;(with_reducible refine HA2.mono ?_);rintro e w6 ⟨rfl,h6,o6⟩;have O6:Hid (Own w6 w.heap.size 3 1 pp 1 pc (icl [(n1:Int)])):=own_on o6 calm3 O5.out;have On6:Hid (G.On B w w6):=On5.trans o6;have ob6:w.heap.size≤w6.heap.size:=On6.out.size)
  | (at_builtin;refine wpList_append_own _ rfl _ _ 49 rfl w.heap.size 3 i3 _ 1 8 Tryz.underlying49 hi3 hz30 hz31 hz32 rfl (by decide) (.slice pp 1 pc) 1 (icl [(n1:Int)]) rfl (O6.out.kept ((Kept.refl w6).alloc _)).out ⟨w6.heap.size,0,none⟩ 1 1 [.int .i64 (n2:Nat)] rfl rfl (one_cell w6 _ 3) (by intro u hu;simp at hu;subst hu;rfl) (by decide) (by decide) (Nat.le_trans ob6 ((Kept.refl w6).alloc _).size) ?_;intro v' w7 o7 g7 _;obtain⟨pq,qc,rfl⟩:=owns_shape o7;have O7:Hid (Own w7 w.heap.size 3 1 pq 2 qc (icl [(n1:Int),(n2:Int)])):=⟨o7⟩;have ow6:=own_blk (O6.out.kept ((Kept.refl w6).alloc (.cells #[.int .i64 (n2:Nat)] 3)));have On7:Hid (G.On B w w7):=on_grown (On6.out.kept ⟨((Kept.refl w6).alloc _).out⟩ hB) hB g7 (fun k e=>(ow6 k e).1);have h7:Hid (Pv B w7 p m _):=(h6.kept ((Kept.refl w6).alloc _)).ap (Ap.grown g7 (fun b e=>by obtain⟨_,cs,fr,hb⟩:=ow6 b e;exact⟨cs,_,fr,hb,by decide⟩));have ob7:w.heap.size≤w7.heap.size:=On7.out.size;clear o7 g7 ow6)
  | (at_builtin;refine wpList_append_own _ rfl _ _ 22 rfl w.heap.size 9 i9 _ 1 16 Tryz.underlying22 hi9 hz90 hz91 hz92 rfl (by decide) (.slice none 0 0) 0 (kcl []) rfl (own_nil _ _ _ _).out ⟨w7.heap.size,0,none⟩ 1 1 [.string key] rfl rfl (one_cell w7 _ 9) (by intro u hu;simp at hu;subst hu;rfl) (by decide) (by decide) (Nat.le_trans ob7 ((Kept.refl w7).alloc _).size) ?_;intro v' w8 o8 g8 _;obtain⟨kq,kqc,rfl⟩:=owns_shape o8;have k78:Kept w7 w8:=N.grown_kept (B:=w7.heap.size) w7 ((Kept.refl w7).alloc _) g8 (Nat.le_refl _) (fun k e=>by cases e);have O8:Hid (Own w8 w.heap.size 9 1 kq 1 kqc (kcl [key])):=⟨o8⟩;clear o8 g8))
 rw[rounds_succ];go_wp2;go_ret3;exact⟨_,_,_,_,rfl,O7.out.kept k78,O8.out,h7.out.kept k78,On7.out.kept ⟨k78.out⟩ hB⟩
theorem crown_leaf{w:World}{c:Nat}{kp:Option Addr}{kc:Nat}{vp:Option Addr}{nv vc:Nat}{ip:Option Addr}{ni ic:Nat} :
  Calls Tryz.prog 71 #[.pointer (some ⟨c,0,none⟩),.agg #[.bool true,.slice kp 0 kc,.slice vp nv vc,.slice ip ni ic]] w fun e w'=>e=.returned (.tuple #[.int .i64 (-1),.int .i64 0])∧Kept w w':=by
 have K0:Kept w (w.alloc (.cells #[.bool true,.slice kp 0 kc,.slice vp nv vc,.slice ip ni ic] 71)):=(Kept.refl w).alloc _;have X0:=C4.alloc w 71 (.bool true) (.slice kp 0 kc) (.slice vp nv vc) (.slice ip ni ic);obtain⟨x0,x1,x2,x3⟩:=X0.cs;go_enter Tryz.func71,Tryz.ntmps71;go_wp2;go_ret2;exact⟨rfl,K0⟩
theorem crown_inner{w:World}{c:Nat}{kp:Option Addr}{kc:Nat}{vp:Option Addr}{nv vc:Nat}{ib io ni ic:Nat}{q:Int}(hn:0<ni)(hq:w.cell? ⟨ib,io,none⟩=some (.int .i64 q)) :
  Calls Tryz.prog 71 #[.pointer (some ⟨c,0,none⟩),.agg #[.bool false,.slice kp 0 kc,.slice vp nv vc,.slice (some ⟨ib,io,none⟩) ni ic]] w fun e w'=>e=.returned (.tuple #[.int .i64 q,.int .i64 0])∧Kept w w':=by
 have K0:Kept w (w.alloc (.cells #[.bool false,.slice kp 0 kc,.slice vp nv vc,.slice (some ⟨ib,io,none⟩) ni ic] 71)):=(Kept.refl w).alloc _;have X0:=C4.alloc w 71 (.bool false) (.slice kp 0 kc) (.slice vp nv vc) (.slice (some ⟨ib,io,none⟩) ni ic);obtain⟨x0,x1,x2,x3⟩:=X0.cs;have hq1:=K0.cell hq;have h0:(0:Int)<(ni:Int):=by omega
 go_enter Tryz.func71,Tryz.ntmps71;go_wp2;go_ret2;exact⟨rfl,K0⟩
theorem crown_err{w:World}{c:Nat}{l:Bool}{kp:Option Addr}{nk kc:Nat}{vp:Option Addr}{nv vc:Nat}{ip:Option Addr}{ni ic:Nat}{Q:World→Prop}(hn:0<nk)(f:Calls Tryz.prog 93 #[.pointer (some ⟨c,0,none⟩),.agg #[.bool l,.slice kp nk kc,.slice vp nv vc,.slice ip ni ic]] (w.alloc (.cells #[.bool l,.slice kp nk kc,.slice vp nv vc,.slice ip ni ic] 71)) fun e w'=>e=.returned (.tuple #[.slice none 0 0,.slice none 0 0,.int .i64 80])∧Q w') :
  Calls Tryz.prog 71 #[.pointer (some ⟨c,0,none⟩),.agg #[.bool l,.slice kp nk kc,.slice vp nv vc,.slice ip ni ic]] w fun e w'=>e=.returned (.tuple #[.int .i64 0,.int .i64 80])∧Q w':=by
 have X0:=C4.alloc w 71 (.bool l) (.slice kp nk kc) (.slice vp nv vc) (.slice ip ni ic);obtain⟨x0,x1,x2,x3⟩:=X0.cs;have h0:¬ nk=0:=by omega
 go_enter Tryz.func71,Tryz.ntmps71;go_wp2_with (go_at_call 93;(with_reducible refine f.mono ?_);rintro e w1 ⟨rfl,q1⟩);go_ret2;exact⟨rfl,q1⟩
theorem crown_one{w:World}{c B n:Nat}{l:Bool}{kp:Option Addr}{nk kc:Nat}{vp:Option Addr}{nv vc:Nat}{ip:Option Addr}{ni ic:Nat}{Q:World→Prop}(hn:0<nk)(f:Calls Tryz.prog 93 #[.pointer (some ⟨c,0,none⟩),.agg #[.bool l,.slice kp nk kc,.slice vp nv vc,.slice ip ni ic]] (w.alloc (.cells #[.bool l,.slice kp nk kc,.slice vp nv vc,.slice ip ni ic] 71)) fun e w'=>∃ pp pc,e=.returned (.tuple #[.slice pp 1 pc,.slice none 0 0,.int .i64 0])∧Own w' B 3 1 pp 1 pc (icl [(n:Int)])∧Q w') :
  Calls Tryz.prog 71 #[.pointer (some ⟨c,0,none⟩),.agg #[.bool l,.slice kp nk kc,.slice vp nv vc,.slice ip ni ic]] w fun e w'=>e=.returned (.tuple #[.int .i64 (n:Nat),.int .i64 0])∧Q w':=by
 have X0:=C4.alloc w 71 (.bool l) (.slice kp nk kc) (.slice vp nv vc) (.slice ip ni ic);obtain⟨x0,x1,x2,x3⟩:=X0.cs;have h0:¬ nk=0:=by omega
 go_enter Tryz.func71,Tryz.ntmps71;go_wp2_with (go_at_call 93;(with_reducible refine f.mono ?_);rintro e w1 ⟨pp,pc,rfl,o1,q1⟩;obtain⟨g,rfl⟩:=o1.some_of (by decide);have y0:=o1.cell (j:=0) (u:=.int .i64 (n:Nat)) rfl);go_ret2;exact⟨rfl,q1⟩
theorem crown_two{w:World}{c B:Nat}{n1 n2 a b:Int}{key:ByteArray}{l:Bool}{kp:Option Addr}{nk kc:Nat}{vp:Option Addr}{nv vc:Nat}{ip:Option Addr}{ni ic:Nat}{Q Q2:World→Prop}(hn:0<nk)(f:Calls Tryz.prog 93 #[.pointer (some ⟨c,0,none⟩),.agg #[.bool l,.slice kp nk kc,.slice vp nv vc,.slice ip ni ic]] (w.alloc (.cells #[.bool l,.slice kp nk kc,.slice vp nv vc,.slice ip ni ic] 71)) fun e w'=>∃ pp pc kp' kc',e=.returned (.tuple #[.slice pp 2 pc,.slice kp' 1 kc',.int .i64 0])∧Own w' B 3 1 pp 2 pc (icl [n1,n2])∧Own w' B 9 1 kp' 1 kc' (kcl [key])∧Q w')(f2:∀ W pp pc kp' kc',Own W B 3 1 pp 2 pc (icl [n1,n2])→Own W B 9 1 kp' 1 kc' (kcl [key])→Q W→Calls Tryz.prog 97 #[.pointer (some ⟨c,0,none⟩),.agg #[.bool false,.slice kp' 1 kc',.slice none 0 0,.slice pp 2 pc]] W fun e w'=>e=.returned (.tuple #[.int .i64 a,.int .i64 b])∧Q2 w') :
  Calls Tryz.prog 71 #[.pointer (some ⟨c,0,none⟩),.agg #[.bool l,.slice kp nk kc,.slice vp nv vc,.slice ip ni ic]] w fun e w'=>e=.returned (.tuple #[.int .i64 a,.int .i64 b])∧Q2 w':=by
 have X0:=C4.alloc w 71 (.bool l) (.slice kp nk kc) (.slice vp nv vc) (.slice ip ni ic);obtain⟨x0,x1,x2,x3⟩:=X0.cs;have h0:¬ nk=0:=by omega
 go_enter Tryz.func71,Tryz.ntmps71;go_wp2_with (first
  | (go_at_call 93;(with_reducible refine f.mono ?_);rintro e w1 ⟨pp,pc,kp',kc',rfl,o1,o2,q1⟩)
  | (go_at_call 97;(with_reducible refine (f2 _ _ _ _ _ o1 o2 q1).mono ?_);rintro e w2 ⟨rfl,q2⟩))
 go_ret2;exact⟨rfl,q2⟩
open B (Stp plc)
structure Sm where
 page:Nat
 kid:Nat
 l:Bool
 kp:Option Addr
 nk:Nat
 kc:Nat
 vp:Option Addr
 nv:Nat
 vc:Nat
 ip:Option Addr
 ni:Nat
 ic:Nat
 x:Nd
def Sm.stp (s:Sm):Stp:=⟨s.page,s.x,s.kid⟩
def Sm.cells (s:Sm):List Value:=[.int .i64 (s.page:Nat),.bool s.l,.slice s.kp s.nk s.kc,.slice s.vp s.nv s.vc,.slice s.ip s.ni s.ic,.int .i64 (s.kid:Nat)]
def Sm.ok (w:World) (s:Sm):Prop:=NV w s.l s.kp s.nk s.kc s.vp s.nv s.vc s.ip s.ni s.ic s.x
def scl (L:List Sm):List Value:=L.flatMap Sm.cells
theorem scl_snoc(L:List Sm)(s:Sm):scl (L++[s])=scl L++s.cells:=by simp[scl]
theorem scl_length:∀ L:List Sm,(scl L).length=L.length*6
 | []=>rfl
 | s :: r=>by
  have:scl (s :: r)=s.cells++scl r:=by simp[scl]
  rw[this,List.length_append,scl_length r];simp[Sm.cells];omega
theorem scl_at:∀ (L:List Sm) (k:Nat) (s:Sm),L[k]? = some s→∀ j,j<6→(scl L)[k*6+j]? = s.cells[j]?
 | [],_,_,h,_,_=>by simp at h
 | a :: r,0,s,h,j,hj=>by
  simp at h;subst h;have:scl (a :: r)=a.cells++scl r:=by simp[scl]
  rw[this,Nat.zero_mul,Nat.zero_add,List.getElem?_append_left (by simp[Sm.cells];omega)]
 | a :: r,k+1,s,h,j,hj=>by
  have:scl (a :: r)=a.cells++scl r:=by simp[scl]
  have hl:a.cells.length=6:=rfl;rw[this,List.getElem?_append_right (by rw[hl];omega),hl,← scl_at r k s (by simpa using h) j hj];congr 1;omega
theorem ready6{W:World}{b:Nat}{c0 c1 c2 c3 c4 c5:Value}{t:TypeId}(h0:W.heap[b]? = some (.cells #[c0,c1,c2,c3,c4,c5] t))(v0 v1 v2 v3 v4 v5:Value) :
  (W.cell? ⟨b,0,none⟩=some c0∧W.frozen? ⟨b,0,none⟩=false) ∧
  ((W.setCell ⟨b,0,none⟩ v0).cell? ⟨b,1,none⟩=some c1∧(W.setCell ⟨b,0,none⟩ v0).frozen? ⟨b,1,none⟩=false) ∧
  (((W.setCell ⟨b,0,none⟩ v0).setCell ⟨b,1,none⟩ v1).cell? ⟨b,2,none⟩=some c2∧((W.setCell ⟨b,0,none⟩ v0).setCell ⟨b,1,none⟩ v1).frozen? ⟨b,2,none⟩=false) ∧
  ((((W.setCell ⟨b,0,none⟩ v0).setCell ⟨b,1,none⟩ v1).setCell ⟨b,2,none⟩ v2).cell? ⟨b,3,none⟩=some c3∧(((W.setCell ⟨b,0,none⟩ v0).setCell ⟨b,1,none⟩ v1).setCell ⟨b,2,none⟩ v2).frozen? ⟨b,3,none⟩=false) ∧
  (((((W.setCell ⟨b,0,none⟩ v0).setCell ⟨b,1,none⟩ v1).setCell ⟨b,2,none⟩ v2).setCell ⟨b,3,none⟩ v3).cell? ⟨b,4,none⟩=some c4∧((((W.setCell ⟨b,0,none⟩ v0).setCell ⟨b,1,none⟩ v1).setCell ⟨b,2,none⟩ v2).setCell ⟨b,3,none⟩ v3).frozen? ⟨b,4,none⟩=false) ∧
  ((((((W.setCell ⟨b,0,none⟩ v0).setCell ⟨b,1,none⟩ v1).setCell ⟨b,2,none⟩ v2).setCell ⟨b,3,none⟩ v3).setCell ⟨b,4,none⟩ v4).cell? ⟨b,5,none⟩=some c5∧(((((W.setCell ⟨b,0,none⟩ v0).setCell ⟨b,1,none⟩ v1).setCell ⟨b,2,none⟩ v2).setCell ⟨b,3,none⟩ v3).setCell ⟨b,4,none⟩ v4).frozen? ⟨b,5,none⟩=false) ∧
  ((((((W.setCell ⟨b,0,none⟩ v0).setCell ⟨b,1,none⟩ v1).setCell ⟨b,2,none⟩ v2).setCell ⟨b,3,none⟩ v3).setCell ⟨b,4,none⟩ v4).setCell ⟨b,5,none⟩ v5).heap[b]? = some (.cells #[v0,v1,v2,v3,v4,v5] t):=by
 have h1:(W.setCell ⟨b,0,none⟩ v0).heap[b]? = some (.cells #[v0,c1,c2,c3,c4,c5] t):=by rw[heap_setCell_same _ b 0 _ _ _ h0];rfl
 have h2:((W.setCell ⟨b,0,none⟩ v0).setCell ⟨b,1,none⟩ v1).heap[b]? = some (.cells #[v0,v1,c2,c3,c4,c5] t):=by rw[heap_setCell_same _ b 1 _ _ _ h1];rfl
 have h3:(((W.setCell ⟨b,0,none⟩ v0).setCell ⟨b,1,none⟩ v1).setCell ⟨b,2,none⟩ v2).heap[b]? = some (.cells #[v0,v1,v2,c3,c4,c5] t):=by rw[heap_setCell_same _ b 2 _ _ _ h2];rfl
 have h4:((((W.setCell ⟨b,0,none⟩ v0).setCell ⟨b,1,none⟩ v1).setCell ⟨b,2,none⟩ v2).setCell ⟨b,3,none⟩ v3).heap[b]? = some (.cells #[v0,v1,v2,v3,c4,c5] t):=by rw[heap_setCell_same _ b 3 _ _ _ h3];rfl
 have h5:(((((W.setCell ⟨b,0,none⟩ v0).setCell ⟨b,1,none⟩ v1).setCell ⟨b,2,none⟩ v2).setCell ⟨b,3,none⟩ v3).setCell ⟨b,4,none⟩ v4).heap[b]? = some (.cells #[v0,v1,v2,v3,v4,c5] t):=by rw[heap_setCell_same _ b 4 _ _ _ h4];rfl
 have h6:((((((W.setCell ⟨b,0,none⟩ v0).setCell ⟨b,1,none⟩ v1).setCell ⟨b,2,none⟩ v2).setCell ⟨b,3,none⟩ v3).setCell ⟨b,4,none⟩ v4).setCell ⟨b,5,none⟩ v5).heap[b]? = some (.cells #[v0,v1,v2,v3,v4,v5] t):=by rw[heap_setCell_same _ b 5 _ _ _ h5];rfl
 exact⟨⟨by rw[cell_of_row _ b 0 _ _ _ h0];rfl,frozen_of_row _ b 0 _ _ h0⟩,⟨by rw[cell_of_row _ b 1 _ _ _ h1];rfl,frozen_of_row _ b 1 _ _ h1⟩,⟨by rw[cell_of_row _ b 2 _ _ _ h2];rfl,frozen_of_row _ b 2 _ _ h2⟩,⟨by rw[cell_of_row _ b 3 _ _ _ h3];rfl,frozen_of_row _ b 3 _ _ h3⟩,⟨by rw[cell_of_row _ b 4 _ _ _ h4];rfl,frozen_of_row _ b 4 _ _ h4⟩,⟨by rw[cell_of_row _ b 5 _ _ _ h5];rfl,frozen_of_row _ b 5 _ _ h5⟩,h6⟩
theorem cells6{W:World}{b:Nat}{c0 c1 c2 c3 c4 c5:Value}{t:TypeId}(h:W.heap[b]? = some (.cells #[c0,c1,c2,c3,c4,c5] t)) :
  W.cell? ⟨b,0,none⟩=some c0∧W.cell? ⟨b,1,none⟩=some c1∧W.cell? ⟨b,2,none⟩=some c2∧W.cell? ⟨b,3,none⟩=some c3∧W.cell? ⟨b,4,none⟩=some c4∧W.cell? ⟨b,5,none⟩=some c5:=
 ⟨by rw[cell_of_row _ b 0 _ _ _ h];rfl,by rw[cell_of_row _ b 1 _ _ _ h];rfl,by rw[cell_of_row _ b 2 _ _ _ h];rfl,by rw[cell_of_row _ b 3 _ _ _ h];rfl,by rw[cell_of_row _ b 4 _ _ _ h];rfl,by rw[cell_of_row _ b 5 _ _ _ h];rfl⟩
structure WAt (w:World) (p:Option Addr) (n c:Nat) (L:List Sm):Prop where
 row:Rw w 6 p n c (scl L)
 rx:Rx w 148 p c
 ok:∀ s∈L,s.ok w
theorem WAt.kept{w w':World}{p:Option Addr}{n c:Nat}{L:List Sm}(h:WAt w p n c L)(k:Kept w w'):WAt w' p n c L:=⟨k.rw h.row,h.rx.kept k,fun s hs=>NV.kept (h.ok s hs) k⟩
theorem WAt.on{B:Nat}{w w':World}{p:Option Addr}{n c:Nat}{L:List Sm}(h:WAt w p n c L)(o:G.On B w w'):WAt w' p n c L:=⟨rw_on o calm148 h.row h.rx,rx_on o calm148 h.rx,fun s hs=>nv_on o (h.ok s hs)⟩
theorem WAt.len{w:World}{p:Option Addr}{n c:Nat}{L:List Sm}(h:WAt w p n c L):L.length=n:=by
 have:=h.row.len;rw[scl_length]at this;omega
structure Wy (M:Pm) (key:ByteArray) (P:List Stp):Prop where
 nod:∀ (k:Nat) (s:Stp),P[k]? = some s→M s.page=some s.x∧N.Good s.x∧Up s.x.ks∧s.kid=plc s.x key∧s.x.leaf=decide (k+1=P.length)
 nxt:∀ (k:Nat) (s s':Stp),P[k]? = some s→P[k+1]? = some s'→s.x.is[s.kid]? = some (s'.page:Int)
 few:P.length≤1000
structure Wg (w W:World) (P:List Stp) (k:Nat) (v u:Value):Prop where
 out:∃ p c L n,v=.slice p k c∧u=.int .i64 n∧L.map Sm.stp=P.take k∧Own W w.heap.size 148 6 p k c (scl L)∧(∀ s∈L,s.ok W)∧Kept w W∧(∀ s,P[k]? = some s→n=(s.page:Nat))
theorem six_cell(w:World)(a0 a1 a2 a3 a4 a5:Value)(t:TypeId):∀ j u,[a0,a1,a2,a3,a4,a5][j]? = some u→(w.alloc (.cells #[a0,a1,a2,a3,a4,a5] t)).cell? ((⟨w.heap.size,0,none⟩:Addr).add j)=some u:=by
 intro j u hj;rw[Addr.add_lit,Nat.zero_add,cell_of_row _ _ _ _ _ _ (heap_alloc_new w (.cells #[a0,a1,a2,a3,a4,a5] t))];simpa using hj
theorem info148:(Tryz.prog.info? 148).map (fun i=>(i.zero,i.size,i.bytes))=some (some (.agg #[.int .i64 0,.bool false,.slice none 0 0,.slice none 0 0,.slice none 0 0,.int .i64 0]),6,96):=by kernel_rfl
theorem rx_grown{w w':World}{r:Option Nat}(hg:w.grownBy w' r)(hr:∀ b,r=some b→∃ cs fr,w.heap[b]? = some (.cells cs 148 fr)){e:TypeId}(he:e≠148){p:Option Addr}{c:Nat}(h:Rx w e p c):Rx w' e p c:=by
 refine⟨fun b off ph hp=>?_,h.nil⟩;obtain⟨cs,fr,hb⟩:=h.typ b off ph hp;refine⟨cs,fr,(hg.block b (Array.getElem?_eq_some_iff.1 hb).1 (fun e2=>?_)).trans hb⟩;obtain⟨cs',fr',hb'⟩:=hr b e2.symm;rw[hb]at hb';injection hb' with hb'
 injection hb' with _ e3 _
 exact he e3
theorem rw_grown{w w':World}{r:Option Nat}(hg:w.grownBy w' r)(hr:∀ b,r=some b→∃ cs fr,w.heap[b]? = some (.cells cs 148 fr)){e:TypeId}(he:e≠148){sz:Nat}{p:Option Addr}{n c:Nat}{cs:List Value}(h:Rw w sz p n c cs)(hx:Rx w e p c):Rw w' sz p n c cs:=by
 refine⟨h.len,h.le,h.cap,?_⟩;rcases h.out with h0 | ⟨b,off,rfl,f⟩
 ·exact .inl h0
 ·refine .inr ⟨b,off,rfl,fun j u hu=>?_⟩
  obtain⟨cs',fr,hb⟩:=hx.typ b off none rfl;rw[← f j u hu];refine World.cell?_of_block (hg.block b (Array.getElem?_eq_some_iff.1 hb).1 (fun e2=>?_));obtain⟨cs2,fr2,hb'⟩:=hr b e2.symm;rw[hb]at hb';injection hb' with hb'
  injection hb' with _ e3 _
  exact he e3
theorem nv_grown{w w':World}{r:Option Nat}(hg:w.grownBy w' r)(hr:∀ b,r=some b→∃ cs fr,w.heap[b]? = some (.cells cs 148 fr)){l:Bool}{kp:Option Addr}{nk kc:Nat}{vp:Option Addr}{nv vc:Nat}{ip:Option Addr}{ni ic:Nat}{x:Nd}(h:NV w l kp nk kc vp nv vc ip ni ic x):NV w' l kp nk kc vp nv vc ip ni ic x:=
 ⟨h.hl,rw_grown hg hr (by decide) h.k h.kx,rw_grown hg hr (by decide) h.v h.vx,rw_grown hg hr (by decide) h.i h.ix,rx_grown hg hr (by decide) h.kx,rx_grown hg hr (by decide) h.vx,rx_grown hg hr (by decide) h.ix⟩
theorem way_step{w W w':World}{q:Option Addr}{k c:Nat}{cs:List Value}(o:Own W w.heap.size 148 6 q k c cs)(hg:W.grownBy w' (Value.slice q k c).ownBlock)(hK:Kept w W){l:Bool}{kp:Option Addr}{nk kc:Nat}{vp:Option Addr}{nv vc:Nat}{ip:Option Addr}{ni ic:Nat}{x:Nd}(hN:NV W l kp nk kc vp nv vc ip ni ic x){L:List Sm}(hL:∀ s∈L,s.ok W) :
  Kept w w'∧(NV w' l kp nk kc vp nv vc ip ni ic x∧∀ s∈L,s.ok w')∧∀ b a0 a1 a2 a3,C4 W b 71 a0 a1 a2 a3→C4 w' b 71 a0 a1 a2 a3:=by
 have ob:=own_blk o;have hr:∀ b,(Value.slice q k c).ownBlock=some b→∃ cs fr,W.heap[b]? = some (.cells cs 148 fr):=fun b e=>(ob b e).2
 refine⟨N.grown_kept (B:=w.heap.size) w hK hg (Nat.le_refl _) (fun b e=>(ob b e).1),⟨nv_grown hg hr hN,fun s hs=>nv_grown hg hr (hL s hs)⟩,fun b a0 a1 a2 a3 h=>⟨(hg.block b h.lt (fun e=>?_)).trans h.out⟩⟩;obtain⟨cs',fr',hb'⟩:=hr b e.symm;have:=h.out;rw[hb']at this;injection this with this
 injection this with _ e3 _
 exact absurd e3 (by decide)
theorem blk_stays{W w':World}{q:Option Addr}{k c:Nat}(hg:W.grownBy w' (Value.slice q k c).ownBlock){bs:Nat}{o:Obj}(hb:W.heap[bs]? = some o)(hne:∀ b,(Value.slice q k c).ownBlock=some b→b≠bs):w'.heap[bs]? = some o:=
 (hg.block bs (Array.getElem?_eq_some_iff.1 hb).1 (fun e=>hne bs e.symm rfl)).trans hb
theorem nv_kid{w:World}{l:Bool}{kp:Option Addr}{nk kc:Nat}{vp:Option Addr}{nv vc:Nat}{ib io ni ic:Nat}{x:Nd}(h:NV w l kp nk kc vp nv vc (some ⟨ib,io,none⟩) ni ic x){j:Nat}{q:Int}(hq:x.is[j]? = some q):w.cell? ⟨ib,io+j,none⟩=some (.int .i64 q):=by
 rcases h.i.out with⟨h0,_⟩|⟨b,off,e,f⟩
 ·cases h0
 ·injection e with e
  injection e with e1 e2 _
  subst e1;subst e2;exact f j _ (N.icl_at hq)
set_option maxRecDepth 100000 in
set_option maxHeartbeats 2000000 in
theorem way_walk{B:Nat}{w:World}{t p m:Nat}{root:Nat}{M:Pm}{key:ByteArray}{P:List Stp}(hT:TAt w t p (root:Nat))(h:Pv B w p m M)(hP:Wy M key P)(hne:0<P.length)(h0:∀ s,P[0]? = some s→s.page=root) :
  Calls Tryz.prog 43 #[.pointer (some ⟨t,0,none⟩),.string key] w fun e w'=>∃ q c L,e=.returned (.tuple #[.slice q P.length c,.int .i64 0])∧L.map Sm.stp=P∧WAt w' q P.length c L∧Kept w w':=by
 obtain⟨i0,hi0,hz0,hz1,hz2⟩:=info_parts info148;obtain⟨c0,c1⟩:=hT.cs;have HT:Hid (TAt w t p (root:Nat)):=hT;have HV:Hid (Pv B w p m M):=h;have HP:Hid (Wy M key P):=hP;have HF:Hid (P.length≤1000):=hP.few;have W0:Hid (Wg w w P 0 (.slice none 0 0) (.int .i64 (root:Nat))):=⟨none,0,[],_,rfl,rfl,rfl,own_nil _ _ _ _,(fun s hs=>by cases hs),Kept.refl w,fun s hs=>by rw[h0 s hs]⟩;clear hT h hP h0;obtain⟨len,hlen⟩:∃ len,P.length=len:=⟨_,rfl⟩;rw[hlen]at hne HF ⊢;have HLn:Hid (P.length=len):=hlen;clear hlen;go_enter Tryz.func43,Tryz.ntmps43;go_wp2;go_loopg [6,7] len (fun gg v u wx=>∃ k,Hid (gg=len-k)∧k<len∧Wg w wx P k v u);case atStart=>exact⟨0,rfl,hne,W0.out⟩
 case round=>
  obtain⟨k,hgk,hk,hw⟩:=hrel;obtain⟨q,c,L,n,rfl,rfl,hL,hO,hok,hK,hn⟩:=hw.out;obtain⟨s,hs⟩:∃ s,P[k]? = some s:=⟨_,List.getElem?_eq_getElem (by rw[HLn.out];exact hk)⟩;obtain rfl:=hn s hs;obtain⟨sM,sG,sU,sk,sl⟩:=HP.out.nod k s hs;have HN:=node_walk (HT.out.kept hK) (HV.out.kept hK) sM sG sU s.x.leaf rfl;have HGd:Hid (N.Good s.x):=sG;have HS:Hid (P[k]? = some s):=hs;have HSk:Hid (s.kid=plc s.x key):=sk;have HSl:Hid (s.x.leaf=decide (k+1=P.length)):=sl;have HL':Hid (L.map Sm.stp=P.take k):=hL;have HO:Hid (Own wr w.heap.size 148 6 q k c (scl L)):=hO;have HOk:Hid (∀ s∈L,s.ok wr):=hok;have hneg:¬ (s.page:Int)=-1:=by omega
  have hk16:¬ (k:Int)=16384:=by have:=HF.out;omega
  clear hw hn hL hO hok hs sM sG sU sk sl W0;generalize s.x.leaf=l at *;go_upto_region 9 with (go_at_call 47;(with_reducible refine HN.mono ?_);rintro e w1 ⟨kp,nk,kc,vp,nv,vc,ip,ni,ic,rfl,N1,k1,_⟩;have k2:Kept w1 (w1.alloc (.cells #[.bool l,.slice kp nk kc,.slice vp nv vc,.slice ip ni ic] 71)):=(Kept.refl w1).alloc _;have N2:=N1.kept k2;have X2:=C4.alloc w1 71 (.bool l) (.slice kp nk kc) (.slice vp nv vc) (.slice ip ni ic);obtain⟨y0,y1,y2,y3⟩:=X2.cs;have K2:=(hK.trans k1).trans k2)
  have HPl:Hid (∀ W,Kept (w1.alloc (.cells #[.bool l,.slice kp nk kc,.slice vp nv vc,.slice ip ni ic] 71)) W→Calls Tryz.prog 65 #[.agg #[.bool l,.slice kp nk kc,.slice vp nv vc,.slice ip ni ic],.string key] W fun e w'=>e=.returned (.int .i64 (s.kid:Nat))∧Kept W w'∧Kept (w1.alloc (.cells #[.bool l,.slice kp nk kc,.slice vp nv vc,.slice ip ni ic] 71)) w'):=fun W kW=>by rw[HSk.out];exact (place_walk (N2.kept kW) HGd.out key).mono (fun e w' hh=>⟨hh.1,hh.2,kW.trans hh.2⟩)
  go_cut [10] (fun tv wx=>∃ bs,tv=.pointer (some ⟨bs,0,none⟩)∧wx.heap[bs]? = some (.cells #[.int .i64 (s.page:Nat),.bool l,.slice kp nk kc,.slice vp nv vc,.slice ip ni ic,.int .i64 (s.kid:Nat)] 148)∧w1.heap.size<bs∧Kept (w1.alloc (.cells #[.bool l,.slice kp nk kc,.slice vp nv vc,.slice ip ni ic] 71)) wx);case first=>
   have kA:Kept (w1.alloc (.cells #[.bool l,.slice kp nk kc,.slice vp nv vc,.slice ip ni ic] 71)) (w1.alloc (.cells #[.bool l,.slice kp nk kc,.slice vp nv vc,.slice ip ni ic] 71)).drew:=(Kept.refl _).drew;have kB:Kept (w1.alloc (.cells #[.bool l,.slice kp nk kc,.slice vp nv vc,.slice ip ni ic] 71)) ((w1.alloc (.cells #[.bool l,.slice kp nk kc,.slice vp nv vc,.slice ip ni ic] 71)).alloc (.cells #[.int .i64 0,.bool false,.slice none 0 0,.slice none 0 0,.slice none 0 0,.int .i64 0] 148)).drew:=((Kept.refl _).alloc _).drew;have HPA:=HPl.out _ kA;have HPB:=HPl.out _ kB;have zB:((w1.alloc (.cells #[.bool l,.slice kp nk kc,.slice vp nv vc,.slice ip ni ic] 71)).alloc (.cells #[.int .i64 0,.bool false,.slice none 0 0,.slice none 0 0,.slice none 0 0,.int .i64 0] 148)).drew.heap[w1.heap.size+1]? = some (.cells #[.int .i64 0,.bool false,.slice none 0 0,.slice none 0 0,.slice none 0 0,.int .i64 0] 148):=D.two_new w1 _ _;have HZB:Hid (((w1.alloc (.cells #[.bool l,.slice kp nk kc,.slice vp nv vc,.slice ip ni ic] 71)).alloc (.cells #[.int .i64 0,.bool false,.slice none 0 0,.slice none 0 0,.slice none 0 0,.int .i64 0] 148)).drew.heap[w1.heap.size+1]? = some (.cells #[.int .i64 0,.bool false,.slice none 0 0,.slice none 0 0,.slice none 0 0,.int .i64 0] 148)):=zB;have hsz:(w1.alloc (.cells #[.bool l,.slice kp nk kc,.slice vp nv vc,.slice ip ni ic] 71)).heap.size≤w1.heap.size+1:=by rw[N.size_alloc];exact Nat.le_refl _
   clear HPl kA kB zB HN;have hy0:=fun o=>(X2.kept ((Kept.refl _).alloc o)).cs.1
   have hy1:=fun o=>(X2.kept ((Kept.refl _).alloc o)).cs.2.1
   have hy2:=fun o=>(X2.kept ((Kept.refl _).alloc o)).cs.2.2.1
   have hy3:=fun o=>(X2.kept ((Kept.refl _).alloc o)).cs.2.2.2
   go_region_with (first
    | (go_at_call 65;(with_reducible refine HPA.mono ?_);rintro e w3 ⟨rfl,k3,kk⟩;obtain⟨r0,r1,r2,r3⟩:=(X2.kept kk).cs;have hz0:=fun o=>((X2.kept kk).kept ((Kept.refl _).alloc o)).cs.1;have hz1:=fun o=>((X2.kept kk).kept ((Kept.refl _).alloc o)).cs.2.1;have hz2:=fun o=>((X2.kept kk).kept ((Kept.refl _).alloc o)).cs.2.2.1;have hz3:=fun o=>((X2.kept kk).kept ((Kept.refl _).alloc o)).cs.2.2.2;clear HPA HPB)
    | (go_at_call 65;(with_reducible refine HPB.mono ?_);rintro e w3 ⟨rfl,k3,kk⟩;obtain⟨r0,r1,r2,r3⟩:=(X2.kept kk).cs;have Z0:=k3.block HZB.out;obtain⟨⟨a0,f0⟩,⟨a1,f1⟩,⟨a2,f2⟩,⟨a3,f3⟩,⟨a4,f4⟩,⟨a5,f5⟩,hfin⟩:=ready6 Z0 (.int .i64 (s.page:Nat)) (.bool l) (.slice kp nk kc) (.slice vp nv vc) (.slice ip ni ic) (.int .i64 (s.kid:Nat));clear HPA HPB))
   all_goals go_wp2_with fail
   all_goals go_meet
   all_goals
    first
     | exact⟨_,rfl,hfin,Nat.lt_succ_self _,((kk.st4 (b:=w1.heap.size+1) hsz _ _ _ _).set (a:=⟨w1.heap.size+1,4,none⟩) hsz _).set (a:=⟨w1.heap.size+1,5,none⟩) hsz _⟩
     | exact⟨_,rfl,heap_alloc_new w3 _,(by have:=kk.size;rw[N.size_alloc]at this;omega),kk.alloc _⟩
  case rest=>
   obtain⟨bs,rfl,hbs,hlt,kc3⟩:=hcut;have HNe:Hid (∀ b,(Value.slice q k c).ownBlock=some b→b≠bs):=fun b e=>by
    obtain⟨_,cs',fr',hb'⟩:=own_blk HO.out b e;have h1:=(Array.getElem?_eq_some_iff.1 hb').1;have h2:=k1.size;omega
   clear HPl;have kw:Kept wr wc:=(k1.trans k2).trans kc3;obtain⟨b0,b1,b2,b3,b4,b5⟩:=cells6 hbs;obtain⟨z0,z1,z2,z3⟩:=(X2.kept kc3).cs;have N3:=N2.kept kc3;have K3:=K2.trans kc3;have ka:Kept wc (wc.alloc (.cells #[.int .i64 (s.page:Nat),.bool l,.slice kp nk kc,.slice vp nv vc,.slice ip ni ic,.int .i64 (s.kid:Nat)] 148)):=(Kept.refl wc).alloc _;have OA:=(HO.out.kept kw).kept ka;have HOk3:Hid (∀ z∈L,z.ok (wc.alloc (.cells #[.int .i64 (s.page:Nat),.bool l,.slice kp nk kc,.slice vp nv vc,.slice ip ni ic,.int .i64 (s.kid:Nat)] 148))):=fun z hz=>NV.kept (NV.kept (HOk.out z hz) kw) ka
   have hz6:=six_cell wc (.int .i64 (s.page:Nat)) (.bool l) (.slice kp nk kc) (.slice vp nv vc) (.slice ip ni ic) (.int .i64 (s.kid:Nat)) 148;have h1one:∀ u∈[Value.int .i64 (s.page:Nat),.bool l,.slice kp nk kc,.slice vp nv vc,.slice ip ni ic,.int .i64 (s.kid:Nat)],u.oneCell'=true:=by intro u hu;simp at hu;rcases hu with rfl | rfl | rfl | rfl | rfl | rfl <;> rfl
   have hkb:k+1≤1000:=by have:=HF.out;omega
   have hBE:w.heap.size≤(wc.alloc (.cells #[.int .i64 (s.page:Nat),.bool l,.slice kp nk kc,.slice vp nv vc,.slice ip ni ic,.int .i64 (s.kid:Nat)] 148)).heap.size:=(K3.trans ka).size;have hsn:Hid ((L++[(⟨s.page,s.kid,l,kp,nk,kc,vp,nv,vc,ip,ni,ic,s.x⟩:Sm)]).map Sm.stp=P.take (k+1)):=by
    show _=_;rw[List.map_append,HL'.out,List.take_add_one,HS.out];rfl
   have hcl:Hid (scl (L++[(⟨s.page,s.kid,l,kp,nk,kc,vp,nv,vc,ip,ni,ic,s.x⟩:Sm)])=scl L++[.int .i64 (s.page:Nat),.bool l,.slice kp nk kc,.slice vp nv vc,.slice ip ni ic,.int .i64 (s.kid:Nat)]):=scl_snoc _ _;by_cases hlast:k+1=len
   ·obtain rfl:l=true:=by rw[HSl.out,HLn.out];simpa using hlast
    go_wp2_with (at_builtin;refine wpList_append_own _ rfl _ _ 109 rfl w.heap.size 148 i0 _ 6 96 Tryz.underlying109 hi0 hz0 hz1 hz2 rfl (by decide) (.slice q k c) k (scl L) rfl OA.out ⟨wc.heap.size,0,none⟩ 1 1 [.int .i64 (s.page:Nat),.bool true,.slice kp nk kc,.slice vp nv vc,.slice ip ni ic,.int .i64 (s.kid:Nat)] rfl rfl hz6 h1one (by unfold maxLen;omega) (by omega) hBE ?_;intro v' w5 o5 g5 _;obtain⟨q5,c5,rfl⟩:=owns_shape o5;obtain⟨hK5,hN5,hX5⟩:=way_step OA g5 (K3.trans ka) (N3.kept ka) HOk3.out;obtain⟨zz0,zz1,zz2,zz3⟩:=(hX5 _ _ _ _ _ ((X2.kept kc3).kept ka)).cs;have O5:Hid (Own w5 w.heap.size 148 6 q5 (k+1) c5 (scl (L++[(⟨s.page,s.kid,true,kp,nk,kc,vp,nv,vc,ip,ni,ic,s.x⟩:Sm)]))):=⟨by rw[hcl.out];exact o5⟩;clear o5 g5);go_ret2;subst hlast;refine⟨_,_,_,rfl,?_,⟨O5.out.rw,O5.out.rx,fun z hz=>?_⟩,hK5⟩
    ·rw[hsn.out,← HLn.out,List.take_length]
    ·rcases List.mem_append.1 hz with hz | hz
     ·exact hN5.2 z hz
     ·simp at hz;subst hz;exact hN5.1
   ·obtain rfl:l=false:=by rw[HSl.out,HLn.out];simpa using hlast
    obtain⟨s',hs'⟩:∃ s',P[k+1]? = some s':=⟨_,List.getElem?_eq_getElem (by rw[HLn.out];omega)⟩;have hnx:=HP.out.nxt k s s' HS.out hs';have HNx:Hid (s.x.is[s.kid]? = some (s'.page:Int)):=hnx;have HS':Hid (P[k+1]? = some s'):=hs';have hkl:s.kid<ni:=by have a:=(List.getElem?_eq_some_iff.1 hnx).1;have b:=N3.ni;omega
    have hkl2:(s.kid:Int)<(ni:Int):=by omega
    obtain⟨ib,io,rfl,_⟩:=N3.i.some (by omega);clear hnx hs';go_wp2_with (at_builtin;refine wpList_append_own _ rfl _ _ 109 rfl w.heap.size 148 i0 _ 6 96 Tryz.underlying109 hi0 hz0 hz1 hz2 rfl (by decide) (.slice q k c) k (scl L) rfl OA.out ⟨wc.heap.size,0,none⟩ 1 1 [.int .i64 (s.page:Nat),.bool false,.slice kp nk kc,.slice vp nv vc,.slice (some ⟨ib,io,none⟩) ni ic,.int .i64 (s.kid:Nat)] rfl rfl hz6 h1one (by unfold maxLen;omega) (by omega) hBE ?_;intro v' w5 o5 g5 _;obtain⟨q5,c5,rfl⟩:=owns_shape o5;obtain⟨hK5,hN5,hX5⟩:=way_step OA g5 (K3.trans ka) (N3.kept ka) HOk3.out;obtain⟨zz0,zz1,zz2,zz3⟩:=(hX5 _ _ _ _ _ ((X2.kept kc3).kept ka)).cs;have ci:=nv_kid hN5.1 HNx.out;have hb5:=blk_stays g5 (ka.block hbs) HNe.out;obtain⟨e0,e1,e2,e3,e4,e5⟩:=cells6 hb5;have O5:Hid (Own w5 w.heap.size 148 6 q5 (k+1) c5 (scl (L++[(⟨s.page,s.kid,false,kp,nk,kc,vp,nv,vc,some ⟨ib,io,none⟩,ni,ic,s.x⟩:Sm)]))):=⟨by rw[hcl.out];exact o5⟩;clear o5 g5);go_roundg (len-(k+1));case measure=>rw[hgk.out];omega
    case rel=>
     refine⟨k+1,rfl,by omega,⟨q5,c5,_,_,rfl,rfl,hsn.out,O5.out,fun z hz=>?_,hK5,fun s2 hs2=>?_⟩⟩
     ·rcases List.mem_append.1 hz with hz | hz
      ·exact hN5.2 z hz
      ·simp at hz;subst hz;exact hN5.1
     ·rw[HS'.out]at hs2;obtain rfl:=Option.some.inj hs2;rfl
theorem way_nil{w:World}{t p:Nat}{key:ByteArray}(hT:TAt w t p (-1)):Calls Tryz.prog 43 #[.pointer (some ⟨t,0,none⟩),.string key] w fun e w'=>e=.returned (.tuple #[.slice none 0 0,.int .i64 0])∧w'=w:=by
 obtain⟨c0,c1⟩:=hT.cs;go_enter Tryz.func43,Tryz.ntmps43;go_wp2;refine wp_loop_rounds 1 ?_;rw[rounds_succ];go_wp2;go_ret2;exact⟨rfl,rfl⟩
theorem end_nil(w:World):Calls Tryz.prog 45 #[.slice none 0 0] w fun e w'=>e=.returned (.agg #[.bool true,.slice none 0 0,.slice none 0 0,.slice none 0 0])∧Kept w w':=by
 have K0:Kept w (w.alloc (.cells #[.bool true,.slice none 0 0,.slice none 0 0,.slice none 0 0] 71)):=(Kept.refl w).alloc _;have R0:=C4.alloc w 71 (.bool true) (.slice none 0 0) (.slice none 0 0) (.slice none 0 0);go_enter Tryz.func45,Tryz.ntmps45;go_wp2;refine bodyPost_ret (v:=.agg #[.bool true,.slice none 0 0,.slice none 0 0,.slice none 0 0]) ?_ rfl ⟨rfl,K0⟩;exact G.results_one (p:=2) (ty:=71) rfl _ _ w.heap.size 71 #[.bool true,.slice none 0 0,.slice none 0 0,.slice none 0 0] (0,0) _ rfl R0.out Tryz.underlying71 rfl N.size71
open B (Ext Pn Prt WfN us prt_wf)
set_option maxRecDepth 100000 in
set_option maxHeartbeats 1000000 in
theorem end_walk{w:World}{q:Option Addr}{n k c:Nat}{L:List Sm}(h:WAt w q n c L)(hk:k≤1000)(hn:n=k+1){s:Sm}(hs:L[k]? = some s) :
  Calls Tryz.prog 45 #[.slice q n c] w fun e w'=>e=.returned (.agg #[.bool s.l,.slice s.kp s.nk s.kc,.slice s.vp s.nv s.vc,.slice s.ip s.ni s.ic])∧Kept w w':=by
 obtain⟨b,off,rfl,f⟩:=h.row.some (by omega);have K0:Kept w (w.alloc (.cells #[.bool false,.slice none 0 0,.slice none 0 0,.slice none 0 0] 71)):=(Kept.refl w).alloc _;have a1:(w.alloc (.cells #[.bool false,.slice none 0 0,.slice none 0 0,.slice none 0 0] 71)).cell? ⟨b,off+k*6+1,none⟩=some (.bool s.l):=K0.cell (f (k*6+1) _ (by rw[scl_at L k s hs 1 (by decide)];rfl));have a2:(w.alloc (.cells #[.bool false,.slice none 0 0,.slice none 0 0,.slice none 0 0] 71)).cell? ⟨b,off+k*6+1+1,none⟩=some (.slice s.kp s.nk s.kc):=K0.cell (f (k*6+2) _ (by rw[scl_at L k s hs 2 (by decide)];rfl));have a3:(w.alloc (.cells #[.bool false,.slice none 0 0,.slice none 0 0,.slice none 0 0] 71)).cell? ⟨b,off+k*6+1+2,none⟩=some (.slice s.vp s.nv s.vc):=K0.cell (f (k*6+3) _ (by rw[scl_at L k s hs 3 (by decide)];rfl));have a4:(w.alloc (.cells #[.bool false,.slice none 0 0,.slice none 0 0,.slice none 0 0] 71)).cell? ⟨b,off+k*6+1+3,none⟩=some (.slice s.ip s.ni s.ic):=K0.cell (f (k*6+4) _ (by rw[scl_at L k s hs 4 (by decide)];rfl));obtain⟨sp,sk,sl,skp,snk,skc,svp,snv,svc,sip,sni,sic,sx⟩:=s;dsimp only at a1 a2 a3 a4 ⊢;have e1:IntKind.i64.wrap ((n:Int)-1)=(k:Int):=by rw[IntKind.wrap_i64];omega
 have hn0:¬ n=0:=by omega
 have hkn:(k:Int)<(n:Int):=by omega
 clear f h hs hn;go_enter Tryz.func45,Tryz.ntmps45;go_wp2;refine bodyPost_ret (v:=.agg #[.bool sl,.slice skp snk skc,.slice svp snv svc,.slice sip sni sic]) ?_ rfl ⟨rfl,(Kept.refl w).alloc _⟩;exact G.results_one (p:=2) (ty:=71) rfl _ _ w.heap.size 71 #[.bool sl,.slice skp snk skc,.slice svp snv svc,.slice sip sni sic] (0,0) _ rfl (heap_alloc_new w _) Tryz.underlying71 rfl N.size71
def PR (M:Pm) (m:Nat) (y:Nd) (M':Pm) (ns:List Nat) (K:List ByteArray):Prop:=
 (y.put.length≤237∧∃ n,frst M m=some n∧M'=pt M n y∧ns=[n]∧K=[]) ∨
 (237<y.put.length∧∃ mm key n1 n2,N.Mid y 0 mm∧y.ks[mm]? = some key∧frst M m=some n1∧frst (pt M n1 (y.fst mm)) m=some n2∧M'=pt (pt M n1 (y.fst mm)) n2 (y.snd mm)∧ns=[n1,n2]∧K=[key])
def PE (M:Pm) (m:Nat) (y:Nd) (M':Pm):Prop:=
 (y.put.length≤237∧frst M m=none∧M'=M) ∨
 (237<y.put.length∧∃ mm key,N.Mid y 0 mm∧y.ks[mm]? = some key∧((frst M m=none∧M'=M)∨∃ n1,frst M m=some n1∧frst (pt M n1 (y.fst mm)) m=none∧M'=pt M n1 (y.fst mm)))
theorem put_dec(M:Pm)(m:Nat){y:Nd}(h:y.ks≠[]):(∃ M' ns K,PR M m y M' ns K)∨∃ M',PE M m y M':=by
 by_cases hs:y.put.length≤237
 ·cases hf:frst M m with
  | none=>exact .inr ⟨M,.inl ⟨hs,hf,rfl⟩⟩
  | some n=>exact .inl ⟨_,_,_,.inl ⟨hs,n,hf,rfl,rfl,rfl⟩⟩
 ·obtain⟨mm,key,h1,h2⟩:=B.mid_of h
  cases hf:frst M m with
  | none=>exact .inr ⟨M,.inr ⟨by omega,mm,key,h1,h2,.inl ⟨hf,rfl⟩⟩⟩
  | some n1=>
   cases hf2:frst (pt M n1 (y.fst mm)) m with
   | none=>exact .inr ⟨_,.inr ⟨by omega,mm,key,h1,h2,.inr ⟨n1,hf,hf2,rfl⟩⟩⟩
   | some n2=>exact .inl ⟨_,_,_,.inr ⟨by omega,mm,key,n1,n2,h1,h2,hf,hf2,rfl,rfl,rfl⟩⟩
theorem PE.ext{M M':Pm}{m:Nat}{y:Nd}(h:PE M m y M'):Ext M M':=by
 rcases h with⟨_,_,rfl⟩|⟨_,mm,key,_,_,⟨_,rfl⟩|⟨n1,h1,_,rfl⟩⟩
 ·exact B.Ext.refl _
 ·exact B.Ext.refl _
 ·exact B.pt_ext (frst_some h1).2.2.1
theorem PR.pn{M M':Pm}{m:Nat}{y:Nd}{ns:List Nat}{K:List ByteArray}(h:PR M m y M' ns K)(hm:m≤1024):∃ ps,Prt y ps K∧Pn M M' ps ns:=by
 rcases h with⟨hs,n,h1,rfl,rfl,rfl⟩|⟨hs,mm,key,n1,n2,h0,hk,h1,h2,rfl,rfl,rfl⟩
 ·obtain⟨a,b,c,_⟩:=frst_some h1
  refine⟨[y],.inl ⟨hs,rfl,rfl⟩,B.pt_ext c,fun q=>B.us_pt c q,rfl,?_,fun q hq=>by simp at hq;omega⟩;intro i n' y' hn hy;match i,hn,hy with
  | 0,hn,hy=>simp at hn hy;subst hn;subst hy;exact B.pt_same _ _ _
  | _+1,hn,_=>simp at hn
 ·obtain⟨a,b,c,_⟩:=frst_some h1
  obtain⟨a2,b2,c2,_⟩:=frst_some h2;refine⟨[y.fst mm,y.snd mm],.inr ⟨hs,mm,key,hk,h0,rfl,rfl⟩,(B.pt_ext c).trans (B.pt_ext c2),fun q=>?_,rfl,?_,fun q hq=>?_⟩
  ·rw[B.us_pt c2,B.us_pt c];simp[List.count_cons];omega
  ·intro i n' y' hn hy
   match i,hn,hy with
   | 0,hn,hy=>simp at hn hy;subst hn;subst hy;exact B.pt_ext c2 _ _ (B.pt_same _ _ _)
   | 1,hn,hy=>simp at hn hy;subst hn;subst hy;exact B.pt_same _ _ _
   | _+2,hn,_=>simp at hn
  ·simp at hq;omega
theorem put_ok{B:Nat}{w:World}{c t p m d:Nat}{jv:Value}{root:Int}{M M':Pm}{ns:List Nat}{K:List ByteArray}(hC:CAt w c t jv)(hT:TAt w t p root)(h:Pv B w p m M)(hB:B≤w.heap.size)(hL:S.Lds w)(hB0:1<B){l:Bool}{kp:Option Addr}{nk kc:Nat}{vp:Option Addr}{nv vc:Nat}{ip:Option Addr}{ni ic:Nat}{y:Nd}(hx:NV w l kp nk kc vp nv vc ip ni ic y)(wf:WfN M d y)(hb:y.put.length≤(if d=0 then 352 else 380))(hR:PR M m y M' ns K) :
  Calls Tryz.prog 93 #[.pointer (some ⟨c,0,none⟩),.agg #[.bool l,.slice kp nk kc,.slice vp nv vc,.slice ip ni ic]] w fun e w'=>∃ pp pc kq kc',e=.returned (.tuple #[.slice pp ns.length pc,.slice kq K.length kc',.int .i64 0])∧Own w' w.heap.size 3 1 pp ns.length pc (icl (ns.map fun n:Nat=>(n:Int)))∧Own w' w.heap.size 9 1 kq K.length kc' (kcl K)∧Pv B w' p m M'∧G.On B w w'∧(K.length=0→kq=none∧kc'=0):=by
 rcases hR with⟨hs,n,h1,rfl,rfl,rfl⟩|⟨hs,mm,key,n1,n2,h0,hk,h1,h2,rfl,rfl,rfl⟩
 ·refine (put_i hC hT h hB hL hx wf.good hs h1).mono ?_
  rintro e w' ⟨pp,pc,rfl,a,b,o⟩;exact⟨pp,pc,none,0,rfl,a,own_nil _ _ _ _,b,o,fun _=>⟨rfl,rfl⟩⟩
 ·obtain⟨w1,w2,e1,e2,f1,f2⟩:=prt_wf wf hs h0 hb
  refine (put_ii hC hT h hB hL hB0 hx wf.good hs h0 hk w1.good w2.good f1 f2 h1 h2).mono ?_;rintro e w' ⟨pp,pc,kq,kc',rfl,a,b,v,o⟩;exact⟨pp,pc,kq,kc',rfl,a,b,v,o,fun h=>by simp at h⟩
theorem put_err{B:Nat}{w:World}{c t p m d:Nat}{jv:Value}{root:Int}{M M':Pm}(hC:CAt w c t jv)(hT:TAt w t p root)(h:Pv B w p m M)(hB:B≤w.heap.size)(hL:S.Lds w)(hB0:1<B){l:Bool}{kp:Option Addr}{nk kc:Nat}{vp:Option Addr}{nv vc:Nat}{ip:Option Addr}{ni ic:Nat}{y:Nd}(hx:NV w l kp nk kc vp nv vc ip ni ic y)(wf:WfN M d y)(hb:y.put.length≤(if d=0 then 352 else 380))(hR:PE M m y M') :
  Calls Tryz.prog 93 #[.pointer (some ⟨c,0,none⟩),.agg #[.bool l,.slice kp nk kc,.slice vp nv vc,.slice ip ni ic]] w fun e w'=>e=.returned (.tuple #[.slice none 0 0,.slice none 0 0,.int .i64 80])∧Pv B w' p m M'∧G.On B w w':=by
 rcases hR with⟨hs,h1,rfl⟩|⟨hs,mm,key,h0,hk,⟨h1,rfl⟩|⟨n1,h1,h2,rfl⟩⟩
 ·refine (put_o hC hT h hB hL hx wf.good hs h1).mono ?_
  rintro e w' ⟨rfl,k⟩;exact⟨rfl,h.kept k,G.On.ofKept ⟨k.out⟩ hB⟩
 ·obtain⟨w1,w2,e1,e2,f1,f2⟩:=prt_wf wf hs h0 hb
  refine (put_oo hC hT h hB hL hB0 hx wf.good hs h0 hk w1.good w2.good f1 f2 h1).mono ?_;rintro e w' ⟨rfl,k⟩;exact⟨rfl,h.kept k,G.On.ofKept ⟨k.out⟩ hB⟩
 ·obtain⟨w1,w2,e1,e2,f1,f2⟩:=prt_wf wf hs h0 hb
  exact put_io hC hT h hB hL hB0 hx wf.good hs h0 hk w1.good w2.good f1 f2 h1 h2
open B (jn)
open N (NZ blk)
structure Jx (c:Nat) (j:Option Nat) (w w':World):Prop where
 zero:Below 0 w w'
 block:∀ (b:Nat) (o:Obj),w.heap[b]? = some o→b≠c→j≠some b→w'.heap[b]? = some o
theorem Jx.ofKept{c:Nat}{j:Option Nat}{w w':World}(k:Kept w w'):Jx c j w w':=⟨k.out.mono (Nat.zero_le _),fun _ _ h _ _=>k.block h⟩
theorem Jx.size{c:Nat}{j:Option Nat}{w w':World}(h:Jx c j w w'):w.heap.size≤w'.heap.size:=h.zero.size
theorem Jx.trans{c:Nat}{j:Option Nat}{a b d:World}(h:Jx c j a b)(k:Jx c j b d):Jx c j a d:=⟨h.zero.trans k.zero,fun x o hx h1 h2=>k.block x o (h.block x o hx h1 h2) h1 h2⟩
theorem Jx.kept{c:Nat}{j:Option Nat}{a b d:World}(h:Jx c j a b)(k:Kept b d):Jx c j a d:=h.trans (Jx.ofKept k)
theorem Jx.grown{c:Nat}{j:Option Nat}{w W W':World}(h:Jx c j w W){r:Option Nat}(hg:W.grownBy W' r)(hr:∀ k,r=some k→j=some k∨w.heap.size≤k):Jx c j w W':=by
 refine⟨h.zero.trans ⟨hg.os,hg.tape,hg.output,hg.size,fun _ h=>absurd h (Nat.not_lt_zero _)⟩,fun b o hb h1 h2=>?_⟩;have hb2:=h.block b o hb h1 h2;refine (hg.block b (Array.getElem?_eq_some_iff.1 hb2).1 (fun e=>?_)).trans hb2;rcases hr b e.symm with h3 | h3
 ·exact h2 h3
 ·have:=(Array.getElem?_eq_some_iff.1 hb).1;omega
theorem Jx.set{c:Nat}{j:Option Nat}{w W:World}(h:Jx c j w W)(a:Addr)(v:Value)(ha:a.block=c∨w.heap.size≤a.block):Jx c j w (W.setCell a v):=by
 refine⟨h.zero.setCell (Nat.zero_le _) v,fun b o hb h1 h2=>?_⟩;rw[heap_setCell_other W a b v (fun e=>?_)]
 ·exact h.block b o hb h1 h2
 ·rcases ha with h3 | h3
  ·exact h1 (e.trans h3)
  ·have:=(Array.getElem?_eq_some_iff.1 hb).1;omega
structure Jt (w:World) (c:Nat) (j:Option Nat):Prop where
 c:∃ cs fr,w.heap[c]? = some (.cells cs 154 fr)
 j:∀ b,j=some b→∃ cs fr,w.heap[b]? = some (.cells cs 3 fr)
theorem Jx.cells{c:Nat}{j:Option Nat}{w w':World}(h:Jx c j w w')(ht:Jt w c j){b:Nat}{cs:Array Value}{t:TypeId}{fr:Nat×Nat}(hb:w.heap[b]? = some (.cells cs t fr))(h1:t≠154)(h2:t≠3):w'.heap[b]? = some (.cells cs t fr):=by
 refine h.block b _ hb ?_ ?_
 ·rintro rfl
  obtain⟨cs',fr',e⟩:=ht.c;rw[hb]at e;injection e with e;injection e with _ e _;exact h1 e
 ·intro e
  obtain⟨cs',fr',e⟩:=ht.j b e;rw[hb]at e;injection e with e;injection e with _ e _;exact h2 e
theorem Jx.ap{c:Nat}{j:Option Nat}{w w':World}(h:Jx c j w w')(ht:Jt w c j):Ap w w':=by
 refine⟨fun k cs t fr hk h2=>h.cells ht hk (by rintro rfl;revert h2;decide) (by rintro rfl;revert h2;decide),fun k es n hk=>h.block k _ hk ?_ ?_⟩
 ·rintro rfl
  obtain⟨cs',fr',e⟩:=ht.c;rw[hk]at e;cases e
 ·intro e
  obtain⟨cs',fr',e⟩:=ht.j k e;rw[hk]at e;cases e
theorem Jx.rx{c:Nat}{j:Option Nat}{w w':World}(h:Jx c j w w'){e:TypeId}{p:Option Addr}{n:Nat}(k:Rx w e p n)(hp:∀ b off ph,p=some ⟨b,off,ph⟩→b≠c∧j≠some b):Rx w' e p n:=
 ⟨fun b off ph hb=>by obtain⟨cs,fr,hc⟩:=k.typ b off ph hb;exact⟨cs,fr,h.block _ _ hc (hp b off ph hb).1 (hp b off ph hb).2⟩,k.nil⟩
theorem Jx.rw{c:Nat}{j:Option Nat}{w w':World}(h:Jx c j w w'){e:TypeId}{sz:Nat}{p:Option Addr}{n cap:Nat}{cs:List Value}(r:Rw w sz p n cap cs)(k:Rx w e p cap)(hp:∀ b off ph,p=some ⟨b,off,ph⟩→b≠c∧j≠some b):Rw w' sz p n cap cs:=by
 refine⟨r.len,r.le,r.cap,?_⟩;rcases r.out with h0 | ⟨b,off,rfl,f⟩
 ·exact .inl h0
 ·refine .inr ⟨b,off,rfl,fun i u hu=>?_⟩
  obtain⟨cs',fr,hb⟩:=k.typ b off none rfl;rw[← f i u hu];exact World.cell?_of_block ((h.block _ _ hb (hp b off none rfl).1 (hp b off none rfl).2).trans hb.symm)
def Apt (c:Nat) (j:Option Nat) (p:Option Addr):Prop:=∀ b off ph,p=some ⟨b,off,ph⟩→b≠c∧j≠some b
theorem apt_of{c:Nat}{j:Option Nat}{w:World}(ht:Jt w c j){e:TypeId}{p:Option Addr}{n:Nat}(k:Rx w e p n)(h1:e≠154)(h2:e≠3):Apt c j p:=by
 intro b off ph hb;obtain⟨cs,fr,hc⟩:=k.typ b off ph hb;refine⟨?_,?_⟩
 ·rintro rfl
  obtain⟨cs',fr',e⟩:=ht.c;rw[hc]at e;injection e with e;injection e with _ e _;exact h1 e
 ·intro e
  obtain⟨cs',fr',e⟩:=ht.j b e;rw[hc]at e;injection e with e;injection e with _ e _;exact h2 e
theorem Jx.nv{c:Nat}{j:Option Nat}{w w':World}(h:Jx c j w w')(ht:Jt w c j){l:Bool}{kp:Option Addr}{nk kc:Nat}{vp:Option Addr}{nv vc:Nat}{ip:Option Addr}{ni ic:Nat}{x:Nd}(k:NV w l kp nk kc vp nv vc ip ni ic x)(hi:Apt c j ip):NV w' l kp nk kc vp nv vc ip ni ic x:=
 ⟨k.hl,h.rw k.k k.kx (apt_of ht k.kx (by decide) (by decide)),h.rw k.v k.vx (apt_of ht k.vx (by decide) (by decide)),h.rw k.i k.ix hi,h.rx k.kx (apt_of ht k.kx (by decide) (by decide)),h.rx k.vx (apt_of ht k.vx (by decide) (by decide)),h.rx k.ix hi⟩
theorem Jx.tat{c:Nat}{j:Option Nat}{w w':World}(h:Jx c j w w')(ht:Jt w c j){t p:Nat}{root:Int}(k:TAt w t p root):TAt w' t p root:=⟨h.cells ht k.out (by decide) (by decide)⟩
theorem jt_of{w:World}{c t K nj jc:Nat}{jp:Option Addr}{cs:List Value}(hC:CAt w c t (.slice jp nj jc))(hJ:Own w K 3 1 jp nj jc cs):Jt w c (blk jp):=by
 refine⟨⟨_,_,hC.out⟩,fun b hb=>?_⟩;rcases hJ.cases with⟨rfl,_⟩|⟨g,cur,rfl,_,_,hg,_⟩
 ·cases hb
 ·have e:some g=some b:=hb
  obtain rfl:=Option.some.inj e;exact⟨_,_,hg⟩
theorem NV.nz{w:World}{l:Bool}{kp:Option Addr}{nk kc:Nat}{vp:Option Addr}{nv vc:Nat}{ip:Option Addr}{ni ic:Nat}{x:Nd}(h:NV w l kp nk kc vp nv vc ip ni ic x):NZ w l kp nk kc vp nv vc ip ni ic x:=⟨h,h.kx.nil,h.vx.nil,h.ix.nil⟩
theorem good_few{w:World}{l:Bool}{kp:Option Addr}{nk kc:Nat}{vp:Option Addr}{nv vc:Nat}{ip:Option Addr}{ni ic:Nat}{x:Nd}(h:NV w l kp nk kc vp nv vc ip ni ic x)(g:N.Good x):nk≤120∧nv≤120∧ni≤121:=by
 have a:=h.nk;have b:=h.nv;have c:=h.ni;have f:=g.few;cases hl:x.leaf with
 | true=>obtain⟨h1,h2⟩:=g.lv hl;rw[h2]at c;simp at c;omega
 | false=>obtain⟨h1,h2⟩:=g.li hl;rw[h2]at b;simp at b;omega
theorem node_join{w:World}{l:Bool}{kpA:Option Addr}{nkA kcA:Nat}{vpA:Option Addr}{nvA vcA:Nat}{ipA:Option Addr}{niA icA:Nat}{kpB:Option Addr}{nkB kcB:Nat}{vpB:Option Addr}{nvB vcB:Nat}{ipB:Option Addr}{niB icB:Nat}{xa xb:Nd}(ha:NV w l kpA nkA kcA vpA nvA vcA ipA niA icA xa)(hb:NV w l kpB nkB kcB vpB nvB vcB ipB niB icB xb)(ga:N.Good xa)(gb:N.Good xb)(key:ByteArray) :
  Calls Tryz.prog 117 #[.agg #[.bool l,.slice kpA nkA kcA,.slice vpA nvA vcA,.slice ipA niA icA],.string key,.agg #[.bool l,.slice kpB nkB kcB,.slice vpB nvB vcB,.slice ipB niB icB]] w fun e w'=>∃ kp nk kc vp nv vc ip ni ic,e=.returned (.agg #[.bool l,.slice kp nk kc,.slice vp nv vc,.slice ip ni ic])∧NV w' l kp nk kc vp nv vc ip ni ic (jn xa key xb)∧Kept w w':=by
 obtain⟨a1,a2,a3⟩:=good_few ha ga;obtain⟨b1,b2,b3⟩:=good_few hb gb;cases l with
 | true=>rw[B.jn_leaf ha.hl];exact N.join_true (NV.nz ha) (NV.nz hb) key (by omega) (by omega) (by omega) (by omega)
 | false=>rw[B.jn_inner ha.hl];exact N.join_false (NV.nz ha) (NV.nz hb) key (by omega) (by omega) (by omega) (by omega)
end Go.Proofs.YtafgecaeiodmiaaGreatDoor.T