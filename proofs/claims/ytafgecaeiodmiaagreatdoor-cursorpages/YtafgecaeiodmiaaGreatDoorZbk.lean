/- Joined. -/
import Derived.Test.YtafgecaeiodmiaaGreatDoorZbg
import Derived.Deep.QuietTactic
import Derived.BigQuiet
namespace Go.Proofs.YtafgecaeiodmiaaGreatDoor.T
open Go.ChangeShapes Go.WideShapes Go.ChangeAt Go.RowKit
open B (Pm Mk En R plc plc_le)
open N (Nd NV Rw Rx Kept kcl vcl icl Vl C4 Up sl fnd isk)
theorem nv_turn{w w':World}{r:Option Nat}{ty:TypeId}(hg:w.grownBy w' r)(hr:∀ b,r=some b→∃ cs fr,w.heap[b]? = some (.cells cs ty fr))(h9:ty≠9)(hv:ty≠35)(h3:ty≠3){l:Bool}{kp:Option Addr}{nk kc:Nat}{vp:Option Addr}{nv vc:Nat}{ip:Option Addr}{ni ic:Nat}{x:Nd}(h:NV w l kp nk kc vp nv vc ip ni ic x):NV w' l kp nk kc vp nv vc ip ni ic x:=by
 have hb:∀ {e:TypeId} {b:Nat} {cs:Array Value} {fr:Nat×Nat},w.heap[b]? = some (.cells cs e fr)→e≠ty→w'.heap[b]? = w.heap[b]?:=by
  intro e b cs fr h0 hne;refine hg.block b (Array.getElem?_eq_some_iff.1 h0).1 (fun e2=>?_);obtain⟨cs',fr',h1⟩:=hr b e2.symm;rw[h0]at h1;injection h1 with h1
  injection h1 with _ e3 _
  exact hne e3
 have rx:∀ {e:TypeId} {p:Option Addr} {c:Nat},e≠ty→Rx w e p c→Rx w' e p c:=by
  intro e p c he h;refine⟨fun b off ph hp=>?_,h.nil⟩;obtain⟨cs,fr,h0⟩:=h.typ b off ph hp;exact⟨cs,fr,(hb h0 he).trans h0⟩
 have rw_:∀ {e:TypeId} {sz:Nat} {p:Option Addr} {n c:Nat} {cs:List Value},e≠ty→Rw w sz p n c cs→Rx w e p c→Rw w' sz p n c cs:=by
  intro e sz p n c cs he h hx;refine⟨h.len,h.le,h.cap,?_⟩;rcases h.out with h0 | ⟨b,off,rfl,f⟩
  ·exact .inl h0
  ·refine .inr ⟨b,off,rfl,fun j u hu=>?_⟩
   obtain⟨cs',fr,h0⟩:=hx.typ b off none rfl;rw[← f j u hu];exact World.cell?_of_block (hb h0 he)
 exact⟨h.hl,rw_ (Ne.symm h9) h.k h.kx,rw_ (Ne.symm hv) h.v h.vx,rw_ (Ne.symm h3) h.i h.ix,rx (Ne.symm h9) h.kx,rx (Ne.symm hv) h.vx,rx (Ne.symm h3) h.ix⟩
theorem kid_walk{w:World}{l:Bool}{kp:Option Addr}{nk kc:Nat}{vp:Option Addr}{nv vc:Nat}{ip:Option Addr}{ni ic:Nat}{x:Nd}(h:NV w l kp nk kc vp nv vc ip ni ic x)(g:N.Good x)(key:ByteArray)(c:Int)(hc:x.is[plc x key]? = some c) :
  Calls Tryz.prog 49 #[.agg #[.bool l,.slice kp nk kc,.slice vp nv vc,.slice ip ni ic],.string key] w fun e w'=>e=.returned (.int .i64 c)∧Kept w w':=by
 have K0:Kept w (w.alloc (.cells #[.bool l,.slice kp nk kc,.slice vp nv vc,.slice ip ni ic] 71)):=(Kept.refl w).alloc _;have X0:=C4.alloc w 71 (.bool l) (.slice kp nk kc) (.slice vp nv vc) (.slice ip ni ic);obtain⟨x0,x1,x2,x3⟩:=X0.cs;have hn:=h.nk;have hf:=g.few;have f:=N.find_walk ((h.kept K0).k) (by omega) key;have hle:=N.fnd_le key x.ks;have HP:plc x key=fnd key x.ks+(if isk key x.ks=true then 1 else 0):=rfl;have hb:fnd key x.ks≤120:=by omega
 have hni:x.is.length=ni:=by have:=h.i.len;rw[N.icl_length]at this;omega
 have hlt:plc x key<ni:=by have:=(List.getElem?_eq_some_iff.1 hc).1;omega
 obtain⟨ib,io,rfl,hcell⟩:∃ ib io,ip=some ⟨ib,io,none⟩∧(w.alloc (.cells #[.bool l,.slice kp nk kc,.slice vp nv vc,.slice ip ni ic] 71)).cell? ⟨ib,io+plc x key,none⟩=some (.int .i64 c):=by
  rcases (h.kept K0).i.out with⟨_,h0⟩|⟨ib,io,e,hh⟩
  ·omega
  ·exact⟨ib,io,e,hh _ _ (N.icl_at hc)⟩
 rw[HP]at hlt hcell;generalize fnd key x.ks=i at *;generalize isk key x.ks=b at *;clear hle hf hn h g hc HP hni;cases b with
 | true=>
  simp only[if_true]at hlt hcell;have hlt2:¬ ((ni:Int)≤(i:Int)+1):=by omega
  go_enter Tryz.func49,Tryz.ntmps49;go_wp2_with (go_at_call 50;(with_reducible refine f.mono ?_);rintro e w1 ⟨rfl,hw1⟩;rw[hw1];clear hw1);go_ret;exact⟨rfl,K0⟩
 | false=>
  simp only[Bool.false_eq_true,if_false,Nat.add_zero]at hlt hcell;have hlt2:¬ ((ni:Int)≤(i:Int)):=by omega
  go_enter Tryz.func49,Tryz.ntmps49;go_wp2_with (go_at_call 50;(with_reducible refine f.mono ?_);rintro e w1 ⟨rfl,hw1⟩;rw[hw1];clear hw1);go_ret;exact⟨rfl,K0⟩
structure St6 (w:World) (b:Nat) (v0 v1 v2 v3:Value) (bl:ByteArray) (last:Bool):Prop where
 out:w.heap[b]? = some (.cells #[v0,v1,v2,v3,.string bl,.bool last] 73)
theorem St6.kept{w w':World}{b:Nat}{v0 v1 v2 v3:Value}{bl:ByteArray}{last:Bool}(h:St6 w b v0 v1 v2 v3 bl last)(k:Kept w w'):St6 w' b v0 v1 v2 v3 bl last:=⟨k.block h.out⟩
theorem St6.set{w:World}{b:Nat}{v0 v1 v2 v3:Value}{bl:ByteArray}{last:Bool}(h:St6 w b v0 v1 v2 v3 bl last)(bl':ByteArray)(last':Bool) :
  St6 ((w.setCell ⟨b,4,none⟩ (.string bl')).setCell ⟨b,5,none⟩ (.bool last')) b v0 v1 v2 v3 bl' last':=by
 have h1:(w.setCell ⟨b,4,none⟩ (.string bl')).heap[b]? = some (.cells #[v0,v1,v2,v3,.string bl',.bool last] 73):=by rw[heap_setCell_same _ b 4 _ _ _ h.out];rfl
 exact⟨by rw[heap_setCell_same _ b 5 _ _ _ h1];rfl⟩
theorem turn_two(w:World)(b i j:Nat)(v u:Value):w.grownBy ((w.setCell ⟨b,i,none⟩ v).setCell ⟨b,j,none⟩ u) (some b):=by
 refine⟨rfl,rfl,rfl,by simp,fun k _ hk=>?_⟩;have hne:k≠b:=fun e=>hk (by rw[e])
 rw[heap_setCell_other _ ⟨b,j,none⟩ k _ hne,heap_setCell_other _ ⟨b,i,none⟩ k _ hne]
theorem drewn_st{w:World}{b:Nat}{v0 v1 v2 v3:Value}{bl:ByteArray}{last:Bool}(h:St6 w b v0 v1 v2 v3 bl last)(nq:Nat):St6 (w.drewN nq) b v0 v1 v2 v3 bl last:=⟨h.out⟩
theorem drewn_grown(w:World)(nq:Nat)(r:Option Nat):w.grownBy (w.drewN nq) r:=⟨rfl,rfl,rfl,Nat.le_refl _,fun _ _ _=>rfl⟩
set_option maxRecDepth 100000 in
set_option maxHeartbeats 2000000 in
theorem narrow_walk{w:World}{b:Nat}{v0 v1 v2 v3:Value}{bl:ByteArray}{last:Bool}(hs:St6 w b v0 v1 v2 v3 bl last){l:Bool}{kp:Option Addr}{nk kc:Nat}{vp:Option Addr}{nv vc:Nat}{ip:Option Addr}{ni ic:Nat}{x:Nd}(h:NV w l kp nk kc vp nv vc ip ni ic x)(g:N.Good x)(key:ByteArray)(hlt:last=false→∀ k,x.ks[plc x key]? = some k→sl k bl=true) :
  Calls Tryz.prog 48 #[.pointer (some ⟨b,0,none⟩),.agg #[.bool l,.slice kp nk kc,.slice vp nv vc,.slice ip ni ic],.string key] w fun e w'=>e=.returned (.tuple #[])∧St6 w' b v0 v1 v2 v3 (nb x key bl) (nl x key last)∧w.grownBy w' (some b):=by
 have K0:Kept w (w.alloc (.cells #[.bool l,.slice kp nk kc,.slice vp nv vc,.slice ip ni ic] 71)):=(Kept.refl w).alloc _;have X0:=C4.alloc w 71 (.bool l) (.slice kp nk kc) (.slice vp nv vc) (.slice ip ni ic);obtain⟨x0,x1,x2,x3⟩:=X0.cs;have hs0:=hs.kept K0;obtain⟨_,_,_,_,c4,c5⟩:=cells6 hs0.out;have fz4:(w.alloc (.cells #[.bool l,.slice kp nk kc,.slice vp nv vc,.slice ip ni ic] 71)).frozen? ⟨b,4,none⟩=false:=frozen_of_row _ b 4 _ _ hs0.out;have fz5:(w.alloc (.cells #[.bool l,.slice kp nk kc,.slice vp nv vc,.slice ip ni ic] 71)).frozen? ⟨b,5,none⟩=false:=frozen_of_row _ b 5 _ _ hs0.out;have hn:=h.nk;have hf:=g.few;have f:=N.find_walk ((h.kept K0).k) (by omega) key;have hle:=N.fnd_le key x.ks;have HP:plc x key=fnd key x.ks+(if isk key x.ks=true then 1 else 0):=rfl;have hpl:=plc_le x key;have hb:fnd key x.ks≤120:=by omega
 have HS0:Hid (St6 (w.alloc (.cells #[.bool l,.slice kp nk kc,.slice vp nv vc,.slice ip ni ic] 71)) b v0 v1 v2 v3 bl last):=hs0;have HG0:Hid (w.grownBy (w.alloc (.cells #[.bool l,.slice kp nk kc,.slice vp nv vc,.slice ip ni ic] 71)) (some b)):=K0.grown _;have h':=h.kept K0;clear hs hs0 K0 X0;by_cases hin:plc x key<nk
 ·obtain⟨k,hk⟩:∃ k,x.ks[plc x key]? = some k:=⟨_,List.getElem?_eq_getElem (by omega)⟩
  have e1:nb x key bl=k:=by simp[nb,hk]
  have e2:nl x key last=false:=by simp[nl,hn,hin]
  rw[e1,e2];obtain⟨kb,ko,rfl,hcell⟩:∃ kb ko,kp=some ⟨kb,ko,none⟩∧(w.alloc (.cells #[.bool l,.slice kp nk kc,.slice vp nv vc,.slice ip ni ic] 71)).cell? ⟨kb,ko+plc x key,none⟩=some (.string k):=by
   rcases h'.k.out with⟨_,h0⟩|⟨ib,io,e,hh⟩
   ·omega
   ·exact⟨ib,io,e,hh _ _ (N.kcl_at hk)⟩
  have hls:last=false→Op.bytesLess k.toList bl.toList=true:=fun hl=>hlt hl k hk
  clear hlt hk e1 e2 hpl hle hf hn h h' g;rw[HP]at hin hcell;generalize fnd key x.ks=i at *;generalize isk key x.ks=bb at *;clear HP;have fin:Hid (∀ nq,St6 ((((w.alloc (.cells #[.bool l,.slice (some ⟨kb,ko,none⟩) nk kc,.slice vp nv vc,.slice ip ni ic] 71)).drewN nq).setCell ⟨b,4,none⟩ (.string k)).setCell ⟨b,5,none⟩ (.bool false)) b v0 v1 v2 v3 k false∧w.grownBy ((((w.alloc (.cells #[.bool l,.slice (some ⟨kb,ko,none⟩) nk kc,.slice vp nv vc,.slice ip ni ic] 71)).drewN nq).setCell ⟨b,4,none⟩ (.string k)).setCell ⟨b,5,none⟩ (.bool false)) (some b)):=fun nq=>⟨(drewn_st HS0.out nq).set k false,(HG0.out.trans (drewn_grown _ nq _)).trans (turn_two _ b 4 5 _ _)⟩
  have fz5':((w.alloc (.cells #[.bool l,.slice (some ⟨kb,ko,none⟩) nk kc,.slice vp nv vc,.slice ip ni ic] 71)).setCell ⟨b,4,none⟩ (.string k)).frozen? ⟨b,5,none⟩=false:=by rw[World.frozen?_setCell];exact fz5
  have c5':((w.alloc (.cells #[.bool l,.slice (some ⟨kb,ko,none⟩) nk kc,.slice vp nv vc,.slice ip ni ic] 71)).setCell ⟨b,4,none⟩ (.string k)).cell? ⟨b,5,none⟩=some (.bool last):=by
   rw[cell_of_row _ b 5 _ _ _ (show ((w.alloc (.cells #[.bool l,.slice (some ⟨kb,ko,none⟩) nk kc,.slice vp nv vc,.slice ip ni ic] 71)).setCell ⟨b,4,none⟩ (.string k)).heap[b]? = some (.cells #[v0,v1,v2,v3,.string k,.bool last] 73) by rw[heap_setCell_same _ b 4 _ _ _ HS0.out.out];rfl)];rfl
  cases bb with
  | true=>
   simp only[if_true]at hin hcell;have hlt2:((i:Int)+1<(nk:Int)):=by omega
   cases last with
   | true=>
    go_enter Tryz.func48,Tryz.ntmps48;go_wp2_with (go_at_call 50;(with_reducible refine f.mono ?_);rintro e w1 ⟨rfl,hw1⟩;rw[hw1];clear hw1);go_quiet (fail);go_wp2;go_end0;exact⟨rfl,fin.out _⟩
   | false=>
    have hls2:=hls rfl;go_enter Tryz.func48,Tryz.ntmps48;go_wp2_with (go_at_call 50;(with_reducible refine f.mono ?_);rintro e w1 ⟨rfl,hw1⟩;rw[hw1];clear hw1);go_quiet (fail);go_wp2;go_end0;exact⟨rfl,fin.out _⟩
  | false=>
   simp only[Bool.false_eq_true,if_false,Nat.add_zero]at hin hcell;have hlt2:((i:Int)<(nk:Int)):=by omega
   cases last with
   | true=>
    go_enter Tryz.func48,Tryz.ntmps48;go_wp2_with (go_at_call 50;(with_reducible refine f.mono ?_);rintro e w1 ⟨rfl,hw1⟩;rw[hw1];clear hw1);go_quiet (fail);go_wp2;go_end0;exact⟨rfl,fin.out _⟩
   | false=>
    have hls2:=hls rfl;go_enter Tryz.func48,Tryz.ntmps48;go_wp2_with (go_at_call 50;(with_reducible refine f.mono ?_);rintro e w1 ⟨rfl,hw1⟩;rw[hw1];clear hw1);go_quiet (fail);go_wp2;go_end0;exact⟨rfl,fin.out _⟩
 ·have e0:x.ks.length≤plc x key:=by omega
  have e1:nb x key bl=bl:=by simp[nb,List.getElem?_eq_none e0]
  have e2:nl x key last=last:=by simp[nl,hn,hin]
  rw[e1,e2];have hpn:plc x key=nk:=by omega
  have fin:Hid (∀ nq,St6 ((w.alloc (.cells #[.bool l,.slice kp nk kc,.slice vp nv vc,.slice ip ni ic] 71)).drewN nq) b v0 v1 v2 v3 bl last∧w.grownBy ((w.alloc (.cells #[.bool l,.slice kp nk kc,.slice vp nv vc,.slice ip ni ic] 71)).drewN nq) (some b)):=fun nq=>⟨drewn_st HS0.out nq,HG0.out.trans (drewn_grown _ nq _)⟩
  clear hlt e0 e1 e2 hpl hle hf hn h h' g hin;rw[HP]at hpn;generalize fnd key x.ks=i at *;generalize isk key x.ks=bb at *;clear HP;cases bb with
  | true=>
   simp only[if_true]at hpn;subst hpn;go_enter Tryz.func48,Tryz.ntmps48;go_wp2_with (go_at_call 50;(with_reducible refine f.mono ?_);rintro e w1 ⟨rfl,hw1⟩;rw[hw1];clear hw1);go_quiet (fail);go_wp2;go_end0;exact⟨rfl,fin.out _⟩
  | false=>
   simp only[Bool.false_eq_true,if_false,Nat.add_zero]at hpn;subst hpn;go_enter Tryz.func48,Tryz.ntmps48;go_wp2_with (go_at_call 50;(with_reducible refine f.mono ?_);rintro e w1 ⟨rfl,hw1⟩;rw[hw1];clear hw1);go_quiet (fail);go_wp2;go_end0;exact⟨rfl,fin.out _⟩
open B (fm con Wf)
open N (Nw)
structure Rd (M:Pm) (root:Int) (l:List En) (Z:List Mk):Prop where
 out:(root=-1∧l=[]∧Z=[])∨∃ d n:Nat,root=(n:Int)∧d≤10∧Wf M d n∧Z.Pairwise R∧fm M d n=Z∧con Z=l
theorem size73:(Tryz.prog.info? 73).map (·.size)=some 6:=by kernel_rfl
theorem st6_fill{W:World}{b:Nat}{c0 c1 c2 c3 c4 c5:Value}{t:TypeId}(h0:W.heap[b]? = some (.cells #[c0,c1,c2,c3,c4,c5] t))(v0 v1 v2 v3:Value) :
  (W.cell? ⟨b,0,none⟩=some c0∧W.frozen? ⟨b,0,none⟩=false) ∧
  ((W.setCell ⟨b,0,none⟩ v0).cell? ⟨b,1,none⟩=some c1∧(W.setCell ⟨b,0,none⟩ v0).frozen? ⟨b,1,none⟩=false) ∧
  (((W.setCell ⟨b,0,none⟩ v0).setCell ⟨b,1,none⟩ v1).cell? ⟨b,2,none⟩=some c2∧((W.setCell ⟨b,0,none⟩ v0).setCell ⟨b,1,none⟩ v1).frozen? ⟨b,2,none⟩=false) ∧
  ((((W.setCell ⟨b,0,none⟩ v0).setCell ⟨b,1,none⟩ v1).setCell ⟨b,2,none⟩ v2).cell? ⟨b,3,none⟩=some c3∧(((W.setCell ⟨b,0,none⟩ v0).setCell ⟨b,1,none⟩ v1).setCell ⟨b,2,none⟩ v2).frozen? ⟨b,3,none⟩=false) ∧
  ((((W.setCell ⟨b,0,none⟩ v0).setCell ⟨b,1,none⟩ v1).setCell ⟨b,2,none⟩ v2).setCell ⟨b,3,none⟩ v3).heap[b]? = some (.cells #[v0,v1,v2,v3,c4,c5] t):=by
 have h1:(W.setCell ⟨b,0,none⟩ v0).heap[b]? = some (.cells #[v0,c1,c2,c3,c4,c5] t):=by rw[heap_setCell_same _ b 0 _ _ _ h0];rfl
 have h2:((W.setCell ⟨b,0,none⟩ v0).setCell ⟨b,1,none⟩ v1).heap[b]? = some (.cells #[v0,v1,c2,c3,c4,c5] t):=by rw[heap_setCell_same _ b 1 _ _ _ h1];rfl
 have h3:(((W.setCell ⟨b,0,none⟩ v0).setCell ⟨b,1,none⟩ v1).setCell ⟨b,2,none⟩ v2).heap[b]? = some (.cells #[v0,v1,v2,c3,c4,c5] t):=by rw[heap_setCell_same _ b 2 _ _ _ h2];rfl
 have h4:((((W.setCell ⟨b,0,none⟩ v0).setCell ⟨b,1,none⟩ v1).setCell ⟨b,2,none⟩ v2).setCell ⟨b,3,none⟩ v3).heap[b]? = some (.cells #[v0,v1,v2,v3,c4,c5] t):=by rw[heap_setCell_same _ b 3 _ _ _ h3];rfl
 exact⟨⟨by rw[cell_of_row _ b 0 _ _ _ h0];rfl,frozen_of_row _ b 0 _ _ h0⟩,⟨by rw[cell_of_row _ b 1 _ _ _ h1];rfl,frozen_of_row _ b 1 _ _ h1⟩,⟨by rw[cell_of_row _ b 2 _ _ _ h2];rfl,frozen_of_row _ b 2 _ _ h2⟩,⟨by rw[cell_of_row _ b 3 _ _ _ h3];rfl,frozen_of_row _ b 3 _ _ h3⟩,h4⟩
theorem nv_nil(w:World):NV w false none 0 0 none 0 0 none 0 0 ⟨false,[],[],[]⟩:=
 ⟨rfl,⟨rfl,Nat.le_refl _,Nat.zero_le _,.inl ⟨rfl,rfl⟩⟩,⟨rfl,Nat.le_refl _,Nat.zero_le _,.inl ⟨rfl,rfl⟩⟩,⟨rfl,Nat.le_refl _,Nat.zero_le _,.inl ⟨rfl,rfl⟩⟩,⟨(fun b off ph h=>by cases h),fun _=>rfl⟩,⟨(fun b off ph h=>by cases h),fun _=>rfl⟩,⟨(fun b off ph h=>by cases h),fun _=>rfl⟩⟩
theorem st4_grown(w:World)(b:Nat)(v0 v1 v2 v3:Value):w.grownBy ((((w.setCell ⟨b,0,none⟩ v0).setCell ⟨b,1,none⟩ v1).setCell ⟨b,2,none⟩ v2).setCell ⟨b,3,none⟩ v3) (some b):=
 ⟨rfl,rfl,rfl,by simp,fun k _ hk=>N.others4 w (fun e=>hk (by rw[e])) v0 v1 v2 v3⟩
theorem st6_grown(w:World)(b:Nat)(v0 v1 v2 v3 v4 v5:Value):w.grownBy ((((((w.setCell ⟨b,0,none⟩ v0).setCell ⟨b,1,none⟩ v1).setCell ⟨b,2,none⟩ v2).setCell ⟨b,3,none⟩ v3).setCell ⟨b,4,none⟩ v4).setCell ⟨b,5,none⟩ v5) (some b):=
 (st4_grown w b v0 v1 v2 v3).trans (turn_two _ b 4 5 v4 v5)
def SkPost (l:List En) (Z:List Mk) (key:ByteArray) (w:World) (e:Ending) (w':World):Prop:=
 ∃ lf kp nk kc vp nv vc ip ni ic x bl last,e=.returned (.tuple #[.agg #[.bool lf,.slice kp nk kc,.slice vp nv vc,.slice ip ni ic,.string bl,.bool last],.int .i64 0])∧NV w' lf kp nk kc vp nv vc ip ni ic x∧(N.Up x.ks∧x.ks.length≤120)∧Sek l Z key x bl last∧Kept w w'
set_option maxRecDepth 100000 in
set_option maxHeartbeats 1000000 in
theorem seek_nil{w:World}{t p:Nat}{key:ByteArray}(hT:TAt w t p (-1)):Calls Tryz.prog 25 #[.pointer (some ⟨t,0,none⟩),.string key] w (SkPost [] [] key w):=by
 have k1:Kept w (w.alloc (.cells #[.bool false,.slice none 0 0,.slice none 0 0,.slice none 0 0,.string ⟨#[]⟩,.bool false] 73)):=(Kept.refl w).alloc _;have k2:Kept w ((w.alloc (.cells #[.bool false,.slice none 0 0,.slice none 0 0,.slice none 0 0,.string ⟨#[]⟩,.bool false] 73)).alloc (.cells #[.bool false,.slice none 0 0,.slice none 0 0,.slice none 0 0,.string ⟨#[]⟩,.bool true] 73)):=k1.alloc _;have R0:(w.alloc (.cells #[.bool false,.slice none 0 0,.slice none 0 0,.slice none 0 0,.string ⟨#[]⟩,.bool false] 73)).heap[w.heap.size]? = some (.cells #[.bool false,.slice none 0 0,.slice none 0 0,.slice none 0 0,.string ⟨#[]⟩,.bool false] 73):=heap_alloc_new w _;have R1:=((Kept.refl _).alloc (.cells #[.bool false,.slice none 0 0,.slice none 0 0,.slice none 0 0,.string ⟨#[]⟩,.bool true] 73)).block R0;obtain⟨⟨a0,f0⟩,⟨a1,f1⟩,⟨a2,f2⟩,⟨a3,f3⟩,⟨a4,f4⟩,⟨a5,f5⟩,hfin⟩:=ready6 R1 (.bool false) (.slice none 0 0) (.slice none 0 0) (.slice none 0 0) (.string ⟨#[]⟩) (.bool true);have fr:=root_walk (hT.kept k2);have HK:Hid (Kept w ((w.alloc (.cells #[.bool false,.slice none 0 0,.slice none 0 0,.slice none 0 0,.string ⟨#[]⟩,.bool false] 73)).alloc (.cells #[.bool false,.slice none 0 0,.slice none 0 0,.slice none 0 0,.string ⟨#[]⟩,.bool true] 73))):=k2;clear hT k1 R0 R1;go_enter Tryz.func25,Tryz.ntmps25;go_wp2_with (go_at_call 16;(with_reducible refine fr.mono ?_);rintro e w1 ⟨rfl,hw1⟩;rw[hw1];clear hw1);have ka:Kept w (w.alloc (.cells #[.bool false,.slice none 0 0,.slice none 0 0,.slice none 0 0,.string ⟨#[]⟩,.bool true] 73)):=(Kept.refl w).alloc _
 have q2:=ka.alloc (.cells #[.bool false,.slice none 0 0,.slice none 0 0,.slice none 0 0,.string ⟨#[]⟩,.bool true] 73);have hf2:=((Kept.refl _).alloc (.cells #[.bool false,.slice none 0 0,.slice none 0 0,.slice none 0 0,.string ⟨#[]⟩,.bool true] 73)).block (heap_alloc_new w (.cells #[.bool false,.slice none 0 0,.slice none 0 0,.slice none 0 0,.string ⟨#[]⟩,.bool true] 73));refine bodyPost_ret (v:=.tuple #[.agg #[.bool false,.slice none 0 0,.slice none 0 0,.slice none 0 0,.string ⟨#[]⟩,.bool true],.int .i64 0]) ?_ rfl ⟨_,_,_,_,_,_,_,_,_,_,_,_,_,rfl,nv_nil _,⟨List.Pairwise.nil,Nat.zero_le _⟩,⟨.inl ⟨rfl,rfl⟩,(fun h=>by cases h),rfl⟩,q2⟩;exact N.results_two (p:=4) (u:=5) (ty:=73) rfl _ _ w.heap.size 73 #[.bool false,.slice none 0 0,.slice none 0 0,.slice none 0 0,.string ⟨#[]⟩,.bool true] (0,0) _ rfl hf2 Tryz.underlying73 rfl size73
structure Sq (w wx:World) (M:Pm) (key:ByteArray) (Z:List Mk) (d n:Nat) (bl:ByteArray) (last:Bool):Prop where
 ps:∃ x,Ps M key Z d n x bl last
 k:Kept w wx
 res:wx.heap[w.heap.size]? = some (.cells #[.bool false,.slice none 0 0,.slice none 0 0,.slice none 0 0,.string ⟨#[]⟩,.bool false] 73)
 st:St6 wx (w.heap.size+1) (.bool false) (.slice none 0 0) (.slice none 0 0) (.slice none 0 0) bl last
set_option maxRecDepth 100000 in
set_option maxHeartbeats 2000000 in
theorem seek_some{B:Nat}{w:World}{t p m d n:Nat}{M:Pm}{key:ByteArray}{Z:List Mk}(hT:TAt w t p (n:Nat))(hV:Pv B w p m M)(hd:d≤10)(hw:Wf M d n)(ho:Z.Pairwise R)(hz:fm M d n=Z) :
  Calls Tryz.prog 25 #[.pointer (some ⟨t,0,none⟩),.string key] w (SkPost (con Z) Z key w):=by
 have k1:Kept w (w.alloc (.cells #[.bool false,.slice none 0 0,.slice none 0 0,.slice none 0 0,.string ⟨#[]⟩,.bool false] 73)):=(Kept.refl w).alloc _;have k2:Kept w ((w.alloc (.cells #[.bool false,.slice none 0 0,.slice none 0 0,.slice none 0 0,.string ⟨#[]⟩,.bool false] 73)).alloc (.cells #[.bool false,.slice none 0 0,.slice none 0 0,.slice none 0 0,.string ⟨#[]⟩,.bool true] 73)):=k1.alloc _;have R0:(w.alloc (.cells #[.bool false,.slice none 0 0,.slice none 0 0,.slice none 0 0,.string ⟨#[]⟩,.bool false] 73)).heap[w.heap.size]? = some (.cells #[.bool false,.slice none 0 0,.slice none 0 0,.slice none 0 0,.string ⟨#[]⟩,.bool false] 73):=heap_alloc_new w _;have R1:=((Kept.refl _).alloc (.cells #[.bool false,.slice none 0 0,.slice none 0 0,.slice none 0 0,.string ⟨#[]⟩,.bool true] 73)).block R0;have S1:((w.alloc (.cells #[.bool false,.slice none 0 0,.slice none 0 0,.slice none 0 0,.string ⟨#[]⟩,.bool false] 73)).alloc (.cells #[.bool false,.slice none 0 0,.slice none 0 0,.slice none 0 0,.string ⟨#[]⟩,.bool true] 73)).heap[w.heap.size+1]? = some (.cells #[.bool false,.slice none 0 0,.slice none 0 0,.slice none 0 0,.string ⟨#[]⟩,.bool true] 73):=D.two_new w _ _;have Q1:Hid (Sq w ((w.alloc (.cells #[.bool false,.slice none 0 0,.slice none 0 0,.slice none 0 0,.string ⟨#[]⟩,.bool false] 73)).alloc (.cells #[.bool false,.slice none 0 0,.slice none 0 0,.slice none 0 0,.string ⟨#[]⟩,.bool true] 73)) M key Z d n ⟨#[]⟩ true):=⟨by subst hz;exact Ps.start hw ho,k2,R1,⟨S1⟩⟩;have fr:=root_walk (hT.kept k2)
 have HT:Hid (TAt w t p (n:Nat)):=hT;have HV:Hid (Pv B w p m M):=hV;have hneg:¬ (n:Int)=-1:=by omega
 clear hT hV k1 k2 R0 R1 S1 hw ho hz;go_enter Tryz.func25,Tryz.ntmps25;go_wp2_with (go_at_call 16;(with_reducible refine fr.mono ?_);rintro e w1 ⟨rfl,hw1⟩;rw[hw1];clear hw1);go_loopg [7,16] d (fun gg nv iv wx=>∃ (i n dd:Nat) (bl:ByteArray) (last:Bool),nv=.int .i64 (n:Nat)∧iv=.int .i64 (i:Nat)∧Hid (gg=dd)∧i+dd=d∧Hid (Sq w wx M key Z dd n bl last));case atStart=>exact⟨0,n,d,_,_,rfl,rfl,rfl,by omega,Q1⟩
 case round=>
  obtain⟨i,n,dd,bl,last,rfl,rfl,hg,hi,S⟩:=hrel;clear Q1 fr hneg;obtain⟨x,hps⟩:=S.out.ps;have HN:=node_walk (HT.out.kept S.out.k) (HV.out.kept S.out.k) hps.mem hps.good hps.up _ hps.leaf;have HPs:Hid (Ps M key Z dd n x bl last):=hps;have hi16:(i:Int)<16384:=by omega
  have hi11:i≤10:=by omega
  clear hps;cases dd with
  | zero=>
   have hdt:decide (0=0)=true:=rfl;rw[hdt]at HN;clear hdt;go_wp2_with (go_at_call 47;(with_reducible refine HN.mono ?_);rintro e w1 ⟨kp,nk,kc,vp,nv,vc,ip,ni,ic,rfl,N1,k1,_⟩;have k2:Kept w1 (w1.alloc (.cells #[.bool true,.slice kp nk kc,.slice vp nv vc,.slice ip ni ic] 71)):=(Kept.refl w1).alloc _;have N2:=N1.kept k2;have X2:=C4.alloc w1 71 (.bool true) (.slice kp nk kc) (.slice vp nv vc) (.slice ip ni ic);have kw:=k1.trans k2;have K2:=S.out.k.trans kw;have S2:=S.out.st.kept kw;have R2:=kw.block S.out.res;obtain⟨y0,y1,y2,y3⟩:=X2.cs;obtain⟨⟨s0,t0⟩,⟨s1,t1⟩,⟨s2,t2⟩,⟨s3,t3⟩,sfin⟩:=st6_fill S2.out (.bool true) (.slice kp nk kc) (.slice vp nv vc) (.slice ip ni ic);obtain⟨q0,q1,q2,q3,q4,q5⟩:=cells6 sfin;have R3:=(N.others4 (w1.alloc (.cells #[.bool true,.slice kp nk kc,.slice vp nv vc,.slice ip ni ic] 71)) (b:=w.heap.size+1) (k:=w.heap.size) (by omega) (.bool true) (.slice kp nk kc) (.slice vp nv vc) (.slice ip ni ic)).trans R2;obtain⟨⟨a0,f0⟩,⟨a1,f1⟩,⟨a2,f2⟩,⟨a3,f3⟩,⟨a4,f4⟩,⟨a5,f5⟩,hfin⟩:=ready6 R3 (.bool true) (.slice kp nk kc) (.slice vp nv vc) (.slice ip ni ic) (.string bl) (.bool last);have n4:=nv_turn (ty:=73) (st4_grown (w1.alloc (.cells #[.bool true,.slice kp nk kc,.slice vp nv vc,.slice ip ni ic] 71)) (w.heap.size+1) (.bool true) (.slice kp nk kc) (.slice vp nv vc) (.slice ip ni ic)) (fun b e=>(by cases e;exact⟨_,_,S2.out⟩)) (by decide) (by decide) (by decide) N2;have n6:=nv_turn (ty:=73) (st6_grown _ w.heap.size (.bool true) (.slice kp nk kc) (.slice vp nv vc) (.slice ip ni ic) (.string bl) (.bool last)) (fun b e=>(by cases e;exact⟨_,_,R3⟩)) (by decide) (by decide) (by decide) n4;have K6:=(((K2.st4 (b:=w.heap.size+1) (by omega) (.bool true) (.slice kp nk kc) (.slice vp nv vc) (.slice ip ni ic)).st4 (b:=w.heap.size) (Nat.le_refl _) (.bool true) (.slice kp nk kc) (.slice vp nv vc) (.slice ip ni ic)).set (a:=⟨w.heap.size,4,none⟩) (Nat.le_refl _) (.string bl)).set (a:=⟨w.heap.size,5,none⟩) (Nat.le_refl _) (.bool last);clear HN n4 N2 N1)
   have q1:=n6;have q2:=K6;clear n6 K6;generalize ((((((World.setCell _ ⟨w.heap.size,0,none⟩ (.bool true)).setCell ⟨w.heap.size,1,none⟩ (.slice kp nk kc)).setCell ⟨w.heap.size,2,none⟩ (.slice vp nv vc)).setCell ⟨w.heap.size,3,none⟩ (.slice ip ni ic)).setCell ⟨w.heap.size,4,none⟩ (.string bl)).setCell ⟨w.heap.size,5,none⟩ (.bool last))=WF at hfin q1 q2 ⊢;refine bodyPost_ret (v:=.tuple #[.agg #[.bool true,.slice kp nk kc,.slice vp nv vc,.slice ip ni ic,.string bl,.bool last],.int .i64 0]) ?_ rfl ⟨_,_,_,_,_,_,_,_,_,_,x,_,_,rfl,q1,⟨HPs.out.up,HPs.out.good.few⟩,HPs.out.end_,q2⟩;exact N.results_two (p:=4) (u:=5) (ty:=73) rfl _ _ w.heap.size 73 #[.bool true,.slice kp nk kc,.slice vp nv vc,.slice ip ni ic,.string bl,.bool last] (0,0) _ rfl hfin Tryz.underlying73 rfl size73
  | succ dd=>
   have hdt:decide (dd+1=0)=false:=by simp
   rw[hdt]at HN;clear hdt;obtain⟨c,y,hcx,hpy⟩:=HPs.out.next;have HC:Hid (x.is[plc x key]? = some (c:Int)):=hcx;have HPy:Hid (Ps M key Z dd c y (nb x key bl) (nl x key last)):=hpy;have hsb:w.heap.size+1<wr.heap.size:=(Array.getElem?_eq_some_iff.1 S.out.st.out).1;clear hcx hpy;go_wp2_with (first
    | (go_at_call 47;(with_reducible refine HN.mono ?_);rintro e w1 ⟨kp,nk,kc,vp,nv,vc,ip,ni,ic,rfl,N1,k1,_⟩;have k2:Kept w1 (w1.alloc (.cells #[.bool false,.slice kp nk kc,.slice vp nv vc,.slice ip ni ic] 71)):=(Kept.refl w1).alloc _;have N2:=N1.kept k2;have X2:=C4.alloc w1 71 (.bool false) (.slice kp nk kc) (.slice vp nv vc) (.slice ip ni ic);have kw:=k1.trans k2;have K2:=S.out.k.trans kw;have S2:=S.out.st.kept kw;have R2:=kw.block S.out.res;obtain⟨y0,y1,y2,y3⟩:=X2.cs;have FN:=narrow_walk S2 N2 HPs.out.good key (fun e k hk=>(by subst e;exact HPs.out.below hk));have hs1:=k1.size;clear HN N1)
    | (go_at_call 48;(with_reducible refine FN.mono ?_);rintro e w3 ⟨rfl,S3,g3⟩;have N3:=nv_turn (ty:=73) g3 (fun b e=>(by cases e;exact⟨_,_,S2.out⟩)) (by decide) (by decide) (by decide) N2;have X3:=X2.grown g3 (by simp;omega);have K3:=N.grown_kept w K2 g3 (Nat.le_refl _) (fun b e=>(by cases e;omega));have R3:=(g3.block w.heap.size (Array.getElem?_eq_some_iff.1 R2).1 (by simp)).trans R2;obtain⟨z0,z1,z2,z3⟩:=X3.cs;have FK:=kid_walk N3 HPs.out.good key _ HC.out;clear FN N2 X2 y0 y1 y2 y3)
    | (go_at_call 49;(with_reducible refine FK.mono ?_);rintro e w4 ⟨rfl,k4⟩;have S4:Hid (Sq w w4 M key Z dd c (nb x key bl) (nl x key last)):=⟨⟨y,HPy.out⟩,K3.trans k4,k4.block R3,S3.kept k4⟩;clear FK))
   go_roundg dd;case measure=>rw[hg.out];omega
   case rel=>exact⟨i+1,c,dd,_,_,rfl,by go_num,rfl,by omega,S4⟩
theorem seek_walk{B:Nat}{w:World}{t p m:Nat}{root:Int}{M:Pm}{l:List En}{Z:List Mk}(hT:TAt w t p root)(hV:Pv B w p m M)(hR:Rd M root l Z)(key:ByteArray) :
  Calls Tryz.prog 25 #[.pointer (some ⟨t,0,none⟩),.string key] w (SkPost l Z key w):=by
 rcases hR.out with⟨rfl,rfl,rfl⟩|⟨d,n,rfl,hd,hw,ho,hz,rfl⟩
 ·exact seek_nil hT
 ·exact seek_some hT hV hd hw ho hz
end Go.Proofs.YtafgecaeiodmiaaGreatDoor.T