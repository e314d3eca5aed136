/- Joined. -/
import Derived.Test.YtifeihnhkbagpaaGreatDoorZbq
import Derived.Laws.EntriesVeiled
set_option maxRecDepth 100000
set_option maxHeartbeats 4000000
namespace Go.Proofs.YtifeihnhkbagpaaGreatDoor.T
open ChangeShapes WideShapes ChangeAt RowKit
open B (Pm)
open N (Nd NV Rw Rx Own Kept dQ Vl C4 C3 Up)
theorem zM(W:World)(s:Option Addr)(d:ByteArray)(l:Int):
 Calls Tryz.prog 75 #[.pointer s,.agg #[.string d,.int .i64 (-1),.int .i64 l]] W fun e w'=>e=.returned (.int .i64 0)/\Kept W w':=by
 have ka:Kept W (W.alloc (.cells #[.string d,.int .i64 (-1),.int .i64 l] 77)):=(Kept.refl W).alloc _;obtain⟨x0,x1,x2⟩:=(C3.alloc W 77 (.string d) (.int .i64 (-1)) (.int .i64 l)).cs;go_enter Tryz.func75,Tryz.ntmps75;go_wp2;go_ret;exact⟨rfl,ka⟩
theorem TA:G.Calm 186:=by unfold G.Calm D.Calm;decide
theorem Ym:(Tryz.prog.info? 3).map (fun i=>(i.zero,i.size,i.bytes))=some (some (.int .i64 0),1,8):=by kernel_rfl
abbrev uU (s:Nat):Value:=.func (.func 75) #[.pointer (some ⟨s,0,none⟩)] #[]
variable {B t p s:Nat}{I:World->Prop}{W:World}{root:Int}{M:Pm}
theorem EB{S:Nat}{w0:World}{bw bm:Nat}(Cq:VX B S p I M)(hB:B<=w0.heap.size)(hT:dI W t p root)(hC:Ct B S I w0 W)(H:C4 W bw 186 (.pointer (some ⟨t,0,none⟩)) (uU s) (.map (some bm)) (.slice none 0 0))(hM:MS W bm (fun _=>false))(hS:S<=bm)(hbw:w0.heap.size<=bw)(hbm:w0.heap.size<=bm){n:Nat}{y:Nd}(hy:M n=some y)(hg:N.Good y)(hu:Up y.ks)(hl:y.leaf=true)(hv:∀ v∈y.vs,v.p=-1)(hn:n<1024):
 Calls Tryz.prog 105 #[.pointer (some ⟨bw,0,none⟩),.int .i64 n] W fun e w'=>e=.returned (.int .i64 0)/\(∃ q c,C4 w' bw 186 (.pointer (some ⟨t,0,none⟩)) (uU s) (.map (some bm)) (.slice q 1 c)/\Rw w' 1 q 1 c [.int .i64 n])/\Ct B S I w0 w':=by
 obtain⟨i3,hi3,hz0,hz1,hz2⟩:=info_parts Ym;have hi:=(hg.lv hl).2;obtain⟨c0,c1,c2,c3⟩:=H.cs;have hlk:=hM.look n (by omega);have k1:Kept W (W.alloc (.cells #[] 227)):=(Kept.refl W).alloc _;have H1:=H.kept k1;have M1:MS (W.alloc (.cells #[] 227)) bm (fun _=>false):=hM.same (k1.out.block _ hM.lt);obtain⟨es,cc,hmap⟩:=M1.block;obtain⟨W2,aec,m2,o2⟩:=M1.store n hn;have C2:=(hC.kept Cq.stay hB k1).one Cq.stay hB o2 hmap hS hbm;have H2:C4 W2 bw 186 (.pointer (some ⟨t,0,none⟩)) (uU s) (.map (some bm)) (.slice none 0 0):=⟨(o2.block _ (G.fM H1.out hmap)).trans H1.out⟩;have T2:dI W2 t p root:=⟨(o2.block _ (G.fM (hT.kept k1).out hmap)).trans (hT.kept k1).out⟩;obtain⟨d0,d1,d2,d3⟩:=H1.cs;obtain⟨e0,e1,e2,e3⟩:=H2.cs;have HN:=Jh Cq T2 C2.i (aad hB C2.size) hy hg hu true hl;have BU:Hid (Ct B S I w0 W2):=C2;have HH2:Hid (C4 W2 bw 186 (.pointer (some ⟨t,0,none⟩)) (uU s) (.map (some bm)) (.slice none 0 0)):=H2;have WC:Hid (y.is=[]):=hi;have HV1:Hid _:=hv;have aaR:Hid (y.vs.length<=120):=by have a:=(hg.lv hl).1;have b:=hg.few;show _<=_;omega
 have HB:Hid (B<=w0.heap.size/\w0.heap.size<=bw):=⟨hB,hbw⟩;have Yn:Hid (mZ S I):=Cq.stay;clear hT hC hM H H1 M1 hmap m2 o2 C2 H2 T2 hy hg hu hl hi hv k1 Cq hB hS hbw hbm;go_enter Tryz.func105,Tryz.ntmps105;go_wp2_with (go_at_call 94;(with_reducible refine HN.mono ?_);rintro e w3 ⟨kp,nk,kc,vp,nv,vc,ip,ni,ic,rfl,N3,k3,ZW⟩;have k4:Kept w3 (w3.alloc (.cells #[.bool true,.slice kp nk kc,.slice vp nv vc,.slice ip ni ic] 121)):=(Kept.refl w3).alloc _;have N4:=N3.kept k4;have X4:=C4.alloc w3 121 (.bool true) (.slice kp nk kc) (.slice vp nv vc) (.slice ip ni ic);obtain⟨y0,y1,y2,y3⟩:=X4.cs;have OO:=(BU.out.trans k3).kept Yn.out HB.out.1 k4;have H4:=(Gt HH2.out k3.f.on TA).kept k4;clear HN N3 ZW k3 k4);have Nn:y.vs.length=nv:=by have:=N4.v.len;rw[N.iL]at this;omega
 have hni:ni=0:=by have:=N4.i.len;rw[N.yt,WC.out]at this;simp at this;omega
 subst hni;have RV:=N4.v;have hX4:=X4.out;generalize w3.alloc (.cells #[.bool true,.slice kp nk kc,.slice vp nv vc,.slice ip 0 ic] 121)=W4 at *;have hhb:Hid (W4.heap[w3.heap.size]? = some (.cells #[.bool true,.slice kp nk kc,.slice vp nv vc,.slice ip 0 ic] 121)):=hX4;have HC4:Hid (Ct B S I w0 W4):=OO;have HH4:Hid (C4 W4 bw 186 (.pointer (some ⟨t,0,none⟩)) (uU s) (.map (some bm)) (.slice none 0 0)):=H4;have HRV:Hid (Rw W4 3 vp nv vc (dQ y.vs)):=RV;have HNV:Hid (y.vs.length=nv):=Nn;have aaS:nv<=120:=by have:=aaR.out;omega
 clear Nn OO H4 RV N4 X4 hX4 BU HH2 WC;go_loopg [46] nv (fun gg iv wx=>∃ i:Nat,iv=.int .i64 i/\Hid (gg=nv-i)/\i<=nv/\Hid (Kept W4 wx));case atStart=>exact⟨0,rfl,rfl,aag _,Kept.refl _⟩
 case round=>
  obtain⟨i,rfl,Ra,hin,KI⟩:=hrel;have hbx:=KI.out.block hhb.out;obtain⟨z0,z1,z2,z3⟩:=(C4.mk hbx).cs;by_cases h1:(i:Int)<(nv:Int)
  ·obtain⟨v,hv⟩:∃ v,y.vs[i]? = some v:=⟨_,aae (by rw[HNV.out];omega)⟩
   have hvp:=HV1.out v (aak hv);obtain⟨vd,vq,vl⟩:=v;dsimp only at hvp;subst hvp;obtain⟨vb,vo,rfl,hv0,hv1,hv2⟩:∃ vb vo,vp=some ⟨vb,vo,none⟩/\wr.cell? ⟨vb,vo+i*3,none⟩=some (.string vd)/\wr.cell? ⟨vb,vo+i*3+1,none⟩=some (.int .i64 (-1))/\wr.cell? ⟨vb,vo+i*3+2,none⟩=some (.int .i64 vl):=by
    rcases HRV.out.out with⟨_,h0⟩|⟨ib,io,e,hh⟩
    ·omega
    ·have hcell:∀ j u,(dQ y.vs)[j]? = some u->wr.cell? ⟨ib,io+j,none⟩=some u:=fun j u hu=>KI.out.cell (hh j u hu)
     obtain⟨a0,a1,a2⟩:=N.sw hv;exact⟨ib,io,e,hcell _ _ a0,by have:=hcell _ _ a1;rwa [<- Nat.add_assoc]at this,by have:=hcell _ _ a2;rwa [<- Nat.add_assoc]at this⟩
   have ka:Kept wr (wr.alloc (.cells #[.string vd,.int .i64 (-1),.int .i64 vl] 77)):=(Kept.refl wr).alloc _;have HKA:Hid (Kept W4 (wr.alloc (.cells #[.string vd,.int .i64 (-1),.int .i64 vl] 77))):=KI.out.trans ka;have X3:=C3.alloc wr 77 (.string vd) (.int .i64 (-1)) (.int .i64 vl);clear hv hbx z0 z1 z2 z3 KI;go_upto_region 11 with fail
   go_cut [11] from 50 to 56 (fun rv wx=>rv=.int .i64 0/\Hid (Kept W4 wx))
   case first=>
    have HSA:Hid (∀ W',Kept (wr.alloc (.cells #[.string vd,.int .i64 (-1),.int .i64 vl] 77)) W'->W'.cell? ⟨bw,1,none⟩=some (uU s)/\W'.cell? ⟨wr.heap.size,0,none⟩=some (.string vd)/\W'.cell? ⟨wr.heap.size,1,none⟩=some (.int .i64 (-1))/\W'.cell? ⟨wr.heap.size,2,none⟩=some (.int .i64 vl)):=fun W' hW=>by
     have h1:=((HH4.out.kept HKA.out).kept hW).cs.2.1;obtain⟨h2,h3,h4⟩:=(X3.kept hW).cs;exact⟨h1,h2,h3,h4⟩
    have KD:Kept (wr.alloc (.cells #[.string vd,.int .i64 (-1),.int .i64 vl] 77)) (wr.alloc (.cells #[.string vd,.int .i64 (-1),.int .i64 vl] 77)).drew:=(Kept.refl _).drew;have fe:=zM ((wr.alloc (.cells #[.string vd,.int .i64 (-1),.int .i64 vl] 77)).drew) (some ⟨s,0,none⟩) vd vl;clear X3 ka;go_region_held3 (fun W'=>W'.cell? ⟨bw,1,none⟩=some (.func (.func 75) #[.pointer (some ⟨s,0,none⟩)] #[])/\W'.cell? ⟨wr.heap.size,0,none⟩=some (.string vd)/\W'.cell? ⟨wr.heap.size,1,none⟩=some (.int .i64 (-1))/\W'.cell? ⟨wr.heap.size,2,none⟩=some (.int .i64 vl)) (exact HSA.out _ (by assumption)) (first
     | (go_at_call 75;(with_reducible refine fe.mono ?_);rintro e v1 ⟨rfl,g1⟩;have J1:=KD.trans g1;clear g1 KD fe))
    all_goals (go_wp2_with fail)
    all_goals go_meet
    all_goals exact⟨rfl,HKA.out.trans J1⟩
   case rest=>
    obtain⟨rfl,K5⟩:=hcut;clear HKA ka X3;go_wp2;go_roundg (nv-(i+1));case measure=>rw[Ra.out];omega
    case rel=>exact⟨i+1,by go_num,rfl,by omega,K5⟩
  ·have ka:Kept wr (wr.alloc (.cells #[.int .i64 n] 3)):=(Kept.refl wr).alloc _
   have H5:=HH4.out.kept KI.out;obtain⟨q0,q1,q2,q3⟩:=H5.cs;have C5:=(HC4.out.kept Yn.out HB.out.1 KI.out).kept Yn.out HB.out.1 ka;have HC5:Hid (Ct B S I w0 (wr.alloc (.cells #[.int .i64 n] 3))):=C5;have H6:=H5.kept ka;have HH6:Hid (C4 (wr.alloc (.cells #[.int .i64 n] 3)) bw 186 (.pointer (some ⟨t,0,none⟩)) (uU s) (.map (some bm)) (.slice none 0 0)):=H6;clear KI hbx C5 H5;go_upto_region 16 with fail
   refine wp_loop_rounds 1 ?_;rw[rounds_succ];go_wp2_with (at_builtin;refine wpList_append_own _ rfl _ _ 94 rfl (wr.alloc (.cells #[.int .i64 n] 3)).heap.size 3 i3 (.int .i64 0) 1 8 Tryz.underlying94 hi3 hz0 hz1 hz2 rfl (by decide) (.slice none 0 0) 0 [] rfl (World.ownsRow_nil _ _ _ _) _ 1 1 [.int .i64 n] rfl rfl (N.one_cell _ _ _) (N.one_one _ _) (by unfold maxLen;omega) (by omega) (aac _) ?_;intro v' w5 hown hgrow _;obtain⟨q,c,rfl⟩:=aF hown;have O5:Own w5 (wr.alloc (.cells #[.int .i64 n] 3)).heap.size 3 1 q 1 c [.int .i64 n]:=⟨hown⟩;have H7:C4 w5 bw 186 (.pointer (some ⟨t,0,none⟩)) (uU s) (.map (some bm)) (.slice none 0 0):=HH6.out.grown hgrow (by simp[Value.ownBlock]);have C7:=HC5.out.grown Yn.out HB.out.1 hgrow (fun b e=>by simp[Value.ownBlock]at e);obtain⟨r0,r1,r2,r3⟩:=H7.cs;have rf:=H7.fz 3;have H8:=H7.ui (.slice q 1 c);have O8:=O5.far ⟨bw,3,none⟩ (.slice q 1 c) HH6.out.lt;have C8:=C7.grown Yn.out HB.out.1 (W':=w5.setCell ⟨bw,3,none⟩ (.slice q 1 c)) (r:=some bw) ⟨rfl,rfl,rfl,by simp,fun k _ hk=>heap_setCell_other _ ⟨bw,3,none⟩ k _ (fun e=>hk (by rw[e]))⟩ (fun b e=>by injection e with e;subst e;exact⟨HB.out.2,_,_,_,H7.out,by unfold Jg;decide⟩);have HFin:Hid ((∃ q c,C4 (w5.setCell ⟨bw,3,none⟩ (.slice q 1 c)) bw 186 (.pointer (some ⟨t,0,none⟩)) (uU s) (.map (some bm)) (.slice q 1 c)/\Rw (w5.setCell ⟨bw,3,none⟩ (.slice q 1 c)) 1 q 1 c [.int .i64 n])/\True):=⟨⟨q,c,H8,O8.rw⟩,trivial⟩;have HC8:Hid (Ct B S I w0 (w5.setCell ⟨bw,3,none⟩ (.slice q 1 c))):=C8;have HH8:Hid (C4 (w5.setCell ⟨bw,3,none⟩ (.slice q 1 c)) bw 186 (.pointer (some ⟨t,0,none⟩)) (uU s) (.map (some bm)) (.slice q 1 c)/\Rw (w5.setCell ⟨bw,3,none⟩ (.slice q 1 c)) 1 q 1 c [.int .i64 n]):=⟨H8,O8.rw⟩;clear hown hgrow O5 C7 H8 O8 C8 HFin H7)
   go_ret;exact⟨rfl,⟨q,c,HH8.out.1,HH8.out.2⟩,HC8.out⟩
theorem EC(d:Nat)(f:Fn)(a c:Array Value)(W:World):(Op.equalIn (d+1) 141 (.func f a c) .nilFunc).run Tryz.prog W=.ok false W:=by
 simp[Op.equalIn,run_underlying Tryz.underlying141]
variable {w:World}
theorem Lr{S:Nat}(Cq:VX B S p I M)(hB:B<=w.heap.size)(hS:S<=w.heap.size){n:Nat}(hT:dI w t p (n:Nat))(hI:I w){y:Nd}(hy:M n=some y)(hg:N.Good y)(hu:Up y.ks)(hl:y.leaf=true)(hv:∀ v∈y.vs,v.p=-1)(hn:n<1024):
 Calls Tryz.prog 74 #[.pointer (some ⟨t,0,none⟩),uU s] w fun e w'=>(∃ q c,e=.returned (.tuple #[.slice q 1 c,.int .i64 0])/\Rw w' 1 q 1 c [.int .i64 n])/\Ct B S I w w':=by
 have fr:=oF hT;have hneg:¬ (n:Int)=-1:=by omega
 have mk:∀ W:World,(Instr.makeMap 184 none).run Tryz.prog W=.ok (.map (some W.heap.size)) (W.alloc (.map #[] 0)):=fun W=>rfl
 obtain⟨W3,hW3⟩:∃ W3,(w.alloc (.map #[] 0)).alloc (.cells #[.pointer (some ⟨t,0,none⟩),uU s,.map (some w.heap.size),.slice none 0 0] 186)=W3:=⟨_,rfl⟩;have kl:Kept (w.alloc (.map #[] 0)) W3:=by rw[<- hW3];exact (Kept.refl _).alloc _
 have k3:Kept w W3:=((Kept.refl w).alloc _).trans kl;have c4:C4 W3 (w.heap.size+1) 186 (.pointer (some ⟨t,0,none⟩)) (uU s) (.map (some w.heap.size)) (.slice none 0 0):=⟨by
  rw[<- hW3]
  have:=heap_alloc_new (w.alloc (.map #[] 0)) (.cells #[.pointer (some ⟨t,0,none⟩),uU s,.map (some w.heap.size),.slice none 0 0] 186)
  rwa [N.size_alloc]at this⟩
 have ms0:=MS.made w;have ms3:MS W3 w.heap.size (fun _=>false):=ms0.same (kl.out.block _ ms0.lt);have fth:=EB (s:=s) Cq hB (hT.kept k3) ((Ct.start hI).kept Cq.stay hB k3) c4 ms3 hS (Nat.le_succ _) (aac _) hy hg hu hl hv hn;have hnf:∀ W:World,(Go.binOp .eql 141 (.func (.func 75) #[.pointer (some ⟨s,0,none⟩)] #[]) .nilFunc).run Tryz.prog W=.ok (.bool false) W:=fun W=>by
  simp only[Go.binOp];have:(Op.equal 141 (.func (.func 75) #[.pointer (some ⟨s,0,none⟩)] #[]) .nilFunc).run Tryz.prog W=.ok false W:=EC 9999 _ _ _ W;simp[this]
 have HW3:Hid ((w.alloc (.map #[] 0)).alloc (.cells #[.pointer (some ⟨t,0,none⟩),.func (.func 75) #[.pointer (some ⟨s,0,none⟩)] #[],.map (some w.heap.size),.slice none 0 0] 186)=W3):=hW3;clear hW3 hT hI hy hg hu hl hv hn k3 kl c4 ms0 ms3 Cq;go_enter Tryz.func74,Tryz.ntmps74;go_wp2_with (first
  | (go_at_call 36;(with_reducible refine fr.mono ?_);rintro e w1 ⟨rfl,hw1⟩;rw[hw1];clear hw1 fr)
  | (go_at_call 105;rw[HW3.out];(with_reducible refine fth.mono ?_);rintro e w5 ⟨rfl,⟨q,c,H5,R5⟩,C5⟩;obtain⟨q0,q1,q2,q3⟩:=H5.cs;have HF5:Hid (Rw w5 1 q 1 c [.int .i64 n]/\Ct B S I w w5):=⟨R5,C5⟩;clear H5 R5 C5 fth))
 go_ret2;exact⟨⟨q,c,rfl,HF5.out.1⟩,HF5.out.2⟩
structure bB (W:World) (s d p t:Nat) (err:Int) (db:Bool):Prop where
 out:W.heap[s]? = some (.cells #[.pointer (some ⟨d,0,none⟩),.pointer (some ⟨p,0,none⟩),.pointer (some ⟨t,0,none⟩),.int .i64 err,.bool db] 74)
variable {d:Nat}{err:Int}{db:Bool}
theorem bB.cs(h:bB W s d p t err db):W.cell? ⟨s,0,none⟩=some (.pointer (some ⟨d,0,none⟩))/\W.cell? ⟨s,1,none⟩=some (.pointer (some ⟨p,0,none⟩))/\W.cell? ⟨s,2,none⟩=some (.pointer (some ⟨t,0,none⟩))/\W.cell? ⟨s,3,none⟩=some (.int .i64 err)/\W.cell? ⟨s,4,none⟩=some (.bool db):=by
 refine⟨?_,?_,?_,?_,?_⟩ <;> (rw[cell_of_row W s _ _ _ _ h.out];rfl)
theorem bB.fz(h:bB W s d p t err db)(j:Nat):W.frozen? ⟨s,j,none⟩=false:=frozen_of_row W s j _ _ h.out
theorem bB.lt(h:bB W s d p t err db):s<W.heap.size:=(aaa.1 h.out).1
variable {W':World}
theorem bB.kept(h:bB W s d p t err db)(k:Kept W W'):bB W' s d p t err db:=⟨k.block h.out⟩
theorem PY:G.Calm 74:=by unfold G.Calm D.Calm;decide
theorem bB.on(h:bB W s d p t err db)(o:G.On B W W'):bB W' s d p t err db:=⟨o.rows _ _ _ _ h.out PY⟩
theorem bB.ui(h:bB W s d p t err db)(e:Int):bB (W.setCell ⟨s,3,none⟩ (.int .i64 e)) s d p t e db:=⟨by rw[heap_setCell_same W s 3 _ _ _ h.out];rfl⟩
theorem bB.V9(h:bB W s d p t err db)(b:Bool):bB (W.setCell ⟨s,4,none⟩ (.bool b)) s d p t err b:=⟨by rw[heap_setCell_same W s 4 _ _ _ h.out];rfl⟩
theorem lN(w:World)(b i:Nat)(v:Value):w.grownBy (w.setCell ⟨b,i,none⟩ v) (some b):=
 ⟨rfl,rfl,rfl,by simp,fun k _ hk=>heap_setCell_other _ ⟨b,i,none⟩ k _ (fun e=>hk (by rw[e]))⟩
theorem PZ{r:Option Nat}(h:G.On B w W)(hg:W.grownBy W' r)(hr:∀ b,r=some b->w.heap.size<=b)(hB:B<=w.heap.size):G.On B w W':=
 (Fr.grown (S:=W.heap.size+w.heap.size) ⟨h,fun k es c hk hm=>by have:=(aaa.1 hm).1;omega⟩ hg hr hB).on
variable {g:Nat}{q:G.Pq}
theorem tZ.kept(h:G.tZ B W p d g q)(k:Kept W W'):G.tZ B W' p d g q:=by
 obtain⟨a,e1,e2,ga⟩:=h.out;exact⟨a,e1,e2,ga.kept ⟨k.out⟩⟩
theorem bE(h:bB w s d p t err db):Calls Tryz.prog 25 #[.pointer (some ⟨s,0,none⟩)] w fun e w'=>e=.returned (.int .i64 err)/\w'=w:=by
 obtain⟨c0,c1,c2,c3,c4⟩:=h.cs;go_enter Tryz.func25,Tryz.ntmps25;go_wp2;go_ret;exact⟨rfl,rfl⟩
theorem tV(w:World):Calls Tryz.prog 25 #[.pointer none] w fun e w'=>e=.returned (.int .i64 1)/\w'=w:=by
 go_enter Tryz.func25,Tryz.ntmps25;go_wp2;go_ret;exact⟨rfl,rfl⟩
theorem P9(a:Int)(b:Int)(W:World):(Instr.field 88 (.agg #[.int .u64 a,.int .i64 b]) 1).run Tryz.prog W=.ok (.int .i64 b) W:=by
 simp[Instr.field,run_underlying Tryz.underlying88,asAgg,part]
theorem TB(a:Int)(b:Int)(W:World):(Instr.field 88 (.agg #[.int .u64 a,.int .i64 b]) 0).run Tryz.prog W=.ok (.int .u64 a) W:=by
 simp[Instr.field,run_underlying Tryz.underlying88,asAgg,part]
theorem zz{v:Value}(hS:w.heap[s]? = some (.cells #[.pointer (some ⟨d,0,none⟩),.pointer (some ⟨p,0,none⟩),v,.int .i64 err,.bool db] 74))(hG:G.tZ B w p d g q):
 Calls Tryz.prog 38 #[.pointer (some ⟨s,0,none⟩)] w fun e w'=>e=.returned (.tuple #[])/\∃ t,bB w' s d p t err db/\dI w' t p q.root/\w.heap.size<=t/\w.grownBy w' (some s):=by
 have f1:Hid (∀ W,Kept w W->Calls Tryz.prog 44 #[.pointer (some ⟨p,0,none⟩)] W fun e w'=>e=.returned (.agg #[.int .u64 q.gen,.int .i64 q.root])/\D.Kept W w'):=fun W k=>G.xV (tZ.kept hG k)
 have f2:Hid (∀ W,Calls Tryz.prog 59 #[.pointer (some ⟨p,0,none⟩),.int .i64 q.root] W fun e w'=>e=.returned (.pointer (some ⟨W.heap.size,0,none⟩))/\dI w' W.heap.size p q.root/\Kept W w'):=fun W=>dN W p q.root
 have HK:Hid (∀ W,Kept w W->W.cell? ⟨s,1,none⟩=some (.pointer (some ⟨p,0,none⟩))/\W.cell? ⟨s,2,none⟩=some v/\W.frozen? ⟨s,2,none⟩=false):=fun W k=>by
  have hb:=k.block hS;exact⟨by rw[cell_of_row W s _ _ _ _ hb];rfl,by rw[cell_of_row W s _ _ _ _ hb];rfl,frozen_of_row W s 2 _ _ hb⟩
 obtain⟨c1,c2,c3⟩:=HK.out w (Kept.refl w);have HS:Hid (w.heap[s]? = some (.cells #[.pointer (some ⟨d,0,none⟩),.pointer (some ⟨p,0,none⟩),v,.int .i64 err,.bool db] 74)):=hS;have K0:Kept w w.drew:=(Kept.refl w).drew;clear hS hG;generalize q.root=rt at *;generalize q.gen=gn at *;have hfl:∀ W,(Instr.field 88 (.agg #[.int .u64 gn,.int .i64 rt]) 1).run Tryz.prog W=.ok (.int .i64 rt) W:=fun W=>P9 _ _ W
 go_enter Tryz.func38,Tryz.ntmps38;go_wp2;go_region_held3 (fun W=>W.cell? ⟨s,1,none⟩=some (.pointer (some ⟨p,0,none⟩))) (first | trivial | go_keep | exact e6 | exact (HK.out _ (by assumption)).1) (first
  | (go_at_call 44;(with_reducible refine (f1.out _ K0).mono ?_);rintro e w1 ⟨rfl,k1⟩;have K1:Kept w w1:=K0.trans ⟨k1.out⟩;obtain⟨d1,d2,d3⟩:=HK.out _ K1;clear K0)
  | (go_at_call 59;(with_reducible refine (f2.out _).mono ?_);rintro e w2 ⟨rfl,T2,k2⟩;have K2:Kept w w2:=K1.trans k2;obtain⟨e1,e2,e3⟩:=HK.out _ K2;have hsz:=K1.size;have e6:(w2.setCell ⟨s,2,none⟩ (.pointer (some ⟨w1.heap.size,0,none⟩))).cell? ⟨s,1,none⟩=some (.pointer (some ⟨p,0,none⟩)):=(by rw[World.cell?_setCell_other (h:=show (⟨s,2,none⟩:Addr)≠⟨s,1,none⟩ from fun e=>absurd (show (2:Nat)=1 from congrArg Addr.off e) (by omega))];exact e1);clear f2))
 all_goals go_wp2
 all_goals first | go_end0 | refine bodyPost_ret (results_none rfl _ _ _) rfl ?_
 all_goals
  have hb:=K2.block HS.out
  have T3:dI (w2.setCell ⟨s,2,none⟩ (.pointer (some ⟨w1.heap.size,0,none⟩))) w1.heap.size p rt:=⟨by rw[heap_setCell_other _ ⟨s,2,none⟩ _ _ (G.aB T2.out hb (by decide))];exact T2.out⟩
  have S3:bB (w2.setCell ⟨s,2,none⟩ (.pointer (some ⟨w1.heap.size,0,none⟩))) s d p w1.heap.size err db:=⟨by rw[heap_setCell_same w2 s 2 _ _ _ hb];rfl⟩
  exact⟨rfl,_,S3,T3,hsz,(K2.grown _).trans (lN _ _ _ _)⟩
theorem Ls:Calls Tryz.prog 76 #[.pointer (some ⟨s,0,none⟩),.slice none 0 0] w fun e w'=>e=.returned (.int .i64 0)/\w'=w:=by
 go_enter Tryz.func76,Tryz.ntmps76;go_wp2;refine wp_loop_rounds 1 ?_;rw[rounds_succ];go_wp2;go_ret;exact⟨rfl,rfl⟩
theorem Gy(hT:dI w t p (-1))(fv:Value):
 Calls Tryz.prog 74 #[.pointer (some ⟨t,0,none⟩),fv] w fun e w'=>e=.returned (.tuple #[.slice none 0 0,.int .i64 0])/\w'=w:=by
 have fr:=oF hT;go_enter Tryz.func74,Tryz.ntmps74;go_wp2_with (go_at_call 36;(with_reducible refine fr.mono ?_);rintro e w1 ⟨rfl,hw1⟩;rw[hw1];clear hw1);go_ret2;exact⟨rfl,rfl⟩
theorem Cj(hS:bB w s d p t err db)(hT:dI w t p (-1)):
 Calls Tryz.prog 49 #[.pointer (some ⟨s,0,none⟩)] w fun e w'=>e=.returned (.int .i64 0)/\w'=w:=by
 obtain⟨c0,c1,c2,c3,c4⟩:=hS.cs;have f1:=Gy hT;have f2:=Ls (w:=w) (s:=s);go_enter Tryz.func49,Tryz.ntmps49;go_wp2_with (first
  | (go_at_call 74;(with_reducible refine (f1 _).mono ?_);rintro e w1 ⟨rfl,hw1⟩;rw[hw1];clear hw1)
  | (go_at_call 76;(with_reducible refine f2.mono ?_);rintro e w1 ⟨rfl,hw1⟩;rw[hw1];clear hw1))
 go_ret;exact⟨rfl,rfl⟩
variable {L m c n:Nat}{u:Nat->Bool}
theorem Qa{gen:Nat}{q:Option Addr}{cc:Nat}(hS:bB w s d p t err db)(hC:Cg B L w p d g m gen c root M u)(hn:n<m)(hu:u n=false)(hR:Rw w 1 q 1 cc [.int .i64 n]):
 Calls Tryz.prog 76 #[.pointer (some ⟨s,0,none⟩),.slice q 1 cc] w fun e w'=>e=.returned (.int .i64 0)/\Cg B L w' p d g m gen c root M (S.aS u n)/\G.On B w w':=by
 obtain⟨c0,c1,c2,c3,c4⟩:=hS.cs;have f1:=hC.mark hn hu;obtain⟨b,o,rfl,hc⟩:=hR.some (by omega);have hc0:w.cell? ⟨b,o,none⟩=some (.int .i64 n):=hc 0 _ rfl;clear hC hS hc;go_enter Tryz.func76,Tryz.ntmps76;go_wp2;refine wp_loop_rounds 2 ?_;rw[rounds_succ];go_wp2_with (go_at_call 107;(with_reducible refine f1.mono ?_);rintro e w1 ⟨rfl,C1,o1⟩;have HC:Hid (Cg B L w1 p d g m gen c root M (S.aS u n)/\G.On B w w1):=⟨C1,o1⟩;clear C1 o1);rw[rounds_succ];go_wp2;go_ret;exact⟨rfl,HC.out⟩
theorem ED{gen:Nat}(hS:bB w s d p t err db)(hC:Cg B L w p d g m gen c root M u)(hB:B<=w.heap.size)(hL:L<=w.heap.size)(hT:dI w t p (n:Nat))(hu:u n=false){y:Nd}(hy:M n=some y)(hg:N.Good y)(hup:Up y.ks)(hl:y.leaf=true)(hv:∀ v∈y.vs,v.p=-1):
 Calls Tryz.prog 49 #[.pointer (some ⟨s,0,none⟩)] w fun e w'=>e=.returned (.int .i64 0)/\Cg B L w' p d g m gen c root M (S.aS u n)/\G.On B w w':=by
 obtain⟨c0,c1,c2,c3,c4⟩:=hS.cs;have hr:=hC.wU n y hy;have hf:=hC.few;have f1:=Lr (s:=s) (Cg.rdr B L p d g m gen c root M u) hB hL hT hC hy hg hup hl hv (by omega);have f2:Hid (∀ W q cc,Ct B L (fun W=>Cg B L W p d g m gen c root M u) w W->Rw W 1 q 1 cc [.int .i64 n]->Calls Tryz.prog 76 #[.pointer (some ⟨s,0,none⟩),.slice q 1 cc] W fun e w'=>e=.returned (.int .i64 0)/\Cg B L w' p d g m gen c root M (S.aS u n)/\G.On B W w'):=fun W q cc hW hR=>Qa (hS.on hW.f.on) hW.i hr.2.1 hu hR
 clear hS hC hT hy hg hup hl hv hB hL hr hf;go_enter Tryz.func49,Tryz.ntmps49;go_wp2_with (first
  | (go_at_call 74;(with_reducible refine f1.mono ?_);rintro e w1 ⟨⟨q,cc,rfl,R1⟩,k1⟩;have f3:=f2.out _ q cc k1 R1;have HO:Hid (G.On B w w1):=k1.f.on;clear f1 f2 R1 k1)
  | (go_at_call 76;(with_reducible refine f3.mono ?_);rintro e w2 ⟨rfl,C2,o2⟩;have HF:Hid (Cg B L w2 p d g m gen c root M (S.aS u n)/\G.On B w w2):=⟨C2,HO.out.trans o2⟩;clear f3 C2 o2))
 go_ret;exact⟨rfl,HF.out⟩
theorem Qb{dk:D.Dk}{x:Int}(hx:¬ x=0)(hO:Calls Tryz.prog 48 #[.pointer (some ⟨d,0,none⟩)] w fun e w'=>e=.returned (.tuple #[.pointer none,.int .i64 x])/\D.aa B w' d g dk/\D.On B w w'):
 Calls Tryz.prog 31 #[.pointer (some ⟨d,0,none⟩)] w fun e w'=>e=.returned (.tuple #[.pointer none,.int .i64 x])/\D.aa B w' d g dk/\D.On B w w':=by
 have e0:(x != 0)=true:=by simpa using hx
 go_enter Tryz.func31,Tryz.ntmps31;go_wp2_with (go_at_call 48;(with_reducible refine hO.mono ?_);rintro e w1 ⟨rfl,D1,O1⟩);go_ret2;exact⟨rfl,D1,O1⟩
theorem Jl(hB:B<=w.heap.size)(hO:Calls Tryz.prog 48 #[.pointer (some ⟨d,0,none⟩)] w fun e w'=>∃ p,e=.returned (.tuple #[.pointer (some ⟨p,0,none⟩),.int .i64 0])/\G.tZ B w' p d g q/\G.On B w w')(Q:World->Nat->Prop)(HM:Hid (∀ W0 W s t p,G.tZ B W0 p d g q->Kept W0 W->B<=W0.heap.size->bB W s d p t 0 false->dI W t p q.root->Calls Tryz.prog 49 #[.pointer (some ⟨s,0,none⟩)] W fun e w'=>e=.returned (.int .i64 0)/\Q w' p/\G.On B W w')):
 Calls Tryz.prog 31 #[.pointer (some ⟨d,0,none⟩)] w fun e w'=>∃ s t p,e=.returned (.tuple #[.pointer (some ⟨s,0,none⟩),.int .i64 0])/\bB w' s d p t 0 false/\dI w' t p q.root/\Q w' p/\(w.heap.size<=s/\w.heap.size<=t)/\G.On B w w':=by
 have HB:Hid (B<=w.heap.size):=hB;have Yo:Hid (∀ W s p,(∃ W0,W=W0.alloc (.cells #[.pointer (some ⟨d,0,none⟩),.pointer (some ⟨p,0,none⟩),.pointer none,.int .i64 0,.bool false] 74)/\s=W0.heap.size/\G.tZ B W0 p d g q)->Calls Tryz.prog 38 #[.pointer (some ⟨s,0,none⟩)] W fun e w'=>e=.returned (.tuple #[])/\∃ t,bB w' s d p t 0 false/\dI w' t p q.root/\W.heap.size<=t/\W.grownBy w' (some s)):=by
  rintro W s p ⟨W0,rfl,rfl,hG⟩;exact zz (heap_alloc_new W0 _) (tZ.kept hG ((Kept.refl W0).alloc _))
 clear hB;go_enter Tryz.func31,Tryz.ntmps31;go_wp2_with (first
  | (go_at_call 48;(with_reducible refine hO.mono ?_);rintro e w1 ⟨p,rfl,G1,o1⟩;have g2:=Yo.out _ w1.heap.size p ⟨w1,rfl,rfl,G1⟩;have TT:Hid (G.tZ B w1 p d g q/\G.On B w w1):=⟨G1,o1⟩;clear hO G1 o1 Yo)
  | (go_at_call 38;(with_reducible refine g2.mono ?_);rintro e w2 ⟨rfl,t,S2,T2,ht,gr2⟩;have gr:w1.grownBy w2 (some w1.heap.size):=(((Kept.refl w1).alloc _).grown _).trans gr2;have f3:=HM.out w1 w2 w1.heap.size t p TT.out.1 (N.aL (B:=w1.heap.size) w1 (Kept.refl w1) gr (aac _) (fun b e=>(by injection e with e;omega))) (aad HB.out TT.out.2.size) S2 T2;have HS2:Hid (bB w2 w1.heap.size d p t 0 false/\dI w2 t p q.root):=⟨S2,T2⟩;have Wd:Hid (G.On B w w2/\w.heap.size<=w1.heap.size/\w.heap.size<=t):=⟨PZ TT.out.2 gr (fun b e=>(by injection e with e;have:=TT.out.2.size;omega)) HB.out,TT.out.2.size,(by have:=TT.out.2.size;rw[N.size_alloc]at ht;omega)⟩;clear g2 S2 T2 ht gr gr2 HM)
  | (go_at_call 49;(with_reducible refine f3.mono ?_);rintro e w3 ⟨rfl,q3,o3⟩;have HF:Hid (bB w3 w1.heap.size d p t 0 false/\dI w3 t p q.root/\Q w3 p/\G.On B w w3):=⟨HS2.out.1.on o3,HS2.out.2.on o3,q3,Wd.out.1.trans o3⟩;clear f3 q3 o3))
 go_ret2;exact⟨_,t,p,rfl,HF.out.1,HF.out.2.1,HF.out.2.2.1,Wd.out.2,HF.out.2.2.2⟩
open Go.Proofs.YtifeihnhkbagpaaGreatDoor.D (Dk aa Ok whole rU Wr)
open G (zW qZ Sd qK pick opened M6)
open P (bs fZ oV)
variable {b:Nat}
theorem We{d2:Dk}(x:Int)(hx:¬ x=0)(hB:B<=w.heap.size)(f1:Calls Tryz.prog 70 #[.pointer (some ⟨b,0,none⟩)] w fun e w'=>e=.returned (.tuple #[.agg #[.int .u64 0,.int .i64 0],.int .i64 x])/\aa B w' b g d2/\D.On B w w'):
 Calls Tryz.prog 48 #[.pointer (some ⟨b,0,none⟩)] w fun e w'=>e=.returned (.tuple #[.pointer none,.int .i64 x])/\aa B w' b g d2/\D.On B w w':=by
 have e0:(x != 0)=true:=by simpa using hx
 go_enter Tryz.func48,Tryz.ntmps48;go_wp2_with (go_at_call 70;(with_reducible refine f1.mono ?_);rintro e w1 ⟨rfl,D1,O1⟩);go_ret2;exact⟨rfl,((D.Kept.refl w1).alloc _).dk D1,O1.trans (((D.Kept.refl w1).alloc _).on (aad hB O1.size))⟩
variable {d:Dk}
theorem Lt(h:aa B w b g d)(hB:B<=w.heap.size)(ok:Ok m d)(hm:m<49000)(hf:zW d)(hl:qZ d 2){s0 s1:rU}(e0:d.secs[0]? = some s0)(e1:d.secs[1]? = some s1)(k0:Sd (qK s0).1 0 none)(k1:Sd (qK s1).1 1 none):
 Calls Tryz.prog 48 #[.pointer (some ⟨b,0,none⟩)] w fun e w'=>e=.returned (.tuple #[.pointer none,.int .i64 81])/\aa B w' b g d.begin.begin/\D.On B w w':=by
 have r0:d.read 0=(d.begin,qK s0):=G.qL hf (hl.mono (by omega)) e0;have r1:d.begin.read 1=(d.begin.begin,qK s1):=G.qL (G.nU hf) (G.r9 hl) e1;have t:∀ s:rU,(qK s).2=0\/(qK s).2=41:=by intro s;unfold qK;cases s.tH <;> simp
 have f:=G.Bt h hB ok hm (o0:=none) (o1:=none) (by rw[r0];exact t _) (by rw[r0];show (d.begin.read 1).2.2=0\/_;rw[r1];exact t _) (by rw[r0];exact k0) (by rw[r0];show Sd (d.begin.read 1).2.1 1 none;rw[r1];exact k1) rfl;rw[r0]at f;dsimp only at f;rw[r1]at f;exact We 81 (by decide) hB f
structure Fn (n c:Nat) (d:Dk):Prop where
 Df:zW d
 len:d.secs.length=n
 cuts:d.cuts=[]
 fails:d.fails=0
 ok:Ok c d
theorem Fn.live(h:Fn n c d)(k:Nat):qZ d k:=⟨h.Df.up,fun c r hc=>by rw[h.cuts]at hc;cases hc⟩
theorem Fn.begin(h:Fn n c d):Fn n (c+1) d.begin:=⟨G.nU h.Df,h.len,h.cuts,h.fails,D.lI h.ok.Qk⟩
theorem Wi(n:Nat):Fn n 0 (Dk.new n []):=⟨G.Ri n [],by simp[Dk.new],rfl,rfl,D.UL n []⟩
theorem Qc{k:Nat}(hk:k<n):(Dk.new n []).secs[k]? = some ⟨whole ⟨#[]⟩,false,0⟩:=by
 show (List.replicate n _)[k]? = _;rw[List.getElem?_replicate,aao hk]
theorem Wj(h:Fn n c d)(h2:2<=n):∃ d',G.Db d=(d',0)/\Fn n (c+5) d'/\d'.secs[0]? = some ⟨whole ⟨#[]⟩,false,0⟩/\d'.secs[1]? = some ⟨bs (fZ 1 (-1)),false,0⟩:=by
 obtain⟨d1,d',e,w1,w2⟩:=G.J8 h.Df (h.live 5) (by rw[h.len];exact h2);have ok:=G.Ht h.ok;rw[e]at ok;refine⟨d',e,⟨w2.Df,by rw[w2.len,w1.len,h.len],by rw[w2.cuts,w1.cuts,h.cuts],by rw[w2.fails,w1.fails,h.fails],ok⟩,?_,w2.own ⟨1,bs (fZ 1 (-1))⟩ (by simp)⟩;rw[w2.dm 0 (by intro x hx;simp at hx;subst hx;decide)];exact w1.own ⟨0,whole ⟨#[]⟩⟩ (by simp)
structure Bn (n c:Nat) (d:Dk):Prop where
 fn:Fn n c d
 s0:d.secs[0]? = some ⟨whole ⟨#[]⟩,false,0⟩
 s1:d.secs[1]? = some ⟨bs (fZ 1 (-1)),false,0⟩
theorem rC(k:Nat):G.ahead k=decide (k<2):=by
 unfold G.ahead S.aS;by_cases h0:k=0
 ·subst h0;rfl
 ·by_cases h1:k=1
  ·subst h1;rfl
  ·rw[aai h1,aai h0];simp;omega
theorem TC(h:G.tZ B w p b g (opened d (1,-1)))(hd:Bn n c d)(h2:2<=n)(h3:n<=1024):Pv B w p ⟨n,b,g,d,1,-1,fun _=>none⟩ (fun _=>none):=
 ⟨⟨_,h,hd.fn.len,⟨rfl,rfl,rfl,rfl,fun _=>rfl⟩,fun _=>rfl,fun k _=>by show G.ahead k=_;rw[rC];simp[pQ],fun k _=>by show G.ahead k=_;rw[rC];simp[pQ],fun k _=>rC k⟩,(fun k x hx=>by cases hx),(fun k x hx=>by cases hx),⟨by show 1<4000;omega,hd.fn.cuts⟩,h3,h2⟩
structure Se (B:Nat) (W:World) (s d g n c gen:Nat) (dk:Dk):Prop where
 out:∃ t p,bB W s d p t 0 false/\dI W t p (-1)/\Pv B W p ⟨n,d,g,dk,gen,-1,fun _=>none⟩ (fun _=>none)/\B<=s/\B<=t
 bd:Fn n c dk
theorem EE(h:aa B w b g (Dk.new n []))(hB:B<=w.heap.size)(h2:2<=n)(h3:n<=1024):
 Calls Tryz.prog 10 #[.pointer (some ⟨b,0,none⟩)] w fun e w'=>∃ s dk,e=.returned (.tuple #[.pointer (some ⟨s,0,none⟩),.int .i64 0])/\Se B w' s b g n 9 1 dk/\Bn n 9 dk/\G.On B w w':=by
 have hn:=Wi n;have f1:=Qb (by decide) (Lt h hB hn.ok (by decide) hn.Df (hn.live 2) (Qc (by omega)) (Qc (by omega)) (G.uw 0) (G.uw 1));obtain⟨d1,ef,hf,s0,s1⟩:=Wj hn.begin.begin h2;have f2:Hid (∀ W,aa B W b g (Dk.new n []).begin.begin->B<=W.heap.size->Calls Tryz.prog 32 #[.pointer (some ⟨b,0,none⟩)] W fun e w'=>e=.returned (.int .i64 0)/\aa B w' b g d1/\D.On B W w'):=fun W k kB=>by
  have:=G.vX k kB hn.begin.begin.ok (by decide);rw[ef]at this;exact this
 have f3:Hid (∀ W,aa B W b g d1->B<=W.heap.size->Calls Tryz.prog 31 #[.pointer (some ⟨b,0,none⟩)] W fun e w'=>∃ s t p,e=.returned (.tuple #[.pointer (some ⟨s,0,none⟩),.int .i64 0])/\bB w' s b p t 0 false/\dI w' t p (-1)/\Pv B w' p ⟨n,b,g,d1.begin.begin,1,-1,fun _=>none⟩ (fun _=>none)/\(W.heap.size<=s/\W.heap.size<=t)/\G.On B W w'):=fun W k kB=>by
  have bn:Bn n 9 d1.begin.begin:=⟨hf.begin.begin,s0,s1⟩;refine Jl kB (q:=opened d1.begin.begin (1,-1)) (G.xY k kB hf.ok (by decide) hf.Df (hf.live 2) (by rw[hf.len];exact h2) (by rw[hf.len];exact h3) s0 s1 (o0:=none) (o1:=some (1,-1)) (G.uw 0) (G.uz G.Hy rfl) (1,-1) rfl) (fun w' p=>Pv B w' p ⟨n,b,g,d1.begin.begin,1,-1,fun _=>none⟩ (fun _=>none)) ?_;intro W0 W s t p hG k0 hB0 hS hT;refine (Cj hS hT).mono ?_;rintro e w' ⟨rfl,rfl⟩;exact⟨rfl,(TC hG bn h2 h3).kept k0,G.On.refl _ _⟩
 have HB:Hid (B<=w.heap.size):=hB;have HD:Hid (Bn n 9 d1.begin.begin):=⟨hf.begin.begin,s0,s1⟩;clear h hB h2 h3 hn ef hf s0 s1;generalize (Dk.new n []).begin.begin=d0 at f1 f2;go_enter Tryz.func10,Tryz.ntmps10;go_wp2_with (first
  | (go_at_call 31;(with_reducible refine f1.mono ?_);rintro e w1 ⟨rfl,D1,o1⟩;have hB1:=aad HB.out o1.size;have g2:=f2.out _ D1 hB1;have Fa:Hid (D.On B w w1):=o1;clear f1 f2 D1 o1)
  | (go_at_call 32;(with_reducible refine g2.mono ?_);rintro e w2 ⟨rfl,D2,o2⟩;have hB2:=aad hB1 o2.size;have g3:=f3.out _ D2 hB2;have Wd:Hid (G.On B w w2):=(G.On.JO Fa.out).trans (G.On.JO o2);clear g2 f3 D2 o2)
  | (go_at_call 31;(with_reducible refine g3.mono ?_);rintro e w3 ⟨s,t,p,rfl,S3,T3,V3,l3,o3⟩;have HF:Hid (Se B w3 s b g n 9 1 d1.begin.begin/\G.On B w w3):=⟨⟨⟨t,p,S3,T3,V3,aad hB2 l3.1,aad hB2 l3.2⟩,HD.out.fn⟩,Wd.out.trans o3⟩;clear g3 S3 T3 V3 l3 o3))
 go_ret2;exact⟨s,_,rfl,HF.out.1,HD.out,HF.out.2⟩
open G (bq keysOf)
open B (En Tree Tr bN fm aH dH gJ Wf wG got us)
theorem uV(w:World)(k:ByteArray)(hk:k.size<=64):Calls Tryz.prog 33 #[.string k] w fun e w'=>e=.returned (.bool true)/\w'=w:=by
 have h:(k.size:Int)<=64:=by omega
 go_enter Tryz.func33,Tryz.ntmps33;go_wp2;go_ret;exact⟨rfl,rfl⟩
theorem uW(w:World)(s:Option Addr)(x:ByteArray)(hx:x.size<=48):
 Calls Tryz.prog 60 #[.pointer s,.string x] w fun e w'=>e=.returned (.tuple #[.agg #[.string x,.int .i64 (-1),.int .i64 0],.int .i64 0])/\Kept w w':=by
 have h:(x.size:Int)<=48:=by omega
 go_enter Tryz.func60,Tryz.ntmps60;go_wp2;refine bodyPost_ret (v:=.tuple #[.agg #[.string x,.int .i64 (-1),.int .i64 0],.int .i64 0]) ?_ rfl ⟨rfl,(Kept.refl w).alloc _⟩;exact N.af (p:=4) (u:=5) (ty:=77) rfl _ _ w.heap.size 77 #[.string x,.int .i64 (-1),.int .i64 0] (0,0) _ rfl (heap_alloc_new w _) Tryz.underlying77 rfl iJ
variable {d:Nat}{key:ByteArray}
theorem zA(hS:bB w s d p t err db)(f:Calls Tryz.prog 40 #[.pointer (some ⟨t,0,none⟩),.string key] w fun e w'=>e=.returned (.tuple #[.agg #[.string ⟨#[]⟩,.int .i64 (-1),.int .i64 0],.bool false,.int .i64 0])/\Kept w w'):
 Calls Tryz.prog 53 #[.pointer (some ⟨s,0,none⟩),.string key] w fun e w'=>e=.returned (.tuple #[.bool false,.int .i64 0])/\Kept w w':=by
 obtain⟨c0,c1,c2,c3,c4⟩:=hS.cs;go_enter Tryz.func53,Tryz.ntmps53;go_wp2_with (go_at_call 40;(with_reducible refine f.mono ?_);rintro e w1 ⟨rfl,k1⟩);go_ret2;exact⟨rfl,k1.trans ((Kept.refl _).alloc _)⟩
theorem bB.tx(h:bB W s d p t err db){r:Int}(hT:dI W t p r)(o:Tx B t W W'):bB W' s d p t err db:=⟨o.rows _ _ _ _ h.out PY (G.aB h.out hT.out (by decide))⟩
structure So (B:Nat) (W:World) (s d g n c gen:Nat) (dk:Dk) (key x:ByteArray):Prop where
 out:∃ t p M r,bB W s d p t 0 false/\dI W t p r/\Pv B W p ⟨n,d,g,dk,gen,-1,fun _=>none⟩ M/\Tree M r [(key,⟨x,-1,0⟩)]/\B<=s/\B<=t
 bd:Fn n c dk
variable {dk:Dk}
theorem Lu{gen:Nat}(h:Se B w s d g n c gen dk)(hB:B<=w.heap.size)(hL:S.gU w)(hn:3<=n)(key x:ByteArray)(hk:key.size<=64)(hx:x.size<=48):
 Calls Tryz.prog 39 #[.pointer (some ⟨s,0,none⟩),.string key,.string x] w fun e w'=>e=.returned (.int .i64 0)/\So B w' s d g n c gen dk key x/\Below B w w':=by
 obtain⟨t,p,hS,hT,hV,hbs,hbt⟩:=h.out;obtain⟨c0,c1,c2,c3,c4⟩:=hS.cs;have f1:=zA hS (get_nil (key:=key) hT);have f2:Hid (∀ W,Calls Tryz.prog 60 #[.pointer (some ⟨s,0,none⟩),.string x] W fun e w'=>e=.returned (.tuple #[.agg #[.string x,.int .i64 (-1),.int .i64 0],.int .i64 0])/\Kept W w'):=fun W=>uW W _ x hx
 have f3:Hid (∀ W,Kept w W->Calls Tryz.prog 61 #[.pointer (some ⟨t,0,none⟩),.string key,.agg #[.string x,.int .i64 (-1),.int .i64 0]] W fun e w'=>(∃ a b,e=.returned (.tuple #[a,b,.int .i64 0]))/\(So B w' s d g n c gen dk key x/\bB w' s d p t 0 false/\∀ b a0 a1 a2,C3 W b 77 a0 a1 a2->C3 w' b 77 a0 a1 a2)/\Below B w w'):=fun W k=>by
  refine (AV key (v:=⟨x,-1,0⟩) (hT.kept k) hbt (hV.kept k) (fun _=>rfl) (aad hB k.size) (aC hL k) hk (.inl ⟨rfl,rfl,hx⟩)).mono ?_;rintro e w' (⟨rfl,M',r,tr,T5,V5,x5⟩|⟨rfl,M',er,_⟩)
  ·exact⟨⟨_,_,rfl⟩,⟨⟨⟨t,p,M',r,(hS.kept k).tx (hT.kept k) x5,T5,V5,tr,hbs,hbt⟩,h.bd⟩,(hS.kept k).tx (hT.kept k) x5,fun b a0 a1 a2 hc=>⟨x5.rows _ _ _ _ hc.out nK (G.aB hc.out (hT.kept k).out (by decide))⟩⟩,(k.out.mono hB).trans x5.below⟩
  ·exfalso
   obtain⟨a,b,cc⟩:=er.out;have h1:=er.full 2 (by omega) (by show 2<n;omega);unfold pQ at h1;have h2:=cc 2;have h3:a=[]:=aaL.1 (by omega);subst h3;unfold us at h2;cases e:(M' 2).isSome <;> simp[e]at h1 h2
 have HK:Hid (∀ W,Kept w W->W.cell? ⟨s,2,none⟩=some (.pointer (some ⟨t,0,none⟩))):=fun W k=>(hS.kept k).cs.2.2.1
 clear h hT hV hB hL hk hx hS;go_enter Tryz.func39,Tryz.ntmps39;go_wp2_with (first
  | (go_at_call 53;(with_reducible refine f1.mono ?_);rintro e w1 ⟨rfl,k1⟩;clear f1)
  | (go_at_call 60;(with_reducible refine (f2.out _).mono ?_);rintro e w2 ⟨rfl,k2⟩;have K2:=k1.trans k2;have R3:=C3.alloc w2 77 (.string x) (.int .i64 (-1)) (.int .i64 0);have K3:Kept w (w2.alloc (.cells #[.string x,.int .i64 (-1),.int .i64 0] 77)):=K2.alloc _;have d2:=HK.out _ K3;obtain⟨r0,r1,r2⟩:=R3.cs;clear k1 k2 f2))
 have K4:Kept w (w2.alloc (.cells #[.string x,.int .i64 (-1),.int .i64 0] 77)).drew:=K3.drew;have g3:=f3.out _ K4;go_region_held3 (fun W=>W.cell? ⟨s,2,none⟩=some (.pointer (some ⟨t,0,none⟩))/\W.cell? ⟨w2.heap.size,0,none⟩=some (.string x)/\W.cell? ⟨w2.heap.size,1,none⟩=some (.int .i64 (-1))/\W.cell? ⟨w2.heap.size,2,none⟩=some (.int .i64 0)) (first | trivial | go_keep) (first
  | (go_at_call 61;(with_reducible refine g3.mono ?_);rintro e w4 ⟨⟨a,b,rfl⟩,⟨S4,A4,c4'⟩,b4⟩;obtain⟨y0,y1,y2,y3,y4⟩:=A4.cs;obtain⟨v0,v1,v2⟩:=(c4' w2.heap.size _ _ _ (C3.drew R3)).cs;have HF:Hid (So B w4 s d g n c gen dk key x/\Below B w w4):=⟨S4,b4⟩;clear g3 S4 b4))
 all_goals go_wp2
 all_goals go_ret
 all_goals exact⟨rfl,HF.out⟩
variable {x:ByteArray}
theorem So.turn{gen:Nat}(h:So B W s d g n c gen dk key x)(hs:∀ t p,bB W s d p t 0 false->bB W' s d p t 0 false)(hg:W.grownBy W' (some s)):So B W' s d g n c gen dk key x:=by
 obtain⟨t,p,M,r,hS,hT,hV,tr,b1,b2⟩:=h.out;refine⟨⟨t,p,M,r,hs t p hS,⟨(hg.block t (aaa.1 hT.out).1 (fun e=>?_)).trans hT.out⟩,hV.ap (Ap.grown hg (fun b e=>?_)),tr,b1,b2⟩,h.bd⟩
 ·injection e with e
  exact (G.aB hT.out hS.out (by decide)) e
 ·injection e with e
  subst e;exact⟨_,_,_,hS.out,by decide⟩
theorem Gz{gen:Nat}(h:Se B w s d g n c gen dk)(hB:B<=w.heap.size)(hL:S.gU w)(hn:3<=n)(key x:ByteArray)(hk:key.size<=64)(hx:x.size<=48):
 Calls Tryz.prog 17 #[.pointer (some ⟨s,0,none⟩),.string key,.string x] w fun e w'=>e=.returned (.int .i64 0)/\So B w' s d g n c gen dk key x/\Below B w w':=by
 obtain⟨t,p,hS,hT,hV,hbs,hbt⟩:=h.out;have f1:=bE hS;have f2:=uV w key hk;have f3:=Lu h hB hL hn key x hk hx;have h3:¬ (65536:Int)<(x.size:Nat):=by omega
 have HT:Hid (∀ W,So B W s d g n c gen dk key x->∃ v0 v1 v2 v4,W.heap[s]? = some (.cells #[v0,v1,v2,.int .i64 0,v4] 74)):=fun W hW=>by
  obtain⟨t,p,M,r,hS,_⟩:=hW.out;exact⟨_,_,_,_,hS.out⟩
 clear h hS hT hV hB hL hk hx;go_enter Tryz.func17,Tryz.ntmps17;go_wp2_with (first
  | (go_at_call 25;(with_reducible refine f1.mono ?_);rintro e w1 ⟨rfl,hw1⟩;rw[hw1];clear hw1)
  | (go_at_call 33;(with_reducible refine f2.mono ?_);rintro e w1 ⟨rfl,hw1⟩;rw[hw1];clear hw1)
  | (go_at_call 39;(with_reducible refine f3.mono ?_);rintro e w2 ⟨rfl,S2,b2⟩;obtain⟨v0,v1,v2,v4,hb⟩:=HT.out _ S2;have e3:w2.cell? ⟨s,3,none⟩=some (.int .i64 0):=(by rw[cell_of_row w2 s _ _ _ _ hb];rfl);have e4:=frozen_of_row w2 s 3 _ _ hb;have hb2:=heap_setCell_same w2 s 3 _ _ (.int .i64 0) hb;have e5:(w2.setCell ⟨s,3,none⟩ (.int .i64 0)).cell? ⟨s,3,none⟩=some (.int .i64 0):=(by rw[cell_of_row _ s _ _ _ _ hb2];rfl);have HF:Hid (So B (w2.setCell ⟨s,3,none⟩ (.int .i64 0)) s d g n c gen dk key x/\Below B w (w2.setCell ⟨s,3,none⟩ (.int .i64 0))):=⟨S2.turn (fun t p hS=>hS.ui 0) (lN _ _ _ _),b2.setCell hbs _⟩;clear f3 S2 b2 hb hb2))
 go_ret;exact⟨rfl,HF.out⟩
structure Kd (n c gen:Nat) (dk:Dk) (M:Pm) (root:Int):Prop where
 fn:Fn n c dk
 own:dk.secs[gen % 2]? = some ⟨bs (fZ gen root),false,0⟩
 sup:oV gen root
 qO:∀ k y,M k=some y->dk.secs[k]? = some ⟨whole (bq (G.eB (fun _=>none) k (PT k gen y)) k),false,0⟩
theorem Qd{M M':Nat->Option G.bG}(h:M n=M' n):bq M n=bq M' n:=by
 unfold bq G.nG;rw[h]
theorem LA{gen:Nat}(h:Pv B w p ⟨n,d,g,dk,gen,-1,fun _=>none⟩ M)(hf:Fn n c dk)(hc:c<40000)(hB:B<=w.heap.size)(hs:oV (gen+1) root) :
  ∃ dk',Kd n (c+1100) (gen+1) dk' M root/\dk'.secs[gen % 2]? = dk.secs[gen % 2]? /\
   Calls Tryz.prog 35 #[.pointer (some ⟨p,0,none⟩),.int .i64 root] w fun r w'=>r=.returned (.int .i64 0)/\aa B w' d g dk'/\G.On B w w':=by
 obtain⟨q,hG,hm,⟨e1,e2,e3,e4,e5⟩,hfr,hu,hn,hk⟩:=h.out;dsimp only at hG hm e1 e2 e3 hfr hu hn hk;have hfn:Fn n c q.disk:=by rw[e2];exact hf
 have tq:=h.few;have hgn:=h.fine.1;dsimp only at tq hgn;have hsome:∀ k,(q.fresh k).isSome=true->∃ y,M k=some y:=fun k hk'=>by
  rw[hfr k]at hk';unfold sP at hk';cases hM:M k with
  | none=>rw[hM]at hk';simp at hk'
  | some y=>exact⟨y,rfl⟩
 have hkl:(keysOf q.fresh).length<=1024:=by unfold keysOf;exact aad (List.length_filter_le _ _) (by simp)
 have uu:∀ n,(G.nG q.fresh n).gen<18446744073709551616:=fun k=>by
  unfold G.nG;rw[hfr k];unfold sP;cases hM:M k with
  | none=>simp[G.bG.zero]
  | some y=>simp;omega
 have hkeys:∀ k∈keysOf q.fresh,2<=k/\k<n:=fun k hk'=>by
  obtain⟨y,hy⟩:=hsome k (G.mem_keys.1 hk').2;have:=h.wU k y hy;exact⟨this.1,this.2.1⟩
 obtain⟨d1,d',w1,w2,ok,f⟩:=G.wh hG hB hfn.ok (by omega) e4 uu (by omega) root (by rw[e1];exact hs) hfn.Df (hfn.live _) (fun k hk'=>by rw[hfn.len];exact (hkeys k hk').2) (by rw[hfn.len];exact h.two);rw[e1]at w2;have aaU:(gen+1) % 2≠gen % 2:=by omega
 refine⟨d',⟨⟨w2.Df,by rw[w2.len,w1.len,hfn.len],by rw[w2.cuts,w1.cuts,hfn.cuts],by rw[w2.fails,w1.fails,hfn.fails],G.Ok.mono ok (by omega)⟩,w2.own ⟨(gen+1) % 2,bs (fZ (gen+1) root)⟩ (by simp),hs,fun k y hy=>?_⟩,?_,f.mono ?_⟩
 ·have hr:=h.wU k y hy
  rw[w2.dm k (by intro x hx;simp at hx;subst hx;show (gen+1) % 2≠k;omega)];have hmem:k∈keysOf q.fresh:=G.mem_keys.2 ⟨by have:=hr.2.1;dsimp only at this;omega,by rw[hfr k];unfold sP;rw[hy];rfl⟩;have:=w1.own ⟨k,whole (bq q.fresh k)⟩ (by unfold G.Na;exact List.mem_map.2 ⟨k,hmem,rfl⟩);have es:bq q.fresh k=bq (G.eB (fun _=>none) k (PT k (gen+1) y)) k:=Qd (by
   rw[hfr k]
   unfold sP G.eB PT
   rw[hy,aao rfl])
  rw[this];show some (rU.mk (whole (bq q.fresh k)) false 0)=_;rw[es]
 ·rw[w2.dm (gen % 2) (by intro x hx;simp at hx;subst hx;exact aaU),w1.dm (gen % 2) (by
   intro x hx
   unfold G.Na at hx
   obtain⟨k,hk',rfl⟩:=List.mem_map.1 hx
   have:=(hkeys k hk').1
   show k≠gen % 2
   omega),e2]
 ·rintro r w' ⟨rfl,⟨a,a1,a2,ga⟩,o⟩
  refine⟨rfl,?_,o⟩;have:=ga.disk;rw[a1,a2]at this;exact this
open Go.Proofs.YtifeihnhkbagpaaGreatDoor.D (fJ)
open B (R)
variable {r:Int}
theorem EF(h:Tree M r [(key,⟨x,-1,0⟩)]):∃ (n:Nat) (y:Nd),r=(n:Int)/\M n=some y/\N.Good y/\Up y.ks/\y.leaf=true/\(∀ v∈y.vs,v.p=-1)/\Wf M 0 n/\(fm M 0 n).Pairwise R/\bN (fm M 0 n)=[(key,⟨x,-1,0⟩)]:=by
  rcases h with⟨_,e,_⟩|⟨d,n,rfl,hTr,hc⟩
  · cases e
  · have hm:=hTr.many.1
    rw[hc]at hm;obtain rfl:d=0:=by
      cases d with
      | zero=>rfl
      | succ d=>
        have h3:2 ^ (d+1)=2*2 ^ d:=by rw[Nat.pow_succ];omega
        have:=Nat.two_pow_pos d;rw[h3]at hm;simp only[aau,aaQ]at hm;omega
    obtain⟨y,hy,a,b,c⟩:=hTr.wf;have ho:=hTr.ord;have ho':=ho;rw[aH hy]at ho';have hl:=(c.2.lv c.1).1;refine⟨n,y,rfl,hy,c.2,wG c ho',c.1,?_,hTr.wf,ho,hc⟩;rw[aH hy,dH,gJ]at hc;have e2:y.vs=(y.ks.zip y.vs).map (·.2):=by rw[List.map_snd_zip (by omega)]
    rw[hc]at e2;intro v hv;rw[e2]at hv;simp at hv;rw[hv]
theorem zN(h:So B w s d g n c 1 dk key x)(hB:B<=w.heap.size)(hc:c<30000):
 Calls Tryz.prog 15 #[.pointer (some ⟨s,0,none⟩)] w fun e w'=>e=.returned (.int .i64 0)/\(∃ dk' M r,Kd n (c+1100) 2 dk' M r/\dk'.secs[1]? = dk.secs[1]?/\aa B w' d g dk'/\Tree M r [(key,⟨x,-1,0⟩)]/\(∀ k y,M k=some y->2<=k/\k<n/\y.put.length<=237)/\n<=1024)/\Below B w w':=by
 obtain⟨t,p,M,r,hS,hT,hV,tr,hbs,hbt⟩:=h.out;obtain⟨n0,y,rfl,hy,_⟩:=EF tr;have hr:=hV.wU n0 y hy;have tq:=hV.few;dsimp only at hr tq;have TD:oV (1+1) ((n0:Nat):Int):=by unfold P.oV;omega
 obtain⟨dk',kd,es,f⟩:=LA (hV.kept ((Kept.refl w).drew)) h.bd (by omega) hB TD;have f1:=bE hS;have f2:=oF (hT.kept ((Kept.refl w).drew));obtain⟨c0,c1,c2,c3,c4⟩:=hS.cs;have HS:Hid (bB w s d p t 0 false):=hS;have HX:Hid (∀ W,aa B W d g dk'->∃ dk' M r,Kd n (c+1100) 2 dk' M r/\dk'.secs[1]? = dk.secs[1]?/\aa B W d g dk'/\Tree M r [(key,⟨x,-1,0⟩)]/\(∀ k y,M k=some y->2<=k/\k<n/\y.put.length<=237)/\n<=1024):=fun W hW=>⟨dk',M,_,kd,es,hW,tr,fun k y hy=>by have:=hV.wU k y hy;exact⟨this.1,this.2.1,this.2.2.1⟩,tq⟩
 have HT:Hid (∀ W b,aa B W d g dk'->bB W s d p t 0 b->∀ i v,aa B (W.setCell ⟨s,i,none⟩ v) d g dk'):=fun W b hW hs i v=>G.aa.set hW hs.out (by unfold D.Quiet;decide) i v
 clear h hT hV tr kd es hy hr tq TD hc hS;go_enter Tryz.func15,Tryz.ntmps15;go_wp2_with (go_at_call 25;(with_reducible refine f1.mono ?_);rintro e w1 ⟨rfl,hw1⟩;rw[hw1];clear hw1);go_region_held3 (fun W=>W.cell? ⟨s,1,none⟩=some (.pointer (some ⟨p,0,none⟩))/\W.cell? ⟨s,2,none⟩=some (.pointer (some ⟨t,0,none⟩))) (first | trivial | go_keep | exact e12) (first
  | (go_at_call 36;(with_reducible refine f2.mono ?_);rintro e w1 ⟨rfl,hw1⟩;rw[hw1];clear hw1)
  | (go_at_call 35;(with_reducible refine f.mono ?_);rintro e w2 ⟨rfl,D2,o2⟩;have S2:bB w2 s d p t 0 false:=bB.on (W:=w.drew) ⟨HS.out.out⟩ o2;obtain⟨x0,x1,x2,x3,x4⟩:=S2.cs;have xf:=S2.fz 3;have S3:=S2.ui 0;obtain⟨z0,z1,z2,z3,z4⟩:=S3.cs;have zf:=S3.fz 4;have S4:=S3.V9 false;obtain⟨u0,u1,u2,u3,u4⟩:=S4.cs;have e12:(w2.setCell ⟨s,3,none⟩ (.int .i64 0)).cell? ⟨s,1,none⟩=some (.pointer (some ⟨p,0,none⟩))/\(w2.setCell ⟨s,3,none⟩ (.int .i64 0)).cell? ⟨s,2,none⟩=some (.pointer (some ⟨t,0,none⟩)):=⟨z1,z2⟩;have HF:Hid (aa B ((w2.setCell ⟨s,3,none⟩ (.int .i64 0)).setCell ⟨s,4,none⟩ (.bool false)) d g dk'/\Below B w ((w2.setCell ⟨s,3,none⟩ (.int .i64 0)).setCell ⟨s,4,none⟩ (.bool false))):=⟨HT.out _ _ (HT.out _ _ D2 S2 _ _) S3 _ _,((((Below.refl B w).drew).trans o2.below).setCell hbs _).setCell hbs _⟩;clear D2 o2 S2 S3 S4))
 all_goals go_wp2
 all_goals go_ret
 all_goals exact⟨rfl,HX.out _ HF.out.1,HF.out.2⟩
theorem Jm:∀ m,hl (fun _=>none) m=0
 | 0=>rfl
 | m+1=>by simp[hl,Jm m]
structure Sk (B:Nat) (W:World) (s d g n:Nat) (key x:ByteArray):Prop where
 out:∃ t p M L c u,∃ n0:Nat,bB W s d p t 0 false/\dI W t p (n0:Nat)/\Cg B L W p d g n 2 c (n0:Nat) M u/\Wf M 0 n0/\(fm M 0 n0).Pairwise R/\bN (fm M 0 n0)=[(key,⟨x,-1,0⟩)]
theorem LB(h:aa B w d g dk)(hB:B<=w.heap.size)(kd:Kd n c 2 dk M r)(h1:dk.secs[1]? = some ⟨bs (fZ 1 (-1)),false,0⟩)(tr:Tree M r [(key,⟨x,-1,0⟩)])(hr:∀ k y,M k=some y->2<=k/\k<n/\y.put.length<=237)(h3:n<=1024)(hc:c<30000):
 Calls Tryz.prog 10 #[.pointer (some ⟨d,0,none⟩)] w fun e w'=>∃ s,e=.returned (.tuple #[.pointer (some ⟨s,0,none⟩),.int .i64 0])/\Sk B w' s d g n key x/\G.On B w w':=by
 obtain⟨n0,y,rfl,hy,hg,hup,hlf,hv,hwf,ho,hcon⟩:=EF tr;have hr0:=hr n0 y hy;have s0:=kd.own;have fn:=kd.fn;have f1:=Jl hB (q:=opened dk.begin.begin (2,(n0:Nat))) (G.xY h hB fn.ok (by omega) fn.Df (fn.live 2) (by rw[fn.len];omega) (by rw[fn.len];exact h3) s0 h1 (o0:=some (2,((n0:Nat):Int))) (o1:=some (1,-1)) (G.uz kd.sup rfl) (G.uz G.Hy rfl) (2,((n0:Nat):Int)) rfl)
  (fun w' p=>∃ L u,Cg B L w' p d g n 2 (c+2) (n0:Nat) M u) (by
   intro W0 W s t p hG k0 hB0 hS hT
   have fb:=fn.begin.begin
   have hC0:Cg B W0.heap.size W0 p d g n 2 (c+2) (n0:Nat) M G.ahead:=by
    obtain⟨a,a1,a2,ga⟩:=hG.out
    obtain⟨_,_,m1⟩:=ga.fm.block
    obtain⟨_,_,m2⟩:=ga.hm.block
    refine⟨⟨a,_,⟨a1,a2⟩,⟨(aaa.1 m1).1,(aaa.1 m2).1⟩,ga,⟨rfl,rfl,fb.len,rfl⟩,fun _=>rfl,⟨fb.fails.symm,fb.cuts,fb.Df,fb.len,?_⟩,fun k z hz=>⟨2,by decide,kd.qO k z hz,.inl rfl⟩,fun k _=>⟨rfl,rfl,rfl⟩⟩,hr,⟨h3,by omega⟩⟩
    show Ok (c+2+hl (fun _=>none) n) _
    rw[Jm]
    exact fb.ok
   refine (ED hS ((Cg.stay B W0.heap.size p d g n 2 (c+2) (n0:Nat) M G.ahead).out _ _ hC0 (Aq.ax k0)) (aad hB0 k0.size) k0.size hT (by rw[rC];simp;omega) hy hg hup hlf hv).mono ?_
   rintro e w' ⟨rfl,C1,o1⟩
   exact⟨rfl,⟨_,_,C1⟩,o1⟩)
 have HQ:Hid (Wf M 0 n0/\(fm M 0 n0).Pairwise R/\bN (fm M 0 n0)=[(key,⟨x,-1,0⟩)]):=⟨hwf,ho,hcon⟩;clear h kd h1 tr hr hy hg hup hlf hv hwf ho hcon hr0 s0 fn hB;go_enter Tryz.func10,Tryz.ntmps10;go_wp2_with (go_at_call 31;(with_reducible refine f1.mono ?_);rintro e w1 ⟨s,t,p,rfl,S1,T1,⟨L,u,C1⟩,l1,o1⟩;have HF:Hid (Sk B w1 s d g n key x/\G.On B w w1):=⟨⟨t,p,M,L,_,u,n0,S1,T1,C1,HQ.out⟩,o1⟩;clear f1 S1 T1 C1 l1 o1);go_ret2;exact⟨s,rfl,HF.out⟩
theorem EG(w:World)(s:Option Addr)(x:ByteArray)(l:Int):Calls Tryz.prog 41 #[.pointer s,.agg #[.string x,.int .i64 (-1),.int .i64 l]] w fun e w'=>e=.returned (.tuple #[.string x,.int .i64 0])/\Kept w w':=by
 obtain⟨x0,x1,x2⟩:=(C3.alloc w 77 (.string x) (.int .i64 (-1)) (.int .i64 l)).cs;go_enter Tryz.func41,Tryz.ntmps41;go_wp2;go_ret2;exact⟨rfl,(Kept.refl w).alloc _⟩
theorem Sk.kept(h:Sk B W s d g n key x)(k:Kept W W'):Sk B W' s d g n key x:=by
 obtain⟨t,p,M,L,c,u,n0,S1,T1,C1,r⟩:=h.out;exact⟨t,p,M,L,c,u,n0,S1.kept k,T1.kept k,(Cg.stay _ _ _ _ _ _ _ _ _ _ _).out _ _ C1 (Aq.ax k),r⟩
theorem Qe(h:Sk B w s d g n key x)(hB:B<=w.heap.size):
 Calls Tryz.prog 23 #[.pointer (some ⟨s,0,none⟩),.string key] w fun e w'=>e=.returned (.tuple #[.string x,.bool true,.int .i64 0])/\Sk B w' s d g n key x/\G.On B w w':=by
 obtain⟨t,p,M,L,c,u,n0,S1,T1,C1,hwf,ho,hcon⟩:=h.out;have f1:=bE S1;have f2:=VZ (key:=key) (Cg.rdr B L p d g n 2 c (n0:Nat) M u) T1 rfl C1 hB hwf ho (by decide);rw[hcon]at f2;have eg:got key [(key,(⟨x,-1,0⟩:Vl))]=some ⟨x,-1,0⟩:=by simp[got]
 have eh:had key [(key,(⟨x,-1,0⟩:Vl))]=⟨x,-1,0⟩:=by unfold had;rw[eg];rfl
 rw[eg,eh]at f2;dsimp only[Option.isSome_some]at f2;have f3:Hid (∀ W,Calls Tryz.prog 41 #[.pointer (some ⟨s,0,none⟩),.agg #[.string x,.int .i64 (-1),.int .i64 0]] W fun e w'=>e=.returned (.tuple #[.string x,.int .i64 0])/\Kept W w'):=fun W=>EG W _ x 0
 obtain⟨c0,c1,c2,c3,c4⟩:=S1.cs;have HX:Hid (∀ W W',Ct B L (fun W=>Cg B L W p d g n 2 c (n0:Nat) M u) w W->Kept W W'->Sk B W' s d g n key x/\G.On B w W'):=fun W W' k k'=>⟨Sk.kept ⟨t,p,M,L,c,u,n0,S1.on k.f.on,T1.on k.f.on,k.i,hwf,ho,hcon⟩ k',k.f.on.kept ⟨k'.out⟩ hB⟩
 clear h S1 T1 C1 hwf ho hcon hB eg eh;go_enter Tryz.func23,Tryz.ntmps23;go_wp2_with (first
  | (go_at_call 25;(with_reducible refine f1.mono ?_);rintro e w1 ⟨rfl,hw1⟩;rw[hw1];clear hw1)
  | (go_at_call 40;(with_reducible refine f2.mono ?_);rintro e w2 ⟨rfl,k2⟩;have R3:=C3.alloc w2 77 (.string x) (.int .i64 (-1)) (.int .i64 0);have ka:Kept w2 (w2.alloc (.cells #[.string x,.int .i64 (-1),.int .i64 0] 77)):=(Kept.refl w2).alloc _;obtain⟨r0,r1,r2⟩:=R3.cs;clear f2)
  | (go_at_call 41;(with_reducible refine (f3.out _).mono ?_);rintro e w3 ⟨rfl,k3⟩;have HF:=HX.out _ _ k2 (ka.trans k3);clear f3))
 go_ret3;exact⟨rfl,HF⟩
theorem AY(hS:bB w s d p t err db)(hG:G.tZ B w p d g q):Calls Tryz.prog 27 #[.pointer (some ⟨s,0,none⟩)] w fun e w'=>e=.returned (.int .u64 q.gen)/\Kept w w':=by
 obtain⟨c0,c1,c2,c3,c4⟩:=hS.cs;have f1:=G.xV hG;generalize q.gen=gn at *;generalize q.root=rt at *;have hfl:∀ W,(Instr.field 88 (.agg #[.int .u64 gn,.int .i64 rt]) 0).run Tryz.prog W=.ok (.int .u64 gn) W:=fun W=>TB _ _ W
 go_enter Tryz.func27,Tryz.ntmps27;go_wp2_with (go_at_call 44;(with_reducible refine f1.mono ?_);rintro e w1 ⟨rfl,k1⟩);go_ret;exact⟨rfl,⟨k1.out⟩⟩
theorem Sk.gen(h:Sk B w s d g n key x):Calls Tryz.prog 27 #[.pointer (some ⟨s,0,none⟩)] w fun e w'=>e=.returned (.int .u64 2)/\Kept w w':=by
 obtain⟨t,p,M,L,c,u,n0,S1,T1,C1,_⟩:=h.out;obtain⟨a,q,e1,_,hG,eg,_⟩:=C1.out;have:=AY S1 (q:=q) (g:=g) (B:=B) ⟨a,e1.1,e1.2,hG⟩;rw[eg.1]at this;exact this
theorem GD(hL:S.gU w):Calls Tryz.prog 9 #[] w fun e w'=>e=.returned (.bool true)/\Kept w w':=by
 have h:fJ 0 w (.slice none 0 0) []:=⟨none,0,rfl,aac _,aag _,fun j hj=>by cases hj⟩;have f1:Calls Tryz.prog 8 #[.int .i64 40,.slice none 0 0] w _:=D.dN 40 (by omega) h (aag _) (aag _) (by intro _ h;cases h);have f2:Hid (∀ W b g,aa w.heap.size W b g (Dk.new 40 [])->Kept w W->Calls Tryz.prog 10 #[.pointer (some ⟨b,0,none⟩)] W fun e w'=>∃ s dk,e=.returned (.tuple #[.pointer (some ⟨s,0,none⟩),.int .i64 0])/\(Se w.heap.size w' s b g 40 9 1 dk/\Bn 40 9 dk)/\Kept w w'):=fun W b g hD k=>by
  refine (EE hD k.size (by decide) (by decide)).mono ?_;rintro e w' ⟨s,dk,rfl,a1,a2,o⟩;exact⟨s,dk,rfl,⟨a1,a2⟩,⟨k.out.trans o.below⟩⟩
 have f3:Hid (∀ W s b g dk,Se w.heap.size W s b g 40 9 1 dk->Kept w W->Calls Tryz.prog 17 #[.pointer (some ⟨s,0,none⟩),.string ⟨#[97]⟩,.string ⟨#[49]⟩] W fun e w'=>e=.returned (.int .i64 0)/\So w.heap.size w' s b g 40 9 1 dk ⟨#[97]⟩ ⟨#[49]⟩/\Kept w w'):=fun W s b g dk hS k=>by
  refine (Gz hS k.size (aC hL k) (by decide) ⟨#[97]⟩ ⟨#[49]⟩ (by decide) (by decide)).mono ?_;rintro e w' ⟨rfl,a1,o⟩;exact⟨rfl,a1,⟨k.out.trans o⟩⟩
 have f4:Hid (∀ W s b g dk,So w.heap.size W s b g 40 9 1 dk ⟨#[97]⟩ ⟨#[49]⟩->Bn 40 9 dk->Kept w W->Calls Tryz.prog 15 #[.pointer (some ⟨s,0,none⟩)] W fun e w'=>e=.returned (.int .i64 0)/\(∃ dk' M r,Kd 40 1109 2 dk' M r/\dk'.secs[1]? = some ⟨bs (fZ 1 (-1)),false,0⟩/\aa w.heap.size w' b g dk'/\Tree M r [(⟨#[97]⟩,⟨⟨#[49]⟩,-1,0⟩)]/\(∀ k y,M k=some y->2<=k/\k<40/\y.put.length<=237))/\Kept w w'):=fun W s b g dk hS hD k=>by
  refine (zN hS k.size (by decide)).mono ?_;rintro e w' ⟨rfl,⟨dk',M,r,a1,a2,a3,a4,a5,_⟩,o⟩;exact⟨rfl,⟨dk',M,r,a1,a2.trans hD.s1,a3,a4,a5⟩,⟨k.out.trans o⟩⟩
 have f5:Hid (∀ W b g,(∃ dk' M r,Kd 40 1109 2 dk' M r/\dk'.secs[1]? = some ⟨bs (fZ 1 (-1)),false,0⟩/\aa w.heap.size W b g dk'/\Tree M r [(⟨#[97]⟩,⟨⟨#[49]⟩,-1,0⟩)]/\(∀ k y,M k=some y->2<=k/\k<40/\y.put.length<=237))->Kept w W->Calls Tryz.prog 10 #[.pointer (some ⟨b,0,none⟩)] W fun e w'=>∃ s,e=.returned (.tuple #[.pointer (some ⟨s,0,none⟩),.int .i64 0])/\Sk w.heap.size w' s b g 40 ⟨#[97]⟩ ⟨#[49]⟩/\Kept w w'):=fun W b g hx k=>by
  obtain⟨dk',M,r,a1,a2,a3,a4,a5⟩:=hx;refine (LB a3 k.size a1 a2 a4 a5 (by decide) (by decide)).mono ?_;rintro e w' ⟨s,rfl,a,o⟩;exact⟨s,rfl,a,⟨k.out.trans o.below⟩⟩
 have f6:Hid (∀ W s b g,Sk w.heap.size W s b g 40 ⟨#[97]⟩ ⟨#[49]⟩->Kept w W->Calls Tryz.prog 23 #[.pointer (some ⟨s,0,none⟩),.string ⟨#[97]⟩] W fun e w'=>e=.returned (.tuple #[.string ⟨#[49]⟩,.bool true,.int .i64 0])/\Sk w.heap.size w' s b g 40 ⟨#[97]⟩ ⟨#[49]⟩/\Kept w w'):=fun W s b g hS k=>by
  refine (Qe hS k.size).mono ?_;rintro e w' ⟨rfl,a,o⟩;exact⟨rfl,a,⟨k.out.trans o.below⟩⟩
 have f7:Hid (∀ W s b g,Sk w.heap.size W s b g 40 ⟨#[97]⟩ ⟨#[49]⟩->Kept w W->Calls Tryz.prog 27 #[.pointer (some ⟨s,0,none⟩)] W fun e w'=>e=.returned (.int .u64 2)/\Kept w w'):=fun W s b g hS k=>by
  refine hS.gen.mono ?_;rintro e w' ⟨rfl,k'⟩;exact⟨rfl,k.trans k'⟩
 clear h hL;generalize Dk.new 40 []=dn at f1 f2;go_enter Tryz.func9,Tryz.ntmps9;go_wp2_with (first
  | (go_at_call 8;(with_reducible refine f1.mono ?_);rintro e w1 ⟨b,g,rfl,D1,k1⟩;have g2:=f2.out _ b g D1 ⟨k1.out⟩;clear f1 f2 D1 k1)
  | (go_at_call 10;(with_reducible refine g2.mono ?_);rintro e w2 ⟨s,dk,rfl,⟨S2,B2⟩,k2⟩;have g3:=f3.out _ s b g dk S2 k2;have HB2:Hid (Bn 40 9 dk):=B2;clear g2 f3 S2 B2 k2)
  | (go_at_call 17;(with_reducible refine g3.mono ?_);rintro e w3 ⟨rfl,S3,k3⟩;have g4:=f4.out _ s b g dk S3 HB2.out k3;clear g3 f4 S3 k3)
  | (go_at_call 15;(with_reducible refine g4.mono ?_);rintro e w4 ⟨rfl,x4,k4⟩;have g5:=f5.out _ b g x4 k4;clear g4 f5 x4 k4)
  | (go_at_call 10;(with_reducible refine g5.mono ?_);rintro e w5 ⟨s',rfl,S5,k5⟩;have g6:=f6.out _ s' b g S5 k5;clear g5 f6 S5 k5)
  | (go_at_call 23;(with_reducible refine g6.mono ?_);rintro e w6 ⟨rfl,S6,k6⟩;have g7:=f7.out _ s' b g S6 k6;clear g6 f7 S6 k6)
  | (go_at_call 27;(with_reducible refine g7.mono ?_);rintro e w7 ⟨rfl,k7⟩;clear g7))
 go_ret;exact⟨by first | rfl | decide,k7⟩
open B (upd su nJ pK)
open N (BD bs)
theorem TE(m:Xm)(M:Pm):m.n<=Jd m M+nJ M m.n+yn m+2:=by
 have key:∀ k,k<=m.n->k<=S.cnt k (pQ m M)+su (us M) k+su (fun q=>if (m.Y q).isSome=true then 1 else 0) k+2:=by
  intro k;induction k with
  | zero=>intro _;omega
  | succ k ih=>
   intro hk;have h3:=ih (by omega);rw[S.lS];simp only[su];by_cases h2:2<=k
   ·have h5:1<=(if pQ m M k=true then 0 else 1)+us M k+(if (m.Y k).isSome=true then 1 else 0):=by
     unfold pQ us;have h6:¬ k<2:=by omega
     cases e1:(M k).isSome <;> cases e2:(m.Y k).isSome <;> simp[h6]
    omega
   ·omega
 exact key m.n (aac _)
theorem GG{l:Int}(hS:bB w s d p t err db)(f:Calls Tryz.prog 40 #[.pointer (some ⟨t,0,none⟩),.string key] w fun e w'=>e=.returned (.tuple #[.agg #[.string x,.int .i64 (-1),.int .i64 l],.bool true,.int .i64 0])/\Kept w w'):
 Calls Tryz.prog 53 #[.pointer (some ⟨s,0,none⟩),.string key] w fun e w'=>e=.returned (.tuple #[.bool true,.int .i64 0])/\Kept w w':=by
 obtain⟨c0,c1,c2,c3,c4⟩:=hS.cs;go_enter Tryz.func53,Tryz.ntmps53;go_wp2_with (go_at_call 40;(with_reducible refine f.mono ?_);rintro e w1 ⟨rfl,k1⟩;obtain⟨r0,r1,r2⟩:=(C3.alloc w1 77 (.string x) (.int .i64 (-1)) (.int .i64 l)).cs);go_ret2;exact⟨rfl,k1.trans ((Kept.refl _).alloc _)⟩
theorem EH{l:Nat}{Q:World->Prop}(hB:B<=w.heap.size)(hS:bB w s d p t err db)(f:Calls Tryz.prog 40 #[.pointer (some ⟨t,0,none⟩),.string key] w fun e w'=>e=.returned (.tuple #[.agg #[.string x,.int .i64 n,.int .i64 l],.bool true,.int .i64 0])/\Kept w w')(g:∀ W,Kept w W->Calls Tryz.prog 83 #[.pointer (some ⟨p,0,none⟩),.int .i64 n,.int .i64 l] W fun e w'=>e=.returned (.int .i64 0)/\Q w'/\G.On B W w'):
 Calls Tryz.prog 53 #[.pointer (some ⟨s,0,none⟩),.string key] w fun e w'=>e=.returned (.tuple #[.bool true,.int .i64 0])/\Q w'/\G.On B w w':=by
 obtain⟨c0,c1,c2,c3,c4⟩:=hS.cs;have hn:¬ (n:Int)=-1:=by omega
 have HG:Hid _:=g;have HS:Hid (bB w s d p t err db/\B<=w.heap.size):=⟨hS,hB⟩;clear g hS hB;go_enter Tryz.func53,Tryz.ntmps53;go_wp2_with (go_at_call 40;(with_reducible refine f.mono ?_);rintro e w1 ⟨rfl,k1⟩;have R1:=C3.alloc w1 77 (.string x) (.int .i64 n) (.int .i64 l);obtain⟨r0,r1,r2⟩:=R1.cs;have K2:Kept w (w1.alloc (.cells #[.string x,.int .i64 n,.int .i64 l] 77)):=k1.trans ((Kept.refl _).alloc _);obtain⟨d0,d1,d2,d3,d4⟩:=(HS.out.1.kept K2).cs;clear f k1);have K3:Kept w (w1.alloc (.cells #[.string x,.int .i64 n,.int .i64 l] 77)).drew:=K2.drew;have g4:=HG.out _ K3;go_region_held3 (fun W=>W.cell? ⟨s,1,none⟩=some (.pointer (some ⟨p,0,none⟩))/\W.cell? ⟨w1.heap.size,1,none⟩=some (.int .i64 n)/\W.cell? ⟨w1.heap.size,2,none⟩=some (.int .i64 l)) (first | trivial | go_keep) (first
  | (go_at_call 83;(with_reducible refine g4.mono ?_);rintro e w4 ⟨rfl,q4,o4⟩;obtain⟨y0,y1,y2,y3,y4⟩:=((HS.out.1.kept K3).on o4).cs;obtain⟨v0,v1,v2⟩:=(Gu (C3.drew R1) o4 nK).cs;have HF:Hid (Q w4/\G.On B w w4):=⟨q4,(G.On.ax ⟨K3.out⟩ HS.out.2).trans o4⟩;clear g4 q4 o4))
 all_goals go_wp2
 all_goals go_ret2
 all_goals exact⟨rfl,HF.out⟩
theorem LF{Q:Nat->World->Prop}(hx:48<x.size)(hS:bB w s d p t err db){B:Nat}(hB:B<=w.heap.size)(g:∀ W,Kept w W->Calls Tryz.prog 91 #[.pointer (some ⟨p,0,none⟩),.string x] W fun e w'=>∃ n:Nat,e=.returned (.tuple #[.int .i64 (n:Nat),.int .i64 0])/\Q n w'/\G.On B W w')(hq:∀ n W W' cs fr b,Q n W->W.heap[b]? = some (.cells cs 77 fr)->W.grownBy W' (some b)->Q n W'):
 Calls Tryz.prog 60 #[.pointer (some ⟨s,0,none⟩),.string x] w fun e w'=>∃ n:Nat,e=.returned (.tuple #[.agg #[.string ⟨#[]⟩,.int .i64 (n:Nat),.int .i64 x.size],.int .i64 0])/\Q n w'/\G.On B w w':=by
 have h:¬ (x.size:Int)<=48:=by omega
 have K0:Kept w (w.alloc (.cells #[.string ⟨#[]⟩,.int .i64 0,.int .i64 0] 77)):=(Kept.refl w).alloc _;have R0:=C3.alloc w 77 (.string ⟨#[]⟩) (.int .i64 0) (.int .i64 0);obtain⟨c0,c1,c2,c3,c4⟩:=(hS.kept K0).cs;have f:=g _ K0;have HQ:Hid _:=hq;have HB:Hid (B<=w.heap.size):=hB;clear g hq hS hB;go_enter Tryz.func60,Tryz.ntmps60;go_wp2_with (go_at_call 91;(with_reducible refine f.mono ?_);rintro e w1 ⟨n,rfl,q1,o1⟩;have R1:=Gu R0 o1 nK;obtain⟨⟨g0,i0⟩,⟨g1,i1⟩,⟨g2,i2⟩,hfin⟩:=N.dw R1.out (.string ⟨#[]⟩) (.int .i64 (n:Nat)) (.int .i64 x.size);have HF:Hid (Q n (((w1.setCell ⟨w.heap.size,0,none⟩ (.string ⟨#[]⟩)).setCell ⟨w.heap.size,1,none⟩ (.int .i64 (n:Nat))).setCell ⟨w.heap.size,2,none⟩ (.int .i64 x.size))/\G.On B w (((w1.setCell ⟨w.heap.size,0,none⟩ (.string ⟨#[]⟩)).setCell ⟨w.heap.size,1,none⟩ (.int .i64 (n:Nat))).setCell ⟨w.heap.size,2,none⟩ (.int .i64 x.size))):=⟨HQ.out n w1 _ _ _ w.heap.size q1 R1.out (uT _ _ _ _ _),PZ ((G.On.ax ⟨K0.out⟩ HB.out).trans o1) (uT _ _ _ _ _) (fun b e=>(by injection e with e;omega)) HB.out⟩;clear f q1 o1);generalize (((World.setCell _ ⟨w.heap.size,0,none⟩ (.string ⟨#[]⟩)).setCell ⟨w.heap.size,1,none⟩ (.int .i64 (n:Nat))).setCell ⟨w.heap.size,2,none⟩ (.int .i64 x.size))=WF at hfin HF ⊢;refine bodyPost_ret (v:=.tuple #[.agg #[.string ⟨#[]⟩,.int .i64 (n:Nat),.int .i64 x.size],.int .i64 0]) ?_ rfl ⟨n,rfl,HF.out⟩
 exact N.af (p:=4) (u:=5) (ty:=77) rfl _ _ w.heap.size 77 #[.string ⟨#[]⟩,.int .i64 (n:Nat),.int .i64 x.size] (0,0) _ rfl hfin Tryz.underlying77 rfl iJ
open B (Ord uN)
variable {l:List En}
theorem EI(h:Tree M r l):Ord l:=by
 rcases h with⟨_,rfl,_⟩|⟨d,n,_,hT,rfl⟩
 ·exact List.Pairwise.nil
 ·exact uN hT.ord
theorem EJ:∀ {l:List En},Ord l->∀ e∈l,got e.1 l=some e.2
 | [],_,e,he=>by cases he
 | a :: r,h,e,he=>by
  unfold got;rcases aaW.1 he with rfl | he
  ·simp
  ·obtain⟨h1,h2⟩:=List.pairwise_cons.1 h
   have hne:a.1≠e.1:=fun e1=>by
    have:=h1 e he;rw[e1,N.dY]at this;cases this
   rw[List.find?_cons_of_neg (by simpa using hne)];exact EJ h2 e he
variable {m:Xm}
theorem TF{P:ByteArray->List Nat}(key:ByteArray)(hS:bB w s d p t 0 false)(hV:Vw B w t p m r M l)(hC:Cv m l P):
 Calls Tryz.prog 53 #[.pointer (some ⟨s,0,none⟩),.string key] w fun e w'=>(∃ b,e=.returned (.tuple #[.bool b,.int .i64 0]))/\(∃ Y,Pv B w' p { m with Y:=Y } M/\Cv { m with Y:=Y } (upd key [] l) P)/\G.On B w w':=by
 have hg:=hV.get key;have aaV:=EI hV.tr;have huq:∀ e∈l,e.1=key->got key l=some e.2:=fun e he e1=>by rw[<- e1];exact EJ aaV e he
 cases hk:got key l with
 | none=>
  have hh:had key l=⟨⟨#[]⟩,-1,0⟩:=by unfold had;rw[hk];rfl
  rw[hh,hk]at hg;refine (zA hS hg).mono ?_;rintro e w' ⟨rfl,k⟩;exact⟨⟨_,rfl⟩,⟨m.Y,hV.pv.kept k,hC.gone key (fun v hv=>by rw[hk]at hv;cases hv) huq⟩,G.On.ax ⟨k.out⟩ hV.bw⟩
 | some v=>
  have hh:had key l=v:=by unfold had;rw[hk];rfl
  rw[hh,hk]at hg;have hm:=Jj hk;rcases hC.each _ hm with⟨h1,h2⟩|⟨n,ns,tt,h1,h2,h3,h4,h5,h6⟩
  ·dsimp only at h1
   rw[h1]at hg;refine (GG hS hg).mono ?_;rintro e w' ⟨rfl,k⟩;exact⟨⟨_,rfl⟩,⟨m.Y,hV.pv.kept k,hC.gone key (fun v' hv=>by rw[hk]at hv;obtain rfl:=aaq hv;exact h1) huq⟩,G.On.ax ⟨k.out⟩ hV.bw⟩
  ·dsimp only at h1 h2 h3
   rw[h1,h2]at hg;refine (EH (Q:=fun w'=>Pv B w' p (Ch.Xm.less m (n :: ns)) M) hV.bw hS hg (fun W k=>Ch.Lm (hV.pv.kept k) (aad hV.bw k.size) h4 (by omega) h6)).mono ?_;rintro e w' ⟨rfl,q,o⟩;refine⟨⟨_,rfl⟩,⟨_,q,?_⟩,o⟩;have:=hC.freed key hk;rw[h3]at this;exact this
theorem LG{P:ByteArray->List Nat}(x:ByteArray)(hx:x.size<=702)(hS:bB w s d p t 0 false)(hV:Pv B w p m M)(hC:Cv m (upd key [] l) P)(ht:Tree M r l)(hB:B<=w.heap.size)(hB0:1<B)(hL:S.gU w)(hr:5*l.length+10<=m.n):
 Calls Tryz.prog 60 #[.pointer (some ⟨s,0,none⟩),.string x] w fun e w'=>∃ v:Vl,e=.returned (.tuple #[.agg #[.string v.d,.int .i64 v.p,.int .i64 v.l],.int .i64 0])/\(BD v/\∃ Y P',Pv B w' p { m with Y:=Y } M/\Cv { m with Y:=Y } (upd key [(key,v)] l) P')/\G.On B w w':=by
 by_cases hs:x.size<=48
 ·refine (uW w _ x hs).mono ?_
  rintro e w' ⟨rfl,k⟩;exact⟨⟨x,-1,0⟩,rfl,⟨.inl ⟨rfl,rfl,hs⟩,m.Y,_,hV.kept k,hC.inl rfl⟩,G.On.ax ⟨k.out⟩ hB⟩
 ·have hn:=hV.few
  have hup:=xw key [] l;have hyn:=hC.few;have htp:=pK m.n ht;have hfr:=TE m M;simp only[aaQ]at hup;have jN:(N.un x).length=x.size:=by have:=N.au (N.un x);rw[N.rH]at this;omega
  have hroom:Ch.need (N.un x).length<=Jd m M:=by rw[jN];unfold Ch.need;omega
  refine (LF (B:=B) (Q:=fun n W=>n<1024/\∃ Y P',Pv B W p { m with Y:=Y } M/\Cv { m with Y:=Y } (upd key [(key,⟨⟨#[]⟩,(n:Nat),(x.size:Nat)⟩)] l) P') (by omega) hS hB (fun W k=>?_) ?_).mono ?_
  ·have:=Li (hV.kept k) (aad hB k.size) hB0 (aC hL k) (N.un x) (by omega) (by omega) hroom
   rw[N.rH]at this;refine this.mono ?_;rintro e w' ⟨n,ns,Y,rfl,c⟩;have hcv:=hC.far c (by omega);rw[jN]at hcv;obtain⟨y,hy⟩:=c.ch.some n (by simp);have:=(c.pv.dm n y hy).2;have:=c.pv.few;dsimp only at *;exact⟨n,rfl,⟨by omega,Y,_,c.pv,hcv⟩,c.on⟩
  ·rintro n W W' cs fr b ⟨q1,Y,P',q2,q3⟩ hb hg
   exact⟨q1,Y,P',q2.ap (Ap.grown hg (fun b' e=>by injection e with e;subst e;exact⟨_,_,_,hb,by decide⟩)),q3⟩
  ·rintro e w' ⟨n,rfl,⟨q1,q2⟩,o⟩
   exact⟨⟨⟨#[]⟩,(n:Nat),(x.size:Nat)⟩,rfl,⟨.inr ⟨rfl,n,x.size,rfl,by omega,rfl,by omega,by omega⟩,q2⟩,o⟩
structure Gv (B:Nat) (W:World) (s:Nat) (m:Xm) (l:List En):Prop where
 out:∃ t p M r Y P,bB W s m.d p t 0 false/\Vw B W t p { m with Y:=Y } r M l/\Cv { m with Y:=Y } l P/\B<=s
theorem LH(h:Gv B w s m l)(key x:ByteArray)(hk:key.size<=64)(hx:x.size<=702)(hr:5*l.length+40<=m.n):
 Calls Tryz.prog 39 #[.pointer (some ⟨s,0,none⟩),.string key,.string x] w fun e w'=>e=.returned (.int .i64 0)/\(∃ v,Gv B w' s m (upd key [(key,v)] l))/\Below B w w':=by
 obtain⟨t,p,M,r,Y,P,hS,hV,hC,hbs⟩:=h.out;obtain⟨c0,c1,c2,c3,c4⟩:=hS.cs;have f1:=TF key hS hV hC;have hl1:=xw key [] l;have HV:Hid (Vw B w t p { m with Y:=Y } r M l/\bB w s m.d p t 0 false/\B<=s):=⟨hV,hS,hbs⟩;have f2:Hid (∀ W,(∃ Y',Pv B W p { m with Y:=Y' } M/\Cv { m with Y:=Y' } (upd key [] l) P)->G.On B w W->Calls Tryz.prog 60 #[.pointer (some ⟨s,0,none⟩),.string x] W fun e w'=>∃ v:Vl,e=.returned (.tuple #[.agg #[.string v.d,.int .i64 v.p,.int .i64 v.l],.int .i64 0])/\(BD v/\∃ Y P',Pv B w' p { m with Y:=Y } M/\Cv { m with Y:=Y } (upd key [(key,v)] l) P')/\G.On B W w'):=by
  rintro W ⟨Y',q1,q2⟩ o;exact LG (m:={ m with Y:=Y' }) x hx (HV.out.2.1.on o) q1 q2 HV.out.1.tr (aad HV.out.1.bw o.size) HV.out.1.b0 (eZ HV.out.1.Ur o HV.out.1.b0) (by show 5*l.length+10<=m.n;omega)
 have f3:Hid (∀ W (v:Vl),(BD v/\∃ Y P',Pv B W p { m with Y:=Y } M/\Cv { m with Y:=Y } (upd key [(key,v)] l) P')->G.On B w W->∀ W',Kept W W'->Calls Tryz.prog 61 #[.pointer (some ⟨t,0,none⟩),.string key,.agg #[.string v.d,.int .i64 v.p,.int .i64 v.l]] W' fun e w'=>(∃ a b,e=.returned (.tuple #[a,b,.int .i64 0]))/\(Gv B w' s m (upd key [(key,v)] l)/\bB w' s m.d p t 0 false/\∀ b a0 a1 a2,C3 W' b 77 a0 a1 a2->C3 w' b 77 a0 a1 a2)/\Below B w w'):=by
  rintro W v ⟨hv,Y',P',q1,q2⟩ o W' k;have hup:=xw key [(key,v)] l;have hyn:=q2.few;simp only[aau,aaQ]at hup;have hV2:Vw B W' t p { m with Y:=Y' } r M l:=⟨(HV.out.1.EO.on o).kept k,q1.kept k,HV.out.1.tr,HV.out.1.bt,aad HV.out.1.bw (aad o.size k.size),HV.out.1.b0,aC (eZ HV.out.1.Ur o HV.out.1.b0) k⟩;have hS2:=(HV.out.2.1.on o).kept k;refine (hV2.put key hk hv (by show _<m.n;split <;> omega)).mono ?_;rintro e w' ⟨rfl,⟨M',r',hV3⟩,x3⟩;have hS3:=hS2.tx hV2.EO x3;exact⟨⟨_,_,rfl⟩,⟨⟨t,p,M',r',Y',P',hS3,hV3,q2,HV.out.2.2⟩,hS3,fun b a0 a1 a2 hc=>⟨x3.rows _ _ _ _ hc.out nK (G.aB hc.out hV2.EO.out (by decide))⟩⟩,((o.below).trans (k.out.mono (aad HV.out.1.bw o.size))).trans x3.below⟩
 clear h hV hC hS hk hx hr hl1 hbs;go_enter Tryz.func39,Tryz.ntmps39;go_wp2_with (first
  | (go_at_call 53;(with_reducible refine f1.mono ?_);rintro e w1 ⟨⟨b,rfl⟩,x1,o1⟩;have g2:=f2.out _ x1 o1;have Fa:Hid (G.On B w w1):=o1;clear f1 f2 x1 o1)
  | (go_at_call 60;(with_reducible refine g2.mono ?_);rintro e w2 ⟨⟨vd,vp,vl⟩,rfl,x2,o2⟩;have Wd:Hid (G.On B w w2):=Fa.out.trans o2;have g3:=f3.out _ _ x2 Wd.out;have R3:=C3.alloc w2 77 (.string vd) (.int .i64 vp) (.int .i64 vl);have ka:Kept w2 (w2.alloc (.cells #[.string vd,.int .i64 vp,.int .i64 vl] 77)):=(Kept.refl w2).alloc _;obtain⟨d0,d1,d2,d3,d4⟩:=((HV.out.2.1.on Wd.out).kept ka).cs;obtain⟨r0,r1,r2⟩:=R3.cs;clear g2 f3 x2 o2 Fa))
 have g4:=g3 _ (ka.drew);go_region_held3 (fun W=>W.cell? ⟨s,2,none⟩=some (.pointer (some ⟨t,0,none⟩))/\W.cell? ⟨w2.heap.size,0,none⟩=some (.string vd)/\W.cell? ⟨w2.heap.size,1,none⟩=some (.int .i64 vp)/\W.cell? ⟨w2.heap.size,2,none⟩=some (.int .i64 vl)) (first | trivial | go_keep) (first
  | (go_at_call 61;(with_reducible refine g4.mono ?_);rintro e w4 ⟨⟨a,b,rfl⟩,⟨S4,A4,c4'⟩,b4⟩;obtain⟨y0,y1,y2,y3,y4⟩:=A4.cs;obtain⟨v0,v1,v2⟩:=(c4' w2.heap.size _ _ _ (C3.drew R3)).cs;have HF:Hid ((∃ v,Gv B w4 s m (upd key [(key,v)] l))/\Below B w w4):=⟨⟨_,S4⟩,b4⟩;clear g3 g4 S4 b4))
 all_goals go_wp2
 all_goals go_ret
 all_goals exact⟨rfl,HF.out⟩
theorem Gv.turn(h:Gv B W s m l)(hs:∀ t p,bB W s m.d p t 0 false->bB W' s m.d p t 0 false)(hg:W.grownBy W' (some s)):Gv B W' s m l:=by
 obtain⟨t,p,M,r,Y,P,hS,hV,hC,b1⟩:=h.out;have hT:=hV.EO;refine⟨⟨t,p,M,r,Y,P,hs t p hS,⟨⟨(hg.block t (aaa.1 hT.out).1 (fun e=>?_)).trans hT.out⟩,hV.pv.ap (Ap.grown hg (fun b e=>?_)),hV.tr,hV.bt,aad hV.bw hg.size,hV.b0,G.eZ hV.Ur ((Below.refl B W).grown hg hV.bw (fun k e=>by injection e with e;omega)) hV.b0⟩,hC,b1⟩⟩
 ·injection e with e
  exact (G.aB hT.out hS.out (by decide)) e
 ·injection e with e
  subst e;exact⟨_,_,_,hS.out,by decide⟩
theorem GH(h:Gv B w s m l)(key x:ByteArray)(hk:key.size<=64)(hx:x.size<=702)(hr:5*l.length+40<=m.n):
 Calls Tryz.prog 17 #[.pointer (some ⟨s,0,none⟩),.string key,.string x] w fun e w'=>e=.returned (.int .i64 0)/\(∃ v,Gv B w' s m (upd key [(key,v)] l))/\Below B w w':=by
 obtain⟨t,p,M,r,Y,P,hS,hV,hC,hbs⟩:=h.out;have f1:=bE hS;have f2:=uV w key hk;have f3:=LH h key x hk hx hr;have h3:¬ (65536:Int)<(x.size:Nat):=by omega
 have HT:Hid (∀ W l',Gv B W s m l'->∃ v0 v1 v2 v4,W.heap[s]? = some (.cells #[v0,v1,v2,.int .i64 0,v4] 74)):=fun W l' hW=>by
  obtain⟨t,p,M,r,Y,P,hS,_⟩:=hW.out;exact⟨_,_,_,_,hS.out⟩
 clear h hS hV hC hk hx hr;go_enter Tryz.func17,Tryz.ntmps17;go_wp2_with (first
  | (go_at_call 25;(with_reducible refine f1.mono ?_);rintro e w1 ⟨rfl,hw1⟩;rw[hw1];clear hw1)
  | (go_at_call 33;(with_reducible refine f2.mono ?_);rintro e w1 ⟨rfl,hw1⟩;rw[hw1];clear hw1)
  | (go_at_call 39;(with_reducible refine f3.mono ?_);rintro e w2 ⟨rfl,⟨v,S2⟩,b2⟩;obtain⟨v0,v1,v2,v4,hb⟩:=HT.out _ _ S2;have e3:w2.cell? ⟨s,3,none⟩=some (.int .i64 0):=(by rw[cell_of_row w2 s _ _ _ _ hb];rfl);have e4:=frozen_of_row w2 s 3 _ _ hb;have hb2:=heap_setCell_same w2 s 3 _ _ (.int .i64 0) hb;have e5:(w2.setCell ⟨s,3,none⟩ (.int .i64 0)).cell? ⟨s,3,none⟩=some (.int .i64 0):=(by rw[cell_of_row _ s _ _ _ _ hb2];rfl);have HF:Hid ((∃ v,Gv B (w2.setCell ⟨s,3,none⟩ (.int .i64 0)) s m (upd key [(key,v)] l))/\Below B w (w2.setCell ⟨s,3,none⟩ (.int .i64 0))):=⟨⟨v,S2.turn (fun t p hS=>hS.ui 0) (lN _ _ _ _)⟩,b2.setCell hbs _⟩;clear f3 S2 b2 hb hb2))
 go_ret;exact⟨rfl,HF.out⟩
