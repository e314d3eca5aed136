/- Joined: TOd TOe TOf TP TQ TR TS TT. What is proved of the functions beneath BtreeEnds,BtreeFull,BtreeShape,BtreePlays. Conditions: those that each row names. -/
import Derived.Test.YtncfpjccfmolgaaGreatDoorZbh
namespace Go.Proofs.YtncfpjccfmolgaaGreatDoor.T
open Go.ChangeShapes Go.WideShapes Go.ChangeAt Go.RowKit
open B (Pm pt drp Stp plc Ext Pn Prt WfN us jn abv)
open N (Nd NV NZ Nw Rw Rx Own Kept kcl vcl icl Vl C4 Up blk)
set_option linter.unusedSimpArgs false in
set_option maxRecDepth 100000 in
set_option maxHeartbeats 4000000 in
theorem lift_first_err {B:Nat} {w:World} {c t p m K nj jc d:Nat} {jp:Option Addr} {J:List Int} {root page:Int} {M M':Pm} (hC:CAt w c t (.slice jp nj jc)) (hJ:Own w K 3 1 jp nj jc (icl J)) (hnj:nj≤1000) (hK:K≤w.heap.size) (hBK:B≤K) (hKc:K≤c) (hB:B≤w.heap.size) (hB0:0<B) (hL:S.Lds w) (hT:TAt w t p root) (hV:Pv B w p m M)
  {l:Bool} {skb sko snk skc:Nat} {svp:Option Addr} {snv svc sib sio sni sic kid fr tt:Nat} {x:Nd} (hs:NV w false (some ⟨skb,sko,none⟩) snk skc svp snv svc (some ⟨sib,sio,none⟩) sni sic x) (gx:N.Good x) (hx2:2≤sni) (has:Apt c (blk jp) (some ⟨sib,sio,none⟩)) (hti:tt≤sni)
  {nkp:Option Addr} {nnk nkc:Nat} {nvp:Option Addr} {nnv nvc:Nat} {nip:Option Addr} {nni nic:Nat} {y:Nd} (hy:NV w l nkp nnk nkc nvp nnv nvc nip nni nic y) (hay:Apt c (blk jp) nip) (gy:N.Good y) (hlow:y.put.length<79) (htt:tt=fr+2) (hkid:kid=0) (hfr:fr=0) {pg:Nat} {key:ByteArray} {beside:Nd} {q0:Int} (h0:x.is[fr]? = some q0) (hpg:x.is[fr+1]? = some (pg:Int)) (hkey:x.ks[fr]? = some key) (hM:M pg=some beside) (gb:N.Good beside) (ub:Up beside.ks) (hbl:beside.leaf=l) (wf:WfN M d (jn y key beside)) (hb:(jn y key beside).put.length≤(if d=0 then 352 else 380)) (hR:PE M m (jn y key beside) M') :
  Calls Tryz.prog 56 #[.pointer (some ⟨c,0,none⟩),.agg #[.int .i64 page,.bool false,.slice (some ⟨skb,sko,none⟩) snk skc,.slice svp snv svc,.slice (some ⟨sib,sio,none⟩) sni sic,.int .i64 (kid:Nat)],.agg #[.bool l,.slice nkp nnk nkc,.slice nvp nnv nvc,.slice nip nni nic]] w fun e w'=>e=.returned (.tuple #[.agg #[.bool false,.slice none 0 0,.slice none 0 0,.slice none 0 0],.int .i64 80])∧Pv B w' p m M'∧Lx B c (blk jp) w w':=by
 have K0:Kept w (((w.alloc (.cells #[.int .i64 page,.bool false,.slice (some ⟨skb,sko,none⟩) snk skc,.slice svp snv svc,.slice (some ⟨sib,sio,none⟩) sni sic,.int .i64 (kid:Nat)] 113)).alloc (.cells #[.bool l,.slice nkp nnk nkc,.slice nvp nnv nvc,.slice nip nni nic] 52)).alloc (.cells #[.bool false,.slice none 0 0,.slice none 0 0,.slice none 0 0] 52)):=(((Kept.refl w).alloc _).alloc _).alloc _
 have S4:(((w.alloc (.cells #[.int .i64 page,.bool false,.slice (some ⟨skb,sko,none⟩) snk skc,.slice svp snv svc,.slice (some ⟨sib,sio,none⟩) sni sic,.int .i64 (kid:Nat)] 113)).alloc (.cells #[.bool l,.slice nkp nnk nkc,.slice nvp nnv nvc,.slice nip nni nic] 52)).alloc (.cells #[.bool false,.slice none 0 0,.slice none 0 0,.slice none 0 0] 52)).heap[w.heap.size]? = some (.cells #[.int .i64 page,.bool false,.slice (some ⟨skb,sko,none⟩) snk skc,.slice svp snv svc,.slice (some ⟨sib,sio,none⟩) sni sic,.int .i64 (kid:Nat)] 113):=((((Kept.refl _).alloc _).alloc _)).block (heap_alloc_new w _)
 have S5:(((w.alloc (.cells #[.int .i64 page,.bool false,.slice (some ⟨skb,sko,none⟩) snk skc,.slice svp snv svc,.slice (some ⟨sib,sio,none⟩) sni sic,.int .i64 (kid:Nat)] 113)).alloc (.cells #[.bool l,.slice nkp nnk nkc,.slice nvp nnv nvc,.slice nip nni nic] 52)).alloc (.cells #[.bool false,.slice none 0 0,.slice none 0 0,.slice none 0 0] 52)).heap[w.heap.size+1]? = some (.cells #[.bool l,.slice nkp nnk nkc,.slice nvp nnv nvc,.slice nip nni nic] 52):=((Kept.refl _).alloc _).block (D.two_new w _ _)
 have S6:(((w.alloc (.cells #[.int .i64 page,.bool false,.slice (some ⟨skb,sko,none⟩) snk skc,.slice svp snv svc,.slice (some ⟨sib,sio,none⟩) sni sic,.int .i64 (kid:Nat)] 113)).alloc (.cells #[.bool l,.slice nkp nnk nkc,.slice nvp nnv nvc,.slice nip nni nic] 52)).alloc (.cells #[.bool false,.slice none 0 0,.slice none 0 0,.slice none 0 0] 52)).heap[w.heap.size+1+1]? = some (.cells #[.bool false,.slice none 0 0,.slice none 0 0,.slice none 0 0] 52):=three_new w _ _ _
 obtain⟨fk,fv,fi⟩:=good_few hs gx
 have hxl:x.leaf=false:=hs.hl
 have eni:=hs.ni
 have enk:=hs.nk
 have eli:=(gx.li hxl).1
 have evs:=(gx.li hxl).2
 have e1:IntKind.i64.wrap ((kid:Int)+1)=(kid+1:Int):=by rw[IntKind.wrap_i64];omega
 have e2:IntKind.i64.wrap ((fr:Int)+2)=(tt:Int):=by rw[IntKind.wrap_i64];omega
 have e3:(1:Int)<(sni:Int):=by omega
 obtain⟨te,hte⟩:∃ te,te=tt-1:=⟨_,rfl⟩
 have e4:IntKind.i64.wrap ((tt:Int)-1)=(te:Int):=by rw[IntKind.wrap_i64];omega
 have HT1:Hid (fr≤te∧te<tt∧tt≤fr+2∧tt=te+1∧tt≤sni∧fr<sni):=⟨by omega,by omega,by omega,by omega,by omega,by omega⟩
 have HC:Hid (CAt w c t (.slice jp nj jc)):=hC
 have HJ:Hid (Own w K 3 1 jp nj jc (icl J)):=hJ
 have HK:Hid (K≤w.heap.size∧B≤K∧K≤c∧B≤w.heap.size∧0<B):=⟨hK,hBK,hKc,hB,hB0⟩
 have HL:Hid (S.Lds w):=hL
 have HT:Hid (TAt w t p root):=hT
 have HV:Hid (Pv B w p m M):=hV
 have HX:Hid (NV w false (some ⟨skb,sko,none⟩) snk skc svp snv svc (some ⟨sib,sio,none⟩) sni sic x):=hs
 have HGX:Hid (N.Good x):=gx
 have HY:Hid (NV w l nkp nnk nkc nvp nnv nvc nip nni nic y):=hy
 have HGY:Hid (N.Good y):=gy
 have HWF:Hid (WfN M d (jn y key beside)∧(jn y key beside).put.length≤(if d=0 then 352 else 380)):=⟨wf,hb⟩
 have HR:Hid (PE M m (jn y key beside) M'):=hR
 have HN:Hid (x.ks.length=snk∧x.is.length=sni∧sni=snk+1∧x.vs=[]∧snk≤120∧snv≤120∧2≤sni):=⟨enk,eni,by omega,evs,fk,fv,hx2⟩
 have HTt:Hid (Jt w c (blk jp)):=jt_of hC hJ
 have HAS:Hid (Apt c (blk jp) (some ⟨sib,sio,none⟩)):=has
 have HAY:Hid (Apt c (blk jp) nip):=hay
 have HLo:Hid (∀ W,Kept w W→Calls Tryz.prog 85 #[.agg #[.bool l,.slice nkp nnk nkc,.slice nvp nnv nvc,.slice nip nni nic]] W fun e w'=>e=.returned (.bool true)∧Kept W w'):=fun W k=>by have:=N.low_walk (hy.kept k) gy;rwa [decide_eq_true hlow]at this
 have HJo:Hid (∀ W,Kept w W→Calls Tryz.prog 86 #[.pointer (some ⟨c,0,none⟩),.agg #[.int .i64 page,.bool false,.slice (some ⟨skb,sko,none⟩) snk skc,.slice svp snv svc,.slice (some ⟨sib,sio,none⟩) sni sic,.int .i64 (kid:Nat)],.int .i64 (fr:Nat),.agg #[.bool l,.slice nkp nnk nkc,.slice nvp nnv nvc,.slice nip nni nic]] W fun e w'=>∃ kp nk kc vp nv vc ip ni ic jp' jc',e=.returned (.tuple #[.agg #[.bool l,.slice kp nk kc,.slice vp nv vc,.slice ip ni ic],.int .i64 0])∧NV w' l kp nk kc vp nv vc ip ni ic (jn y key beside)∧CAt w' c t (.slice jp' (nj+1) jc')∧Own w' K 3 1 jp' (nj+1) jc' (icl (J++[(pg:Int)]))∧Jx c (blk jp) W w'):=fun W k=>by
  rw[show (kid:Nat)=fr by omega]
  exact join_first (hC.kept k) (hJ.kept k) hnj (Nat.le_trans hK k.size) (hT.kept k) (hV.kept k) (hs.kept k) has (hy.kept k) hay gy h0 hpg hkey (by omega) hM gb ub hbl
 obtain⟨qq,hqq⟩:∃ qq:Int,qq=-1:=⟨_,rfl⟩
 have e5:IntKind.i64.wrap ((kid:Int)-1)=qq:=by rw[IntKind.wrap_i64];omega
 have e6:max qq 0=(fr:Int):=by omega
 obtain⟨s0,s1,s2,s3,s4,s5⟩:=cells6 S4
 clear hC hJ hK hBK hKc hB hB0 hL hT hV hs gx hx2 hti hy gy wf hb hR fk fv fi hxl eni enk eli evs htt hte hlow hnj has hay hpg hkey hM gb ub hbl h0 hkid hfr hqq
 go_enter Tryz.func56,Tryz.ntmps56
 go_wp2
 go_quiet (fail)
 obtain⟨W,hW⟩:∃ W,(((w.alloc (.cells #[.int .i64 page,.bool false,.slice (some ⟨skb,sko,none⟩) snk skc,.slice svp snv svc,.slice (some ⟨sib,sio,none⟩) sni sic,.int .i64 (kid:Nat)] 113)).alloc (.cells #[.bool l,.slice nkp nnk nkc,.slice nvp nnv nvc,.slice nip nni nic] 52)).alloc (.cells #[.bool false,.slice none 0 0,.slice none 0 0,.slice none 0 0] 52)).drewN nq=W:=⟨_,rfl⟩
 have KW:Kept w W:=by rw[← hW];exact K0.drewN nq
 have S4W:W.heap[w.heap.size]? = some (.cells #[.int .i64 page,.bool false,.slice (some ⟨skb,sko,none⟩) snk skc,.slice svp snv svc,.slice (some ⟨sib,sio,none⟩) sni sic,.int .i64 (kid:Nat)] 113):=by rw[← hW];exact S4
 have S5W:W.heap[w.heap.size+1]? = some (.cells #[.bool l,.slice nkp nnk nkc,.slice nvp nnv nvc,.slice nip nni nic] 52):=by rw[← hW];exact S5
 have S6W:W.heap[w.heap.size+1+1]? = some (.cells #[.bool false,.slice none 0 0,.slice none 0 0,.slice none 0 0] 52):=by rw[← hW];exact S6
 rw[hW]
 clear hW S4 S5 S6 K0 s0 s1 s2 s3 s4 s5
 obtain⟨s0,s1,s2,s3,s4,s5⟩:=cells6 S4W
 obtain⟨y0,y1,y2,y3⟩:=(C4.mk S5W).cs
 go_wp2_with (first
  | (go_at_call 85;(with_reducible refine (HLo.out _ KW).mono ?_);rintro e w1 ⟨rfl,k1⟩;have K1:=KW.trans k1;have P4:=k1.block S4W;have P5:=k1.block S5W;have P6:=k1.block S6W;obtain⟨s0,s1,s2,s3,s4,s5⟩:=cells6 P4;obtain⟨y0,y1,y2,y3⟩:=(C4.mk P5).cs;clear HLo)
  | (go_at_call 86;(with_reducible refine (HJo.out _ K1).mono ?_);rintro e w2 ⟨akp,ank,akc,avp,anv,avc,aip,ani,aic,jq,jqc,rfl,NA,CA,OA,JA⟩;have JtA:Jt w1 c (blk jp):=jt_of (HC.out.kept K1) (HJ.out.kept K1);have ka:Kept w2 (w2.alloc (.cells #[.bool l,.slice akp ank akc,.slice avp anv avc,.slice aip ani aic] 52)):=(Kept.refl w2).alloc _;have P4a:=ka.block (JA.cells JtA P4 (by decide) (by decide));have P5a:=ka.block (JA.cells JtA P5 (by decide) (by decide));have P6a:=ka.block (JA.cells JtA P6 (by decide) (by decide));have R5:C4 (w2.alloc (.cells #[.bool l,.slice akp ank akc,.slice avp anv avc,.slice aip ani aic] 52)) (w.heap.size+1) 52 (.bool l) (.slice nkp nnk nkc) (.slice nvp nnv nvc) (.slice nip nni nic):=C4.mk P5a;obtain⟨a0,a1,a2,a3⟩:=(C4.alloc w2 52 (.bool l) (.slice akp ank akc) (.slice avp anv avc) (.slice aip ani aic)).cs;obtain⟨⟨g0,f0⟩,⟨g1,f1⟩,⟨g2,f2⟩,⟨g3,f3⟩,hfin⟩:=N.ready4 R5.out (.bool l) (.slice akp ank akc) (.slice avp anv avc) (.slice aip ani aic);have oth:∀ k,k≠w.heap.size+1→(((((w2.alloc (.cells #[.bool l,.slice akp ank akc,.slice avp anv avc,.slice aip ani aic] 52)).setCell ⟨w.heap.size+1,0,none⟩ (.bool l)).setCell ⟨w.heap.size+1,1,none⟩ (.slice akp ank akc)).setCell ⟨w.heap.size+1,2,none⟩ (.slice avp anv avc)).setCell ⟨w.heap.size+1,3,none⟩ (.slice aip ani aic)).heap[k]? = (w2.alloc (.cells #[.bool l,.slice akp ank akc,.slice avp anv avc,.slice aip ani aic] 52)).heap[k]?:=fun k hk=>N.others4 _ hk _ _ _ _;have P4:=(oth (w.heap.size) (by omega)).trans P4a;have P6:=(oth (w.heap.size+1+1) (by omega)).trans P6a;have CP:=cat_same (CA.kept ka) R5.out (by decide) oth;have OP:=own_same (OA.kept ka) R5.out (by decide) oth;have NP:=(NA.kept ka).other R5 oth;have LP:Hid (Lx B c (blk jp) w (((((w2.alloc (.cells #[.bool l,.slice akp ank akc,.slice avp anv avc,.slice aip ani aic] 52)).setCell ⟨w.heap.size+1,0,none⟩ (.bool l)).setCell ⟨w.heap.size+1,1,none⟩ (.slice akp ank akc)).setCell ⟨w.heap.size+1,2,none⟩ (.slice avp anv avc)).setCell ⟨w.heap.size+1,3,none⟩ (.slice aip ani aic))):=(((Lx.ofKept K1 HK.out.2.2.2.1).trans (Lx.ofJx JA (Nat.le_trans HK.out.2.2.2.1 K1.size) (Nat.le_trans HK.out.2.1 HK.out.2.2.1) (fun b e=>by obtain⟨_,_⟩:=own_blk (HJ.out.kept K1) b (by cases jp with | none=>cases e | some a=>exact e);exact Nat.le_trans HK.out.2.1 (by assumption)))).kept ka HK.out.2.2.2.1).oth (z:=w.heap.size+1) (by omega) HK.out.2.2.2.1 (zero4 _ _ _ _ _ _) oth;have XP:=((JA.nv JtA (HX.out.kept K1) HAS.out).kept ka).other R5 oth;have VP:Pv B (((((w2.alloc (.cells #[.bool l,.slice akp ank akc,.slice avp anv avc,.slice aip ani aic] 52)).setCell ⟨w.heap.size+1,0,none⟩ (.bool l)).setCell ⟨w.heap.size+1,1,none⟩ (.slice akp ank akc)).setCell ⟨w.heap.size+1,2,none⟩ (.slice avp anv avc)).setCell ⟨w.heap.size+1,3,none⟩ (.slice aip ani aic)) p m M:=(((HV.out.kept K1).ap (JA.ap JtA)).kept ka).ap (Ap.other R5.out (by decide) (fun k o hk hne=>(oth k hne).trans hk));have HPut:=put_err CP (LP.out.tat HTt.out HT.out) VP (Nat.le_trans HK.out.2.2.2.1 LP.out.size) (G.lds_on HL.out LP.out.below HK.out.2.2.2.2) HK.out.2.2.2.2 NP HWF.out.1 HWF.out.2 HR.out;obtain⟨s0,s1,s2,s3,s4,s5⟩:=cells6 P4;obtain⟨y0,y1,y2,y3⟩:=(C4.mk hfin).cs;clear HJo)
  | (go_at_call 87;(with_reducible refine HPut.mono ?_);rintro e w3 ⟨rfl,V3,o3⟩;have Q6:=o3.rows _ _ _ _ P6 calm52;have L3:Hid (Lx B c (blk jp) w w3):=LP.out.on o3;have R6:C4 w3 (w.heap.size+1+1) 52 (.bool false) (.slice none 0 0) (.slice none 0 0) (.slice none 0 0):=C4.mk Q6;obtain⟨⟨h0,i0⟩,⟨h1,i1⟩,⟨h2,i2⟩,⟨h3,i3⟩,hfinal⟩:=N.ready4 R6.out (.bool false) (.slice none 0 0) (.slice none 0 0) (.slice none 0 0)))
 have othF:∀ k,k≠w.heap.size+1+1→((((w3.setCell ⟨w.heap.size+1+1,0,none⟩ (.bool false)).setCell ⟨w.heap.size+1+1,1,none⟩ (.slice none 0 0)).setCell ⟨w.heap.size+1+1,2,none⟩ (.slice none 0 0)).setCell ⟨w.heap.size+1+1,3,none⟩ (.slice none 0 0)).heap[k]? = w3.heap[k]?:=fun k hk=>N.others4 _ hk _ _ _ _
 have r5:Pv B ((((w3.setCell ⟨w.heap.size+1+1,0,none⟩ (.bool false)).setCell ⟨w.heap.size+1+1,1,none⟩ (.slice none 0 0)).setCell ⟨w.heap.size+1+1,2,none⟩ (.slice none 0 0)).setCell ⟨w.heap.size+1+1,3,none⟩ (.slice none 0 0)) p m M':=V3.ap (Ap.other R6.out (by decide) (fun k o hk hne=>(othF k hne).trans hk))
 have r6:Lx B c (blk jp) w ((((w3.setCell ⟨w.heap.size+1+1,0,none⟩ (.bool false)).setCell ⟨w.heap.size+1+1,1,none⟩ (.slice none 0 0)).setCell ⟨w.heap.size+1+1,2,none⟩ (.slice none 0 0)).setCell ⟨w.heap.size+1+1,3,none⟩ (.slice none 0 0)):=L3.out.oth (z:=w.heap.size+1+1) (by omega) HK.out.2.2.2.1 (zero4 _ _ _ _ _ _) othF
 generalize ((((w3.setCell ⟨w.heap.size+1+1,0,none⟩ (.bool false)).setCell ⟨w.heap.size+1+1,1,none⟩ (.slice none 0 0)).setCell ⟨w.heap.size+1+1,2,none⟩ (.slice none 0 0)).setCell ⟨w.heap.size+1+1,3,none⟩ (.slice none 0 0))=WF at *
 refine bodyPost_ret (v:=.tuple #[.agg #[.bool false,.slice none 0 0,.slice none 0 0,.slice none 0 0],.int .i64 80]) ?_ rfl ⟨rfl,r5,r6⟩
 exact N.results_two (p:=6) (u:=7) (ty:=52) rfl _ _ (w.heap.size+1+1) 52 #[.bool false,.slice none 0 0,.slice none 0 0,.slice none 0 0] (0,0) _ rfl hfinal Tryz.underlying52 rfl N.size52
set_option linter.unusedSimpArgs false in
set_option maxRecDepth 100000 in
set_option maxHeartbeats 4000000 in
theorem lift_other_ok {B:Nat} {w:World} {c t p m K nj jc d:Nat} {jp:Option Addr} {J:List Int} {root page:Int} {M M':Pm} (hC:CAt w c t (.slice jp nj jc)) (hJ:Own w K 3 1 jp nj jc (icl J)) (hnj:nj≤1000) (hK:K≤w.heap.size) (hBK:B≤K) (hKc:K≤c) (hB:B≤w.heap.size) (hB0:0<B) (hL:S.Lds w) (hT:TAt w t p root) (hV:Pv B w p m M)
  {l:Bool} {skb sko snk skc:Nat} {svp:Option Addr} {snv svc sib sio sni sic kid fr tt:Nat} {x:Nd} (hs:NV w false (some ⟨skb,sko,none⟩) snk skc svp snv svc (some ⟨sib,sio,none⟩) sni sic x) (gx:N.Good x) (hx2:2≤sni) (has:Apt c (blk jp) (some ⟨sib,sio,none⟩)) (hti:tt≤sni)
  {nkp:Option Addr} {nnk nkc:Nat} {nvp:Option Addr} {nnv nvc:Nat} {nip:Option Addr} {nni nic:Nat} {y:Nd} (hy:NV w l nkp nnk nkc nvp nnv nvc nip nni nic y) (hay:Apt c (blk jp) nip) (gy:N.Good y) (hlow:y.put.length<79) (htt:tt=fr+2) (hkid:kid=fr+1) {pg:Nat} {key:ByteArray} {beside:Nd} (hpg:x.is[fr]? = some (pg:Int)) (hkey:x.ks[fr]? = some key) (hM:M pg=some beside) (gb:N.Good beside) (ub:Up beside.ks) (hbl:beside.leaf=l) {ns:List Nat} {KK:List ByteArray} (wf:WfN M d (jn beside key y)) (hb:(jn beside key y).put.length≤(if d=0 then 352 else 380)) (hR:PR M m (jn beside key y) M' ns KK) :
  Calls Tryz.prog 56 #[.pointer (some ⟨c,0,none⟩),.agg #[.int .i64 page,.bool false,.slice (some ⟨skb,sko,none⟩) snk skc,.slice svp snv svc,.slice (some ⟨sib,sio,none⟩) sni sic,.int .i64 (kid:Nat)],.agg #[.bool l,.slice nkp nnk nkc,.slice nvp nnv nvc,.slice nip nni nic]] w fun e w'=>∃ kp nk kc vp nv vc ip ni ic jp' jc',e=.returned (.tuple #[.agg #[.bool false,.slice kp nk kc,.slice vp nv vc,.slice ip ni ic],.int .i64 0])∧NV w' false kp nk kc vp nv vc ip ni ic (abv x fr (tt-1) (ns.map fun n:Nat=>(n:Int)) KK)∧CAt w' c t (.slice jp' (nj+1) jc')∧Own w' K 3 1 jp' (nj+1) jc' (icl (J++[(pg:Int)]))∧Apt c (blk jp') ip∧Pv B w' p m M'∧Lx B c (blk jp) w w':=by
 have K0:Kept w (((w.alloc (.cells #[.int .i64 page,.bool false,.slice (some ⟨skb,sko,none⟩) snk skc,.slice svp snv svc,.slice (some ⟨sib,sio,none⟩) sni sic,.int .i64 (kid:Nat)] 113)).alloc (.cells #[.bool l,.slice nkp nnk nkc,.slice nvp nnv nvc,.slice nip nni nic] 52)).alloc (.cells #[.bool false,.slice none 0 0,.slice none 0 0,.slice none 0 0] 52)):=(((Kept.refl w).alloc _).alloc _).alloc _
 have S4:(((w.alloc (.cells #[.int .i64 page,.bool false,.slice (some ⟨skb,sko,none⟩) snk skc,.slice svp snv svc,.slice (some ⟨sib,sio,none⟩) sni sic,.int .i64 (kid:Nat)] 113)).alloc (.cells #[.bool l,.slice nkp nnk nkc,.slice nvp nnv nvc,.slice nip nni nic] 52)).alloc (.cells #[.bool false,.slice none 0 0,.slice none 0 0,.slice none 0 0] 52)).heap[w.heap.size]? = some (.cells #[.int .i64 page,.bool false,.slice (some ⟨skb,sko,none⟩) snk skc,.slice svp snv svc,.slice (some ⟨sib,sio,none⟩) sni sic,.int .i64 (kid:Nat)] 113):=((((Kept.refl _).alloc _).alloc _)).block (heap_alloc_new w _)
 have S5:(((w.alloc (.cells #[.int .i64 page,.bool false,.slice (some ⟨skb,sko,none⟩) snk skc,.slice svp snv svc,.slice (some ⟨sib,sio,none⟩) sni sic,.int .i64 (kid:Nat)] 113)).alloc (.cells #[.bool l,.slice nkp nnk nkc,.slice nvp nnv nvc,.slice nip nni nic] 52)).alloc (.cells #[.bool false,.slice none 0 0,.slice none 0 0,.slice none 0 0] 52)).heap[w.heap.size+1]? = some (.cells #[.bool l,.slice nkp nnk nkc,.slice nvp nnv nvc,.slice nip nni nic] 52):=((Kept.refl _).alloc _).block (D.two_new w _ _)
 have S6:(((w.alloc (.cells #[.int .i64 page,.bool false,.slice (some ⟨skb,sko,none⟩) snk skc,.slice svp snv svc,.slice (some ⟨sib,sio,none⟩) sni sic,.int .i64 (kid:Nat)] 113)).alloc (.cells #[.bool l,.slice nkp nnk nkc,.slice nvp nnv nvc,.slice nip nni nic] 52)).alloc (.cells #[.bool false,.slice none 0 0,.slice none 0 0,.slice none 0 0] 52)).heap[w.heap.size+1+1]? = some (.cells #[.bool false,.slice none 0 0,.slice none 0 0,.slice none 0 0] 52):=three_new w _ _ _
 obtain⟨fk,fv,fi⟩:=good_few hs gx
 have hxl:x.leaf=false:=hs.hl
 have eni:=hs.ni
 have enk:=hs.nk
 have eli:=(gx.li hxl).1
 have evs:=(gx.li hxl).2
 have e1:IntKind.i64.wrap ((kid:Int)+1)=(kid+1:Int):=by rw[IntKind.wrap_i64];omega
 have e2:IntKind.i64.wrap ((fr:Int)+2)=(tt:Int):=by rw[IntKind.wrap_i64];omega
 have e3:(1:Int)<(sni:Int):=by omega
 obtain⟨te,hte⟩:∃ te,te=tt-1:=⟨_,rfl⟩
 have e4:IntKind.i64.wrap ((tt:Int)-1)=(te:Int):=by rw[IntKind.wrap_i64];omega
 rw[← hte]
 have HT1:Hid (fr≤te∧te<tt∧tt≤fr+2∧tt=te+1∧tt≤sni∧fr<sni):=⟨by omega,by omega,by omega,by omega,by omega,by omega⟩
 have HC:Hid (CAt w c t (.slice jp nj jc)):=hC
 have HJ:Hid (Own w K 3 1 jp nj jc (icl J)):=hJ
 have HK:Hid (K≤w.heap.size∧B≤K∧K≤c∧B≤w.heap.size∧0<B):=⟨hK,hBK,hKc,hB,hB0⟩
 have HL:Hid (S.Lds w):=hL
 have HT:Hid (TAt w t p root):=hT
 have HV:Hid (Pv B w p m M):=hV
 have HX:Hid (NV w false (some ⟨skb,sko,none⟩) snk skc svp snv svc (some ⟨sib,sio,none⟩) sni sic x):=hs
 have HGX:Hid (N.Good x):=gx
 have HY:Hid (NV w l nkp nnk nkc nvp nnv nvc nip nni nic y):=hy
 have HGY:Hid (N.Good y):=gy
 have HWF:Hid (WfN M d (jn beside key y)∧(jn beside key y).put.length≤(if d=0 then 352 else 380)):=⟨wf,hb⟩
 have HR:Hid (PR M m (jn beside key y) M' ns KK):=hR
 have HN:Hid (x.ks.length=snk∧x.is.length=sni∧sni=snk+1∧x.vs=[]∧snk≤120∧snv≤120∧2≤sni):=⟨enk,eni,by omega,evs,fk,fv,hx2⟩
 have HTt:Hid (Jt w c (blk jp)):=jt_of hC hJ
 have HAS:Hid (Apt c (blk jp) (some ⟨sib,sio,none⟩)):=has
 have HAY:Hid (Apt c (blk jp) nip):=hay
 have HLo:Hid (∀ W,Kept w W→Calls Tryz.prog 85 #[.agg #[.bool l,.slice nkp nnk nkc,.slice nvp nnv nvc,.slice nip nni nic]] W fun e w'=>e=.returned (.bool true)∧Kept W w'):=fun W k=>by have:=N.low_walk (hy.kept k) gy;rwa [decide_eq_true hlow]at this
 have HJo:Hid (∀ W,Kept w W→Calls Tryz.prog 86 #[.pointer (some ⟨c,0,none⟩),.agg #[.int .i64 page,.bool false,.slice (some ⟨skb,sko,none⟩) snk skc,.slice svp snv svc,.slice (some ⟨sib,sio,none⟩) sni sic,.int .i64 (kid:Nat)],.int .i64 (fr:Nat),.agg #[.bool l,.slice nkp nnk nkc,.slice nvp nnv nvc,.slice nip nni nic]] W fun e w'=>∃ kp nk kc vp nv vc ip ni ic jp' jc',e=.returned (.tuple #[.agg #[.bool l,.slice kp nk kc,.slice vp nv vc,.slice ip ni ic],.int .i64 0])∧NV w' l kp nk kc vp nv vc ip ni ic (jn beside key y)∧CAt w' c t (.slice jp' (nj+1) jc')∧Own w' K 3 1 jp' (nj+1) jc' (icl (J++[(pg:Int)]))∧Jx c (blk jp) W w'):=fun W k=>by
  exact join_other (hC.kept k) (hJ.kept k) hnj (Nat.le_trans hK k.size) (hT.kept k) (hV.kept k) (hs.kept k) has (hy.kept k) hay gy hpg hkey (by omega) hM gb ub hbl
 have e5:IntKind.i64.wrap ((kid:Int)-1)=(fr:Int):=by rw[IntKind.wrap_i64];omega
 obtain⟨s0,s1,s2,s3,s4,s5⟩:=cells6 S4
 clear hC hJ hK hBK hKc hB hB0 hL hT hV hs gx hx2 hti hy gy wf hb hR fk fv fi hxl eni enk eli evs htt hte hlow hnj has hay hpg hkey hM gb ub hbl hkid
 go_enter Tryz.func56,Tryz.ntmps56
 go_wp2
 go_quiet (fail)
 obtain⟨W,hW⟩:∃ W,(((w.alloc (.cells #[.int .i64 page,.bool false,.slice (some ⟨skb,sko,none⟩) snk skc,.slice svp snv svc,.slice (some ⟨sib,sio,none⟩) sni sic,.int .i64 (kid:Nat)] 113)).alloc (.cells #[.bool l,.slice nkp nnk nkc,.slice nvp nnv nvc,.slice nip nni nic] 52)).alloc (.cells #[.bool false,.slice none 0 0,.slice none 0 0,.slice none 0 0] 52)).drewN nq=W:=⟨_,rfl⟩
 have KW:Kept w W:=by rw[← hW];exact K0.drewN nq
 have S4W:W.heap[w.heap.size]? = some (.cells #[.int .i64 page,.bool false,.slice (some ⟨skb,sko,none⟩) snk skc,.slice svp snv svc,.slice (some ⟨sib,sio,none⟩) sni sic,.int .i64 (kid:Nat)] 113):=by rw[← hW];exact S4
 have S5W:W.heap[w.heap.size+1]? = some (.cells #[.bool l,.slice nkp nnk nkc,.slice nvp nnv nvc,.slice nip nni nic] 52):=by rw[← hW];exact S5
 have S6W:W.heap[w.heap.size+1+1]? = some (.cells #[.bool false,.slice none 0 0,.slice none 0 0,.slice none 0 0] 52):=by rw[← hW];exact S6
 rw[hW]
 clear hW S4 S5 S6 K0 s0 s1 s2 s3 s4 s5
 obtain⟨s0,s1,s2,s3,s4,s5⟩:=cells6 S4W
 obtain⟨y0,y1,y2,y3⟩:=(C4.mk S5W).cs
 go_wp2_with (first
  | (go_at_call 85;(with_reducible refine (HLo.out _ KW).mono ?_);rintro e w1 ⟨rfl,k1⟩;have K1:=KW.trans k1;have P4:=k1.block S4W;have P5:=k1.block S5W;have P6:=k1.block S6W;obtain⟨s0,s1,s2,s3,s4,s5⟩:=cells6 P4;obtain⟨y0,y1,y2,y3⟩:=(C4.mk P5).cs;clear HLo)
  | (go_at_call 86;(with_reducible refine (HJo.out _ K1).mono ?_);rintro e w2 ⟨akp,ank,akc,avp,anv,avc,aip,ani,aic,jq,jqc,rfl,NA,CA,OA,JA⟩;have JtA:Jt w1 c (blk jp):=jt_of (HC.out.kept K1) (HJ.out.kept K1);have ka:Kept w2 (w2.alloc (.cells #[.bool l,.slice akp ank akc,.slice avp anv avc,.slice aip ani aic] 52)):=(Kept.refl w2).alloc _;have P4a:=ka.block (JA.cells JtA P4 (by decide) (by decide));have P5a:=ka.block (JA.cells JtA P5 (by decide) (by decide));have P6a:=ka.block (JA.cells JtA P6 (by decide) (by decide));have R5:C4 (w2.alloc (.cells #[.bool l,.slice akp ank akc,.slice avp anv avc,.slice aip ani aic] 52)) (w.heap.size+1) 52 (.bool l) (.slice nkp nnk nkc) (.slice nvp nnv nvc) (.slice nip nni nic):=C4.mk P5a;obtain⟨a0,a1,a2,a3⟩:=(C4.alloc w2 52 (.bool l) (.slice akp ank akc) (.slice avp anv avc) (.slice aip ani aic)).cs;obtain⟨⟨g0,f0⟩,⟨g1,f1⟩,⟨g2,f2⟩,⟨g3,f3⟩,hfin⟩:=N.ready4 R5.out (.bool l) (.slice akp ank akc) (.slice avp anv avc) (.slice aip ani aic);have oth:∀ k,k≠w.heap.size+1→(((((w2.alloc (.cells #[.bool l,.slice akp ank akc,.slice avp anv avc,.slice aip ani aic] 52)).setCell ⟨w.heap.size+1,0,none⟩ (.bool l)).setCell ⟨w.heap.size+1,1,none⟩ (.slice akp ank akc)).setCell ⟨w.heap.size+1,2,none⟩ (.slice avp anv avc)).setCell ⟨w.heap.size+1,3,none⟩ (.slice aip ani aic)).heap[k]? = (w2.alloc (.cells #[.bool l,.slice akp ank akc,.slice avp anv avc,.slice aip ani aic] 52)).heap[k]?:=fun k hk=>N.others4 _ hk _ _ _ _;have P4:=(oth (w.heap.size) (by omega)).trans P4a;have P6:=(oth (w.heap.size+1+1) (by omega)).trans P6a;have CP:=cat_same (CA.kept ka) R5.out (by decide) oth;have OP:=own_same (OA.kept ka) R5.out (by decide) oth;have NP:=(NA.kept ka).other R5 oth;have LP:Hid (Lx B c (blk jp) w (((((w2.alloc (.cells #[.bool l,.slice akp ank akc,.slice avp anv avc,.slice aip ani aic] 52)).setCell ⟨w.heap.size+1,0,none⟩ (.bool l)).setCell ⟨w.heap.size+1,1,none⟩ (.slice akp ank akc)).setCell ⟨w.heap.size+1,2,none⟩ (.slice avp anv avc)).setCell ⟨w.heap.size+1,3,none⟩ (.slice aip ani aic))):=(((Lx.ofKept K1 HK.out.2.2.2.1).trans (Lx.ofJx JA (Nat.le_trans HK.out.2.2.2.1 K1.size) (Nat.le_trans HK.out.2.1 HK.out.2.2.1) (fun b e=>by obtain⟨_,_⟩:=own_blk (HJ.out.kept K1) b (by cases jp with | none=>cases e | some a=>exact e);exact Nat.le_trans HK.out.2.1 (by assumption)))).kept ka HK.out.2.2.2.1).oth (z:=w.heap.size+1) (by omega) HK.out.2.2.2.1 (zero4 _ _ _ _ _ _) oth;have XP:=((JA.nv JtA (HX.out.kept K1) HAS.out).kept ka).other R5 oth;have VP:Pv B (((((w2.alloc (.cells #[.bool l,.slice akp ank akc,.slice avp anv avc,.slice aip ani aic] 52)).setCell ⟨w.heap.size+1,0,none⟩ (.bool l)).setCell ⟨w.heap.size+1,1,none⟩ (.slice akp ank akc)).setCell ⟨w.heap.size+1,2,none⟩ (.slice avp anv avc)).setCell ⟨w.heap.size+1,3,none⟩ (.slice aip ani aic)) p m M:=(((HV.out.kept K1).ap (JA.ap JtA)).kept ka).ap (Ap.other R5.out (by decide) (fun k o hk hne=>(oth k hne).trans hk));have HPut:=put_ok CP (LP.out.tat HTt.out HT.out) VP (Nat.le_trans HK.out.2.2.2.1 LP.out.size) (G.lds_on HL.out LP.out.below HK.out.2.2.2.2) HK.out.2.2.2.2 NP HWF.out.1 HWF.out.2 HR.out;obtain⟨s0,s1,s2,s3,s4,s5⟩:=cells6 P4;obtain⟨y0,y1,y2,y3⟩:=(C4.mk hfin).cs;clear HJo)
  | (go_at_call 87;(with_reducible refine HPut.mono ?_);rintro e w3 ⟨pp,pc,kq,kqc,rfl,OPg,OKy,V3,o3,hkq⟩;have Q4:=o3.rows _ _ _ _ P4 calm113;have Q6:=o3.rows _ _ _ _ P6 calm52;obtain⟨s0,s1,s2,s3,s4,s5⟩:=cells6 Q4;have X3:=nv_on o3 XP;have C3:=CP.on o3;have O3:=own_on o3 calm3 OP;have L3:Hid (Lx B c (blk jp) w w3):=LP.out.on o3;have HCp:=N.copy_walk (l:=false) X3.k X3.v X3.i (kcl_ones _) (N.vcl_one _) (icl_ones _) (by have:=HN.out;omega) (by have:=HN.out;omega) (by have:=HN.out;omega))
  | (go_at_call 88;(with_reducible refine HCp.mono ?_);rintro e w4 ⟨kp4,kc4,vp4,vc4,ip4,ic4,rfl,OK4,OV4,OI4,k4⟩;obtain⟨gk,rfl⟩:=OK4.some_of (by have:=HN.out;have:=HT1.out;omega);obtain⟨gi,rfl⟩:=OI4.some_of (by have:=HN.out;have:=HT1.out;omega);have ka4:Kept w4 (w4.alloc (.cells #[.bool false,.slice (some ⟨gk,0,none⟩) snk kc4,.slice vp4 snv vc4,.slice (some ⟨gi,0,none⟩) sni ic4] 52)):=(Kept.refl w4).alloc _;obtain⟨z0,z1,z2,z3⟩:=(C4.alloc w4 52 (.bool false) (.slice (some ⟨gk,0,none⟩) snk kc4) (.slice vp4 snv vc4) (.slice (some ⟨gi,0,none⟩) sni ic4)).cs;have HRi:=replI (i:=fr) (j:=tt) (OI4.kept ka4) (Nat.le_trans k4.size ka4.size) (by have:=HT1.out;omega) (by have:=HT1.out;omega) (by have:=HT1.out;omega) (by have:=HN.out;omega) (OPg.kept (k4.trans ka4)) (PR.len HR.out).1 (PR.len HR.out).2.1 (fun b e=>Nat.ne_of_lt (Nat.lt_of_lt_of_le (own_lt OPg e) (OI4.nw gi 0 none rfl))))
  | (go_at_call 89;(with_reducible refine HRi.mono ?_);rintro e w5 ⟨ip5,ni5,ic5,rfl,OI5,g5⟩;have tI:=own_ty (OI4.kept ka4) (e':=9) (by decide);have tI2:=own_ty (OI4.kept ka4) (e':=52) (by decide);have tI3:=own_ty (OI4.kept ka4) (e':=33) (by decide);have C45:=c4_grown (C4.alloc w4 52 (.bool false) (.slice (some ⟨gk,0,none⟩) snk kc4) (.slice vp4 snv vc4) (.slice (some ⟨gi,0,none⟩) sni ic4)) g5 tI2;have OK5:=own_grown (OK4.kept ka4) g5 tI;have OV5:=own_grown (OV4.kept ka4) g5 tI3;have k35:Kept w3 w5:=N.grown_kept (B:=w3.heap.size) w3 (k4.trans ka4) g5 (Nat.le_refl _) (fun k e=>by cases e;exact OI4.nw gi 0 none rfl);have kz5:Kept w3 (w5.setCell ⟨w4.heap.size,3,none⟩ (.slice ip5 ni5 ic5)):=k35.set (a:=⟨w4.heap.size,3,none⟩) k4.size _;obtain⟨u0,u1,u2,u3⟩:=C45.cs;have uf:=frozen_of_row w5 w4.heap.size 3 _ _ C45.out;have C5z:C4 (w5.setCell ⟨w4.heap.size,3,none⟩ (.slice ip5 ni5 ic5)) w4.heap.size 52 (.bool false) (.slice (some ⟨gk,0,none⟩) snk kc4) (.slice vp4 snv vc4) (.slice ip5 ni5 ic5):=C4.mk (by rw[heap_setCell_same _ w4.heap.size 3 _ _ _ C45.out];rfl);obtain⟨v0,v1,v2,v3⟩:=C5z.cs;have OI5z:=own_other (i:=3) (v:=.slice ip5 ni5 ic5) OI5 C45.out (by decide);have OK5z:=own_other (i:=3) (v:=.slice ip5 ni5 ic5) OK5 C45.out (by decide);have OV5z:=own_other (i:=3) (v:=.slice ip5 ni5 ic5) OV5 C45.out (by decide);have HRk:=replK (i:=fr) (j:=te) OK5z kz5.size (by have:=HT1.out;omega) (by have:=HT1.out;have:=HN.out;omega) (by have:=HT1.out;omega) (by have:=HN.out;omega) (OKy.kept kz5) (PR.len HR.out).2.2 (fun b e=>Nat.ne_of_lt (Nat.lt_of_lt_of_le (own_lt OKy e) (OK4.nw gk 0 none rfl))) hkq)
  | (go_at_call 90;(with_reducible refine HRk.mono ?_);rintro e w6 ⟨kp6,nk6,kc6,rfl,OK6,g6⟩;have tK:=own_ty OK5z (e':=3) (by decide);have tK2:=own_ty OK5z (e':=52) (by decide);have tK3:=own_ty OK5z (e':=33) (by decide);have C56:=c4_grown C5z g6 tK2;have OI6:=own_grown OI5z g6 tK;have OV6:=own_grown OV5z g6 tK3;have k36:Kept w3 w6:=N.grown_kept (B:=w3.heap.size) w3 kz5 g6 (Nat.le_refl _) (fun k e=>by cases e;exact OK4.nw gk 0 none rfl);have kz6:Kept w3 (w6.setCell ⟨w4.heap.size,1,none⟩ (.slice kp6 nk6 kc6)):=k36.set (a:=⟨w4.heap.size,1,none⟩) k4.size _;obtain⟨p0,p1,p2,p3⟩:=C56.cs;have pf:=frozen_of_row w6 w4.heap.size 1 _ _ C56.out;have C6z:C4 (w6.setCell ⟨w4.heap.size,1,none⟩ (.slice kp6 nk6 kc6)) w4.heap.size 52 (.bool false) (.slice kp6 nk6 kc6) (.slice vp4 snv vc4) (.slice ip5 ni5 ic5):=C4.mk (by rw[heap_setCell_same _ w4.heap.size 1 _ _ _ C56.out];rfl);obtain⟨q0,q1,q2,q3⟩:=C6z.cs;have OI6z:=own_other (i:=1) (v:=.slice kp6 nk6 kc6) OI6 C56.out (by decide);have OK6z:=own_other (i:=1) (v:=.slice kp6 nk6 kc6) OK6 C56.out (by decide);have OV6z:=own_other (i:=1) (v:=.slice kp6 nk6 kc6) OV6 C56.out (by decide);have R6:C4 (w6.setCell ⟨w4.heap.size,1,none⟩ (.slice kp6 nk6 kc6)) (w.heap.size+1+1) 52 (.bool false) (.slice none 0 0) (.slice none 0 0) (.slice none 0 0):=C4.mk (kz6.block Q6);obtain⟨⟨h0,i0⟩,⟨h1,i1⟩,⟨h2,i2⟩,⟨h3,i3⟩,hfinal⟩:=N.ready4 R6.out (.bool false) (.slice kp6 nk6 kc6) (.slice vp4 snv vc4) (.slice ip5 ni5 ic5)))
 have othF:∀ k,k≠w.heap.size+1+1→(((((w6.setCell ⟨w4.heap.size,1,none⟩ (.slice kp6 nk6 kc6)).setCell ⟨w.heap.size+1+1,0,none⟩ (.bool false)).setCell ⟨w.heap.size+1+1,1,none⟩ (.slice kp6 nk6 kc6)).setCell ⟨w.heap.size+1+1,2,none⟩ (.slice vp4 snv vc4)).setCell ⟨w.heap.size+1+1,3,none⟩ (.slice ip5 ni5 ic5)).heap[k]? = (w6.setCell ⟨w4.heap.size,1,none⟩ (.slice kp6 nk6 kc6)).heap[k]?:=fun k hk=>N.others4 _ hk _ _ _ _
 have r1:NV (w6.setCell ⟨w4.heap.size,1,none⟩ (.slice kp6 nk6 kc6)) false kp6 nk6 kc6 vp4 snv vc4 ip5 ni5 ic5 (abv x fr te (ns.map fun n:Nat=>(n:Int)) KK):=by
  refine⟨rfl,OK6z.rw,?_,?_,OK6z.rx,OV6z.rx,OI6z.rx⟩
  ·have:=OV6z.rw;rw[HN.out.2.2.2.1]at this;exact this
  ·have:=OI6z.rw;rw[HT1.out.2.2.2.1]at this;exact this
 have r2:=r1.other R6 othF
 have r3:=cat_same (C3.kept kz6) R6.out (by decide) othF
 have r4:=own_same (O3.kept kz6) R6.out (by decide) othF
 have r5:Pv B (((((w6.setCell ⟨w4.heap.size,1,none⟩ (.slice kp6 nk6 kc6)).setCell ⟨w.heap.size+1+1,0,none⟩ (.bool false)).setCell ⟨w.heap.size+1+1,1,none⟩ (.slice kp6 nk6 kc6)).setCell ⟨w.heap.size+1+1,2,none⟩ (.slice vp4 snv vc4)).setCell ⟨w.heap.size+1+1,3,none⟩ (.slice ip5 ni5 ic5)) p m M':=(V3.kept kz6).ap (Ap.other R6.out (by decide) (fun k o hk hne=>(othF k hne).trans hk))
 have r6:Lx B c (blk jp) w (((((w6.setCell ⟨w4.heap.size,1,none⟩ (.slice kp6 nk6 kc6)).setCell ⟨w.heap.size+1+1,0,none⟩ (.bool false)).setCell ⟨w.heap.size+1+1,1,none⟩ (.slice kp6 nk6 kc6)).setCell ⟨w.heap.size+1+1,2,none⟩ (.slice vp4 snv vc4)).setCell ⟨w.heap.size+1+1,3,none⟩ (.slice ip5 ni5 ic5)):=(L3.out.kept kz6 HK.out.2.2.2.1).oth (z:=w.heap.size+1+1) (by omega) HK.out.2.2.2.1 (zero4 _ _ _ _ _ _) othF
 have r7:Apt c (blk jq) ip5:=by
  intro b off ph e
  have a1:=OI5.nw b off ph e
  have a2:=(Array.getElem?_eq_some_iff.1 C3.out).1
  refine⟨by omega,fun e2=>?_⟩
  obtain⟨cs',fr',e3⟩:=(jt_of C3 O3).j b e2
  have:=(Array.getElem?_eq_some_iff.1 e3).1
  omega
 generalize (((((w6.setCell ⟨w4.heap.size,1,none⟩ (.slice kp6 nk6 kc6)).setCell ⟨w.heap.size+1+1,0,none⟩ (.bool false)).setCell ⟨w.heap.size+1+1,1,none⟩ (.slice kp6 nk6 kc6)).setCell ⟨w.heap.size+1+1,2,none⟩ (.slice vp4 snv vc4)).setCell ⟨w.heap.size+1+1,3,none⟩ (.slice ip5 ni5 ic5))=WF at *
 refine bodyPost_ret (v:=.tuple #[.agg #[.bool false,.slice kp6 nk6 kc6,.slice vp4 snv vc4,.slice ip5 ni5 ic5],.int .i64 0]) ?_ rfl ⟨_,_,_,_,_,_,_,_,_,_,_,rfl,r2,r3,r4,r7,r5,r6⟩
 exact N.results_two (p:=6) (u:=7) (ty:=52) rfl _ _ (w.heap.size+1+1) 52 #[.bool false,.slice kp6 nk6 kc6,.slice vp4 snv vc4,.slice ip5 ni5 ic5] (0,0) _ rfl hfinal Tryz.underlying52 rfl N.size52
set_option linter.unusedSimpArgs false in
set_option maxRecDepth 100000 in
set_option maxHeartbeats 4000000 in
theorem lift_other_err {B:Nat} {w:World} {c t p m K nj jc d:Nat} {jp:Option Addr} {J:List Int} {root page:Int} {M M':Pm} (hC:CAt w c t (.slice jp nj jc)) (hJ:Own w K 3 1 jp nj jc (icl J)) (hnj:nj≤1000) (hK:K≤w.heap.size) (hBK:B≤K) (hKc:K≤c) (hB:B≤w.heap.size) (hB0:0<B) (hL:S.Lds w) (hT:TAt w t p root) (hV:Pv B w p m M)
  {l:Bool} {skb sko snk skc:Nat} {svp:Option Addr} {snv svc sib sio sni sic kid fr tt:Nat} {x:Nd} (hs:NV w false (some ⟨skb,sko,none⟩) snk skc svp snv svc (some ⟨sib,sio,none⟩) sni sic x) (gx:N.Good x) (hx2:2≤sni) (has:Apt c (blk jp) (some ⟨sib,sio,none⟩)) (hti:tt≤sni)
  {nkp:Option Addr} {nnk nkc:Nat} {nvp:Option Addr} {nnv nvc:Nat} {nip:Option Addr} {nni nic:Nat} {y:Nd} (hy:NV w l nkp nnk nkc nvp nnv nvc nip nni nic y) (hay:Apt c (blk jp) nip) (gy:N.Good y) (hlow:y.put.length<79) (htt:tt=fr+2) (hkid:kid=fr+1) {pg:Nat} {key:ByteArray} {beside:Nd} (hpg:x.is[fr]? = some (pg:Int)) (hkey:x.ks[fr]? = some key) (hM:M pg=some beside) (gb:N.Good beside) (ub:Up beside.ks) (hbl:beside.leaf=l) (wf:WfN M d (jn beside key y)) (hb:(jn beside key y).put.length≤(if d=0 then 352 else 380)) (hR:PE M m (jn beside key y) M') :
  Calls Tryz.prog 56 #[.pointer (some ⟨c,0,none⟩),.agg #[.int .i64 page,.bool false,.slice (some ⟨skb,sko,none⟩) snk skc,.slice svp snv svc,.slice (some ⟨sib,sio,none⟩) sni sic,.int .i64 (kid:Nat)],.agg #[.bool l,.slice nkp nnk nkc,.slice nvp nnv nvc,.slice nip nni nic]] w fun e w'=>e=.returned (.tuple #[.agg #[.bool false,.slice none 0 0,.slice none 0 0,.slice none 0 0],.int .i64 80])∧Pv B w' p m M'∧Lx B c (blk jp) w w':=by
 have K0:Kept w (((w.alloc (.cells #[.int .i64 page,.bool false,.slice (some ⟨skb,sko,none⟩) snk skc,.slice svp snv svc,.slice (some ⟨sib,sio,none⟩) sni sic,.int .i64 (kid:Nat)] 113)).alloc (.cells #[.bool l,.slice nkp nnk nkc,.slice nvp nnv nvc,.slice nip nni nic] 52)).alloc (.cells #[.bool false,.slice none 0 0,.slice none 0 0,.slice none 0 0] 52)):=(((Kept.refl w).alloc _).alloc _).alloc _
 have S4:(((w.alloc (.cells #[.int .i64 page,.bool false,.slice (some ⟨skb,sko,none⟩) snk skc,.slice svp snv svc,.slice (some ⟨sib,sio,none⟩) sni sic,.int .i64 (kid:Nat)] 113)).alloc (.cells #[.bool l,.slice nkp nnk nkc,.slice nvp nnv nvc,.slice nip nni nic] 52)).alloc (.cells #[.bool false,.slice none 0 0,.slice none 0 0,.slice none 0 0] 52)).heap[w.heap.size]? = some (.cells #[.int .i64 page,.bool false,.slice (some ⟨skb,sko,none⟩) snk skc,.slice svp snv svc,.slice (some ⟨sib,sio,none⟩) sni sic,.int .i64 (kid:Nat)] 113):=((((Kept.refl _).alloc _).alloc _)).block (heap_alloc_new w _)
 have S5:(((w.alloc (.cells #[.int .i64 page,.bool false,.slice (some ⟨skb,sko,none⟩) snk skc,.slice svp snv svc,.slice (some ⟨sib,sio,none⟩) sni sic,.int .i64 (kid:Nat)] 113)).alloc (.cells #[.bool l,.slice nkp nnk nkc,.slice nvp nnv nvc,.slice nip nni nic] 52)).alloc (.cells #[.bool false,.slice none 0 0,.slice none 0 0,.slice none 0 0] 52)).heap[w.heap.size+1]? = some (.cells #[.bool l,.slice nkp nnk nkc,.slice nvp nnv nvc,.slice nip nni nic] 52):=((Kept.refl _).alloc _).block (D.two_new w _ _)
 have S6:(((w.alloc (.cells #[.int .i64 page,.bool false,.slice (some ⟨skb,sko,none⟩) snk skc,.slice svp snv svc,.slice (some ⟨sib,sio,none⟩) sni sic,.int .i64 (kid:Nat)] 113)).alloc (.cells #[.bool l,.slice nkp nnk nkc,.slice nvp nnv nvc,.slice nip nni nic] 52)).alloc (.cells #[.bool false,.slice none 0 0,.slice none 0 0,.slice none 0 0] 52)).heap[w.heap.size+1+1]? = some (.cells #[.bool false,.slice none 0 0,.slice none 0 0,.slice none 0 0] 52):=three_new w _ _ _
 obtain⟨fk,fv,fi⟩:=good_few hs gx
 have hxl:x.leaf=false:=hs.hl
 have eni:=hs.ni
 have enk:=hs.nk
 have eli:=(gx.li hxl).1
 have evs:=(gx.li hxl).2
 have e1:IntKind.i64.wrap ((kid:Int)+1)=(kid+1:Int):=by rw[IntKind.wrap_i64];omega
 have e2:IntKind.i64.wrap ((fr:Int)+2)=(tt:Int):=by rw[IntKind.wrap_i64];omega
 have e3:(1:Int)<(sni:Int):=by omega
 obtain⟨te,hte⟩:∃ te,te=tt-1:=⟨_,rfl⟩
 have e4:IntKind.i64.wrap ((tt:Int)-1)=(te:Int):=by rw[IntKind.wrap_i64];omega
 have HT1:Hid (fr≤te∧te<tt∧tt≤fr+2∧tt=te+1∧tt≤sni∧fr<sni):=⟨by omega,by omega,by omega,by omega,by omega,by omega⟩
 have HC:Hid (CAt w c t (.slice jp nj jc)):=hC
 have HJ:Hid (Own w K 3 1 jp nj jc (icl J)):=hJ
 have HK:Hid (K≤w.heap.size∧B≤K∧K≤c∧B≤w.heap.size∧0<B):=⟨hK,hBK,hKc,hB,hB0⟩
 have HL:Hid (S.Lds w):=hL
 have HT:Hid (TAt w t p root):=hT
 have HV:Hid (Pv B w p m M):=hV
 have HX:Hid (NV w false (some ⟨skb,sko,none⟩) snk skc svp snv svc (some ⟨sib,sio,none⟩) sni sic x):=hs
 have HGX:Hid (N.Good x):=gx
 have HY:Hid (NV w l nkp nnk nkc nvp nnv nvc nip nni nic y):=hy
 have HGY:Hid (N.Good y):=gy
 have HWF:Hid (WfN M d (jn beside key y)∧(jn beside key y).put.length≤(if d=0 then 352 else 380)):=⟨wf,hb⟩
 have HR:Hid (PE M m (jn beside key y) M'):=hR
 have HN:Hid (x.ks.length=snk∧x.is.length=sni∧sni=snk+1∧x.vs=[]∧snk≤120∧snv≤120∧2≤sni):=⟨enk,eni,by omega,evs,fk,fv,hx2⟩
 have HTt:Hid (Jt w c (blk jp)):=jt_of hC hJ
 have HAS:Hid (Apt c (blk jp) (some ⟨sib,sio,none⟩)):=has
 have HAY:Hid (Apt c (blk jp) nip):=hay
 have HLo:Hid (∀ W,Kept w W→Calls Tryz.prog 85 #[.agg #[.bool l,.slice nkp nnk nkc,.slice nvp nnv nvc,.slice nip nni nic]] W fun e w'=>e=.returned (.bool true)∧Kept W w'):=fun W k=>by have:=N.low_walk (hy.kept k) gy;rwa [decide_eq_true hlow]at this
 have HJo:Hid (∀ W,Kept w W→Calls Tryz.prog 86 #[.pointer (some ⟨c,0,none⟩),.agg #[.int .i64 page,.bool false,.slice (some ⟨skb,sko,none⟩) snk skc,.slice svp snv svc,.slice (some ⟨sib,sio,none⟩) sni sic,.int .i64 (kid:Nat)],.int .i64 (fr:Nat),.agg #[.bool l,.slice nkp nnk nkc,.slice nvp nnv nvc,.slice nip nni nic]] W fun e w'=>∃ kp nk kc vp nv vc ip ni ic jp' jc',e=.returned (.tuple #[.agg #[.bool l,.slice kp nk kc,.slice vp nv vc,.slice ip ni ic],.int .i64 0])∧NV w' l kp nk kc vp nv vc ip ni ic (jn beside key y)∧CAt w' c t (.slice jp' (nj+1) jc')∧Own w' K 3 1 jp' (nj+1) jc' (icl (J++[(pg:Int)]))∧Jx c (blk jp) W w'):=fun W k=>by
  exact join_other (hC.kept k) (hJ.kept k) hnj (Nat.le_trans hK k.size) (hT.kept k) (hV.kept k) (hs.kept k) has (hy.kept k) hay gy hpg hkey (by omega) hM gb ub hbl
 have e5:IntKind.i64.wrap ((kid:Int)-1)=(fr:Int):=by rw[IntKind.wrap_i64];omega
 obtain⟨s0,s1,s2,s3,s4,s5⟩:=cells6 S4
 clear hC hJ hK hBK hKc hB hB0 hL hT hV hs gx hx2 hti hy gy wf hb hR fk fv fi hxl eni enk eli evs htt hte hlow hnj has hay hpg hkey hM gb ub hbl hkid
 go_enter Tryz.func56,Tryz.ntmps56
 go_wp2
 go_quiet (fail)
 obtain⟨W,hW⟩:∃ W,(((w.alloc (.cells #[.int .i64 page,.bool false,.slice (some ⟨skb,sko,none⟩) snk skc,.slice svp snv svc,.slice (some ⟨sib,sio,none⟩) sni sic,.int .i64 (kid:Nat)] 113)).alloc (.cells #[.bool l,.slice nkp nnk nkc,.slice nvp nnv nvc,.slice nip nni nic] 52)).alloc (.cells #[.bool false,.slice none 0 0,.slice none 0 0,.slice none 0 0] 52)).drewN nq=W:=⟨_,rfl⟩
 have KW:Kept w W:=by rw[← hW];exact K0.drewN nq
 have S4W:W.heap[w.heap.size]? = some (.cells #[.int .i64 page,.bool false,.slice (some ⟨skb,sko,none⟩) snk skc,.slice svp snv svc,.slice (some ⟨sib,sio,none⟩) sni sic,.int .i64 (kid:Nat)] 113):=by rw[← hW];exact S4
 have S5W:W.heap[w.heap.size+1]? = some (.cells #[.bool l,.slice nkp nnk nkc,.slice nvp nnv nvc,.slice nip nni nic] 52):=by rw[← hW];exact S5
 have S6W:W.heap[w.heap.size+1+1]? = some (.cells #[.bool false,.slice none 0 0,.slice none 0 0,.slice none 0 0] 52):=by rw[← hW];exact S6
 rw[hW]
 clear hW S4 S5 S6 K0 s0 s1 s2 s3 s4 s5
 obtain⟨s0,s1,s2,s3,s4,s5⟩:=cells6 S4W
 obtain⟨y0,y1,y2,y3⟩:=(C4.mk S5W).cs
 go_wp2_with (first
  | (go_at_call 85;(with_reducible refine (HLo.out _ KW).mono ?_);rintro e w1 ⟨rfl,k1⟩;have K1:=KW.trans k1;have P4:=k1.block S4W;have P5:=k1.block S5W;have P6:=k1.block S6W;obtain⟨s0,s1,s2,s3,s4,s5⟩:=cells6 P4;obtain⟨y0,y1,y2,y3⟩:=(C4.mk P5).cs;clear HLo)
  | (go_at_call 86;(with_reducible refine (HJo.out _ K1).mono ?_);rintro e w2 ⟨akp,ank,akc,avp,anv,avc,aip,ani,aic,jq,jqc,rfl,NA,CA,OA,JA⟩;have JtA:Jt w1 c (blk jp):=jt_of (HC.out.kept K1) (HJ.out.kept K1);have ka:Kept w2 (w2.alloc (.cells #[.bool l,.slice akp ank akc,.slice avp anv avc,.slice aip ani aic] 52)):=(Kept.refl w2).alloc _;have P4a:=ka.block (JA.cells JtA P4 (by decide) (by decide));have P5a:=ka.block (JA.cells JtA P5 (by decide) (by decide));have P6a:=ka.block (JA.cells JtA P6 (by decide) (by decide));have R5:C4 (w2.alloc (.cells #[.bool l,.slice akp ank akc,.slice avp anv avc,.slice aip ani aic] 52)) (w.heap.size+1) 52 (.bool l) (.slice nkp nnk nkc) (.slice nvp nnv nvc) (.slice nip nni nic):=C4.mk P5a;obtain⟨a0,a1,a2,a3⟩:=(C4.alloc w2 52 (.bool l) (.slice akp ank akc) (.slice avp anv avc) (.slice aip ani aic)).cs;obtain⟨⟨g0,f0⟩,⟨g1,f1⟩,⟨g2,f2⟩,⟨g3,f3⟩,hfin⟩:=N.ready4 R5.out (.bool l) (.slice akp ank akc) (.slice avp anv avc) (.slice aip ani aic);have oth:∀ k,k≠w.heap.size+1→(((((w2.alloc (.cells #[.bool l,.slice akp ank akc,.slice avp anv avc,.slice aip ani aic] 52)).setCell ⟨w.heap.size+1,0,none⟩ (.bool l)).setCell ⟨w.heap.size+1,1,none⟩ (.slice akp ank akc)).setCell ⟨w.heap.size+1,2,none⟩ (.slice avp anv avc)).setCell ⟨w.heap.size+1,3,none⟩ (.slice aip ani aic)).heap[k]? = (w2.alloc (.cells #[.bool l,.slice akp ank akc,.slice avp anv avc,.slice aip ani aic] 52)).heap[k]?:=fun k hk=>N.others4 _ hk _ _ _ _;have P4:=(oth (w.heap.size) (by omega)).trans P4a;have P6:=(oth (w.heap.size+1+1) (by omega)).trans P6a;have CP:=cat_same (CA.kept ka) R5.out (by decide) oth;have OP:=own_same (OA.kept ka) R5.out (by decide) oth;have NP:=(NA.kept ka).other R5 oth;have LP:Hid (Lx B c (blk jp) w (((((w2.alloc (.cells #[.bool l,.slice akp ank akc,.slice avp anv avc,.slice aip ani aic] 52)).setCell ⟨w.heap.size+1,0,none⟩ (.bool l)).setCell ⟨w.heap.size+1,1,none⟩ (.slice akp ank akc)).setCell ⟨w.heap.size+1,2,none⟩ (.slice avp anv avc)).setCell ⟨w.heap.size+1,3,none⟩ (.slice aip ani aic))):=(((Lx.ofKept K1 HK.out.2.2.2.1).trans (Lx.ofJx JA (Nat.le_trans HK.out.2.2.2.1 K1.size) (Nat.le_trans HK.out.2.1 HK.out.2.2.1) (fun b e=>by obtain⟨_,_⟩:=own_blk (HJ.out.kept K1) b (by cases jp with | none=>cases e | some a=>exact e);exact Nat.le_trans HK.out.2.1 (by assumption)))).kept ka HK.out.2.2.2.1).oth (z:=w.heap.size+1) (by omega) HK.out.2.2.2.1 (zero4 _ _ _ _ _ _) oth;have XP:=((JA.nv JtA (HX.out.kept K1) HAS.out).kept ka).other R5 oth;have VP:Pv B (((((w2.alloc (.cells #[.bool l,.slice akp ank akc,.slice avp anv avc,.slice aip ani aic] 52)).setCell ⟨w.heap.size+1,0,none⟩ (.bool l)).setCell ⟨w.heap.size+1,1,none⟩ (.slice akp ank akc)).setCell ⟨w.heap.size+1,2,none⟩ (.slice avp anv avc)).setCell ⟨w.heap.size+1,3,none⟩ (.slice aip ani aic)) p m M:=(((HV.out.kept K1).ap (JA.ap JtA)).kept ka).ap (Ap.other R5.out (by decide) (fun k o hk hne=>(oth k hne).trans hk));have HPut:=put_err CP (LP.out.tat HTt.out HT.out) VP (Nat.le_trans HK.out.2.2.2.1 LP.out.size) (G.lds_on HL.out LP.out.below HK.out.2.2.2.2) HK.out.2.2.2.2 NP HWF.out.1 HWF.out.2 HR.out;obtain⟨s0,s1,s2,s3,s4,s5⟩:=cells6 P4;obtain⟨y0,y1,y2,y3⟩:=(C4.mk hfin).cs;clear HJo)
  | (go_at_call 87;(with_reducible refine HPut.mono ?_);rintro e w3 ⟨rfl,V3,o3⟩;have Q6:=o3.rows _ _ _ _ P6 calm52;have L3:Hid (Lx B c (blk jp) w w3):=LP.out.on o3;have R6:C4 w3 (w.heap.size+1+1) 52 (.bool false) (.slice none 0 0) (.slice none 0 0) (.slice none 0 0):=C4.mk Q6;obtain⟨⟨h0,i0⟩,⟨h1,i1⟩,⟨h2,i2⟩,⟨h3,i3⟩,hfinal⟩:=N.ready4 R6.out (.bool false) (.slice none 0 0) (.slice none 0 0) (.slice none 0 0)))
 have othF:∀ k,k≠w.heap.size+1+1→((((w3.setCell ⟨w.heap.size+1+1,0,none⟩ (.bool false)).setCell ⟨w.heap.size+1+1,1,none⟩ (.slice none 0 0)).setCell ⟨w.heap.size+1+1,2,none⟩ (.slice none 0 0)).setCell ⟨w.heap.size+1+1,3,none⟩ (.slice none 0 0)).heap[k]? = w3.heap[k]?:=fun k hk=>N.others4 _ hk _ _ _ _
 have r5:Pv B ((((w3.setCell ⟨w.heap.size+1+1,0,none⟩ (.bool false)).setCell ⟨w.heap.size+1+1,1,none⟩ (.slice none 0 0)).setCell ⟨w.heap.size+1+1,2,none⟩ (.slice none 0 0)).setCell ⟨w.heap.size+1+1,3,none⟩ (.slice none 0 0)) p m M':=V3.ap (Ap.other R6.out (by decide) (fun k o hk hne=>(othF k hne).trans hk))
 have r6:Lx B c (blk jp) w ((((w3.setCell ⟨w.heap.size+1+1,0,none⟩ (.bool false)).setCell ⟨w.heap.size+1+1,1,none⟩ (.slice none 0 0)).setCell ⟨w.heap.size+1+1,2,none⟩ (.slice none 0 0)).setCell ⟨w.heap.size+1+1,3,none⟩ (.slice none 0 0)):=L3.out.oth (z:=w.heap.size+1+1) (by omega) HK.out.2.2.2.1 (zero4 _ _ _ _ _ _) othF
 generalize ((((w3.setCell ⟨w.heap.size+1+1,0,none⟩ (.bool false)).setCell ⟨w.heap.size+1+1,1,none⟩ (.slice none 0 0)).setCell ⟨w.heap.size+1+1,2,none⟩ (.slice none 0 0)).setCell ⟨w.heap.size+1+1,3,none⟩ (.slice none 0 0))=WF at *
 refine bodyPost_ret (v:=.tuple #[.agg #[.bool false,.slice none 0 0,.slice none 0 0,.slice none 0 0],.int .i64 80]) ?_ rfl ⟨rfl,r5,r6⟩
 exact N.results_two (p:=6) (u:=7) (ty:=52) rfl _ _ (w.heap.size+1+1) 52 #[.bool false,.slice none 0 0,.slice none 0 0,.slice none 0 0] (0,0) _ rfl hfinal Tryz.underlying52 rfl N.size52
open B (us_pt Lv Sg Pf Mk En upd pre post fm)
def ints (l:List Nat):List Int:=l.map fun n:Nat=>(n:Int)
theorem ints_snoc (l:List Nat) (b:Nat):ints l++[(b:Int)]=ints (l++[b]):=by simp[ints]
structure Er (m:Nat) (M M':Pm) (k:Nat):Prop where
 ext:Ext M M'
 out:∃ added:List Nat,added.length≤k∧∀ q,us M' q=us M q+added.count q
 full:∀ j,2≤j→j<m→(M' j).isSome=true
theorem Er.mono {m:Nat} {M M':Pm} {k k':Nat} (h:Er m M M' k) (hk:k≤k'):Er m M M' k':=⟨h.ext,by obtain⟨a,b,c⟩:=h.out;exact⟨a,Nat.le_trans b hk,c⟩,h.full⟩
theorem Er.more {m:Nat} {M0 M M':Pm} {k K:Nat} (h:Er m M M' k) (he:Ext M0 M) {added:List Nat} (hu:∀ q,us M q=us M0 q+added.count q) (hl:added.length≤K):Er m M0 M' (K+k):=by
 obtain⟨a,b,c⟩:=h.out
 exact⟨he.trans h.ext,⟨added++a,by rw[List.length_append];omega,fun q=>by rw[c q,hu q,List.count_append];omega⟩,h.full⟩
theorem PE.er {M M':Pm} {m:Nat} {y:Nd} (h:PE M m y M'):Er m M M' 1:=by
 refine⟨h.ext,?_,?_⟩
 ·rcases h with⟨_,_,rfl⟩|⟨_,mm,key,_,_,⟨_,rfl⟩|⟨n1,h1,_,rfl⟩⟩
  ·exact⟨[],by simp,fun q=>by simp⟩
  ·exact⟨[],by simp,fun q=>by simp⟩
  ·exact⟨[n1],by simp,fun q=>us_pt (frst_some h1).2.2.1 q⟩
 ·rcases h with⟨_,h1,rfl⟩|⟨_,mm,key,_,_,⟨h1,rfl⟩|⟨n1,_,h1,rfl⟩⟩
  ·exact frst_none h1
  ·exact frst_none h1
  ·exact frst_none h1
def LOk (B K c t p m:Nat) (M':Pm) (jb:Option Nat) (z:Nd) (J':List Nat) (W:World) (e:Ending) (w':World):Prop:=
 ∃ kp nk kc vp nv vc ip ni ic jp' nj' jc',e=.returned (.tuple #[.agg #[.bool false,.slice kp nk kc,.slice vp nv vc,.slice ip ni ic],.int .i64 0])∧NV w' false kp nk kc vp nv vc ip ni ic z∧CAt w' c t (.slice jp' nj' jc')∧Own w' K 3 1 jp' nj' jc' (icl (ints J'))∧Apt c (blk jp') ip∧Pv B w' p m M'∧Lx B c jb W w'
def LErr (B c p m:Nat) (M':Pm) (jb:Option Nat) (W:World) (e:Ending) (w':World):Prop:=
 e=.returned (.tuple #[.agg #[.bool false,.slice none 0 0,.slice none 0 0,.slice none 0 0],.int .i64 80])∧Pv B w' p m M'∧Lx B c jb W w'
theorem lift_step {B:Nat} {w:World} {c t p m K nj jc d pg:Nat} {jp:Option Addr} {J:List Nat} {root:Int} {M0 M:Pm} {wp added:List Nat} {A C:List Mk} {key:ByteArray} {mid:List En} {q:Int} (hC:CAt w c t (.slice jp nj jc)) (hJ:Own w K 3 1 jp nj jc (icl (ints J))) (hnj:nj≤1000) (hK:K≤w.heap.size) (hBK:B≤K) (hKc:K≤c) (hB:B≤w.heap.size) (hB0:0<B) (hL:S.Lds w) (hT:TAt w t p root) (hV:Pv B w p m M)
  {s:Sm} (hs:s.ok w) (has:Apt c (blk jp) s.ip) (hf:Pf M0 key (d+1) s.stp A C) (hq:s.x.is[s.kid]? = some q) (hqp:q.toNat=pg)
  {l:Bool} {nkp:Option Addr} {nnk nkc:Nat} {nvp:Option Addr} {nnv nvc:Nat} {nip:Option Addr} {nni nic:Nat} {y:Nd} (hy:NV w l nkp nnk nkc nvp nnv nvc nip nni nic y) (hay:Apt c (blk jp) nip)
  (h:Lv M0 M d pg wp y J.reverse added (A++pre (fm M0 d) (s.x.is.take s.kid) (s.x.ks.take s.kid)) (post (fm M0 d) (s.x.ks.drop s.kid) (s.x.is.drop (s.kid+1))++C) (upd key mid)) :
  (∃ M' z J' added',Lv M0 M' (d+1) s.page (s.page :: wp) z J'.reverse added' A C (upd key mid)∧(J'.length≤J.length+1∧added'.length≤added.length+2)∧∀ W,Kept w W→Calls Tryz.prog 56 #[.pointer (some ⟨c,0,none⟩),.agg #[.int .i64 (s.page:Nat),.bool s.l,.slice s.kp s.nk s.kc,.slice s.vp s.nv s.vc,.slice s.ip s.ni s.ic,.int .i64 (s.kid:Nat)],.agg #[.bool l,.slice nkp nnk nkc,.slice nvp nnv nvc,.slice nip nni nic]] W (LOk B K c t p m M' (blk jp) z J' W)) ∨
  (∃ M',Er m M M' 1∧∀ W,Kept w W→Calls Tryz.prog 56 #[.pointer (some ⟨c,0,none⟩),.agg #[.int .i64 (s.page:Nat),.bool s.l,.slice s.kp s.nk s.kc,.slice s.vp s.nv s.vc,.slice s.ip s.ni s.ic,.int .i64 (s.kid:Nat)],.agg #[.bool l,.slice nkp nnk nkc,.slice nvp nnv nvc,.slice nip nni nic]] W (LErr B c p m M' (blk jp) W)):=by
 obtain⟨sp,sk,sl,skp,snk,skc,svp,snv,svc,sip,sni,sic,sx⟩:=s
 dsimp only[Sm.ok,Sm.stp]at hs hf hq has h ⊢
 have w0:=hf.wf
 have hgx:=w0.good
 have hne:=hf.ne
 have hmem:=hf.mem
 have hsz:=hf.size
 have hup:=hf.up
 have st:=Lv.step hf hq hqp h
 dsimp only at w0 hgx hne hmem hsz hup st
 have hlf:sx.leaf=false:=w0.1
 obtain rfl:sl=false:=by rw[← hs.hl];exact hlf
 have enk:=hs.nk
 have eni:=hs.ni
 have eli:=(hgx.li hlf).1
 have hpos:0<sx.ks.length:=List.length_pos_iff.2 hne
 obtain⟨skb,sko,rfl,_⟩:=hs.k.some (by omega)
 obtain⟨sib,sio,rfl,_⟩:=hs.i.some (by omega)
 have hlt:=(List.getElem?_eq_some_iff.1 hq).1
 have hm:=hV.few
 rcases st with⟨hlow,sg⟩|⟨hlow,hk0,b,k,beside,hb,hk,hMb,wb,ub,sg⟩|⟨hlow,i,hki,b,k,beside,hb,hk,hMb,wb,ub,sg⟩
 ·rcases put_dec M m sg.ne with⟨M',ns,KK,hR⟩|⟨M',hR⟩
  ·obtain⟨ps,hP,hn⟩:=hR.pn hm
   refine .inl ⟨M',_,J,_,Sg.above w0 hmem hsz hup sg hP hn,⟨Nat.le_succ _,by have:=(PR.len hR).2.1;rw[List.length_append];omega⟩,fun W k=>?_⟩
   refine (lift_self_ok (tt:=sk+1) (hC.kept k) (hJ.kept k) (Nat.le_trans hK k.size) hBK hKc (Nat.le_trans hB k.size) hB0 (lds_kept hL k) (hT.kept k) (hV.kept k) (hs.kept k) hgx (by omega) (by omega) (hy.kept k) h.wf.good hlow rfl sg.wf sg.size hR).mono ?_
   rintro e w' ⟨kp,nk,kc,vp,nv,vc,ip,ni,ic,jp',jc',a1,a2,a3,a4,a5,a6,a7⟩
   exact⟨kp,nk,kc,vp,nv,vc,ip,ni,ic,jp',_,jc',a1,a2,a3,a4,a5,a6,a7⟩
  ·refine .inr ⟨M',PE.er hR,fun W k=>?_⟩
   exact lift_self_err (tt:=sk+1) (hC.kept k) (hJ.kept k) (Nat.le_trans hK k.size) hBK hKc (Nat.le_trans hB k.size) hB0 (lds_kept hL k) (hT.kept k) (hV.kept k) (hs.kept k) hgx (by omega) (by omega) (hy.kept k) h.wf.good hlow rfl sg.wf sg.size hR
 ·have hbl:beside.leaf=l:=by rw[wb.leaf,← h.wf.leaf,hy.hl]
  rcases put_dec M m sg.ne with⟨M',ns,KK,hR⟩|⟨M',hR⟩
  ·obtain⟨ps,hP,hn⟩:=hR.pn hm
   refine .inl ⟨M',_,J++[b],_,by rw[List.reverse_append];exact Sg.above w0 hmem hsz hup sg hP hn,⟨by simp,by have:=(PR.len hR).2.1;rw[List.length_append];omega⟩,fun W k=>?_⟩
   refine (lift_first_ok (kid:=sk) (fr:=0) (tt:=2) (hC.kept k) (hJ.kept k) hnj (Nat.le_trans hK k.size) hBK hKc (Nat.le_trans hB k.size) hB0 (lds_kept hL k) (hT.kept k) (hV.kept k) (hs.kept k) hgx (by omega) has (by omega) (hy.kept k) hay h.wf.good hlow rfl hk0 rfl (q0:=q) (by rw[hk0]at hq;exact hq) hb hk hMb wb.good ub hbl sg.wf sg.size hR).mono ?_
   rintro e w' ⟨kp,nk,kc,vp,nv,vc,ip,ni,ic,jp',jc',a1,a2,a3,a4,a5,a6,a7⟩
   exact⟨kp,nk,kc,vp,nv,vc,ip,ni,ic,jp',_,jc',a1,a2,a3,by rw[← ints_snoc];exact a4,a5,a6,a7⟩
  ·refine .inr ⟨M',PE.er hR,fun W k=>?_⟩
   exact lift_first_err (kid:=sk) (fr:=0) (tt:=2) (hC.kept k) (hJ.kept k) hnj (Nat.le_trans hK k.size) hBK hKc (Nat.le_trans hB k.size) hB0 (lds_kept hL k) (hT.kept k) (hV.kept k) (hs.kept k) hgx (by omega) has (by omega) (hy.kept k) hay h.wf.good hlow rfl hk0 rfl (q0:=q) (by rw[hk0]at hq;exact hq) hb hk hMb wb.good ub hbl sg.wf sg.size hR
 ·have hbl:beside.leaf=l:=by rw[wb.leaf,← h.wf.leaf,hy.hl]
  rcases put_dec M m sg.ne with⟨M',ns,KK,hR⟩|⟨M',hR⟩
  ·obtain⟨ps,hP,hn⟩:=hR.pn hm
   refine .inl ⟨M',_,J++[b],_,by rw[List.reverse_append];exact Sg.above w0 hmem hsz hup sg hP hn,⟨by simp,by have:=(PR.len hR).2.1;rw[List.length_append];omega⟩,fun W k=>?_⟩
   refine (lift_other_ok (kid:=sk) (fr:=i) (tt:=i+2) (hC.kept k) (hJ.kept k) hnj (Nat.le_trans hK k.size) hBK hKc (Nat.le_trans hB k.size) hB0 (lds_kept hL k) (hT.kept k) (hV.kept k) (hs.kept k) hgx (by omega) has (by omega) (hy.kept k) hay h.wf.good hlow rfl hki hb hk hMb wb.good ub hbl sg.wf sg.size hR).mono ?_
   rintro e w' ⟨kp,nk,kc,vp,nv,vc,ip,ni,ic,jp',jc',a1,a2,a3,a4,a5,a6,a7⟩
   exact⟨kp,nk,kc,vp,nv,vc,ip,ni,ic,jp',_,jc',a1,a2,a3,by rw[← ints_snoc];exact a4,a5,a6,a7⟩
  ·refine .inr ⟨M',PE.er hR,fun W k=>?_⟩
   exact lift_other_err (kid:=sk) (fr:=i) (tt:=i+2) (hC.kept k) (hJ.kept k) hnj (Nat.le_trans hK k.size) hBK hKc (Nat.le_trans hB k.size) hB0 (lds_kept hL k) (hT.kept k) (hV.kept k) (hs.kept k) hgx (by omega) has (by omega) (hy.kept k) hay h.wf.good hlow rfl hki hb hk hMb wb.good ub hbl sg.wf sg.size hR
open B (fmN pgN Tr Tree con pt_ext crown_none crown_put drops)
theorem lv_goes {M0 M:Pm} {d p:Nat} {wp joined added:List Nat} {now:Nd} {A C:List Mk} {g:List En→List En} (h0:Tr M0 d p) (h:Lv M0 M d p wp now joined added A C g) (q:Nat):us M q=(pgN M d now).count q+(wp++joined).count q:=by
 have a:=h.cnt q
 have b:=h.used q
 have c:=h0.cnt q
 rw[List.count_append]
 omega
structure Gone (M:Pm) (D:List Nat):Prop where
 nd:D.Nodup
 is:∀ q∈D,∃ z,M q=some z
theorem Gone.ext {M M':Pm} {D:List Nat} (h:Gone M D) (k:Ext M M'):Gone M' D:=⟨h.nd,fun q hq=>by obtain⟨z,hz⟩:=h.is q hq;exact⟨z,k q z hz⟩⟩
def COk (B p m:Nat) (M':Pm) (root:Int) (W:World) (e:Ending) (w':World):Prop:=e=.returned (.tuple #[.int .i64 root,.int .i64 0])∧Pv B w' p m M'∧G.On B W w'
def CErr (B p m:Nat) (M':Pm) (W:World) (e:Ending) (w':World):Prop:=e=.returned (.tuple #[.int .i64 0,.int .i64 80])∧Pv B w' p m M'∧G.On B W w'
theorem crown_dec {B:Nat} {w:World} {c t p m d p0:Nat} {jv:Value} {root:Int} {M0 M:Pm} {wp joined added:List Nat} {g:List En→List En} (hC:CAt w c t jv) (hT:TAt w t p root) (hV:Pv B w p m M) (hB:B≤w.heap.size) (hL:S.Lds w) (hB0:0<B)
  {l:Bool} {kp:Option Addr} {nk kc:Nat} {vp:Option Addr} {nv vc:Nat} {ip:Option Addr} {ni ic:Nat} {y:Nd} (hy:NV w l kp nk kc vp nv vc ip ni ic y) (h0:Tr M0 d p0) (h:Lv M0 M d p0 wp y joined added [] [] g) :
  (∃ M' r,Tree (drp M' (wp++joined)) r (g (con (fm M0 d p0)))∧Gone M' (wp++joined)∧Calls Tryz.prog 57 #[.pointer (some ⟨c,0,none⟩),.agg #[.bool l,.slice kp nk kc,.slice vp nv vc,.slice ip ni ic]] w (COk B p m M' r w)) ∨
  (∃ M',Er m M M' 2∧Calls Tryz.prog 57 #[.pointer (some ⟨c,0,none⟩),.agg #[.bool l,.slice kp nk kc,.slice vp nv vc,.slice ip ni ic]] w (CErr B p m M' w)):=by
 have hgone:Gone M (wp++joined):=by
  obtain⟨a,b⟩:=drops (lv_goes h0 h)
  exact⟨a,b⟩
 have hnk:=hy.nk
 have K0:Kept w (w.alloc (.cells #[.bool l,.slice kp nk kc,.slice vp nv vc,.slice ip ni ic] 52)):=(Kept.refl w).alloc _
 by_cases hk:y.ks=[]
 ·obtain⟨t1,t2⟩:=crown_none h0 h hk
  obtain rfl:nk=0:=by rw[← hnk,hk];rfl
  cases l with
  | true=>
   refine .inl ⟨M,-1,t1 hy.hl,hgone,crown_leaf.mono ?_⟩
   rintro e w' ⟨rfl,k⟩
   exact⟨rfl,hV.kept k,G.On.ofKept ⟨k.out⟩ hB⟩
  | false=>
   obtain⟨q,hq,_,tt⟩:=t2 hy.hl
   have hni:=hy.ni
   rw[hq]at hni
   simp at hni
   obtain⟨ib,io,rfl,_⟩:=hy.i.some (by omega)
   refine .inl ⟨M,q,tt,hgone,(crown_inner (by omega) (nv_kid hy (j:=0) (by rw[hq];rfl))).mono ?_⟩
   rintro e w' ⟨rfl,k⟩
   exact⟨rfl,hV.kept k,G.On.ofKept ⟨k.out⟩ hB⟩
 ·have hpos:0<nk:=by rw[← hnk];exact List.length_pos_iff.2 hk
  have hsz:y.put.length≤(if d=0 then 352 else 380):=by have:=h.size;split at this <;> rename_i hd <;> simp only[hd,if_true,if_false] <;> omega
  have hB1:B≤(w.alloc (.cells #[.bool l,.slice kp nk kc,.slice vp nv vc,.slice ip ni ic] 52)).heap.size:=Nat.le_trans hB K0.size
  have oK:G.On B w (w.alloc (.cells #[.bool l,.slice kp nk kc,.slice vp nv vc,.slice ip ni ic] 52)):=G.On.ofKept ⟨K0.out⟩ hB
  rcases put_dec M m hk with⟨M',ns,KK,hR⟩|⟨M',hR⟩
  ·obtain⟨ps,hP,hn⟩:=hR.pn hV.few
   obtain⟨c1,c2⟩:=crown_put h0 h hk hP hn
   have f:=put_ok (hC.kept K0) (hT.kept K0) (hV.kept K0) hB1 (lds_kept hL K0) hB0 (hy.kept K0) h.wf hsz hR
   by_cases h1:ns.length=1
   ·obtain⟨n,rfl⟩:∃ n,ns=[n]:=by
     match ns,h1 with
     | [n],_=>exact⟨n,rfl⟩
    have hKK:KK=[]:=by
     rcases hR with⟨_,_,_,_,_,rfl⟩|⟨_,_,_,_,_,_,_,_,_,_,e,_⟩
     ·rfl
     ·cases e
    subst hKK
    refine .inl ⟨M',(n:Nat),c1 n rfl,hgone.ext hn.ext,?_⟩
    refine (crown_one (n:=n) (B:=(w.alloc (.cells #[.bool l,.slice kp nk kc,.slice vp nv vc,.slice ip ni ic] 52)).heap.size) (Q:=fun w'=>Pv B w' p m M'∧G.On B w w') hpos (f.mono ?_)).mono ?_
    ·rintro e w' ⟨pp,pc,kq,kc',rfl,a1,a2,a3,a4,a5⟩
     obtain⟨rfl,rfl⟩:=a5 rfl
     exact⟨pp,pc,rfl,a1,a3,oK.trans a4⟩
    ·rintro e w' ⟨rfl,a,b⟩
     exact⟨rfl,a,b⟩
   ·obtain⟨n1,n2,key,rfl,rfl,g3,s3,tr3⟩:=c2 h1
    cases hf:frst M' m with
    | some n3=>
     have hn3:=(frst_some hf).2.2.1
     refine .inl ⟨_,(n3:Nat),tr3 n3 hn3,(hgone.ext hn.ext).ext (pt_ext hn3),?_⟩
     refine (crown_two (n1:=(n1:Int)) (n2:=(n2:Int)) (key:=key) (a:=(n3:Nat)) (b:=0) (B:=(w.alloc (.cells #[.bool l,.slice kp nk kc,.slice vp nv vc,.slice ip ni ic] 52)).heap.size) (Q:=fun w'=>Pv B w' p m M'∧G.On B w w') (Q2:=fun w'=>Pv B w' p m (pt M' n3 ⟨false,[key],[],[(n1:Int),(n2:Int)]⟩)∧G.On B w w') hpos (f.mono ?_) ?_).mono ?_
     ·rintro e w' ⟨pp,pc,kq,kc',rfl,a1,a2,a3,a4,a5⟩
      exact⟨pp,pc,kq,kc',rfl,a1,a2,a3,oK.trans a4⟩
     ·rintro W pp pc kp' kc' o1 o2 ⟨v1,v2⟩
      refine (add_some (hC.on v2) (hT.on v2) v1 (Nat.le_trans hB v2.size) (lds_on hL v2 hB0) (x:=⟨false,[key],[],[(n1:Int),(n2:Int)]⟩) ⟨rfl,o2.rw,⟨rfl,Nat.le_refl _,Nat.zero_le _,.inl ⟨rfl,rfl⟩⟩,o1.rw,o2.rx,N.Rx.none _ _,o1.rx⟩ g3 s3 hf).mono ?_
      rintro e w' ⟨rfl,a,b⟩
      exact⟨rfl,a,v2.trans b⟩
     ·rintro e w' ⟨rfl,a,b⟩
      exact⟨rfl,a,b⟩
    | none=>
     refine .inr ⟨M',⟨hn.ext,⟨[n1,n2],by simp,hn.used⟩,frst_none hf⟩,?_⟩
     refine (crown_two (n1:=(n1:Int)) (n2:=(n2:Int)) (key:=key) (a:=0) (b:=80) (B:=(w.alloc (.cells #[.bool l,.slice kp nk kc,.slice vp nv vc,.slice ip ni ic] 52)).heap.size) (Q:=fun w'=>Pv B w' p m M'∧G.On B w w') (Q2:=fun w'=>Pv B w' p m M'∧G.On B w w') hpos (f.mono ?_) ?_).mono ?_
     ·rintro e w' ⟨pp,pc,kq,kc',rfl,a1,a2,a3,a4,a5⟩
      exact⟨pp,pc,kq,kc',rfl,a1,a2,a3,oK.trans a4⟩
     ·rintro W pp pc kp' kc' o1 o2 ⟨v1,v2⟩
      refine (add_none (hC.on v2) (hT.on v2) v1 (Nat.le_trans hB v2.size) (lds_on hL v2 hB0) (x:=⟨false,[key],[],[(n1:Int),(n2:Int)]⟩) ⟨rfl,o2.rw,⟨rfl,Nat.le_refl _,Nat.zero_le _,.inl ⟨rfl,rfl⟩⟩,o1.rw,o2.rx,N.Rx.none _ _,o1.rx⟩ g3 s3 hf).mono ?_
      rintro e w' ⟨rfl,k⟩
      exact⟨rfl,v1.kept k,v2.kept ⟨k.out⟩ hB⟩
     ·rintro e w' ⟨rfl,a,b⟩
      exact⟨rfl,a,b⟩
  ·have f:=put_err (hC.kept K0) (hT.kept K0) (hV.kept K0) hB1 (lds_kept hL K0) hB0 (hy.kept K0) h.wf hsz hR
   refine .inr ⟨M',(PE.er hR).mono (by omega),?_⟩
   refine (crown_err (Q:=fun w'=>Pv B w' p m M'∧G.On B w w') hpos (f.mono ?_)).mono ?_
   ·rintro e w' ⟨rfl,a,b⟩
    exact⟨rfl,a,oK.trans b⟩
   ·rintro e w' ⟨rfl,a,b⟩
    exact⟨rfl,a,b⟩
open B (path path_length path_pf path_next cA cC cA_snoc cC_snoc)
structure Tx (B t:Nat) (w w':World):Prop where
 below:Below B w w'
 rows:∀ (b:Nat) (cs:Array Value) (ty:TypeId) (fr:Nat×Nat),w.heap[b]? = some (.cells cs ty fr)→G.Calm ty→b≠t→w'.heap[b]? = some (.cells cs ty fr)
theorem Tx.ofOn {B t:Nat} {w w':World} (h:G.On B w w'):Tx B t w w':=⟨h.below,fun b cs ty fr hb hc _=>h.rows b cs ty fr hb hc⟩
theorem Tx.trans {B t:Nat} {a b c:World} (h:Tx B t a b) (k:Tx B t b c):Tx B t a c:=⟨h.below.trans k.below,fun x cs ty fr hx hc hn=>k.rows x cs ty fr (h.rows x cs ty fr hx hc hn) hc hn⟩
theorem Tx.size {B t:Nat} {w w':World} (h:Tx B t w w'):w.heap.size≤w'.heap.size:=h.below.size
def RPost (kx B t p m:Nat) (root:Int) (M0:Pm) (l:List En) (w:World) (e:Ending) (w':World):Prop:=
 (e=.returned (.int .i64 0)∧∃ M' r,Tree M' r l∧TAt w' t p r∧Pv B w' p m M'∧Tx B t w w')∨(e=.returned (.int .i64 80)∧∃ M',Er m M0 M' kx∧TAt w' t p root∧Pv B w' p m M'∧Tx B t w w')
structure Rs (B:Nat) (w:World) (t p m d:Nat) (M0:Pm) (key:ByteArray) (mid:List En) (P:List Stp) (r:Nat) (W:World):Prop where
 out:∃ M y J added jp nj jc l kp nk kc vp nv vc ip ni ic s,CAt W (w.heap.size+1) t (.slice jp nj jc)∧Own W w.heap.size 3 1 jp nj jc (icl (ints J))∧(J.length+r≤d∧added.length+2*r≤2*d)∧C4 W w.heap.size 52 (.bool l) (.slice kp nk kc) (.slice vp nv vc) (.slice ip ni ic)∧NV W l kp nk kc vp nv vc ip ni ic y∧Apt (w.heap.size+1) (blk jp) ip∧Pv B W p m M∧G.On B w W∧P[r]? = some s∧Lv M0 M (d-r) s.page ((P.drop r).map Stp.page) y J.reverse added (cA M0 d (P.take r)) (cC M0 d (P.take r)) (upd key mid)
theorem on_lx {B c K:Nat} {j:Option Nat} {w W W':World} (h:G.On B w W) (k:Lx B c j W W') (hK:w.heap.size≤K) (hc:K≤c) (hj:∀ b,j=some b→K≤b):G.On B w W':=by
 refine⟨h.below.trans k.below,fun b cs ty fr hb hc2=>?_⟩
 have hlt:=(Array.getElem?_eq_some_iff.1 hb).1
 exact k.rows b cs ty fr (h.rows b cs ty fr hb hc2) hc2 (by omega) (fun e=>by have:=hj b e;omega)
theorem blk_ge {w:World} {K nj jc:Nat} {jp:Option Addr} {cs:List Value} (h:Own w K 3 1 jp nj jc cs):∀ b,blk jp=some b→K≤b:=by
 intro b hb
 rcases h.cases with⟨rfl,_⟩|⟨g,_,rfl,hB,_⟩
 ·cases hb
 ·have e:some g=some b:=hb
  obtain rfl:=Option.some.inj e
  exact hB
theorem apt_low {w:World} {c K:Nat} {j:Option Nat} {e:TypeId} {p:Option Addr} {n:Nat} (k:Rx w e p n) (hK:w.heap.size≤K) (hc:K≤c) (hj:∀ b,j=some b→K≤b):Apt c j p:=by
 intro b off ph hb
 obtain⟨cs,fr,h⟩:=k.typ b off ph hb
 have hlt:=(Array.getElem?_eq_some_iff.1 h).1
 exact⟨by omega,fun e=>by have:=hj b e;omega⟩
theorem rs_step {B:Nat} {w W:World} {t p m d n cap k:Nat} {root:Int} {q:Option Addr} {M0:Pm} {key:ByteArray} {mid:List En} {L:List Sm} {rn:Nat} (hT:TAt w t p root) (hB:B≤w.heap.size) (hB0:0<B) (hL:S.Lds w) (hW:WAt w q n cap L) (hLP:L.map Sm.stp=path M0 key d rn) (hTr:Tr M0 d rn) (hd:d≤10)
  {M:Pm} {y:Nd} {J added:List Nat} {jp:Option Addr} {nj jc:Nat} {l:Bool} {kp:Option Addr} {nk kc:Nat} {vp:Option Addr} {nv vc:Nat} {ip:Option Addr} {ni ic:Nat} {s:Stp}
  (h1:CAt W (w.heap.size+1) t (.slice jp nj jc)) (h2:Own W w.heap.size 3 1 jp nj jc (icl (ints J))) (h3:J.length+(k+1)≤d∧added.length+2*(k+1)≤2*d) (h5:NV W l kp nk kc vp nv vc ip ni ic y) (h6:Apt (w.heap.size+1) (blk jp) ip) (h7:Pv B W p m M) (h8:G.On B w W) (h9:(path M0 key d rn)[k+1]? = some s)
  (h11:Lv M0 M (d-(k+1)) s.page (((path M0 key d rn).drop (k+1)).map Stp.page) y J.reverse added (cA M0 d ((path M0 key d rn).take (k+1))) (cC M0 d ((path M0 key d rn).take (k+1))) (upd key mid)) :
  ∃ z:Sm,L[k]? = some z∧((∃ M' y' J' added',Lv M0 M' (d-k) z.page (((path M0 key d rn).drop k).map Stp.page) y' J'.reverse added' (cA M0 d ((path M0 key d rn).take k)) (cC M0 d ((path M0 key d rn).take k)) (upd key mid)∧(J'.length+k≤d∧added'.length+2*k≤2*d)∧(path M0 key d rn)[k]? = some z.stp ∧
    ∀ W',Kept W W'→Calls Tryz.prog 56 #[.pointer (some ⟨w.heap.size+1,0,none⟩),.agg #[.int .i64 (z.page:Nat),.bool z.l,.slice z.kp z.nk z.kc,.slice z.vp z.nv z.vc,.slice z.ip z.ni z.ic,.int .i64 (z.kid:Nat)],.agg #[.bool l,.slice kp nk kc,.slice vp nv vc,.slice ip ni ic]] W' (LOk B w.heap.size (w.heap.size+1) t p m M' (blk jp) y' J' W')) ∨
   (∃ M',Er m M M' 1∧∀ W',Kept W W'→Calls Tryz.prog 56 #[.pointer (some ⟨w.heap.size+1,0,none⟩),.agg #[.int .i64 (z.page:Nat),.bool z.l,.slice z.kp z.nk z.kc,.slice z.vp z.nv z.vc,.slice z.ip z.ni z.ic,.int .i64 (z.kid:Nat)],.agg #[.bool l,.slice kp nk kc,.slice vp nv vc,.slice ip ni ic]] W' (LErr B (w.heap.size+1) p m M' (blk jp) W'))):=by
 have hlen:(path M0 key d rn).length=d+1:=path_length M0 key d rn
 have hk:k<(path M0 key d rn).length:=by omega
 have hLl:L.length=d+1:=by rw[← hlen,← hLP,List.length_map]
 have hz:=List.getElem?_eq_getElem (show k<L.length by omega)
 have hzp:(path M0 key d rn)[k]? = some (L[k]'(by omega)).stp:=by rw[← hLP,List.getElem?_map,hz];rfl
 refine⟨_,hz,?_⟩
 generalize L[k]'(by omega)=z at hz hzp
 obtain⟨_,hpf⟩:=path_pf d rn [] [] (hTr.pf key) k z.stp hzp
 obtain⟨q0,hq0,hq1⟩:=path_next d rn [] [] (hTr.pf key) k z.stp s hzp h9
 rw[List.nil_append,List.append_nil]at hpf
 have ed:d-k=d-(k+1)+1:=by omega
 rw[ed]at hpf
 have et:(path M0 key d rn).take (k+1)=(path M0 key d rn).take k++[z.stp]:=by rw[List.take_add_one,hzp];rfl
 have el:((path M0 key d rn).take k).length=k:=by rw[List.length_take];omega
 rw[et,cA_snoc,cC_snoc,el,show d-k-1=d-(k+1) by omega]at h11
 have hWW:=hW.on h8
 have hzm:z∈L:=List.mem_of_getElem? hz
 have hnj:=h2.rw.len
 have enj:nj=J.length:=by simp[ints,icl]at hnj;omega
 have st:=lift_step (q:=q0) (pg:=s.page) (mid:=mid) h1 h2 (by omega) h8.size hB (Nat.le_succ _) (Nat.le_trans hB h8.size) hB0 (lds_on hL h8 hB0) (hT.on h8) h7 (hWW.ok z hzm) (apt_low (NV.ix (hW.ok z hzm)) (Nat.le_refl _) (Nat.le_succ _) (blk_ge h2)) hpf hq0 hq1.symm h5 h6 h11
 have edr:(path M0 key d rn).drop k=z.stp :: (path M0 key d rn).drop (k+1):=by
  have:=List.getElem_cons_drop hk
  rw[← this]
  congr 1
  rw[List.getElem?_eq_getElem hk]at hzp
  exact Option.some.inj hzp
 rcases st with⟨M',y',J',added',a1,a2,a3⟩|⟨M',a1,a2⟩
 ·refine .inl ⟨M',y',J',added',?_,⟨by omega,by omega⟩,hzp,a3⟩
  rw[ed,edr];exact a1
 ·exact .inr ⟨M',a1,a2⟩
open B (drp_nil drp_snoc drp_in path_zero)
theorem six_at {w:World} {qb qo n cap k:Nat} {L:List Sm} {z:Sm} (h:WAt w (some ⟨qb,qo,none⟩) n cap L) (hz:L[k]? = some z) :
  w.cell? ⟨qb,qo+k*6,none⟩=some (.int .i64 (z.page:Nat))∧w.cell? ⟨qb,qo+k*6+1,none⟩=some (.bool z.l)∧w.cell? ⟨qb,qo+k*6+2,none⟩=some (.slice z.kp z.nk z.kc)∧w.cell? ⟨qb,qo+k*6+3,none⟩=some (.slice z.vp z.nv z.vc)∧w.cell? ⟨qb,qo+k*6+4,none⟩=some (.slice z.ip z.ni z.ic)∧w.cell? ⟨qb,qo+k*6+5,none⟩=some (.int .i64 (z.kid:Nat)):=by
 rcases h.row.out with⟨h0,_⟩|⟨b,off,e,f⟩
 ·cases h0
 injection e with e
 injection e with e1 e2
 subst e1;subst e2
 refine⟨f (k*6+0) _ (by rw[scl_at L k z hz 0 (by decide)];rfl),f (k*6+1) _ (by rw[scl_at L k z hz 1 (by decide)];rfl),f (k*6+2) _ (by rw[scl_at L k z hz 2 (by decide)];rfl),f (k*6+3) _ (by rw[scl_at L k z hz 3 (by decide)];rfl),f (k*6+4) _ (by rw[scl_at L k z hz 4 (by decide)];rfl),f (k*6+5) _ (by rw[scl_at L k z hz 5 (by decide)];rfl)⟩
theorem nodup_at {l:List Nat} (h:l.Nodup) {i a:Nat} (hi:l[i]? = some a):a∉l.take i:=by
 intro hm
 obtain⟨j,hj,e⟩:=List.mem_iff_getElem.1 hm
 rw[List.length_take]at hj
 rw[List.getElem_take]at e
 obtain⟨h1,h2⟩:=List.getElem?_eq_some_iff.1 hi
 have:=(List.pairwise_iff_getElem.1 h) j i (by omega) h1 (by omega)
 exact this (e.trans h2.symm)
theorem Gone.swap {M:Pm} {D J:List Nat} (h:Gone M (D++J.reverse)):Gone M (D++J)∧drp M (D++J.reverse)=drp M (D++J):=by
 refine⟨⟨?_,fun q hq=>h.is q (by simpa using hq)⟩,?_⟩
 ·have:=h.nd
  rw[List.nodup_append]at this ⊢
  refine⟨this.1,(List.pairwise_reverse.1 this.2.1).imp Ne.symm,fun a ha b hb=>this.2.2 a ha b (by simpa using hb)⟩
 ·funext q;simp[drp]
theorem Gone.at {M:Pm} {D:List Nat} (h:Gone M D) {i a:Nat} (hi:D[i]? = some a):∃ z,drp M (D.take i) a=some z∧drp (drp M (D.take i)) [a]=drp M (D.take (i+1)):=by
 obtain⟨z,hz⟩:=h.is a (List.mem_of_getElem? hi)
 exact⟨z,drp_in hz (nodup_at h.nd hi),by rw[drp_snoc,List.take_add_one,hi];rfl⟩
structure Lc (B K c t p m:Nat) (M':Pm) (jb:Option Nat) (z:Nd) (J':List Nat) (W:World) (tv ev:Value) (wx:World):Prop where
 out:∃ bs kp nk kc vp nv vc ip ni ic jp' nj' jc',tv=.pointer (some ⟨bs,0,none⟩)∧ev=.int .i64 0∧C4 wx bs 52 (.bool false) (.slice kp nk kc) (.slice vp nv vc) (.slice ip ni ic)∧W.heap.size≤bs∧NV wx false kp nk kc vp nv vc ip ni ic z∧CAt wx c t (.slice jp' nj' jc')∧Own wx K 3 1 jp' nj' jc' (icl (ints J'))∧Apt c (blk jp') ip∧Pv B wx p m M'∧Lx B c jb W wx
structure Ec (B c p m:Nat) (M':Pm) (jb:Option Nat) (W:World) (ev:Value) (wx:World):Prop where
 out:ev=.int .i64 80∧Pv B wx p m M'∧Lx B c jb W wx
theorem lc_a {B K c t p m:Nat} {M':Pm} {jb:Option Nat} {z:Nd} {J':List Nat} {W W1 w3:World} {kp:Option Addr} {nk kc:Nat} {vp:Option Addr} {nv vc:Nat} {ip:Option Addr} {ni ic:Nat} {jp':Option Addr} {nj' jc':Nat} (k:Kept W W1) (hB:B≤W.heap.size) (N3:NV w3 false kp nk kc vp nv vc ip ni ic z) (C3:CAt w3 c t (.slice jp' nj' jc')) (O3:Own w3 K 3 1 jp' nj' jc' (icl (ints J'))) (A3:Apt c (blk jp') ip) (V3:Pv B w3 p m M') (L3:Lx B c jb W1 w3) :
  Lc B K c t p m M' jb z J' W (.pointer (some ⟨w3.heap.size,0,none⟩)) (.int .i64 0) (w3.alloc (.cells #[.bool false,.slice kp nk kc,.slice vp nv vc,.slice ip ni ic] 52)):=by
 have ka:Kept w3 (w3.alloc (.cells #[.bool false,.slice kp nk kc,.slice vp nv vc,.slice ip ni ic] 52)):=(Kept.refl _).alloc _
 have LL:=(Lx.ofKept (c:=c) (j:=jb) k hB).trans L3
 exact⟨_,_,_,_,_,_,_,_,_,_,_,_,_,rfl,rfl,C4.alloc _ _ _ _ _ _,LL.size,N3.kept ka,C3.kept ka,O3.kept ka,A3,V3.kept ka,LL.kept ka hB⟩
theorem lc_b {B K c t p m:Nat} {M':Pm} {jb:Option Nat} {z:Nd} {J':List Nat} {W W1 w3:World} {kp:Option Addr} {nk kc:Nat} {vp:Option Addr} {nv vc:Nat} {ip:Option Addr} {ni ic:Nat} {jp':Option Addr} {nj' jc':Nat} (k:Kept W W1) (hB:B≤W.heap.size) (N3:NV w3 false kp nk kc vp nv vc ip ni ic z) (C3:CAt w3 c t (.slice jp' nj' jc')) (O3:Own w3 K 3 1 jp' nj' jc' (icl (ints J'))) (A3:Apt c (blk jp') ip) (V3:Pv B w3 p m M') (L3:Lx B c jb W1 w3)
  (R3:C4 w3 W.heap.size 52 (.bool false) (.slice none 0 0) (.slice none 0 0) (.slice none 0 0)) (hfin:((((w3.setCell ⟨W.heap.size,0,none⟩ (.bool false)).setCell ⟨W.heap.size,1,none⟩ (.slice kp nk kc)).setCell ⟨W.heap.size,2,none⟩ (.slice vp nv vc)).setCell ⟨W.heap.size,3,none⟩ (.slice ip ni ic)).heap[W.heap.size]? = some (.cells #[.bool false,.slice kp nk kc,.slice vp nv vc,.slice ip ni ic] 52)) :
  Lc B K c t p m M' jb z J' W (.pointer (some ⟨W.heap.size,0,none⟩)) (.int .i64 0) ((((w3.setCell ⟨W.heap.size,0,none⟩ (.bool false)).setCell ⟨W.heap.size,1,none⟩ (.slice kp nk kc)).setCell ⟨W.heap.size,2,none⟩ (.slice vp nv vc)).setCell ⟨W.heap.size,3,none⟩ (.slice ip ni ic)):=by
 have oth:∀ k,k≠W.heap.size→((((w3.setCell ⟨W.heap.size,0,none⟩ (.bool false)).setCell ⟨W.heap.size,1,none⟩ (.slice kp nk kc)).setCell ⟨W.heap.size,2,none⟩ (.slice vp nv vc)).setCell ⟨W.heap.size,3,none⟩ (.slice ip ni ic)).heap[k]? = w3.heap[k]?:=fun k hk=>N.others4 _ hk _ _ _ _
 have LL:=(Lx.ofKept (c:=c) (j:=jb) k hB).trans L3
 exact⟨_,_,_,_,_,_,_,_,_,_,_,_,_,rfl,rfl,C4.mk hfin,Nat.le_refl _,N3.other R3 oth,cat_same C3 R3.out (by decide) oth,own_same O3 R3.out (by decide) oth,A3,V3.ap (Ap.other R3.out (by decide) (fun k o hk hne=>(oth k hne).trans hk)),LL.oth (Nat.le_refl _) hB (zero4 _ _ _ _ _ _) oth⟩
theorem ec_a {B c p m:Nat} {M':Pm} {jb:Option Nat} {W W1 w3:World} (k:Kept W W1) (hB:B≤W.heap.size) (V3:Pv B w3 p m M') (L3:Lx B c jb W1 w3) {o:Obj}:Ec B c p m M' jb W (.int .i64 80) (w3.alloc o):=by
 have ka:Kept w3 (w3.alloc o):=(Kept.refl _).alloc _
 exact⟨rfl,V3.kept ka,((Lx.ofKept (c:=c) (j:=jb) k hB).trans L3).kept ka hB⟩
theorem ec_b {B c p m:Nat} {M':Pm} {jb:Option Nat} {W W1 w3:World} {v0 v1 v2 v3:Value} (k:Kept W W1) (hB:B≤W.heap.size) (V3:Pv B w3 p m M') (L3:Lx B c jb W1 w3) (R3:C4 w3 W.heap.size 52 (.bool false) (.slice none 0 0) (.slice none 0 0) (.slice none 0 0)) :
  Ec B c p m M' jb W (.int .i64 80) ((((w3.setCell ⟨W.heap.size,0,none⟩ v0).setCell ⟨W.heap.size,1,none⟩ v1).setCell ⟨W.heap.size,2,none⟩ v2).setCell ⟨W.heap.size,3,none⟩ v3):=by
 have oth:∀ k,k≠W.heap.size→((((w3.setCell ⟨W.heap.size,0,none⟩ v0).setCell ⟨W.heap.size,1,none⟩ v1).setCell ⟨W.heap.size,2,none⟩ v2).setCell ⟨W.heap.size,3,none⟩ v3).heap[k]? = w3.heap[k]?:=fun k hk=>N.others4 _ hk _ _ _ _
 exact⟨rfl,V3.ap (Ap.other R3.out (by decide) (fun k o hk hne=>(oth k hne).trans hk)),((Lx.ofKept (c:=c) (j:=jb) k hB).trans L3).oth (Nat.le_refl _) hB (zero4 _ _ _ _ _ _) oth⟩
theorem on_oth {B:Nat} {a b d:World} (h:G.On B a b) {z:Nat} (hz:a.heap.size≤z) (hB:B≤a.heap.size) (hd:Below 0 b d) (ho:∀ k,k≠z→d.heap[k]? = b.heap[k]?):G.On B a d:=by
 refine⟨h.below.trans ⟨hd.os,hd.tape,hd.output,hd.size,fun k hk=>ho k (by omega)⟩,fun x cs t fr hx ht=>(ho x ?_).trans (h.rows x cs t fr hx ht)⟩
 have:=(Array.getElem?_eq_some_iff.1 hx).1
 omega
set_option maxRecDepth 100000 in
set_option maxHeartbeats 4000000 in
theorem replace_walk {B:Nat} {w:World} {t p m d n cap:Nat} {root:Int} {q:Option Addr} {M0:Pm} {key:ByteArray} {mid:List En} {L:List Sm} {rn:Nat} (hT:TAt w t p root) (hBt:B≤t) (hV:Pv B w p m M0) (hB:B≤w.heap.size) (hB0:0<B) (hL:S.Lds w) (hW:WAt w q n cap L) (hn:n=d+1) (hLP:L.map Sm.stp=path M0 key d rn) (hTr:Tr M0 d rn) (hd:d≤10)
  {l:Bool} {kp:Option Addr} {nk kc:Nat} {vp:Option Addr} {nv vc:Nat} {ip:Option Addr} {ni ic:Nat} {y:Nd} (hy:NV w l kp nk kc vp nv vc ip ni ic y)
  (h:∀ s,(path M0 key d rn)[d]? = some s→Lv M0 M0 0 s.page [s.page] y [] [] (cA M0 d ((path M0 key d rn).take d)) (cC M0 d ((path M0 key d rn).take d)) (upd key mid)) :
  Calls Tryz.prog 31 #[.pointer (some ⟨t,0,none⟩),.slice q n cap,.agg #[.bool l,.slice kp nk kc,.slice vp nv vc,.slice ip ni ic]] w (RPost 23 B t p m root M0 (upd key mid (con (fm M0 d rn))) w):=by
 obtain⟨qb,qo,rfl,_⟩:=hW.row.some (by omega)
 obtain⟨W0,hW0⟩:∃ W0,W0=(w.alloc (.cells #[.bool l,.slice kp nk kc,.slice vp nv vc,.slice ip ni ic] 52)).alloc (.cells #[.pointer (some ⟨t,0,none⟩),.slice none 0 0] 119):=⟨_,rfl⟩
 have R0:Hid (Rs B w t p m d M0 key mid (path M0 key d rn) d W0):=by
  have K0:Kept w W0:=by rw[hW0];exact ((Kept.refl w).alloc _).alloc _
  have hpl:=path_length M0 key d rn
  have hps:=List.getElem?_eq_getElem (show d<(path M0 key d rn).length by omega)
  have hh:=h _ hps
  have e1:(path M0 key d rn).drop d=[(path M0 key d rn)[d]'(by omega)]:=by
   have:=List.getElem_cons_drop (show d<(path M0 key d rn).length by omega)
   rw[← this,List.drop_eq_nil_of_le (by omega)]
  refine⟨M0,y,[],[],none,0,0,l,kp,nk,kc,vp,nv,vc,ip,ni,ic,_,⟨?_⟩,own_nil _ _ _ _,⟨by simp,by simp⟩,C4.mk ?_,hy.kept K0,?_,hV.kept K0,G.On.ofKept ⟨K0.out⟩ hB,hps,?_⟩
  ·rw[hW0];exact D.two_new w _ _
  ·rw[hW0];exact ((Kept.refl _).alloc _).block (heap_alloc_new w _)
  ·exact apt_low hy.ix (Nat.le_refl _) (Nat.le_succ _) (fun b e=>by cases e)
  ·rw[e1,Nat.sub_self];exact hh
 obtain⟨a0,ha0⟩:∃ a0:Int,a0=(d:Int)-1:=⟨_,rfl⟩
 have e1:IntKind.i64.wrap ((n:Int)-2)=a0:=by rw[IntKind.wrap_i64];omega
 have HA0:Hid (a0=(d:Int)-1):=ha0
 have HT:Hid (TAt w t p root):=hT
 have HB:Hid (B≤w.heap.size∧0<B):=⟨hB,hB0⟩
 have HBt:Hid (B≤t):=hBt
 have HL:Hid (S.Lds w):=hL
 have HW:Hid (WAt w (some ⟨qb,qo,none⟩) n cap L):=hW
 have HLP:Hid (L.map Sm.stp=path M0 key d rn):=hLP
 have HTr:Hid (Tr M0 d rn):=hTr
 have HN:Hid (n=d+1∧d≤10):=⟨hn,hd⟩
 clear hT hBt hV hB hB0 hL hW hLP hTr hn hd hy h ha0
 go_enter Tryz.func31,Tryz.ntmps31
 go_wp2
 rw[← hW0]
 clear hW0
 go_loopg [8] d (fun gg v wx=>∃ r a,Hid (gg=r)∧v=.int .i64 a∧Hid (a=(r:Int)-1)∧Hid (r≤d)∧Hid (Rs B w t p m d M0 key mid (path M0 key d rn) r wx))
 case atStart=>exact⟨d,a0,rfl,rfl,HA0,Nat.le_refl _,R0⟩
 case round=>
  obtain⟨r,a,hgr,rfl,har,hrd,hrs⟩:=hrel
  obtain⟨M,y,J,added,jp,nj,jc,l,kp,nk,kc,vp,nv,vc,ip,ni,ic,s,h1,h2,h3,h4,h5,h6,h7,h8,h9,h11⟩:=hrs.out.out
  clear R0 hrs
  by_cases hr:r=0
  ·subst hr
   have hs0:s.page=rn:=by
    rw[path_zero]at h9
    have:=Option.some.inj h9
    rw[← this];rfl
   have h12:Lv M0 M d rn ((path M0 key d rn).map Stp.page) y J.reverse added [] [] (upd key mid):=by
    rw[hs0]at h11
    exact h11
   have i1:¬ (0:Int)≤a:=by have:=har.out;omega
   obtain⟨y0,y1,y2,y3⟩:=h4.cs
   have cd:=crown_dec h1 (HT.out.on h8) h7 (Nat.le_trans HB.out.1 h8.size) (lds_on HL.out h8 HB.out.2) HB.out.2 h5 HTr.out h12
   rcases cd with⟨M',rt,tr,gn,f⟩|⟨M',ex,f⟩
   ·have HC1:Hid (CAt wr (w.heap.size+1) t (.slice jp nj jc)):=h1
    have HJ1:Hid (Own wr w.heap.size 3 1 jp nj jc (icl (ints J))):=h2
    have HO1:Hid (G.On B w wr):=h8
    obtain⟨gn2,ed2⟩:=gn.swap
    have HTr2:Hid (Tree (drp M' ((path M0 key d rn).map Stp.page++J)) rt (upd key mid (con (fm M0 d rn)))):=by rw[← ed2];exact tr
    have HGn:Hid (Gone M' ((path M0 key d rn).map Stp.page++J)):=gn2
    have HPl:Hid (((path M0 key d rn).map Stp.page).length=n):=by
     show _=_
     rw[List.length_map,path_length,HN.out.1]
    have HPg:Hid (∀ (i:Nat) (z:Sm),L[i]? = some z→((path M0 key d rn).map Stp.page++J)[i]? = some z.page):=fun i z hz=>by
     have hlt:=(List.getElem?_eq_some_iff.1 hz).1
     rw[List.getElem?_append_left (by rw[HPl.out];have:=HW.out.len;omega),← HLP.out,List.map_map,List.getElem?_map,hz];rfl
    have HJg:Hid (∀ (i b:Nat),J[i]? = some b→((path M0 key d rn).map Stp.page++J)[n+i]? = some b):=fun i b hb=>by
     rw[List.getElem?_append_right (by rw[HPl.out];omega),HPl.out,Nat.add_sub_cancel_left];exact hb
    have HTk:Hid (((path M0 key d rn).map Stp.page++J).take (n+nj)=(path M0 key d rn).map Stp.page++J):=by
     have e:=h2.rw.len
     simp[ints,icl]at e
     exact List.take_of_length_le (by rw[List.length_append,HPl.out];omega)
    generalize (path M0 key d rn).map Stp.page++J=DD at HTr2 HGn HPg HJg HTk
    have hJl:Hid (J.length=nj∧nj≤500):=by
     have e:=h2.rw.len
     simp[ints,icl]at e
     have:=HN.out
     exact⟨e,by omega⟩
    clear h1 h2 h3 h4 h5 h6 h7 h8 h9 h11 h12 hs0 tr gn gn2 ed2 har hgr hrd
    go_wp2_with (go_at_call 57;(with_reducible refine f.mono ?_);rintro e w3 ⟨rfl,V3,o3⟩;have HD0:Hid (Pv B w3 p m (drp M' (DD.take 0))∧G.On B w w3∧CAt w3 (w.heap.size+1) t (.slice jp nj jc)∧Own w3 w.heap.size 3 1 jp nj jc (icl (ints J))):=⟨by rw[List.take_zero,drp_nil];exact V3,HO1.out.trans o3,HC1.out.on o3,own_on o3 calm3 HJ1.out⟩;clear V3 o3 f y0 y1 y2 y3)
    go_loopg [49] n (fun gg v wx=>∃ i:Nat,Hid (gg=n-i)∧v=.int .i64 (i:Nat)∧Hid (i≤n)∧Hid (Pv B wx p m (drp M' (DD.take i))∧G.On B w wx∧CAt wx (w.heap.size+1) t (.slice jp nj jc)∧Own wx w.heap.size 3 1 jp nj jc (icl (ints J))))
    case atStart=>exact⟨0,rfl,rfl,Nat.zero_le _,HD0⟩
    case round=>
     obtain⟨i,hgi,rfl,hin,hdp⟩:=hrel
     obtain⟨V4,o4,C4',O4⟩:=hdp.out
     clear HD0 hdp
     by_cases hi:i=n
     ·obtain rfl:=hi.symm
      obtain⟨c0,c1⟩:=C4'.cs
      have HD1:Hid (Pv B wr p m (drp M' (DD.take (n+0)))∧G.On B w wr∧Own wr w.heap.size 3 1 jp nj jc (icl (ints J))):=⟨V4,o4,O4⟩
      have i2:¬ ((n:Int)<(n:Int)):=by omega
      clear V4 o4 C4' O4
      go_wp2
      go_loopg [64] nj (fun gg v wx=>∃ i:Nat,Hid (gg=nj-i)∧v=.int .i64 (i:Nat)∧Hid (i≤nj)∧Hid (Pv B wx p m (drp M' (DD.take (n+i)))∧G.On B w wx∧Own wx w.heap.size 3 1 jp nj jc (icl (ints J))))
      case atStart=>exact⟨0,rfl,rfl,Nat.zero_le _,HD1⟩
      case round=>
       obtain⟨i,hgi,rfl,hin,hdp⟩:=hrel
       obtain⟨V5,o5,O5⟩:=hdp.out
       clear HD1 hdp
       have T5:=HT.out.on o5
       obtain⟨t0,t1⟩:=T5.cs
       by_cases hi:i=nj
       ·obtain rfl:=hi.symm
        have tf:=frozen_of_row wr t 1 _ _ T5.out
        have i3:¬ ((nj:Int)<(nj:Int)):=by omega
        have T6:TAt (wr.setCell ⟨t,1,none⟩ (.int .i64 rt)) t p rt:=⟨by rw[heap_setCell_same _ t 1 _ _ _ T5.out];rfl⟩
        have o6:Tx B t w (wr.setCell ⟨t,1,none⟩ (.int .i64 rt)):=⟨o5.below.setCell HBt.out _,fun b cs ty fr hb hc hne=>by rw[heap_setCell_other wr ⟨t,1,none⟩ b _ hne];exact o5.rows b cs ty fr hb hc⟩
        have V6:Pv B (wr.setCell ⟨t,1,none⟩ (.int .i64 rt)) p m (drp M' DD):=by
         rw[HTk.out]at V5
         exact V5.ap (Ap.other T5.out (by decide) (fun k o hk hne=>by rw[heap_setCell_other wr ⟨t,1,none⟩ k _ hne];exact hk))
        clear V5 o5 O5 T5
        go_wp2
        go_ret
        exact .inl ⟨rfl,_,_,HTr2.out,T6,V6,o6⟩
       ·have hlt:i<nj:=by have:=hin.out;omega
        obtain⟨jb,rfl⟩:=O5.some_of (by omega)
        obtain⟨b,hb⟩:∃ b,J[i]? = some b:=⟨_,List.getElem?_eq_getElem (by rw[hJl.out.1];exact hlt)⟩
        have u0:=O5.cell (j:=i) (u:=.int .i64 (b:Nat)) (by simp[ints,icl,hb])
        have i4:(i:Int)<(nj:Int):=by omega
        obtain⟨z,hz,ez⟩:=HGn.out.at (HJg.out i b hb)
        have f:=V5.drop (Nat.le_trans HB.out.1 o5.size) hz
        rw[ez,Nat.add_assoc]at f
        have i5:IntKind.i64.wrap ((i:Int)+1)=((i+1:Nat):Int):=by rw[IntKind.wrap_i64];have:=hJl.out;omega
        have HO5:Hid (G.On B w wr∧Own wr w.heap.size 3 1 (some ⟨jb,0,none⟩) nj jc (icl (ints J))):=⟨o5,O5⟩
        clear V5 o5 O5 T5 hz ez hb
        go_wp2_with (go_at_call 58;(with_reducible refine f.mono ?_);rintro e w7 ⟨rfl,V7,o7⟩;have HD7:Hid (Pv B w7 p m (drp M' (DD.take (n+(i+1))))∧G.On B w w7∧Own w7 w.heap.size 3 1 (some ⟨jb,0,none⟩) nj jc (icl (ints J))):=⟨V7,HO5.out.1.trans o7,own_on o7 calm3 HO5.out.2⟩;clear V7 o7)
        go_roundg (nj-(i+1))
        case measure=>rw[hgi.out];omega
        case rel=>exact⟨i+1,rfl,by go_num,(by show i+1≤nj;omega),HD7⟩
     ·have hlt:i<n:=by have:=hin.out;omega
      obtain⟨z,hz⟩:∃ z,L[i]? = some z:=⟨_,List.getElem?_eq_getElem (by rw[HW.out.len];exact hlt)⟩
      obtain⟨x0,x1,x2,x3,x4,x5⟩:=six_at (HW.out.on o4) hz
      obtain⟨u,hu,ez⟩:=HGn.out.at (HPg.out i z hz)
      have i2:(i:Int)<(n:Int):=by omega
      have i5:IntKind.i64.wrap ((i:Int)+1)=((i+1:Nat):Int):=by rw[IntKind.wrap_i64];have:=HN.out;omega
      have kz:Kept wr (wr.alloc (.cells #[.int .i64 (z.page:Nat),.bool z.l,.slice z.kp z.nk z.kc,.slice z.vp z.nv z.vc,.slice z.ip z.ni z.ic,.int .i64 (z.kid:Nat)] 113)):=(Kept.refl wr).alloc _
      have T4:=(HT.out.on o4).kept kz
      obtain⟨t0,t1⟩:=T4.cs
      obtain⟨s0,s1,s2,s3,s4,s5⟩:=cells6 (heap_alloc_new wr (.cells #[.int .i64 (z.page:Nat),.bool z.l,.slice z.kp z.nk z.kc,.slice z.vp z.nv z.vc,.slice z.ip z.ni z.ic,.int .i64 (z.kid:Nat)] 113))
      have f:Hid (∀ W,Kept wr W→Calls Tryz.prog 58 #[.pointer (some ⟨p,0,none⟩),.int .i64 (z.page:Nat)] W fun e w'=>e=.returned (.tuple #[])∧Pv B w' p m (drp M' (DD.take (i+1)))∧G.On B W w'):=fun W k=>by
       have:=(V4.kept k).drop (Nat.le_trans HB.out.1 (Nat.le_trans o4.size k.size)) hu
       rwa [ez]at this
      have HO5:Hid (G.On B w wr∧CAt wr (w.heap.size+1) t (.slice jp nj jc)∧Own wr w.heap.size 3 1 jp nj jc (icl (ints J))):=⟨o4,C4',O4⟩
      have HZ4:Hid ((wr.alloc (.cells #[.int .i64 (z.page:Nat),.bool z.l,.slice z.kp z.nk z.kc,.slice z.vp z.nv z.vc,.slice z.ip z.ni z.ic,.int .i64 (z.kid:Nat)] 113)).heap[wr.heap.size]? = some (.cells #[.int .i64 (z.page:Nat),.bool z.l,.slice z.kp z.nk z.kc,.slice z.vp z.nv z.vc,.slice z.ip z.ni z.ic,.int .i64 (z.kid:Nat)] 113)):=heap_alloc_new wr _
      clear V4 o4 C4' O4 hu ez hz T4
      go_wp2_with fail
      go_region_held3 (fun W=>W.cell? ⟨t,0,none⟩=some (.pointer (some ⟨p,0,none⟩))∧W.cell? ⟨wr.heap.size,0,none⟩=some (.int .i64 (z.page:Nat))) (first | trivial | go_keep) (first|(go_at_call 58;(with_reducible refine (f.out _ (by first | exact kz.drew | exact kz)).mono ?_);rintro e w7 ⟨rfl,V7,o7⟩;have o8:G.On B wr w7:=(by first | exact (G.On.ofKept ⟨kz.drew.out⟩ (Nat.le_trans HB.out.1 HO5.out.1.size)).trans o7 | exact (G.On.ofKept ⟨kz.out⟩ (Nat.le_trans HB.out.1 HO5.out.1.size)).trans o7);obtain⟨t0,t1⟩:=(HT.out.on (HO5.out.1.trans o8)).cs;obtain⟨s0,s1,s2,s3,s4,s5⟩:=cells6 (o7.rows _ _ _ _ HZ4.out calm113);have HD7:Hid (Pv B w7 p m (drp M' (DD.take (i+1)))∧G.On B w w7∧CAt w7 (w.heap.size+1) t (.slice jp nj jc)∧Own w7 w.heap.size 3 1 jp nj jc (icl (ints J))):=⟨V7,HO5.out.1.trans o8,HO5.out.2.1.on o8,own_on o8 calm3 HO5.out.2.2⟩))
      go_wp2
      go_roundg (n-(i+1))
      case measure=>rw[hgi.out];omega
      case rel=>exact⟨i+1,rfl,by go_num,(by show i+1≤n;omega),HD7⟩
   ·have ex2:Er m M0 M' 23:=(ex.more h12.ext h12.used h3.2).mono (by have:=HN.out;omega)
    have HO1:Hid (G.On B w wr):=h8
    clear h1 h2 h3 h4 h5 h6 h7 h8 h9 h11 h12 hs0
    go_wp2_with (go_at_call 57;(with_reducible refine f.mono ?_);rintro e w3 ⟨rfl,V3,o3⟩;have o4:=HO1.out.trans o3)
    go_ret
    exact .inr ⟨rfl,M',ex2,HT.out.on o4,V3,Tx.ofOn o4⟩
  ·obtain⟨k,rfl⟩:∃ k,r=k+1:=⟨r-1,by omega⟩
   obtain rfl:a=(k:Int):=by have:=har.out;omega
   obtain⟨z,hz,st⟩:=rs_step HT.out HB.out.1 HB.out.2 HL.out HW.out HLP.out HTr.out HN.out.2 h1 h2 h3 h5 h6 h7 h8 h9 h11
   obtain⟨x0,x1,x2,x3,x4,x5⟩:=six_at (HW.out.on h8) hz
   obtain⟨y0,y1,y2,y3⟩:=h4.cs
   have i1:(0:Int)≤(k:Int):=by omega
   have i2:(k:Int)<(n:Int):=by have:=HN.out;have:=hrd.out;omega
   rcases st with⟨M',y',J',added',b1,b2,b3,b4⟩|⟨M',b1,b2⟩
   ·go_upto_region 5 with fail
    go_cut [9,10] (fun tv ev wx=>Lc B w.heap.size (w.heap.size+1) t p m M' (blk jp) y' J' wr tv ev wx)
    case first=>
     have hBr:Hid (B≤wr.heap.size):=Nat.le_trans HB.out.1 h8.size
     have kA:Kept wr wr.drew:=(Kept.refl _).drew
     have kB:Kept wr (wr.alloc (.cells #[.bool false,.slice none 0 0,.slice none 0 0,.slice none 0 0] 52)).drew:=((Kept.refl _).alloc _).drew
     have HA:=b4 _ kA
     have HBB:=b4 _ kB
     have Z0:Hid ((wr.alloc (.cells #[.bool false,.slice none 0 0,.slice none 0 0,.slice none 0 0] 52)).drew.heap[wr.heap.size]? = some (.cells #[.bool false,.slice none 0 0,.slice none 0 0,.slice none 0 0] 52)):=heap_alloc_new wr _
     have hlt1:=(Array.getElem?_eq_some_iff.1 h1.out).1
     have hcc:Hid (wr.heap.size≠w.heap.size+1∧blk jp≠some wr.heap.size):=⟨by omega,fun e=>by
      obtain⟨cs',fr',e2⟩:=(jt_of h1 h2).j _ e
      have:=(Array.getElem?_eq_some_iff.1 e2).1
      omega⟩
     have hx0:=fun o=>((Kept.refl wr).alloc o).cell x0
     have hx1:=fun o=>((Kept.refl wr).alloc o).cell x1
     have hx2:=fun o=>((Kept.refl wr).alloc o).cell x2
     have hx3:=fun o=>((Kept.refl wr).alloc o).cell x3
     have hx4:=fun o=>((Kept.refl wr).alloc o).cell x4
     have hx5:=fun o=>((Kept.refl wr).alloc o).cell x5
     have hy0:=fun o=>((Kept.refl wr).alloc o).cell y0
     have hy1:=fun o=>((Kept.refl wr).alloc o).cell y1
     have hy2:=fun o=>((Kept.refl wr).alloc o).cell y2
     have hy3:=fun o=>((Kept.refl wr).alloc o).cell y3
     have HkA:Hid (Kept wr wr.drew):=kA
     have HkB:Hid (Kept wr (wr.alloc (.cells #[.bool false,.slice none 0 0,.slice none 0 0,.slice none 0 0] 52)).drew):=kB
     clear kA kB b4 h1 h2 h3 h4 h5 h6 h7 h8 h9 h11 b1 b2 b3 hlt1
     go_region_with (first
      | (go_at_call 56;(with_reducible refine HA.mono ?_);rintro e w3 ⟨zkp,znk,zkc,zvp,znv,zvc,zip,zni,zic,jp',nj',jc',rfl,N3,C3,O3,A3,V3,L3⟩;clear HA HBB)
      | (go_at_call 56;(with_reducible refine HBB.mono ?_);rintro e w3 ⟨zkp,znk,zkc,zvp,znv,zvc,zip,zni,zic,jp',nj',jc',rfl,N3,C3,O3,A3,V3,L3⟩;have R3:C4 w3 wr.heap.size 52 (.bool false) (.slice none 0 0) (.slice none 0 0) (.slice none 0 0):=C4.mk (L3.rows _ _ _ _ Z0.out calm52 hcc.out.1 hcc.out.2);obtain⟨⟨g0,f0⟩,⟨g1,f1⟩,⟨g2,f2⟩,⟨g3,f3⟩,hfin⟩:=N.ready4 R3.out (.bool false) (.slice zkp znk zkc) (.slice zvp znv zvc) (.slice zip zni zic);clear HA HBB))
     all_goals go_wp2_with fail
     all_goals go_meet
     all_goals
      first
       | exact lc_a HkA.out hBr.out N3 C3 O3 A3 V3 L3
       | exact lc_b HkB.out hBr.out N3 C3 O3 A3 V3 L3 R3 hfin
    case rest=>
     obtain⟨bs,zkp,znk,zkc,zvp,znv,zvc,zip,zni,zic,jp',nj',jc',rfl,rfl,X,hbs,N3,C3,O3,A3,V3,L3⟩:=hcut.out
     obtain⟨z0,z1,z2,z3⟩:=X.cs
     have hj5:blk jp≠some w.heap.size:=fun e=>by
      obtain⟨cs',fr',e2⟩:=(jt_of h1 h2).j _ e
      rw[h4.out]at e2;injection e2 with e2;injection e2 with _ e2 _;exact absurd e2 (by decide)
     have R5:C4 wc w.heap.size 52 (.bool l) (.slice kp nk kc) (.slice vp nv vc) (.slice ip ni ic):=C4.mk (L3.rows _ _ _ _ h4.out calm52 (by omega) hj5)
     obtain⟨⟨g0,f0⟩,⟨g1,f1⟩,⟨g2,f2⟩,⟨g3,f3⟩,hfin⟩:=N.ready4 R5.out (.bool false) (.slice zkp znk zkc) (.slice zvp znv zvc) (.slice zip zni zic)
     have oth:∀ k,k≠w.heap.size→((((wc.setCell ⟨w.heap.size,0,none⟩ (.bool false)).setCell ⟨w.heap.size,1,none⟩ (.slice zkp znk zkc)).setCell ⟨w.heap.size,2,none⟩ (.slice zvp znv zvc)).setCell ⟨w.heap.size,3,none⟩ (.slice zip zni zic)).heap[k]? = wc.heap[k]?:=fun k hk=>N.others4 _ hk _ _ _ _
     obtain⟨a1,ha1⟩:∃ a1:Int,a1=(k:Int)-1:=⟨_,rfl⟩
     have e2:IntKind.i64.wrap ((k:Int)-1)=a1:=by rw[IntKind.wrap_i64];have:=HN.out;have:=hrd.out;omega
     have HA1:Hid (a1=(k:Int)-1):=ha1
     have HR1:Hid (Rs B w t p m d M0 key mid (path M0 key d rn) k ((((wc.setCell ⟨w.heap.size,0,none⟩ (.bool false)).setCell ⟨w.heap.size,1,none⟩ (.slice zkp znk zkc)).setCell ⟨w.heap.size,2,none⟩ (.slice zvp znv zvc)).setCell ⟨w.heap.size,3,none⟩ (.slice zip zni zic))):=
      ⟨M',y',J',added',jp',nj',jc',false,zkp,znk,zkc,zvp,znv,zvc,zip,zni,zic,z.stp,cat_same C3 R5.out (by decide) oth,own_same O3 R5.out (by decide) oth,b2,C4.mk hfin,N3.other R5 oth,A3,V3.ap (Ap.other R5.out (by decide) (fun k o hk hne=>(oth k hne).trans hk)),on_oth (on_lx h8 L3 (Nat.le_refl _) (Nat.le_succ _) (blk_ge h2)) (Nat.le_refl _) HB.out.1 (zero4 _ _ _ _ _ _) oth,b3,b1⟩
     clear ha1 oth hcut N3 C3 O3 A3 V3 L3 X R5 b4 h1 h2 h3 h4 h5 h6 h7 h8 h9 h11 b1 b2 b3 x0 x1 x2 x3 x4 x5 y0 y1 y2 y3
     go_wp2
     go_roundg k
     case measure=>rw[hgr.out];omega
     case rel=>exact⟨k,a1,rfl,rfl,HA1,(by have:=hrd.out;show k≤d;omega),HR1⟩
   ·go_upto_region 5 with fail
    go_cut [10] (fun ev wx=>Ec B (w.heap.size+1) p m M' (blk jp) wr ev wx)
    case first=>
     have hBr:Hid (B≤wr.heap.size):=Nat.le_trans HB.out.1 h8.size
     have kA:Kept wr wr.drew:=(Kept.refl _).drew
     have kB:Kept wr (wr.alloc (.cells #[.bool false,.slice none 0 0,.slice none 0 0,.slice none 0 0] 52)).drew:=((Kept.refl _).alloc _).drew
     have HA:=b2 _ kA
     have HBB:=b2 _ kB
     have Z0:Hid ((wr.alloc (.cells #[.bool false,.slice none 0 0,.slice none 0 0,.slice none 0 0] 52)).drew.heap[wr.heap.size]? = some (.cells #[.bool false,.slice none 0 0,.slice none 0 0,.slice none 0 0] 52)):=heap_alloc_new wr _
     have hlt1:=(Array.getElem?_eq_some_iff.1 h1.out).1
     have hcc:Hid (wr.heap.size≠w.heap.size+1∧blk jp≠some wr.heap.size):=⟨by omega,fun e=>by
      obtain⟨cs',fr',e2⟩:=(jt_of h1 h2).j _ e
      have:=(Array.getElem?_eq_some_iff.1 e2).1
      omega⟩
     have hx0:=fun o=>((Kept.refl wr).alloc o).cell x0
     have hx1:=fun o=>((Kept.refl wr).alloc o).cell x1
     have hx2:=fun o=>((Kept.refl wr).alloc o).cell x2
     have hx3:=fun o=>((Kept.refl wr).alloc o).cell x3
     have hx4:=fun o=>((Kept.refl wr).alloc o).cell x4
     have hx5:=fun o=>((Kept.refl wr).alloc o).cell x5
     have hy0:=fun o=>((Kept.refl wr).alloc o).cell y0
     have hy1:=fun o=>((Kept.refl wr).alloc o).cell y1
     have hy2:=fun o=>((Kept.refl wr).alloc o).cell y2
     have hy3:=fun o=>((Kept.refl wr).alloc o).cell y3
     have HkA:Hid (Kept wr wr.drew):=kA
     have HkB:Hid (Kept wr (wr.alloc (.cells #[.bool false,.slice none 0 0,.slice none 0 0,.slice none 0 0] 52)).drew):=kB
     clear kA kB b2 h1 h2 h3 h4 h5 h6 h7 h8 h9 h11 b1 hlt1
     go_region_with (first
      | (go_at_call 56;(with_reducible refine HA.mono ?_);rintro e w3 ⟨rfl,V3,L3⟩;clear HA HBB)
      | (go_at_call 56;(with_reducible refine HBB.mono ?_);rintro e w3 ⟨rfl,V3,L3⟩;have R3:C4 w3 wr.heap.size 52 (.bool false) (.slice none 0 0) (.slice none 0 0) (.slice none 0 0):=C4.mk (L3.rows _ _ _ _ Z0.out calm52 hcc.out.1 hcc.out.2);obtain⟨⟨g0,f0⟩,⟨g1,f1⟩,⟨g2,f2⟩,⟨g3,f3⟩,hfin⟩:=N.ready4 R3.out (.bool false) (.slice none 0 0) (.slice none 0 0) (.slice none 0 0);clear HA HBB))
     all_goals go_wp2_with fail
     all_goals go_meet
     all_goals
      first
       | exact ec_a HkA.out hBr.out V3 L3
       | exact ec_b HkB.out hBr.out V3 L3 R3
    case rest=>
     obtain⟨rfl,V3,L3⟩:=hcut.out
     have o3:G.On B w wc:=on_lx h8 L3 (Nat.le_refl _) (Nat.le_succ _) (blk_ge h2)
     have ex:Er m M0 M' 23:=(b1.more h11.ext h11.used (show added.length≤2*d by omega)).mono (by have:=HN.out;omega)
     have t3:=HT.out.on o3
     clear hcut h1 h2 h3 h4 h5 h6 h7 h8 h9 h11 b2 x0 x1 x2 x3 x4 x5 y0 y1 y2 y3
     go_wp2
     go_ret
     exact .inr ⟨rfl,M',ex,t3,V3,Tx.ofOn o3⟩
open B (stpAt nodeAt_some fm_some fmN_leaf con_leaf leafm pg_some tr_deep ext_wf Wf pt_same R got path_got)
open N (C3)
theorem crown_new {B:Nat} {w:World} {c t p m:Nat} {jv:Value} {root:Int} {M:Pm} (hC:CAt w c t jv) (hT:TAt w t p root) (hV:Pv B w p m M) (hM:∀ q,M q=none) (hB:B≤w.heap.size) (hL:S.Lds w)
  {l:Bool} {kp:Option Addr} {nk kc:Nat} {vp:Option Addr} {nv vc:Nat} {ip:Option Addr} {ni ic:Nat} {y:Nd} (hy:NV w l kp nk kc vp nv vc ip ni ic y) {key:ByteArray} {v:Vl} (hyd:y=⟨true,[key],[v],[]⟩) (gy:N.Good y) (hs:y.put.length≤237) :
  (∃ M' r,Tree M' r [(key,v)]∧Calls Tryz.prog 57 #[.pointer (some ⟨c,0,none⟩),.agg #[.bool l,.slice kp nk kc,.slice vp nv vc,.slice ip ni ic]] w (COk B p m M' r w)) ∨
  (Er m M M 0∧Calls Tryz.prog 57 #[.pointer (some ⟨c,0,none⟩),.agg #[.bool l,.slice kp nk kc,.slice vp nv vc,.slice ip ni ic]] w (CErr B p m M w)):=by
 have K0:Kept w (w.alloc (.cells #[.bool l,.slice kp nk kc,.slice vp nv vc,.slice ip ni ic] 52)):=(Kept.refl w).alloc _
 have hB1:B≤(w.alloc (.cells #[.bool l,.slice kp nk kc,.slice vp nv vc,.slice ip ni ic] 52)).heap.size:=Nat.le_trans hB K0.size
 have oK:G.On B w (w.alloc (.cells #[.bool l,.slice kp nk kc,.slice vp nv vc,.slice ip ni ic] 52)):=G.On.ofKept ⟨K0.out⟩ hB
 have hpos:0<nk:=by have:=hy.nk;rw[hyd]at this;simp at this;omega
 cases hf:frst M m with
 | none=>
  refine .inr ⟨⟨Ext.refl _,⟨[],by simp,fun q=>by simp⟩,frst_none hf⟩,(crown_err (Q:=fun w'=>Pv B w' p m M∧G.On B w w') hpos ((put_o (hC.kept K0) (hT.kept K0) (hV.kept K0) hB1 (lds_kept hL K0) (hy.kept K0) gy hs hf).mono ?_)).mono ?_⟩
  ·rintro e w' ⟨rfl,k⟩
   exact⟨rfl,(hV.kept K0).kept k,oK.kept ⟨k.out⟩ hB⟩
  ·rintro e w' ⟨rfl,a,b⟩
   exact⟨rfl,a,b⟩
 | some n=>
  refine .inl ⟨pt M n y,(n:Nat),.inr ⟨0,n,rfl,⟨⟨y,pt_same _ _ _,by rw[hyd];simp,hs,by rw[hyd],gy⟩,?_,?_⟩,?_⟩,?_⟩
  ·rw[fm_some (pt_same _ _ _),fmN_leaf,hyd];simp[leafm]
  ·intro q
   rw[pg_some (pt_same _ _ _),us_pt (hM n)]
   simp[pgN,us,hM q]
  ·rw[fm_some (pt_same _ _ _),fmN_leaf,con_leaf,hyd];rfl
  ·refine (crown_one (n:=n) (B:=(w.alloc (.cells #[.bool l,.slice kp nk kc,.slice vp nv vc,.slice ip ni ic] 52)).heap.size) (Q:=fun w'=>Pv B w' p m (pt M n y)∧G.On B w w') hpos ((put_i (hC.kept K0) (hT.kept K0) (hV.kept K0) hB1 (lds_kept hL K0) (hy.kept K0) gy hs hf).mono ?_)).mono ?_
   ·rintro e w' ⟨pp,pc,rfl,a1,a3,a4⟩
    exact⟨pp,pc,rfl,a1,a3,oK.trans a4⟩
   ·rintro e w' ⟨rfl,a,b⟩
    exact⟨rfl,a,b⟩
set_option maxRecDepth 100000 in
set_option maxHeartbeats 1000000 in
theorem replace_nil {B:Nat} {w:World} {t p m:Nat} {M0:Pm} (hT:TAt w t p (-1)) (hBt:B≤t) (hV:Pv B w p m M0) (hM:∀ q,M0 q=none) (hB:B≤w.heap.size) (hL:S.Lds w)
  {l:Bool} {kp:Option Addr} {nk kc:Nat} {vp:Option Addr} {nv vc:Nat} {ip:Option Addr} {ni ic:Nat} {y:Nd} (hy:NV w l kp nk kc vp nv vc ip ni ic y) {key:ByteArray} {v:Vl} (hyd:y=⟨true,[key],[v],[]⟩) (gy:N.Good y) (hs:y.put.length≤237) :
  Calls Tryz.prog 31 #[.pointer (some ⟨t,0,none⟩),.slice none 0 0,.agg #[.bool l,.slice kp nk kc,.slice vp nv vc,.slice ip ni ic]] w (RPost 0 B t p m (-1) M0 [(key,v)] w):=by
 obtain⟨W0,hW0⟩:∃ W0,W0=(w.alloc (.cells #[.bool l,.slice kp nk kc,.slice vp nv vc,.slice ip ni ic] 52)).alloc (.cells #[.pointer (some ⟨t,0,none⟩),.slice none 0 0] 119):=⟨_,rfl⟩
 have K0:Kept w W0:=by rw[hW0];exact ((Kept.refl w).alloc _).alloc _
 have C0:CAt W0 (w.heap.size+1) t (.slice none 0 0):=⟨by rw[hW0];exact D.two_new w _ _⟩
 have X0:C4 W0 w.heap.size 52 (.bool l) (.slice kp nk kc) (.slice vp nv vc) (.slice ip ni ic):=C4.mk (by rw[hW0];exact ((Kept.refl _).alloc _).block (heap_alloc_new w _))
 have o0:G.On B w W0:=G.On.ofKept ⟨K0.out⟩ hB
 have cd:=crown_new C0 (hT.kept K0) (hV.kept K0) hM (Nat.le_trans hB K0.size) (lds_kept hL K0) (hy.kept K0) hyd gy hs
 obtain⟨y0,y1,y2,y3⟩:=X0.cs
 have HT:Hid (TAt w t p (-1)):=hT
 have HC:Hid (CAt W0 (w.heap.size+1) t (.slice none 0 0)):=C0
 have HO:Hid (G.On B w W0):=o0
 clear hV hM hB hL hy hyd gy hs K0 C0 X0 o0 hT
 rcases cd with⟨M',rt,tr,f⟩|⟨er,f⟩
 ·go_enter Tryz.func31,Tryz.ntmps31
  go_wp2
  rw[← hW0]
  clear hW0
  refine wp_loop_rounds 1 ?_
  rw[rounds_succ]
  go_wp2_with (go_at_call 57;(with_reducible refine f.mono ?_);rintro e w3 ⟨rfl,V3,o3⟩;obtain⟨c0,c1⟩:=(HC.out.on o3).cs;have T3:=HT.out.on (HO.out.trans o3);have o4:=HO.out.trans o3;obtain⟨t0,t1⟩:=T3.cs;have tf:=frozen_of_row w3 t 1 _ _ T3.out)
  refine wp_loop_rounds 1 ?_
  rw[rounds_succ]
  go_wp2
  refine wp_loop_rounds 1 ?_
  rw[rounds_succ]
  have T6:TAt (w3.setCell ⟨t,1,none⟩ (.int .i64 rt)) t p rt:=⟨by rw[heap_setCell_same _ t 1 _ _ _ T3.out];rfl⟩
  have o6:Tx B t w (w3.setCell ⟨t,1,none⟩ (.int .i64 rt)):=⟨o4.below.setCell hBt _,fun b cs ty fr hb hc hne=>by rw[heap_setCell_other w3 ⟨t,1,none⟩ b _ hne];exact o4.rows b cs ty fr hb hc⟩
  have V6:Pv B (w3.setCell ⟨t,1,none⟩ (.int .i64 rt)) p m M':=V3.ap (Ap.other T3.out (by decide) (fun k o hk hne=>by rw[heap_setCell_other w3 ⟨t,1,none⟩ k _ hne];exact hk))
  clear V3 o3 T3 o4
  go_wp2
  go_ret
  exact .inl ⟨rfl,_,_,tr,T6,V6,o6⟩
 ·go_enter Tryz.func31,Tryz.ntmps31
  go_wp2
  rw[← hW0]
  clear hW0
  refine wp_loop_rounds 1 ?_
  rw[rounds_succ]
  go_wp2_with (go_at_call 57;(with_reducible refine f.mono ?_);rintro e w3 ⟨rfl,V3,o3⟩;have o4:=HO.out.trans o3)
  go_ret
  exact .inr ⟨rfl,M0,er,HT.out.on o4,V3,Tx.ofOn o4⟩
structure TreeW (M:Pm) (root:Int) (l:List En):Prop where
 out:(root=-1∧l=[])∨∃ d n:Nat,root=(n:Int)∧d≤10∧Wf M d n∧(fm M d n).Pairwise R∧con (fm M d n)=l
theorem TreeW.of {M:Pm} {root:Int} {l:List En} {m:Nat} (h:Tree M root l) (hm:∀ k x,M k=some x→k<m) (hm2:m≤1024):TreeW M root l:=by
 rcases h with⟨a,b,_⟩|⟨d,n,a,b,c⟩
 ·exact⟨.inl ⟨a,b⟩⟩
 ·exact⟨.inr ⟨d,n,a,tr_deep b hm hm2,b.wf,b.ord,c⟩⟩
theorem TreeW.ext {M M':Pm} {root:Int} {l:List En} (h:TreeW M root l) (e:Ext M M'):TreeW M' root l:=by
 rcases h.out with h1 | ⟨d,n,a,b,c,o,k⟩
 ·exact⟨.inl h1⟩
 ·obtain⟨e1,e2,e3⟩:=ext_wf e c
  exact⟨.inr ⟨d,n,a,b,e3,by rw[e2];exact o,by rw[e2];exact k⟩⟩
theorem pf_of {M:Pm} {d n:Nat} (hw:Wf M d n) (ho:(fm M d n).Pairwise R) (key:ByteArray):Pf M key d (stpAt M key n) [] []:=by
 obtain⟨y,hy,a,b,c⟩:=hw
 have es:stpAt M key n=⟨n,y,plc y key⟩:=by unfold stpAt;rw[nodeAt_some hy]
 rw[fm_some hy]at ho
 rw[es]
 exact⟨hy,a,b,c,rfl,(fun a ha=>by cases ha),(fun a ha=>by cases ha),by simpa using ho⟩
theorem wy_of {M:Pm} {d n:Nat} {key:ByteArray} (hp:Pf M key d (stpAt M key n) [] []) (hd:d≤900):Wy M key (path M key d n):=by
 have hl:=path_length M key d n
 refine⟨fun k s hs=>?_,fun k s s' hs hs'=>?_,by omega⟩
 ·obtain⟨h1,h2⟩:=path_pf d n [] [] hp k s hs
  refine⟨h2.mem,h2.wf.good,h2.up,h2.kid,?_⟩
  rw[h2.wf.leaf,hl]
  congr 1
  simp only[eq_iff_iff]
  omega
 ·obtain⟨h1,h2⟩:=path_pf d n [] [] hp k s hs
  obtain⟨c,hc,e⟩:=path_next d n [] [] hp k s s' hs hs'
  obtain⟨q,hq,_⟩:=h2.wf.good.ik c (List.mem_of_getElem? hc)
  rw[hc,e,hq];simp
def had (key:ByteArray) (l:List En):Vl:=(got key l).getD ⟨⟨#[]⟩,-1,0⟩
end Go.Proofs.YtncfpjccfmolgaaGreatDoor.T