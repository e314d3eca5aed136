/- Joined: TM TN TOa TOb TOc. What is proved of the functions beneath BtreeEnds,BtreeFull,BtreeShape,BtreePlays. Conditions: those that each row names. -/
import Derived.Test.YtncfpjccfmolgaaGreatDoorZbg
namespace Go.Proofs.YtncfpjccfmolgaaGreatDoor.T
open Go.ChangeShapes Go.WideShapes Go.ChangeAt Go.RowKit
open B (Pm pt drp Stp plc Ext Pn Prt WfN us jn)
open N (Nd NV NZ Rw Rx Own Kept kcl vcl icl Vl C4 Up blk)
theorem sbh1 {α:Type} (l:List α) (i:Nat) (a:α):l.toArray.setIfInBounds i a=(l.set i a).toArray:=by simp
theorem sbh2 {α:Type} (x:α) (l:List α) (a:α):(x :: l).set 0 a=a :: l:=rfl
theorem sbh3 {α:Type} (x:α) (l:List α) (i:Nat) (a:α):(x :: l).set (i+1) a=x :: l.set i a:=rfl
theorem nv_key {w:World} {l:Bool} {kb ko nk kc:Nat} {vp:Option Addr} {nv vc:Nat} {ip:Option Addr} {ni ic:Nat} {x:Nd} (h:NV w l (some ⟨kb,ko,none⟩) nk kc vp nv vc ip ni ic x) {j:Nat} {q:ByteArray} (hq:x.ks[j]? = some q):w.cell? ⟨kb,ko+j,none⟩=some (.string q):=by
 rcases h.k.out with⟨h0,_⟩|⟨b,off,e,f⟩
 ·cases h0
 ·injection e with e
  injection e with e1 e2
  subst e1;subst e2
  exact f j _ (by simp[kcl,hq])
theorem own_other {w:World} {B:Nat} {e:TypeId} {sz:Nat} {p:Option Addr} {n cap:Nat} {cs:List Value} (h:Own w B e sz p n cap cs) {b i:Nat} {v:Value} {cc:Array Value} {t:TypeId} {fr:Nat×Nat} (hb:w.heap[b]? = some (.cells cc t fr)) (ht:t≠e):Own (w.setCell ⟨b,i,none⟩ v) B e sz p n cap cs:=by
 refine⟨h.out.1,?_⟩
 rcases h.out.2 with h1 | ⟨g,cp,cur,e1,e2,e3,e4⟩
 ·exact .inl h1
 ·refine .inr ⟨g,cp,cur,e1,e2,?_,e4⟩
  rw[heap_setCell_other w ⟨b,i,none⟩ g v (fun e=>?_)]
  ·exact e3
  ·subst e;rw[e3]at hb;injection hb with hb;injection hb with _ hb _;exact ht hb.symm
theorem own_blk2 {jp:Option Addr} {n c b:Nat} (h:(Value.slice jp n c).ownBlock=some b):blk jp=some b:=by
 cases jp with
 | none=>cases h
 | some a=>exact h
theorem cat_grown {w w':World} {c t K nj jc:Nat} {v:Value} {jp:Option Addr} {cs:List Value} (hC:CAt w c t v) (hJ:Own w K 3 1 jp nj jc cs) (hg:w.grownBy w' (Value.slice jp nj jc).ownBlock):CAt w' c t v:=by
 refine⟨(hg.block c (Array.getElem?_eq_some_iff.1 hC.out).1 (fun e=>?_)).trans hC.out⟩
 obtain⟨_,cs',fr',hb⟩:=own_blk hJ c e.symm
 rw[hC.out]at hb
 injection hb with hb
 injection hb with _ hb _
 exact absurd hb (by decide)
theorem own_same {w w':World} {B:Nat} {e:TypeId} {sz:Nat} {p:Option Addr} {n cap:Nat} {cs:List Value} (h:Own w B e sz p n cap cs) {b:Nat} {cc:Array Value} {t:TypeId} {fr:Nat×Nat} (hb:w.heap[b]? = some (.cells cc t fr)) (ht:t≠e) (ho:∀ k,k≠b→w'.heap[k]? = w.heap[k]?):Own w' B e sz p n cap cs:=by
 refine⟨h.out.1,?_⟩
 rcases h.out.2 with h1 | ⟨g,cp,cur,e1,e2,e3,e4⟩
 ·exact .inl h1
 ·refine .inr ⟨g,cp,cur,e1,e2,?_,e4⟩
  rw[ho g (fun e=>?_)]
  ·exact e3
  ·subst e;rw[e3]at hb;injection hb with hb;injection hb with _ hb _;exact ht hb.symm
theorem cat_same {w w':World} {c t:Nat} {v:Value} (h:CAt w c t v) {b:Nat} {cc:Array Value} {ty:TypeId} {fr:Nat×Nat} (hb:w.heap[b]? = some (.cells cc ty fr)) (ht:ty≠119) (ho:∀ k,k≠b→w'.heap[k]? = w.heap[k]?):CAt w' c t v:=by
 refine⟨(ho c (fun e=>?_)).trans h.out⟩
 subst e;rw[h.out]at hb;injection hb with hb;injection hb with _ hb _;exact ht hb.symm
theorem three_new (w:World) (a b o:Obj):(((w.alloc a).alloc b).alloc o).heap[w.heap.size+1+1]? = some o:=by
 rw[show w.heap.size+1+1=((w.alloc a).alloc b).heap.size by rw[N.size_alloc,N.size_alloc]]
 exact heap_alloc_new _ _
set_option linter.unusedSimpArgs false in
set_option maxRecDepth 100000 in
set_option maxHeartbeats 4000000 in
theorem join_first {B:Nat} {w:World} {c t p m K nj jc:Nat} {jp:Option Addr} {J:List Int} {root page:Int} {M:Pm} (hC:CAt w c t (.slice jp nj jc)) (hJ:Own w K 3 1 jp nj jc (icl J)) (hnj:nj≤1000) (hK:K≤w.heap.size) (hT:TAt w t p root) (hV:Pv B w p m M)
  {sl l:Bool} {skb sko snk skc:Nat} {svp:Option Addr} {snv svc sib sio sni sic:Nat} {x:Nd} (hs:NV w sl (some ⟨skb,sko,none⟩) snk skc svp snv svc (some ⟨sib,sio,none⟩) sni sic x) (has:Apt c (blk jp) (some ⟨sib,sio,none⟩))
  {nkp:Option Addr} {nnk nkc:Nat} {nvp:Option Addr} {nnv nvc:Nat} {nip:Option Addr} {nni nic:Nat} {y:Nd} (hy:NV w l nkp nnk nkc nvp nnv nvc nip nni nic y) (hay:Apt c (blk jp) nip) (gy:N.Good y)
  {fr pg:Nat} {key:ByteArray} {beside:Nd} {q0:Int} (h0:x.is[fr]? = some q0) (hpg:x.is[fr+1]? = some (pg:Int)) (hkey:x.ks[fr]? = some key) (hfr:fr≤1000) (hM:M pg=some beside) (gb:N.Good beside) (ub:Up beside.ks) (hl:beside.leaf=l) :
  Calls Tryz.prog 86 #[.pointer (some ⟨c,0,none⟩),.agg #[.int .i64 page,.bool sl,.slice (some ⟨skb,sko,none⟩) snk skc,.slice svp snv svc,.slice (some ⟨sib,sio,none⟩) sni sic,.int .i64 (fr:Nat)],.int .i64 (fr:Nat),.agg #[.bool l,.slice nkp nnk nkc,.slice nvp nnv nvc,.slice nip nni nic]] w fun e w'=>∃ kp nk kc vp nv vc ip ni ic jp' jc',e=.returned (.tuple #[.agg #[.bool l,.slice kp nk kc,.slice vp nv vc,.slice ip ni ic],.int .i64 0])∧NV w' l kp nk kc vp nv vc ip ni ic (jn y key beside)∧CAt w' c t (.slice jp' (nj+1) jc')∧Own w' K 3 1 jp' (nj+1) jc' (icl (J++[(pg:Int)]))∧Jx c (blk jp) w w':=by
 obtain⟨i3,hi3,hz30,hz31,hz32⟩:=info_parts N.info3
 have K0:Kept w (((w.alloc (.cells #[.int .i64 page,.bool sl,.slice (some ⟨skb,sko,none⟩) snk skc,.slice svp snv svc,.slice (some ⟨sib,sio,none⟩) sni sic,.int .i64 (fr:Nat)] 113)).alloc (.cells #[.bool l,.slice nkp nnk nkc,.slice nvp nnv nvc,.slice nip nni nic] 52)).alloc (.cells #[.bool false,.slice none 0 0,.slice none 0 0,.slice none 0 0] 52)):=(((Kept.refl w).alloc _).alloc _).alloc _
 have S5:(((w.alloc (.cells #[.int .i64 page,.bool sl,.slice (some ⟨skb,sko,none⟩) snk skc,.slice svp snv svc,.slice (some ⟨sib,sio,none⟩) sni sic,.int .i64 (fr:Nat)] 113)).alloc (.cells #[.bool l,.slice nkp nnk nkc,.slice nvp nnv nvc,.slice nip nni nic] 52)).alloc (.cells #[.bool false,.slice none 0 0,.slice none 0 0,.slice none 0 0] 52)).heap[w.heap.size]? = some (.cells #[.int .i64 page,.bool sl,.slice (some ⟨skb,sko,none⟩) snk skc,.slice svp snv svc,.slice (some ⟨sib,sio,none⟩) sni sic,.int .i64 (fr:Nat)] 113):=((((Kept.refl _).alloc _).alloc _)).block (heap_alloc_new w _)
 have S7:(((w.alloc (.cells #[.int .i64 page,.bool sl,.slice (some ⟨skb,sko,none⟩) snk skc,.slice svp snv svc,.slice (some ⟨sib,sio,none⟩) sni sic,.int .i64 (fr:Nat)] 113)).alloc (.cells #[.bool l,.slice nkp nnk nkc,.slice nvp nnv nvc,.slice nip nni nic] 52)).alloc (.cells #[.bool false,.slice none 0 0,.slice none 0 0,.slice none 0 0] 52)).heap[w.heap.size+1]? = some (.cells #[.bool l,.slice nkp nnk nkc,.slice nvp nnv nvc,.slice nip nni nic] 52):=((Kept.refl _).alloc _).block (D.two_new w _ _)
 have S8:(((w.alloc (.cells #[.int .i64 page,.bool sl,.slice (some ⟨skb,sko,none⟩) snk skc,.slice svp snv svc,.slice (some ⟨sib,sio,none⟩) sni sic,.int .i64 (fr:Nat)] 113)).alloc (.cells #[.bool l,.slice nkp nnk nkc,.slice nvp nnv nvc,.slice nip nni nic] 52)).alloc (.cells #[.bool false,.slice none 0 0,.slice none 0 0,.slice none 0 0] 52)).heap[w.heap.size+1+1]? = some (.cells #[.bool false,.slice none 0 0,.slice none 0 0,.slice none 0 0] 52):=three_new w _ _ _
 have hni:=hs.ni
 have hnk:=hs.nk
 have p1:=(List.getElem?_eq_some_iff.1 hpg).1
 have p2:=(List.getElem?_eq_some_iff.1 hkey).1
 have b1:(fr:Int)<(sni:Int):=by omega
 have b2:(fr:Int)<(snk:Int):=by omega
 have b3:(fr:Int)+1<(sni:Int):=by omega
 have b4:IntKind.i64.wrap ((fr:Int)+1)=(fr:Int)+1:=by rw[IntKind.wrap_i64];omega
 have b5:((fr:Int)+1).toNat=fr+1:=by omega
 have b6:(0:Int)≤(fr:Int)+1:=by omega
 have k0:=nv_kid (hs.kept K0) h0
 have k1:=nv_kid (hs.kept K0) hpg
 have ht:=jt_of hC hJ
 have HN:=node_walk (hT.kept K0) (hV.kept K0) hM gb ub l hl
 obtain⟨c0,c1⟩:=(hC.kept K0).cs
 obtain⟨s0,s1,s2,s3,s4,s5⟩:=cells6 S5
 obtain⟨y0,y1,y2,y3⟩:=(C4.mk S7).cs
 have HC:Hid (CAt w c t (.slice jp nj jc)):=hC
 have HJ:Hid (Own w K 3 1 jp nj jc (icl J)):=hJ
 have HS:Hid (NV w sl (some ⟨skb,sko,none⟩) snk skc svp snv svc (some ⟨sib,sio,none⟩) sni sic x):=hs
 have HAS:Hid (Apt c (blk jp) (some ⟨sib,sio,none⟩)):=has
 have HY:Hid (NV w l nkp nnk nkc nvp nnv nvc nip nni nic y):=hy
 have HAY:Hid (Apt c (blk jp) nip):=hay
 have HG:Hid (N.Good y∧N.Good beside):=⟨gy,gb⟩
 have HKy:Hid (x.ks[fr]? = some key):=hkey
 have HTt:Hid (Jt w c (blk jp)):=ht
 have HK:Hid (K≤w.heap.size):=hK
 clear hC hJ hs has hy hay gy gb ub hl hM hkey hpg hT hV ht hni hnk p1 p2 hK h0
 go_enter Tryz.func86,Tryz.ntmps86
 go_wp2_with (first
  | (go_at_call 21;(with_reducible refine HN.mono ?_);rintro e w1 ⟨bkp,bnk,bkc,bvp,bnv,bvc,bip,bni,bic,rfl,N1,k1,nwb⟩;have k2:Kept w1 (w1.alloc (.cells #[.bool l,.slice bkp bnk bkc,.slice bvp bnv bvc,.slice bip bni bic] 52)):=(Kept.refl w1).alloc _;have K2:=(K0.trans k1).trans k2;obtain⟨c0,c1⟩:=(HC.out.kept K2).cs;obtain⟨z0,z1,z2,z3⟩:=(C4.alloc w1 52 (.bool l) (.slice bkp bnk bkc) (.slice bvp bnv bvc) (.slice bip bni bic)).cs;obtain⟨y0,y1,y2,y3⟩:=(C4.mk (k2.block (k1.block S7))).cs;have ka:Kept (w1.alloc (.cells #[.bool l,.slice bkp bnk bkc,.slice bvp bnv bvc,.slice bip bni bic] 52)) ((w1.alloc (.cells #[.bool l,.slice bkp bnk bkc,.slice bvp bnv bvc,.slice bip bni bic] 52)).alloc (.cells #[.int .i64 (pg:Nat)] 3)):=(Kept.refl _).alloc _;have OA:=HJ.out.kept (K2.trans ka);have CA:=HC.out.kept (K2.trans ka);have hBE:=Nat.le_trans HK.out (K2.trans ka).size;have h1one:=one_cell (w1.alloc (.cells #[.bool l,.slice bkp bnk bkc,.slice bvp bnv bvc,.slice bip bni bic] 52)) (.int .i64 (pg:Nat)) 3;rw[N.size_alloc]at h1one;clear HN)
  | (at_builtin;refine wpList_append_own _ rfl _ _ 50 rfl K 3 i3 _ 1 8 Tryz.underlying50 hi3 hz30 hz31 hz32 rfl (by decide) (.slice jp nj jc) nj (icl J) rfl OA.out ⟨w1.heap.size+1,0,none⟩ 1 1 [.int .i64 (pg:Nat)] rfl rfl h1one (by intro u hu;simp at hu;subst hu;rfl) (by unfold maxLen;omega) (by omega) hBE ?_;intro v' w5 o5 g5 _;obtain⟨jp',jc',rfl⟩:=owns_shape o5;have J5:Jx c (blk jp) ((w1.alloc (.cells #[.bool l,.slice bkp bnk bkc,.slice bvp bnv bvc,.slice bip bni bic] 52)).alloc (.cells #[.int .i64 (pg:Nat)] 3)) w5:=(Jx.ofKept (Kept.refl _)).grown g5 (fun k e=>.inl (own_blk2 e));have C5:=cat_grown CA OA g5;obtain⟨d0,d1⟩:=C5.cs;have df:=frozen_of_row w5 c 1 _ _ C5.out;have O5:Hid (Own w5 K 3 1 jp' (nj+1) jc' (icl J++[.int .i64 (pg:Nat)])):=⟨o5⟩;clear o5 g5))
 have KA:=K2.trans ka
 have JtA:=jt_of CA OA
 have J6:=J5.set ⟨c,1,none⟩ (.slice jp' (nj+1) jc') (.inl rfl)
 have C6:CAt (w5.setCell ⟨c,1,none⟩ (.slice jp' (nj+1) jc')) c t (.slice jp' (nj+1) jc'):=⟨by rw[heap_setCell_same _ c 1 _ _ _ C5.out];rfl⟩
 have O6:Own (w5.setCell ⟨c,1,none⟩ (.slice jp' (nj+1) jc')) K 3 1 jp' (nj+1) jc' (icl (J++[(pg:Int)])):=by
  have:=own_other (i:=1) (v:=.slice jp' (nj+1) jc') O5.out C5.out (by decide)
  simpa[icl] using this
 generalize w5.setCell ⟨c,1,none⟩ (.slice jp' (nj+1) jc')=W6 at J6 C6 O6 ⊢
 have apB:Apt c (blk jp) bip:=by
  intro b off ph e
  have h1:=nwb b off ph e
  rw[N.size_alloc,N.size_alloc,N.size_alloc]at h1
  have h2:=(Array.getElem?_eq_some_iff.1 HC.out.out).1
  refine⟨by omega,fun e2=>?_⟩
  obtain⟨cs',fr',e3⟩:=HTt.out.j b e2
  have h3:=(Array.getElem?_eq_some_iff.1 e3).1
  omega
 have NY6:=J6.nv JtA (HY.out.kept KA) HAY.out
 have NB6:=J6.nv JtA (N1.kept (k2.trans ka)) apB
 have KY6:=nv_key (J6.nv JtA (HS.out.kept KA) HAS.out) HKy.out
 have S56:=J6.cells JtA (ka.block (k2.block (k1.block S5))) (by decide) (by decide)
 have S76:=J6.cells JtA (ka.block (k2.block (k1.block S7))) (by decide) (by decide)
 have S86:=J6.cells JtA (ka.block (k2.block (k1.block S8))) (by decide) (by decide)
 have S126:=J6.cells JtA (ka.block (heap_alloc_new w1 (.cells #[.bool l,.slice bkp bnk bkc,.slice bvp bnv bvc,.slice bip bni bic] 52))) (by decide) (by decide)
 have hsk:skb<w.heap.size:=by obtain⟨cs',fr',e⟩:=HS.out.kx.typ skb sko none rfl;exact (Array.getElem?_eq_some_iff.1 e).1
 have hw1:w.heap.size+3≤w1.heap.size:=by have:=k1.size;rw[N.size_alloc,N.size_alloc,N.size_alloc]at this;omega
 have JW:Hid (Jx c (blk jp) w W6):=(Jx.ofKept KA).trans J6
 obtain⟨s0,s1,s2,s3,s4,s5⟩:=cells6 S56
 obtain⟨y0,y1,y2,y3⟩:=(C4.mk S76).cs
 obtain⟨z0,z1,z2,z3⟩:=(C4.mk S126).cs
 have HJn:Hid (∀ W,Kept W6 W→Calls Tryz.prog 120 #[.agg #[.bool l,.slice nkp nnk nkc,.slice nvp nnv nvc,.slice nip nni nic],.string key,.agg #[.bool l,.slice bkp bnk bkc,.slice bvp bnv bvc,.slice bip bni bic]] W fun e w'=>∃ kp nk kc vp nv vc ip ni ic,e=.returned (.agg #[.bool l,.slice kp nk kc,.slice vp nv vc,.slice ip ni ic])∧NV w' l kp nk kc vp nv vc ip ni ic (jn y key beside)∧Kept W w'):=fun W kW=>node_join (NY6.kept kW) (NB6.kept kW) HG.out.1 HG.out.2 key
 have HC6:Hid (CAt W6 c t (.slice jp' (nj+1) jc')):=C6
 have HO6:Hid (Own W6 K 3 1 jp' (nj+1) jc' (icl (J++[(pg:Int)]))):=O6
 have H56:Hid (W6.heap[w.heap.size]? = some (.cells #[.int .i64 page,.bool sl,.slice (some ⟨skb,sko,none⟩) snk skc,.slice svp snv svc,.slice (some ⟨sib,sio,none⟩) sni sic,.int .i64 (fr:Nat)] 113)):=S56
 have H76:Hid (W6.heap[w.heap.size+1]? = some (.cells #[.bool l,.slice nkp nnk nkc,.slice nvp nnv nvc,.slice nip nni nic] 52)):=S76
 have H86:Hid (W6.heap[w.heap.size+1+1]? = some (.cells #[.bool false,.slice none 0 0,.slice none 0 0,.slice none 0 0] 52)):=S86
 have H126:Hid (W6.heap[w1.heap.size]? = some (.cells #[.bool l,.slice bkp bnk bkc,.slice bvp bnv bvc,.slice bip bni bic] 52)):=S126
 have HSA:Hid (∀ W,Kept W6 W→W.cell? ⟨w.heap.size,2,none⟩=some (.slice (some ⟨skb,sko,none⟩) snk skc)∧W.cell? ⟨w.heap.size+1,0,none⟩=some (.bool l)∧W.cell? ⟨w.heap.size+1,1,none⟩=some (.slice nkp nnk nkc)∧W.cell? ⟨w.heap.size+1,2,none⟩=some (.slice nvp nnv nvc)∧W.cell? ⟨w.heap.size+1,3,none⟩=some (.slice nip nni nic)∧W.cell? ⟨skb,sko+fr,none⟩=some (.string key)∧W.cell? ⟨w1.heap.size,0,none⟩=some (.bool l)∧W.cell? ⟨w1.heap.size,1,none⟩=some (.slice bkp bnk bkc)∧W.cell? ⟨w1.heap.size,2,none⟩=some (.slice bvp bnv bvc)∧W.cell? ⟨w1.heap.size,3,none⟩=some (.slice bip bni bic)):=fun W kW=>by
  obtain⟨s0,s1,s2,s3,s4,s5⟩:=cells6 (kW.block H56.out)
  obtain⟨y0,y1,y2,y3⟩:=(C4.mk (kW.block H76.out)).cs
  obtain⟨z0,z1,z2,z3⟩:=(C4.mk (kW.block H126.out)).cs
  exact⟨s2,y0,y1,y2,y3,kW.cell KY6,z0,z1,z2,z3⟩
 clear s0 s1 s2 s3 s4 s5 y0 y1 y2 y3 z0 z1 z2 z3
 clear J5 J6 JtA C5 C6 O5 O6 OA CA d0 d1 df N1 k1 k2 ka K2 KA nwb apB NY6 NB6 S5 S7 S8 S56 S76 S86 S126 K0 HC HJ HS HAS HY HAY HG HKy HTt HK h1one hBE
 refine wp_region_held_drew (S:=(fun W=>W.cell? ⟨w.heap.size,2,none⟩=some (.slice (some ⟨skb,sko,none⟩) snk skc)∧W.cell? ⟨w.heap.size+1,0,none⟩=some (.bool l)∧W.cell? ⟨w.heap.size+1,1,none⟩=some (.slice nkp nnk nkc)∧W.cell? ⟨w.heap.size+1,2,none⟩=some (.slice nvp nnv nvc)∧W.cell? ⟨w.heap.size+1,3,none⟩=some (.slice nip nni nic)∧W.cell? ⟨skb,sko+fr,none⟩=some (.string key)∧W.cell? ⟨w1.heap.size,0,none⟩=some (.bool l)∧W.cell? ⟨w1.heap.size,1,none⟩=some (.slice bkp bnk bkc)∧W.cell? ⟨w1.heap.size,2,none⟩=some (.slice bvp bnv bvc)∧W.cell? ⟨w1.heap.size,3,none⟩=some (.slice bip bni bic))) (by kernel_rfl) ?_ (fun hHeld=>?_)
 ·exact HSA.out _ (by first | exact (Kept.refl _).drew | exact Kept.refl _)
 refine wpAnyH_take (i:=0) (oi:={ dst:=some 62,op:=Go.Op.load 52 (Go.Operand.tmp 7),type:=52,pos:= "btree.go:226",after:=#[],guard:=none }) (v:=?_) rfl (by kernel_rfl) (by kernel_rfl) (by kernel_rfl) (fun _ _ _ h=>h) (Or.inl ⟨by rfl,?_⟩) (by assumption) ?_
 rotate_left
 ·intro w hSw
  (try dsimp only at hSw)
  go_simp
  all_goals with_reducible rfl
 try simp only[Act.put,sbh1,sbh2,sbh3]
 refine wpAnyH_take (i:=1) (oi:={ dst:=some 63,op:=Go.Op.fieldAddr 113 (Go.Operand.tmp 5) 1,type:=0,pos:= "btree.go:226",after:=#[],guard:=none }) (v:=?_) rfl (by kernel_rfl) (by kernel_rfl) (by kernel_rfl) (fun _ _ _ h=>h) (Or.inl ⟨by rfl,?_⟩) (by assumption) ?_
 rotate_left
 ·intro w hSw
  (try dsimp only at hSw)
  go_simp
  all_goals with_reducible rfl
 try simp only[Act.put,sbh1,sbh2,sbh3]
 refine wpAnyH_take (i:=2) (oi:={ dst:=some 64,op:=Go.Op.fieldAddr 52 (Go.Operand.tmp 63) 1,type:=0,pos:= "btree.go:226",after:=#[{ on:=1,ground:=Go.Ground.data }],guard:=none }) (v:=?_) rfl (by kernel_rfl) (by kernel_rfl) (by kernel_rfl) (fun _ _ _ h=>h) (Or.inl ⟨by rfl,?_⟩) (by assumption) ?_
 rotate_left
 ·intro w hSw
  (try dsimp only at hSw)
  go_simp
  all_goals with_reducible rfl
 try simp only[Act.put,sbh1,sbh2,sbh3]
 refine wpAnyH_take (i:=3) (oi:={ dst:=some 65,op:=Go.Op.load 47 (Go.Operand.tmp 64),type:=47,pos:= "btree.go:226",after:=#[{ on:=2,ground:=Go.Ground.data }],guard:=none }) (v:=?_) rfl (by kernel_rfl) (by kernel_rfl) (by kernel_rfl) (fun _ _ _ h=>h) (Or.inl ⟨by rfl,?_⟩) (by assumption) ?_
 rotate_left
 ·intro w hSw
  (try dsimp only at hSw)
  go_simp
  all_goals with_reducible rfl
 try simp only[Act.put,sbh1,sbh2,sbh3]
 refine wpAnyH_take (i:=4) (oi:={ dst:=some 66,op:=Go.Op.move (Go.Operand.tmp 2),type:=3,pos:= "btree.go:226",after:=#[],guard:=none }) (v:=?_) rfl (by kernel_rfl) (by kernel_rfl) (by kernel_rfl) (fun _ _ _ h=>h) (Or.inl ⟨by rfl,?_⟩) (by assumption) ?_
 rotate_left
 ·intro w hSw
  (try dsimp only at hSw)
  go_simp
  all_goals with_reducible rfl
 try simp only[Act.put,sbh1,sbh2,sbh3]
 refine wpAnyH_take (i:=5) (oi:={ dst:=some 67,op:=Go.Op.indexAddr 47 (Go.Operand.tmp 65) (Go.Operand.tmp 66),type:=0,pos:= "btree.go:226",after:=#[{ on:=3,ground:=Go.Ground.data },{ on:=4,ground:=Go.Ground.data }],guard:=none }) (v:=?_) rfl (by kernel_rfl) (by kernel_rfl) (by kernel_rfl) (fun _ _ _ h=>h) (Or.inl ⟨by rfl,?_⟩) (by assumption) ?_
 rotate_left
 ·intro w hSw
  (try dsimp only at hSw)
  go_simp
  all_goals with_reducible rfl
 try simp only[Act.put,sbh1,sbh2,sbh3]
 refine wpAnyH_take (i:=6) (oi:={ dst:=some 68,op:=Go.Op.load 9 (Go.Operand.tmp 67),type:=9,pos:= "btree.go:226",after:=#[{ on:=5,ground:=Go.Ground.data }],guard:=none }) (v:=?_) rfl (by kernel_rfl) (by kernel_rfl) (by kernel_rfl) (fun _ _ _ h=>h) (Or.inl ⟨by rfl,?_⟩) (by assumption) ?_
 rotate_left
 ·intro w hSw
  (try dsimp only at hSw)
  go_simp
  all_goals with_reducible rfl
 try simp only[Act.put,sbh1,sbh2,sbh3]
 refine wpAnyH_take (i:=7) (oi:={ dst:=some 69,op:=Go.Op.load 52 (Go.Operand.tmp 12),type:=52,pos:= "btree.go:226",after:=#[],guard:=none }) (v:=?_) rfl (by kernel_rfl) (by kernel_rfl) (by kernel_rfl) (fun _ _ _ h=>h) (Or.inl ⟨by rfl,?_⟩) (by assumption) ?_
 rotate_left
 ·intro w hSw
  (try dsimp only at hSw)
  go_simp
  all_goals with_reducible rfl
 try simp only[Act.put,sbh1,sbh2,sbh3]
 refine wpAnyH_ready (rs:=[8]) (by kernel_rfl) (by simp) ?_
 refine AllReadyH.cons (o:={ dst:=some 70,op:=Go.Op.call { callee:=Go.Callee.value (Go.Operand.func 120),args:=#[Go.Operand.tmp 62,Go.Operand.tmp 68,Go.Operand.tmp 69],argTypes:=#[52,9,52] },type:=52,pos:= "btree.go:226",after:=#[{ on:=0,ground:=Go.Ground.data },{ on:=6,ground:=Go.Ground.data },{ on:=7,ground:=Go.Ground.data }],guard:=none }) rfl (fun KK hKK=>?_) ?_
 ·
  go_simp
  go_at_call 120
  (with_reducible refine (HJn.out _ (by first | exact (Kept.refl _).drew | exact Kept.refl _)).mono ?_)
  rintro e w8 ⟨kp,nk,kc,vp,nv,vc,ip,ni,ic,rfl,N8,k8⟩
  have k68:Kept W6 w8:=Kept.trans (by first | exact (Kept.refl _).drew | exact Kept.refl _) k8
  have R8:C4 w8 (w.heap.size+1+1) 52 (.bool false) (.slice none 0 0) (.slice none 0 0) (.slice none 0 0):=C4.mk (k68.block H86.out)
  obtain⟨⟨g0,f0⟩,⟨g1,f1⟩,⟨g2,f2⟩,⟨g3,f3⟩,hfin⟩:=N.ready4 R8.out (.bool l) (.slice kp nk kc) (.slice vp nv vc) (.slice ip ni ic)
  go_wp2_with fail
  refine hKK.out _ _ ?_ (fun hHeld=>?_)
  ·(try dsimp only)
   exact HSA.out _ k68
  clear hKK KK
  try simp only[Act.put,sbh1,sbh2,sbh3]
  refine wpAnyH_ready (rs:=[9]) (by kernel_rfl) (by simp) ?_
  refine AllReadyH.cons (o:={ dst:=none,op:=Go.Op.store 52 (Go.Operand.tmp 8) (Go.Operand.tmp 70),type:=0,pos:= "btree.go:226",after:=#[{ on:=8,ground:=Go.Ground.data },{ on:=8,ground:=Go.Ground.chain },{ on:=0,ground:=Go.Ground.phase },{ on:=1,ground:=Go.Ground.phase },{ on:=2,ground:=Go.Ground.phase },{ on:=3,ground:=Go.Ground.phase },{ on:=4,ground:=Go.Ground.phase },{ on:=5,ground:=Go.Ground.phase },{ on:=6,ground:=Go.Ground.phase },{ on:=7,ground:=Go.Ground.phase },{ on:=8,ground:=Go.Ground.phase }],guard:=none }) rfl (fun KK hKK=>?_) ?_
  ·
   go_simp
   refine hKK.out _ _ ?_ (fun hHeld=>?_)
   ·(try dsimp only)
    obtain⟨u0,u1,u2,u3,u4,u5,u6,u7,u8,u9⟩:=HSA.out _ k68
    rw[← N.cell_st4 w8 (b:=w.heap.size+1+1) (b2:=w.heap.size) (by omega) 2 (.bool l) (.slice kp nk kc) (.slice vp nv vc) (.slice ip ni ic)]at u0
    rw[← N.cell_st4 w8 (b:=w.heap.size+1+1) (b2:=w.heap.size+1) (by omega) 0 (.bool l) (.slice kp nk kc) (.slice vp nv vc) (.slice ip ni ic)]at u1
    rw[← N.cell_st4 w8 (b:=w.heap.size+1+1) (b2:=w.heap.size+1) (by omega) 1 (.bool l) (.slice kp nk kc) (.slice vp nv vc) (.slice ip ni ic)]at u2
    rw[← N.cell_st4 w8 (b:=w.heap.size+1+1) (b2:=w.heap.size+1) (by omega) 2 (.bool l) (.slice kp nk kc) (.slice vp nv vc) (.slice ip ni ic)]at u3
    rw[← N.cell_st4 w8 (b:=w.heap.size+1+1) (b2:=w.heap.size+1) (by omega) 3 (.bool l) (.slice kp nk kc) (.slice vp nv vc) (.slice ip ni ic)]at u4
    rw[← N.cell_st4 w8 (b:=w.heap.size+1+1) (b2:=skb) (by omega) (sko+fr) (.bool l) (.slice kp nk kc) (.slice vp nv vc) (.slice ip ni ic)]at u5
    rw[← N.cell_st4 w8 (b:=w.heap.size+1+1) (b2:=w1.heap.size) (by omega) 0 (.bool l) (.slice kp nk kc) (.slice vp nv vc) (.slice ip ni ic)]at u6
    rw[← N.cell_st4 w8 (b:=w.heap.size+1+1) (b2:=w1.heap.size) (by omega) 1 (.bool l) (.slice kp nk kc) (.slice vp nv vc) (.slice ip ni ic)]at u7
    rw[← N.cell_st4 w8 (b:=w.heap.size+1+1) (b2:=w1.heap.size) (by omega) 2 (.bool l) (.slice kp nk kc) (.slice vp nv vc) (.slice ip ni ic)]at u8
    rw[← N.cell_st4 w8 (b:=w.heap.size+1+1) (b2:=w1.heap.size) (by omega) 3 (.bool l) (.slice kp nk kc) (.slice vp nv vc) (.slice ip ni ic)]at u9
    exact⟨u0,u1,u2,u3,u4,u5,u6,u7,u8,u9⟩
   clear hKK KK
   try simp only[Act.put,sbh1,sbh2,sbh3]
   refine wpAnyH_take (i:=10) (oi:={ dst:=some 9,op:=Go.Op.assign (Go.Operand.const (Go.Value.int Go.IntKind.i64 0)),type:=34,pos:= "btree.go:226",after:=#[{ on:=9,ground:=Go.Ground.chain },{ on:=0,ground:=Go.Ground.phase },{ on:=1,ground:=Go.Ground.phase },{ on:=2,ground:=Go.Ground.phase },{ on:=3,ground:=Go.Ground.phase },{ on:=4,ground:=Go.Ground.phase },{ on:=5,ground:=Go.Ground.phase },{ on:=6,ground:=Go.Ground.phase },{ on:=7,ground:=Go.Ground.phase },{ on:=8,ground:=Go.Ground.phase },{ on:=9,ground:=Go.Ground.phase }],guard:=none }) (v:=?_) rfl (by kernel_rfl) (by kernel_rfl) (by kernel_rfl) (fun _ _ _ h=>h) (Or.inl ⟨by rfl,?_⟩) (by assumption) ?_
   rotate_left
   ·intro w hSw
    (try dsimp only at hSw)
    go_simp
    all_goals with_reducible rfl
   try simp only[Act.put,sbh1,sbh2,sbh3]
   refine wpAnyH_done (by kernel_rfl) ?_ _
   have oth:∀ k,k≠w.heap.size+1+1→((((w8.setCell ⟨w.heap.size+1+1,0,none⟩ (.bool l)).setCell ⟨w.heap.size+1+1,1,none⟩ (.slice kp nk kc)).setCell ⟨w.heap.size+1+1,2,none⟩ (.slice vp nv vc)).setCell ⟨w.heap.size+1+1,3,none⟩ (.slice ip ni ic)).heap[k]? = w8.heap[k]?:=fun k hk=>N.others4 w8 hk _ _ _ _
   have q1:=N8.other R8 oth
   have q2:=cat_same (HC6.out.kept k68) R8.out (by decide) oth
   have q3:=own_same (HO6.out.kept k68) R8.out (by decide) oth
   have q4:Jx c (blk jp) w ((((w8.setCell ⟨w.heap.size+1+1,0,none⟩ (.bool l)).setCell ⟨w.heap.size+1+1,1,none⟩ (.slice kp nk kc)).setCell ⟨w.heap.size+1+1,2,none⟩ (.slice vp nv vc)).setCell ⟨w.heap.size+1+1,3,none⟩ (.slice ip ni ic)):=((((JW.out.kept k68).set ⟨w.heap.size+1+1,0,none⟩ _ (.inr (by show w.heap.size≤w.heap.size+1+1;omega))).set ⟨w.heap.size+1+1,1,none⟩ _ (.inr (by show w.heap.size≤w.heap.size+1+1;omega))).set ⟨w.heap.size+1+1,2,none⟩ _ (.inr (by show w.heap.size≤w.heap.size+1+1;omega))).set ⟨w.heap.size+1+1,3,none⟩ _ (.inr (by show w.heap.size≤w.heap.size+1+1;omega))
   generalize ((((w8.setCell ⟨w.heap.size+1+1,0,none⟩ (.bool l)).setCell ⟨w.heap.size+1+1,1,none⟩ (.slice kp nk kc)).setCell ⟨w.heap.size+1+1,2,none⟩ (.slice vp nv vc)).setCell ⟨w.heap.size+1+1,3,none⟩ (.slice ip ni ic))=WF at *
   go_wp2
   refine bodyPost_ret (v:=.tuple #[.agg #[.bool l,.slice kp nk kc,.slice vp nv vc,.slice ip ni ic],.int .i64 0]) ?_ rfl ⟨_,_,_,_,_,_,_,_,_,_,_,rfl,q1,q2,q3,q4⟩
   exact N.results_two (p:=8) (u:=9) (ty:=52) rfl _ _ (w.heap.size+1+1) 52 #[.bool l,.slice kp nk kc,.slice vp nv vc,.slice ip ni ic] (0,0) _ rfl hfin Tryz.underlying52 rfl N.size52
  exact AllReadyH.nil
 exact AllReadyH.nil
set_option linter.unusedSimpArgs false in
set_option maxRecDepth 100000 in
set_option maxHeartbeats 4000000 in
theorem join_other {B:Nat} {w:World} {c t p m K nj jc:Nat} {jp:Option Addr} {J:List Int} {root page:Int} {M:Pm} (hC:CAt w c t (.slice jp nj jc)) (hJ:Own w K 3 1 jp nj jc (icl J)) (hnj:nj≤1000) (hK:K≤w.heap.size) (hT:TAt w t p root) (hV:Pv B w p m M)
  {sl l:Bool} {skb sko snk skc:Nat} {svp:Option Addr} {snv svc sib sio sni sic:Nat} {x:Nd} (hs:NV w sl (some ⟨skb,sko,none⟩) snk skc svp snv svc (some ⟨sib,sio,none⟩) sni sic x) (has:Apt c (blk jp) (some ⟨sib,sio,none⟩))
  {nkp:Option Addr} {nnk nkc:Nat} {nvp:Option Addr} {nnv nvc:Nat} {nip:Option Addr} {nni nic:Nat} {y:Nd} (hy:NV w l nkp nnk nkc nvp nnv nvc nip nni nic y) (hay:Apt c (blk jp) nip) (gy:N.Good y)
  {fr pg kid:Nat} {key:ByteArray} {beside:Nd} (hpg:x.is[fr]? = some (pg:Int)) (hkey:x.ks[fr]? = some key) (hkid:kid≠fr) (hM:M pg=some beside) (gb:N.Good beside) (ub:Up beside.ks) (hl:beside.leaf=l) :
  Calls Tryz.prog 86 #[.pointer (some ⟨c,0,none⟩),.agg #[.int .i64 page,.bool sl,.slice (some ⟨skb,sko,none⟩) snk skc,.slice svp snv svc,.slice (some ⟨sib,sio,none⟩) sni sic,.int .i64 (kid:Nat)],.int .i64 (fr:Nat),.agg #[.bool l,.slice nkp nnk nkc,.slice nvp nnv nvc,.slice nip nni nic]] w fun e w'=>∃ kp nk kc vp nv vc ip ni ic jp' jc',e=.returned (.tuple #[.agg #[.bool l,.slice kp nk kc,.slice vp nv vc,.slice ip ni ic],.int .i64 0])∧NV w' l kp nk kc vp nv vc ip ni ic (jn beside key y)∧CAt w' c t (.slice jp' (nj+1) jc')∧Own w' K 3 1 jp' (nj+1) jc' (icl (J++[(pg:Int)]))∧Jx c (blk jp) w w':=by
 obtain⟨i3,hi3,hz30,hz31,hz32⟩:=info_parts N.info3
 have K0:Kept w (((w.alloc (.cells #[.int .i64 page,.bool sl,.slice (some ⟨skb,sko,none⟩) snk skc,.slice svp snv svc,.slice (some ⟨sib,sio,none⟩) sni sic,.int .i64 (kid:Nat)] 113)).alloc (.cells #[.bool l,.slice nkp nnk nkc,.slice nvp nnv nvc,.slice nip nni nic] 52)).alloc (.cells #[.bool false,.slice none 0 0,.slice none 0 0,.slice none 0 0] 52)):=(((Kept.refl w).alloc _).alloc _).alloc _
 have S5:(((w.alloc (.cells #[.int .i64 page,.bool sl,.slice (some ⟨skb,sko,none⟩) snk skc,.slice svp snv svc,.slice (some ⟨sib,sio,none⟩) sni sic,.int .i64 (kid:Nat)] 113)).alloc (.cells #[.bool l,.slice nkp nnk nkc,.slice nvp nnv nvc,.slice nip nni nic] 52)).alloc (.cells #[.bool false,.slice none 0 0,.slice none 0 0,.slice none 0 0] 52)).heap[w.heap.size]? = some (.cells #[.int .i64 page,.bool sl,.slice (some ⟨skb,sko,none⟩) snk skc,.slice svp snv svc,.slice (some ⟨sib,sio,none⟩) sni sic,.int .i64 (kid:Nat)] 113):=((((Kept.refl _).alloc _).alloc _)).block (heap_alloc_new w _)
 have S7:(((w.alloc (.cells #[.int .i64 page,.bool sl,.slice (some ⟨skb,sko,none⟩) snk skc,.slice svp snv svc,.slice (some ⟨sib,sio,none⟩) sni sic,.int .i64 (kid:Nat)] 113)).alloc (.cells #[.bool l,.slice nkp nnk nkc,.slice nvp nnv nvc,.slice nip nni nic] 52)).alloc (.cells #[.bool false,.slice none 0 0,.slice none 0 0,.slice none 0 0] 52)).heap[w.heap.size+1]? = some (.cells #[.bool l,.slice nkp nnk nkc,.slice nvp nnv nvc,.slice nip nni nic] 52):=((Kept.refl _).alloc _).block (D.two_new w _ _)
 have S8:(((w.alloc (.cells #[.int .i64 page,.bool sl,.slice (some ⟨skb,sko,none⟩) snk skc,.slice svp snv svc,.slice (some ⟨sib,sio,none⟩) sni sic,.int .i64 (kid:Nat)] 113)).alloc (.cells #[.bool l,.slice nkp nnk nkc,.slice nvp nnv nvc,.slice nip nni nic] 52)).alloc (.cells #[.bool false,.slice none 0 0,.slice none 0 0,.slice none 0 0] 52)).heap[w.heap.size+1+1]? = some (.cells #[.bool false,.slice none 0 0,.slice none 0 0,.slice none 0 0] 52):=three_new w _ _ _
 have hni:=hs.ni
 have hnk:=hs.nk
 have p1:=(List.getElem?_eq_some_iff.1 hpg).1
 have p2:=(List.getElem?_eq_some_iff.1 hkey).1
 have b1:(fr:Int)<(sni:Int):=by omega
 have b2:(fr:Int)<(snk:Int):=by omega
 have b3:¬ ((kid:Int)=(fr:Int)):=by omega
 have k1:=nv_kid (hs.kept K0) hpg
 have ht:=jt_of hC hJ
 have HN:=node_walk (hT.kept K0) (hV.kept K0) hM gb ub l hl
 obtain⟨c0,c1⟩:=(hC.kept K0).cs
 obtain⟨s0,s1,s2,s3,s4,s5⟩:=cells6 S5
 obtain⟨y0,y1,y2,y3⟩:=(C4.mk S7).cs
 have HC:Hid (CAt w c t (.slice jp nj jc)):=hC
 have HJ:Hid (Own w K 3 1 jp nj jc (icl J)):=hJ
 have HS:Hid (NV w sl (some ⟨skb,sko,none⟩) snk skc svp snv svc (some ⟨sib,sio,none⟩) sni sic x):=hs
 have HAS:Hid (Apt c (blk jp) (some ⟨sib,sio,none⟩)):=has
 have HY:Hid (NV w l nkp nnk nkc nvp nnv nvc nip nni nic y):=hy
 have HAY:Hid (Apt c (blk jp) nip):=hay
 have HG:Hid (N.Good y∧N.Good beside):=⟨gy,gb⟩
 have HKy:Hid (x.ks[fr]? = some key):=hkey
 have HTt:Hid (Jt w c (blk jp)):=ht
 have HK:Hid (K≤w.heap.size):=hK
 clear hC hJ hs has hy hay gy gb ub hl hM hkey hpg hT hV ht hni hnk p1 p2 hK
 go_enter Tryz.func86,Tryz.ntmps86
 go_wp2_with (first
  | (go_at_call 21;(with_reducible refine HN.mono ?_);rintro e w1 ⟨bkp,bnk,bkc,bvp,bnv,bvc,bip,bni,bic,rfl,N1,k1,nwb⟩;have k2:Kept w1 (w1.alloc (.cells #[.bool l,.slice bkp bnk bkc,.slice bvp bnv bvc,.slice bip bni bic] 52)):=(Kept.refl w1).alloc _;have K2:=(K0.trans k1).trans k2;obtain⟨c0,c1⟩:=(HC.out.kept K2).cs;obtain⟨z0,z1,z2,z3⟩:=(C4.alloc w1 52 (.bool l) (.slice bkp bnk bkc) (.slice bvp bnv bvc) (.slice bip bni bic)).cs;obtain⟨y0,y1,y2,y3⟩:=(C4.mk (k2.block (k1.block S7))).cs;have ka:Kept (w1.alloc (.cells #[.bool l,.slice bkp bnk bkc,.slice bvp bnv bvc,.slice bip bni bic] 52)) ((w1.alloc (.cells #[.bool l,.slice bkp bnk bkc,.slice bvp bnv bvc,.slice bip bni bic] 52)).alloc (.cells #[.int .i64 (pg:Nat)] 3)):=(Kept.refl _).alloc _;have OA:=HJ.out.kept (K2.trans ka);have CA:=HC.out.kept (K2.trans ka);have hBE:=Nat.le_trans HK.out (K2.trans ka).size;have h1one:=one_cell (w1.alloc (.cells #[.bool l,.slice bkp bnk bkc,.slice bvp bnv bvc,.slice bip bni bic] 52)) (.int .i64 (pg:Nat)) 3;rw[N.size_alloc]at h1one;clear HN)
  | (at_builtin;refine wpList_append_own _ rfl _ _ 50 rfl K 3 i3 _ 1 8 Tryz.underlying50 hi3 hz30 hz31 hz32 rfl (by decide) (.slice jp nj jc) nj (icl J) rfl OA.out ⟨w1.heap.size+1,0,none⟩ 1 1 [.int .i64 (pg:Nat)] rfl rfl h1one (by intro u hu;simp at hu;subst hu;rfl) (by unfold maxLen;omega) (by omega) hBE ?_;intro v' w5 o5 g5 _;obtain⟨jp',jc',rfl⟩:=owns_shape o5;have J5:Jx c (blk jp) ((w1.alloc (.cells #[.bool l,.slice bkp bnk bkc,.slice bvp bnv bvc,.slice bip bni bic] 52)).alloc (.cells #[.int .i64 (pg:Nat)] 3)) w5:=(Jx.ofKept (Kept.refl _)).grown g5 (fun k e=>.inl (own_blk2 e));have C5:=cat_grown CA OA g5;obtain⟨d0,d1⟩:=C5.cs;have df:=frozen_of_row w5 c 1 _ _ C5.out;have O5:Hid (Own w5 K 3 1 jp' (nj+1) jc' (icl J++[.int .i64 (pg:Nat)])):=⟨o5⟩;clear o5 g5))
 have KA:=K2.trans ka
 have JtA:=jt_of CA OA
 have J6:=J5.set ⟨c,1,none⟩ (.slice jp' (nj+1) jc') (.inl rfl)
 have C6:CAt (w5.setCell ⟨c,1,none⟩ (.slice jp' (nj+1) jc')) c t (.slice jp' (nj+1) jc'):=⟨by rw[heap_setCell_same _ c 1 _ _ _ C5.out];rfl⟩
 have O6:Own (w5.setCell ⟨c,1,none⟩ (.slice jp' (nj+1) jc')) K 3 1 jp' (nj+1) jc' (icl (J++[(pg:Int)])):=by
  have:=own_other (i:=1) (v:=.slice jp' (nj+1) jc') O5.out C5.out (by decide)
  simpa[icl] using this
 generalize w5.setCell ⟨c,1,none⟩ (.slice jp' (nj+1) jc')=W6 at J6 C6 O6 ⊢
 have apB:Apt c (blk jp) bip:=by
  intro b off ph e
  have h1:=nwb b off ph e
  rw[N.size_alloc,N.size_alloc,N.size_alloc]at h1
  have h2:=(Array.getElem?_eq_some_iff.1 HC.out.out).1
  refine⟨by omega,fun e2=>?_⟩
  obtain⟨cs',fr',e3⟩:=HTt.out.j b e2
  have h3:=(Array.getElem?_eq_some_iff.1 e3).1
  omega
 have NY6:=J6.nv JtA (HY.out.kept KA) HAY.out
 have NB6:=J6.nv JtA (N1.kept (k2.trans ka)) apB
 have KY6:=nv_key (J6.nv JtA (HS.out.kept KA) HAS.out) HKy.out
 have S56:=J6.cells JtA (ka.block (k2.block (k1.block S5))) (by decide) (by decide)
 have S76:=J6.cells JtA (ka.block (k2.block (k1.block S7))) (by decide) (by decide)
 have S86:=J6.cells JtA (ka.block (k2.block (k1.block S8))) (by decide) (by decide)
 have S126:=J6.cells JtA (ka.block (heap_alloc_new w1 (.cells #[.bool l,.slice bkp bnk bkc,.slice bvp bnv bvc,.slice bip bni bic] 52))) (by decide) (by decide)
 have hsk:skb<w.heap.size:=by obtain⟨cs',fr',e⟩:=HS.out.kx.typ skb sko none rfl;exact (Array.getElem?_eq_some_iff.1 e).1
 have hw1:w.heap.size+3≤w1.heap.size:=by have:=k1.size;rw[N.size_alloc,N.size_alloc,N.size_alloc]at this;omega
 have JW:Hid (Jx c (blk jp) w W6):=(Jx.ofKept KA).trans J6
 obtain⟨s0,s1,s2,s3,s4,s5⟩:=cells6 S56
 obtain⟨y0,y1,y2,y3⟩:=(C4.mk S76).cs
 obtain⟨z0,z1,z2,z3⟩:=(C4.mk S126).cs
 have HJn:Hid (∀ W,Kept W6 W→Calls Tryz.prog 120 #[.agg #[.bool l,.slice bkp bnk bkc,.slice bvp bnv bvc,.slice bip bni bic],.string key,.agg #[.bool l,.slice nkp nnk nkc,.slice nvp nnv nvc,.slice nip nni nic]] W fun e w'=>∃ kp nk kc vp nv vc ip ni ic,e=.returned (.agg #[.bool l,.slice kp nk kc,.slice vp nv vc,.slice ip ni ic])∧NV w' l kp nk kc vp nv vc ip ni ic (jn beside key y)∧Kept W w'):=fun W kW=>node_join (NB6.kept kW) (NY6.kept kW) HG.out.2 HG.out.1 key
 have HC6:Hid (CAt W6 c t (.slice jp' (nj+1) jc')):=C6
 have HO6:Hid (Own W6 K 3 1 jp' (nj+1) jc' (icl (J++[(pg:Int)]))):=O6
 have H56:Hid (W6.heap[w.heap.size]? = some (.cells #[.int .i64 page,.bool sl,.slice (some ⟨skb,sko,none⟩) snk skc,.slice svp snv svc,.slice (some ⟨sib,sio,none⟩) sni sic,.int .i64 (kid:Nat)] 113)):=S56
 have H76:Hid (W6.heap[w.heap.size+1]? = some (.cells #[.bool l,.slice nkp nnk nkc,.slice nvp nnv nvc,.slice nip nni nic] 52)):=S76
 have H86:Hid (W6.heap[w.heap.size+1+1]? = some (.cells #[.bool false,.slice none 0 0,.slice none 0 0,.slice none 0 0] 52)):=S86
 have H126:Hid (W6.heap[w1.heap.size]? = some (.cells #[.bool l,.slice bkp bnk bkc,.slice bvp bnv bvc,.slice bip bni bic] 52)):=S126
 have HSA:Hid (∀ W,Kept W6 W→W.cell? ⟨w.heap.size,2,none⟩=some (.slice (some ⟨skb,sko,none⟩) snk skc)∧W.cell? ⟨w.heap.size+1,0,none⟩=some (.bool l)∧W.cell? ⟨w.heap.size+1,1,none⟩=some (.slice nkp nnk nkc)∧W.cell? ⟨w.heap.size+1,2,none⟩=some (.slice nvp nnv nvc)∧W.cell? ⟨w.heap.size+1,3,none⟩=some (.slice nip nni nic)∧W.cell? ⟨skb,sko+fr,none⟩=some (.string key)∧W.cell? ⟨w1.heap.size,0,none⟩=some (.bool l)∧W.cell? ⟨w1.heap.size,1,none⟩=some (.slice bkp bnk bkc)∧W.cell? ⟨w1.heap.size,2,none⟩=some (.slice bvp bnv bvc)∧W.cell? ⟨w1.heap.size,3,none⟩=some (.slice bip bni bic)):=fun W kW=>by
  obtain⟨s0,s1,s2,s3,s4,s5⟩:=cells6 (kW.block H56.out)
  obtain⟨y0,y1,y2,y3⟩:=(C4.mk (kW.block H76.out)).cs
  obtain⟨z0,z1,z2,z3⟩:=(C4.mk (kW.block H126.out)).cs
  exact⟨s2,y0,y1,y2,y3,kW.cell KY6,z0,z1,z2,z3⟩
 clear s0 s1 s2 s3 s4 s5 y0 y1 y2 y3 z0 z1 z2 z3
 clear J5 J6 JtA C5 C6 O5 O6 OA CA d0 d1 df N1 k1 k2 ka K2 KA nwb apB NY6 NB6 S5 S7 S8 S56 S76 S86 S126 K0 HC HJ HS HAS HY HAY HG HKy HTt HK h1one hBE
 refine wp_region_held_drew (S:=(fun W=>W.cell? ⟨w.heap.size,2,none⟩=some (.slice (some ⟨skb,sko,none⟩) snk skc)∧W.cell? ⟨w.heap.size+1,0,none⟩=some (.bool l)∧W.cell? ⟨w.heap.size+1,1,none⟩=some (.slice nkp nnk nkc)∧W.cell? ⟨w.heap.size+1,2,none⟩=some (.slice nvp nnv nvc)∧W.cell? ⟨w.heap.size+1,3,none⟩=some (.slice nip nni nic)∧W.cell? ⟨skb,sko+fr,none⟩=some (.string key)∧W.cell? ⟨w1.heap.size,0,none⟩=some (.bool l)∧W.cell? ⟨w1.heap.size,1,none⟩=some (.slice bkp bnk bkc)∧W.cell? ⟨w1.heap.size,2,none⟩=some (.slice bvp bnv bvc)∧W.cell? ⟨w1.heap.size,3,none⟩=some (.slice bip bni bic))) (by kernel_rfl) ?_ (fun hHeld=>?_)
 ·exact HSA.out _ (by first | exact (Kept.refl _).drew | exact Kept.refl _)
 refine wpAnyH_take (i:=0) (oi:={ dst:=some 71,op:=Go.Op.load 52 (Go.Operand.tmp 12),type:=52,pos:= "btree.go:228",after:=#[],guard:=none }) (v:=?_) rfl (by kernel_rfl) (by kernel_rfl) (by kernel_rfl) (fun _ _ _ h=>h) (Or.inl ⟨by rfl,?_⟩) (by assumption) ?_
 rotate_left
 ·intro w hSw
  (try dsimp only at hSw)
  go_simp
  all_goals with_reducible rfl
 try simp only[Act.put,sbh1,sbh2,sbh3]
 refine wpAnyH_take (i:=1) (oi:={ dst:=some 72,op:=Go.Op.fieldAddr 113 (Go.Operand.tmp 5) 1,type:=0,pos:= "btree.go:228",after:=#[],guard:=none }) (v:=?_) rfl (by kernel_rfl) (by kernel_rfl) (by kernel_rfl) (fun _ _ _ h=>h) (Or.inl ⟨by rfl,?_⟩) (by assumption) ?_
 rotate_left
 ·intro w hSw
  (try dsimp only at hSw)
  go_simp
  all_goals with_reducible rfl
 try simp only[Act.put,sbh1,sbh2,sbh3]
 refine wpAnyH_take (i:=2) (oi:={ dst:=some 73,op:=Go.Op.fieldAddr 52 (Go.Operand.tmp 72) 1,type:=0,pos:= "btree.go:228",after:=#[{ on:=1,ground:=Go.Ground.data }],guard:=none }) (v:=?_) rfl (by kernel_rfl) (by kernel_rfl) (by kernel_rfl) (fun _ _ _ h=>h) (Or.inl ⟨by rfl,?_⟩) (by assumption) ?_
 rotate_left
 ·intro w hSw
  (try dsimp only at hSw)
  go_simp
  all_goals with_reducible rfl
 try simp only[Act.put,sbh1,sbh2,sbh3]
 refine wpAnyH_take (i:=3) (oi:={ dst:=some 74,op:=Go.Op.load 47 (Go.Operand.tmp 73),type:=47,pos:= "btree.go:228",after:=#[{ on:=2,ground:=Go.Ground.data }],guard:=none }) (v:=?_) rfl (by kernel_rfl) (by kernel_rfl) (by kernel_rfl) (fun _ _ _ h=>h) (Or.inl ⟨by rfl,?_⟩) (by assumption) ?_
 rotate_left
 ·intro w hSw
  (try dsimp only at hSw)
  go_simp
  all_goals with_reducible rfl
 try simp only[Act.put,sbh1,sbh2,sbh3]
 refine wpAnyH_take (i:=4) (oi:={ dst:=some 75,op:=Go.Op.move (Go.Operand.tmp 2),type:=3,pos:= "btree.go:228",after:=#[],guard:=none }) (v:=?_) rfl (by kernel_rfl) (by kernel_rfl) (by kernel_rfl) (fun _ _ _ h=>h) (Or.inl ⟨by rfl,?_⟩) (by assumption) ?_
 rotate_left
 ·intro w hSw
  (try dsimp only at hSw)
  go_simp
  all_goals with_reducible rfl
 try simp only[Act.put,sbh1,sbh2,sbh3]
 refine wpAnyH_take (i:=5) (oi:={ dst:=some 76,op:=Go.Op.indexAddr 47 (Go.Operand.tmp 74) (Go.Operand.tmp 75),type:=0,pos:= "btree.go:228",after:=#[{ on:=3,ground:=Go.Ground.data },{ on:=4,ground:=Go.Ground.data }],guard:=none }) (v:=?_) rfl (by kernel_rfl) (by kernel_rfl) (by kernel_rfl) (fun _ _ _ h=>h) (Or.inl ⟨by rfl,?_⟩) (by assumption) ?_
 rotate_left
 ·intro w hSw
  (try dsimp only at hSw)
  go_simp
  all_goals with_reducible rfl
 try simp only[Act.put,sbh1,sbh2,sbh3]
 refine wpAnyH_take (i:=6) (oi:={ dst:=some 77,op:=Go.Op.load 9 (Go.Operand.tmp 76),type:=9,pos:= "btree.go:228",after:=#[{ on:=5,ground:=Go.Ground.data }],guard:=none }) (v:=?_) rfl (by kernel_rfl) (by kernel_rfl) (by kernel_rfl) (fun _ _ _ h=>h) (Or.inl ⟨by rfl,?_⟩) (by assumption) ?_
 rotate_left
 ·intro w hSw
  (try dsimp only at hSw)
  go_simp
  all_goals with_reducible rfl
 try simp only[Act.put,sbh1,sbh2,sbh3]
 refine wpAnyH_take (i:=7) (oi:={ dst:=some 78,op:=Go.Op.load 52 (Go.Operand.tmp 7),type:=52,pos:= "btree.go:228",after:=#[],guard:=none }) (v:=?_) rfl (by kernel_rfl) (by kernel_rfl) (by kernel_rfl) (fun _ _ _ h=>h) (Or.inl ⟨by rfl,?_⟩) (by assumption) ?_
 rotate_left
 ·intro w hSw
  (try dsimp only at hSw)
  go_simp
  all_goals with_reducible rfl
 try simp only[Act.put,sbh1,sbh2,sbh3]
 refine wpAnyH_ready (rs:=[8]) (by kernel_rfl) (by simp) ?_
 refine AllReadyH.cons (o:={ dst:=some 79,op:=Go.Op.call { callee:=Go.Callee.value (Go.Operand.func 120),args:=#[Go.Operand.tmp 71,Go.Operand.tmp 77,Go.Operand.tmp 78],argTypes:=#[52,9,52] },type:=52,pos:= "btree.go:228",after:=#[{ on:=0,ground:=Go.Ground.data },{ on:=6,ground:=Go.Ground.data },{ on:=7,ground:=Go.Ground.data }],guard:=none }) rfl (fun KK hKK=>?_) ?_
 ·
  go_simp
  go_at_call 120
  (with_reducible refine (HJn.out _ (by first | exact (Kept.refl _).drew | exact Kept.refl _)).mono ?_)
  rintro e w8 ⟨kp,nk,kc,vp,nv,vc,ip,ni,ic,rfl,N8,k8⟩
  have k68:Kept W6 w8:=Kept.trans (by first | exact (Kept.refl _).drew | exact Kept.refl _) k8
  have R8:C4 w8 (w.heap.size+1+1) 52 (.bool false) (.slice none 0 0) (.slice none 0 0) (.slice none 0 0):=C4.mk (k68.block H86.out)
  obtain⟨⟨g0,f0⟩,⟨g1,f1⟩,⟨g2,f2⟩,⟨g3,f3⟩,hfin⟩:=N.ready4 R8.out (.bool l) (.slice kp nk kc) (.slice vp nv vc) (.slice ip ni ic)
  go_wp2_with fail
  refine hKK.out _ _ ?_ (fun hHeld=>?_)
  ·(try dsimp only)
   exact HSA.out _ k68
  clear hKK KK
  try simp only[Act.put,sbh1,sbh2,sbh3]
  refine wpAnyH_ready (rs:=[9]) (by kernel_rfl) (by simp) ?_
  refine AllReadyH.cons (o:={ dst:=none,op:=Go.Op.store 52 (Go.Operand.tmp 8) (Go.Operand.tmp 79),type:=0,pos:= "btree.go:228",after:=#[{ on:=8,ground:=Go.Ground.data },{ on:=8,ground:=Go.Ground.chain },{ on:=0,ground:=Go.Ground.phase },{ on:=1,ground:=Go.Ground.phase },{ on:=2,ground:=Go.Ground.phase },{ on:=3,ground:=Go.Ground.phase },{ on:=4,ground:=Go.Ground.phase },{ on:=5,ground:=Go.Ground.phase },{ on:=6,ground:=Go.Ground.phase },{ on:=7,ground:=Go.Ground.phase },{ on:=8,ground:=Go.Ground.phase }],guard:=none }) rfl (fun KK hKK=>?_) ?_
  ·
   go_simp
   refine hKK.out _ _ ?_ (fun hHeld=>?_)
   ·(try dsimp only)
    obtain⟨u0,u1,u2,u3,u4,u5,u6,u7,u8,u9⟩:=HSA.out _ k68
    rw[← N.cell_st4 w8 (b:=w.heap.size+1+1) (b2:=w.heap.size) (by omega) 2 (.bool l) (.slice kp nk kc) (.slice vp nv vc) (.slice ip ni ic)]at u0
    rw[← N.cell_st4 w8 (b:=w.heap.size+1+1) (b2:=w.heap.size+1) (by omega) 0 (.bool l) (.slice kp nk kc) (.slice vp nv vc) (.slice ip ni ic)]at u1
    rw[← N.cell_st4 w8 (b:=w.heap.size+1+1) (b2:=w.heap.size+1) (by omega) 1 (.bool l) (.slice kp nk kc) (.slice vp nv vc) (.slice ip ni ic)]at u2
    rw[← N.cell_st4 w8 (b:=w.heap.size+1+1) (b2:=w.heap.size+1) (by omega) 2 (.bool l) (.slice kp nk kc) (.slice vp nv vc) (.slice ip ni ic)]at u3
    rw[← N.cell_st4 w8 (b:=w.heap.size+1+1) (b2:=w.heap.size+1) (by omega) 3 (.bool l) (.slice kp nk kc) (.slice vp nv vc) (.slice ip ni ic)]at u4
    rw[← N.cell_st4 w8 (b:=w.heap.size+1+1) (b2:=skb) (by omega) (sko+fr) (.bool l) (.slice kp nk kc) (.slice vp nv vc) (.slice ip ni ic)]at u5
    rw[← N.cell_st4 w8 (b:=w.heap.size+1+1) (b2:=w1.heap.size) (by omega) 0 (.bool l) (.slice kp nk kc) (.slice vp nv vc) (.slice ip ni ic)]at u6
    rw[← N.cell_st4 w8 (b:=w.heap.size+1+1) (b2:=w1.heap.size) (by omega) 1 (.bool l) (.slice kp nk kc) (.slice vp nv vc) (.slice ip ni ic)]at u7
    rw[← N.cell_st4 w8 (b:=w.heap.size+1+1) (b2:=w1.heap.size) (by omega) 2 (.bool l) (.slice kp nk kc) (.slice vp nv vc) (.slice ip ni ic)]at u8
    rw[← N.cell_st4 w8 (b:=w.heap.size+1+1) (b2:=w1.heap.size) (by omega) 3 (.bool l) (.slice kp nk kc) (.slice vp nv vc) (.slice ip ni ic)]at u9
    exact⟨u0,u1,u2,u3,u4,u5,u6,u7,u8,u9⟩
   clear hKK KK
   try simp only[Act.put,sbh1,sbh2,sbh3]
   refine wpAnyH_take (i:=10) (oi:={ dst:=some 9,op:=Go.Op.assign (Go.Operand.const (Go.Value.int Go.IntKind.i64 0)),type:=34,pos:= "btree.go:228",after:=#[{ on:=9,ground:=Go.Ground.chain },{ on:=0,ground:=Go.Ground.phase },{ on:=1,ground:=Go.Ground.phase },{ on:=2,ground:=Go.Ground.phase },{ on:=3,ground:=Go.Ground.phase },{ on:=4,ground:=Go.Ground.phase },{ on:=5,ground:=Go.Ground.phase },{ on:=6,ground:=Go.Ground.phase },{ on:=7,ground:=Go.Ground.phase },{ on:=8,ground:=Go.Ground.phase },{ on:=9,ground:=Go.Ground.phase }],guard:=none }) (v:=?_) rfl (by kernel_rfl) (by kernel_rfl) (by kernel_rfl) (fun _ _ _ h=>h) (Or.inl ⟨by rfl,?_⟩) (by assumption) ?_
   rotate_left
   ·intro w hSw
    (try dsimp only at hSw)
    go_simp
    all_goals with_reducible rfl
   try simp only[Act.put,sbh1,sbh2,sbh3]
   refine wpAnyH_done (by kernel_rfl) ?_ _
   have oth:∀ k,k≠w.heap.size+1+1→((((w8.setCell ⟨w.heap.size+1+1,0,none⟩ (.bool l)).setCell ⟨w.heap.size+1+1,1,none⟩ (.slice kp nk kc)).setCell ⟨w.heap.size+1+1,2,none⟩ (.slice vp nv vc)).setCell ⟨w.heap.size+1+1,3,none⟩ (.slice ip ni ic)).heap[k]? = w8.heap[k]?:=fun k hk=>N.others4 w8 hk _ _ _ _
   have q1:=N8.other R8 oth
   have q2:=cat_same (HC6.out.kept k68) R8.out (by decide) oth
   have q3:=own_same (HO6.out.kept k68) R8.out (by decide) oth
   have q4:Jx c (blk jp) w ((((w8.setCell ⟨w.heap.size+1+1,0,none⟩ (.bool l)).setCell ⟨w.heap.size+1+1,1,none⟩ (.slice kp nk kc)).setCell ⟨w.heap.size+1+1,2,none⟩ (.slice vp nv vc)).setCell ⟨w.heap.size+1+1,3,none⟩ (.slice ip ni ic)):=((((JW.out.kept k68).set ⟨w.heap.size+1+1,0,none⟩ _ (.inr (by show w.heap.size≤w.heap.size+1+1;omega))).set ⟨w.heap.size+1+1,1,none⟩ _ (.inr (by show w.heap.size≤w.heap.size+1+1;omega))).set ⟨w.heap.size+1+1,2,none⟩ _ (.inr (by show w.heap.size≤w.heap.size+1+1;omega))).set ⟨w.heap.size+1+1,3,none⟩ _ (.inr (by show w.heap.size≤w.heap.size+1+1;omega))
   generalize ((((w8.setCell ⟨w.heap.size+1+1,0,none⟩ (.bool l)).setCell ⟨w.heap.size+1+1,1,none⟩ (.slice kp nk kc)).setCell ⟨w.heap.size+1+1,2,none⟩ (.slice vp nv vc)).setCell ⟨w.heap.size+1+1,3,none⟩ (.slice ip ni ic))=WF at *
   go_wp2
   refine bodyPost_ret (v:=.tuple #[.agg #[.bool l,.slice kp nk kc,.slice vp nv vc,.slice ip ni ic],.int .i64 0]) ?_ rfl ⟨_,_,_,_,_,_,_,_,_,_,_,rfl,q1,q2,q3,q4⟩
   exact N.results_two (p:=8) (u:=9) (ty:=52) rfl _ _ (w.heap.size+1+1) 52 #[.bool l,.slice kp nk kc,.slice vp nv vc,.slice ip ni ic] (0,0) _ rfl hfin Tryz.underlying52 rfl N.size52
  exact AllReadyH.nil
 exact AllReadyH.nil
open N (Nw)
structure Lx (B c:Nat) (j:Option Nat) (w w':World):Prop where
 below:Below B w w'
 rows:∀ (b:Nat) (cs:Array Value) (t:TypeId) (fr:Nat×Nat),w.heap[b]? = some (.cells cs t fr)→G.Calm t→b≠c→j≠some b→w'.heap[b]? = some (.cells cs t fr)
theorem Lx.ofKept {B c:Nat} {j:Option Nat} {w w':World} (k:Kept w w') (hB:B≤w.heap.size):Lx B c j w w':=⟨k.out.mono hB,fun _ _ _ _ h _ _ _=>k.block h⟩
theorem Lx.size {B c:Nat} {j:Option Nat} {w w':World} (h:Lx B c j w w'):w.heap.size≤w'.heap.size:=h.below.size
theorem Lx.ofJx {B c:Nat} {j:Option Nat} {w w':World} (h:Jx c j w w') (hB:B≤w.heap.size) (hc:B≤c) (hj:∀ b,j=some b→B≤b):Lx B c j w w':=by
 refine⟨⟨h.zero.os,h.zero.tape,h.zero.output,h.zero.size,fun k hk=>?_⟩,fun b cs t fr hb _ h1 h2=>h.block b _ hb h1 h2⟩
 have e:w.heap[k]? = some w.heap[k]:=Array.getElem?_eq_getElem (by omega)
 rw[e]
 exact h.block k _ e (by omega) (fun e2=>by have:=hj k e2;omega)
theorem Lx.trans {B c:Nat} {j:Option Nat} {a b d:World} (h:Lx B c j a b) (k:Lx B c j b d):Lx B c j a d:=⟨h.below.trans k.below,fun x cs t fr hx ht h1 h2=>k.rows x cs t fr (h.rows x cs t fr hx ht h1 h2) ht h1 h2⟩
theorem Lx.on {B c:Nat} {j:Option Nat} {a b d:World} (h:Lx B c j a b) (k:G.On B b d):Lx B c j a d:=⟨h.below.trans k.below,fun x cs t fr hx ht h1 h2=>k.rows x cs t fr (h.rows x cs t fr hx ht h1 h2) ht⟩
theorem Lx.kept {B c:Nat} {j:Option Nat} {a b d:World} (h:Lx B c j a b) (k:Kept b d) (hB:B≤a.heap.size):Lx B c j a d:=h.trans (Lx.ofKept k (Nat.le_trans hB h.size))
theorem Lx.oth {B c:Nat} {j:Option Nat} {a b d:World} (h:Lx B c j a b) {z:Nat} (hz:a.heap.size≤z) (hB:B≤a.heap.size) (hd:Below 0 b d) (ho:∀ k,k≠z→d.heap[k]? = b.heap[k]?):Lx B c j a d:=by
 refine⟨h.below.trans ⟨hd.os,hd.tape,hd.output,hd.size,fun k hk=>ho k (by omega)⟩,fun x cs t fr hx ht h1 h2=>(ho x ?_).trans (h.rows x cs t fr hx ht h1 h2)⟩
 have:=(Array.getElem?_eq_some_iff.1 hx).1
 omega
theorem Lx.tat {B c:Nat} {j:Option Nat} {w w':World} (h:Lx B c j w w') (ht:Jt w c j) {t p:Nat} {root:Int} (k:TAt w t p root):TAt w' t p root:=by
 refine⟨h.rows t _ _ _ k.out calm79 ?_ ?_⟩
 ·rintro rfl
  obtain⟨cs',fr',e⟩:=ht.c
  rw[k.out]at e;injection e with e;injection e with _ e _;exact absurd e (by decide)
 ·intro e
  obtain⟨cs',fr',e⟩:=ht.j t e
  rw[k.out]at e;injection e with e;injection e with _ e _;exact absurd e (by decide)
theorem zero4 (W:World) (b:Nat) (v0 v1 v2 v3:Value):Below 0 W ((((W.setCell ⟨b,0,none⟩ v0).setCell ⟨b,1,none⟩ v1).setCell ⟨b,2,none⟩ v2).setCell ⟨b,3,none⟩ v3):=
 ((((Below.refl 0 W).setCell (Nat.zero_le _) v0).setCell (Nat.zero_le _) v1).setCell (Nat.zero_le _) v2).setCell (Nat.zero_le _) v3
theorem own_grown {w w':World} {B g:Nat} {e:TypeId} {sz:Nat} {p:Option Addr} {n cap:Nat} {cs:List Value} (h:Own w B e sz p n cap cs) (hg:w.grownBy w' (some g)) (ht:∀ cs' t fr,w.heap[g]? = some (.cells cs' t fr)→t≠e):Own w' B e sz p n cap cs:=by
 refine⟨h.out.1,?_⟩
 rcases h.out.2 with h1 | ⟨b,cp,cur,e1,e2,e3,e4⟩
 ·exact .inl h1
 ·refine .inr ⟨b,cp,cur,e1,e2,?_,e4⟩
  refine (hg.block b (Array.getElem?_eq_some_iff.1 e3).1 (fun e=>?_)).trans e3
  have e:=Option.some.inj e
  subst e
  exact ht _ _ _ e3 rfl
theorem c4_grown {w w':World} {g b:Nat} {a0 a1 a2 a3:Value} (h:C4 w b 52 a0 a1 a2 a3) (hg:w.grownBy w' (some g)) (ht:∀ cs' t fr,w.heap[g]? = some (.cells cs' t fr)→t≠52):C4 w' b 52 a0 a1 a2 a3:=by
 refine C4.mk ((hg.block b (Array.getElem?_eq_some_iff.1 h.out).1 (fun e=>?_)).trans h.out)
 have e:=Option.some.inj e
 subst e
 exact ht _ _ _ h.out rfl
theorem own_ty {w:World} {B g:Nat} {e e':TypeId} {sz:Nat} {n cap:Nat} {cs:List Value} (h:Own w B e sz (some ⟨g,0,none⟩) n cap cs) (hne:e≠e'):∀ cs' t fr,w.heap[g]? = some (.cells cs' t fr)→t≠e':=by
 intro cs' t fr hc
 rcases h.cases with⟨hx,_⟩|⟨g',cur,hx,_,_,hg,_⟩
 ·cases hx
 injection hx with hx
 injection hx with hx
 subst hx
 rw[hc]at hg
 injection hg with hg
 injection hg with _ hg _
 rw[hg];exact hne
theorem icl_take (l:List Int) (i:Nat):(icl l).take i=icl (l.take i):=by unfold icl;rw[List.map_take]
theorem icl_drop (l:List Int) (i:Nat):(icl l).drop i=icl (l.drop i):=by unfold icl;rw[List.map_drop]
theorem kcl_take (l:List ByteArray) (i:Nat):(kcl l).take i=kcl (l.take i):=by unfold kcl;rw[List.map_take]
theorem kcl_drop (l:List ByteArray) (i:Nat):(kcl l).drop i=kcl (l.drop i):=by unfold kcl;rw[List.map_drop]
theorem icl_app (a b:List Int):icl a++icl b=icl (a++b):=by unfold icl;rw[List.map_append]
theorem kcl_app (a b:List ByteArray):kcl a++kcl b=kcl (a++b):=by unfold kcl;rw[List.map_append]
theorem icl_ones (l:List Int):∀ u∈icl l,u.oneCell'=true:=N.icl_one l
theorem kcl_ones (l:List ByteArray):∀ u∈kcl l,u.oneCell'=true:=N.kcl_one l
theorem own_lt {w:World} {B b:Nat} {e:TypeId} {sz n cap:Nat} {p:Option Addr} {cs:List Value} (h:Own w B e sz p n cap cs) (hp:p=some ⟨b,0,none⟩):b<w.heap.size:=by
 subst hp
 rcases h.cases with⟨hx,_⟩|⟨g',cur,hx,_,hlt,_⟩
 ·cases hx
 injection hx with hx
 injection hx with hx
 subst hx
 exact hlt
theorem replI {w:World} {B B' g n c i j m vc:Nat} {q:Option Addr} {is P:List Int} (h:Own w B 3 1 (some ⟨g,0,none⟩) n c (icl is)) (hB:B≤w.heap.size) (hij:i<j) (hjn:j≤n) (hj2:j≤i+2) (hn:n≤99999) (hV:Own w B' 3 1 q m vc (icl P)) (hm:1≤m) (hm2:m≤2) (hne:∀ b,q=some ⟨b,0,none⟩→b≠g) :
  Calls Tryz.prog 89 #[.slice (some ⟨g,0,none⟩) n c,.int .i64 (i:Nat),.int .i64 (j:Nat),.slice q m vc] w fun e w'=>∃ p' n' c',e=.returned (.slice p' n' c')∧Own w' B 3 1 p' n' c' (icl (is.take i++P++is.drop j))∧w.grownBy w' (some g):=by
 refine (N.replace_int h hB hij hjn hj2 hn hV hm hm2 hne (icl_ones _) (icl_ones _)).mono ?_
 rintro e w' ⟨p',c',rfl,a,b⟩
 rw[icl_take,icl_drop,icl_app,icl_app]at a
 exact⟨p',_,c',rfl,a,b⟩
theorem replK {w:World} {B B' g n c i j m vc:Nat} {q:Option Addr} {ks P:List ByteArray} (h:Own w B 9 1 (some ⟨g,0,none⟩) n c (kcl ks)) (hB:B≤w.heap.size) (hij:i≤j) (hjn:j≤n) (hj2:j≤i+1) (hn:n≤99999) (hV:Own w B' 9 1 q m vc (kcl P)) (hm:m≤1) (hne:∀ b,q=some ⟨b,0,none⟩→b≠g) (hq:m=0→q=none∧vc=0) :
  Calls Tryz.prog 90 #[.slice (some ⟨g,0,none⟩) n c,.int .i64 (i:Nat),.int .i64 (j:Nat),.slice q m vc] w fun e w'=>∃ p' n' c',e=.returned (.slice p' n' c')∧Own w' B 9 1 p' n' c' (kcl (ks.take i++P++ks.drop j))∧w.grownBy w' (some g):=by
 refine (N.replace_str h hB hij hjn hj2 hn hV hm hne hq (kcl_ones _) (kcl_ones _)).mono ?_
 rintro e w' ⟨p',c',rfl,a,b⟩
 rw[kcl_take,kcl_drop,kcl_app,kcl_app]at a
 exact⟨p',_,c',rfl,a,b⟩
theorem PR.len {M M':Pm} {m:Nat} {y:Nd} {ns:List Nat} {K:List ByteArray} (h:PR M m y M' ns K):1≤ns.length∧ns.length≤2∧K.length≤1:=by
 rcases h with⟨_,n,_,_,rfl,rfl⟩|⟨_,mm,key,n1,n2,_,_,_,_,_,rfl,rfl⟩ <;> simp
open B (abv)
set_option linter.unusedSimpArgs false in
set_option maxRecDepth 100000 in
set_option maxHeartbeats 4000000 in
theorem lift_self_ok {B:Nat} {w:World} {c t p m K nj jc d:Nat} {jp:Option Addr} {J:List Int} {root page:Int} {M M':Pm} (hC:CAt w c t (.slice jp nj jc)) (hJ:Own w K 3 1 jp nj jc (icl J)) (hK:K≤w.heap.size) (hBK:B≤K) (hKc:K≤c) (hB:B≤w.heap.size) (hB0:0<B) (hL:S.Lds w) (hT:TAt w t p root) (hV:Pv B w p m M)
  {l:Bool} {skb sko snk skc:Nat} {svp:Option Addr} {snv svc sib sio sni sic fr tt:Nat} {x:Nd} (hs:NV w false (some ⟨skb,sko,none⟩) snk skc svp snv svc (some ⟨sib,sio,none⟩) sni sic x) (gx:N.Good x) (hx2:2≤sni) (hti:tt≤sni)
  {nkp:Option Addr} {nnk nkc:Nat} {nvp:Option Addr} {nnv nvc:Nat} {nip:Option Addr} {nni nic:Nat} {y:Nd} (hy:NV w l nkp nnk nkc nvp nnv nvc nip nni nic y) (gy:N.Good y) (hlow:¬ y.put.length<79) (htt:tt=fr+1) {ns:List Nat} {KK:List ByteArray} (wf:WfN M d y) (hb:y.put.length≤(if d=0 then 352 else 380)) (hR:PR M m y M' ns KK) :
  Calls Tryz.prog 56 #[.pointer (some ⟨c,0,none⟩),.agg #[.int .i64 page,.bool false,.slice (some ⟨skb,sko,none⟩) snk skc,.slice svp snv svc,.slice (some ⟨sib,sio,none⟩) sni sic,.int .i64 (fr:Nat)],.agg #[.bool l,.slice nkp nnk nkc,.slice nvp nnv nvc,.slice nip nni nic]] w fun e w'=>∃ kp nk kc vp nv vc ip ni ic jp' jc',e=.returned (.tuple #[.agg #[.bool false,.slice kp nk kc,.slice vp nv vc,.slice ip ni ic],.int .i64 0])∧NV w' false kp nk kc vp nv vc ip ni ic (abv x fr (tt-1) (ns.map fun n:Nat=>(n:Int)) KK)∧CAt w' c t (.slice jp' nj jc')∧Own w' K 3 1 jp' nj jc' (icl J)∧Apt c (blk jp') ip∧Pv B w' p m M'∧Lx B c (blk jp) w w':=by
 have K0:Kept w (((w.alloc (.cells #[.int .i64 page,.bool false,.slice (some ⟨skb,sko,none⟩) snk skc,.slice svp snv svc,.slice (some ⟨sib,sio,none⟩) sni sic,.int .i64 (fr:Nat)] 113)).alloc (.cells #[.bool l,.slice nkp nnk nkc,.slice nvp nnv nvc,.slice nip nni nic] 52)).alloc (.cells #[.bool false,.slice none 0 0,.slice none 0 0,.slice none 0 0] 52)):=(((Kept.refl w).alloc _).alloc _).alloc _
 have S4:(((w.alloc (.cells #[.int .i64 page,.bool false,.slice (some ⟨skb,sko,none⟩) snk skc,.slice svp snv svc,.slice (some ⟨sib,sio,none⟩) sni sic,.int .i64 (fr:Nat)] 113)).alloc (.cells #[.bool l,.slice nkp nnk nkc,.slice nvp nnv nvc,.slice nip nni nic] 52)).alloc (.cells #[.bool false,.slice none 0 0,.slice none 0 0,.slice none 0 0] 52)).heap[w.heap.size]? = some (.cells #[.int .i64 page,.bool false,.slice (some ⟨skb,sko,none⟩) snk skc,.slice svp snv svc,.slice (some ⟨sib,sio,none⟩) sni sic,.int .i64 (fr:Nat)] 113):=((((Kept.refl _).alloc _).alloc _)).block (heap_alloc_new w _)
 have S5:(((w.alloc (.cells #[.int .i64 page,.bool false,.slice (some ⟨skb,sko,none⟩) snk skc,.slice svp snv svc,.slice (some ⟨sib,sio,none⟩) sni sic,.int .i64 (fr:Nat)] 113)).alloc (.cells #[.bool l,.slice nkp nnk nkc,.slice nvp nnv nvc,.slice nip nni nic] 52)).alloc (.cells #[.bool false,.slice none 0 0,.slice none 0 0,.slice none 0 0] 52)).heap[w.heap.size+1]? = some (.cells #[.bool l,.slice nkp nnk nkc,.slice nvp nnv nvc,.slice nip nni nic] 52):=((Kept.refl _).alloc _).block (D.two_new w _ _)
 have S6:(((w.alloc (.cells #[.int .i64 page,.bool false,.slice (some ⟨skb,sko,none⟩) snk skc,.slice svp snv svc,.slice (some ⟨sib,sio,none⟩) sni sic,.int .i64 (fr:Nat)] 113)).alloc (.cells #[.bool l,.slice nkp nnk nkc,.slice nvp nnv nvc,.slice nip nni nic] 52)).alloc (.cells #[.bool false,.slice none 0 0,.slice none 0 0,.slice none 0 0] 52)).heap[w.heap.size+1+1]? = some (.cells #[.bool false,.slice none 0 0,.slice none 0 0,.slice none 0 0] 52):=three_new w _ _ _
 obtain⟨fk,fv,fi⟩:=good_few hs gx
 have hxl:x.leaf=false:=hs.hl
 have eni:=hs.ni
 have enk:=hs.nk
 have eli:=(gx.li hxl).1
 have evs:=(gx.li hxl).2
 have e1:IntKind.i64.wrap ((fr:Int)+1)=(tt:Int):=by rw[IntKind.wrap_i64];omega
 obtain⟨te,hte⟩:∃ te,te=tt-1:=⟨_,rfl⟩
 have e4:IntKind.i64.wrap ((tt:Int)-1)=(te:Int):=by rw[IntKind.wrap_i64];omega
 rw[← hte]
 have HT1:Hid (fr≤te∧te<tt∧tt≤fr+2∧tt=te+1∧tt≤sni∧fr<sni):=⟨by omega,by omega,by omega,by omega,by omega,by omega⟩
 have HC:Hid (CAt w c t (.slice jp nj jc)):=hC
 have HJ:Hid (Own w K 3 1 jp nj jc (icl J)):=hJ
 have HK:Hid (K≤w.heap.size∧B≤K∧K≤c∧B≤w.heap.size∧0<B):=⟨hK,hBK,hKc,hB,hB0⟩
 have HL:Hid (S.Lds w):=hL
 have HT:Hid (TAt w t p root):=hT
 have HV:Hid (Pv B w p m M):=hV
 have HX:Hid (NV w false (some ⟨skb,sko,none⟩) snk skc svp snv svc (some ⟨sib,sio,none⟩) sni sic x):=hs
 have HGX:Hid (N.Good x):=gx
 have HY:Hid (NV w l nkp nnk nkc nvp nnv nvc nip nni nic y):=hy
 have HGY:Hid (N.Good y):=gy
 have HWF:Hid (WfN M d y∧y.put.length≤(if d=0 then 352 else 380)):=⟨wf,hb⟩
 have HR:Hid (PR M m y M' ns KK):=hR
 have HN:Hid (x.ks.length=snk∧x.is.length=sni∧sni=snk+1∧x.vs=[]∧snk≤120∧snv≤120∧2≤sni):=⟨enk,eni,by omega,evs,fk,fv,hx2⟩
 have HTt:Hid (Jt w c (blk jp)):=jt_of hC hJ
 have HLo:Hid (∀ W,Kept w W→Calls Tryz.prog 85 #[.agg #[.bool l,.slice nkp nnk nkc,.slice nvp nnv nvc,.slice nip nni nic]] W fun e w'=>e=.returned (.bool false)∧Kept W w'):=fun W k=>by have:=N.low_walk (hy.kept k) gy;rwa [decide_eq_false hlow]at this
 obtain⟨s0,s1,s2,s3,s4,s5⟩:=cells6 S4
 clear hC hJ hK hBK hKc hB hB0 hL hT hV hs gx hx2 hti hy gy wf hb hR fk fv fi hxl eni enk eli evs htt hte hlow
 go_enter Tryz.func56,Tryz.ntmps56
 go_wp2
 go_quiet (fail)
 obtain⟨W,hW⟩:∃ W,(((w.alloc (.cells #[.int .i64 page,.bool false,.slice (some ⟨skb,sko,none⟩) snk skc,.slice svp snv svc,.slice (some ⟨sib,sio,none⟩) sni sic,.int .i64 (fr:Nat)] 113)).alloc (.cells #[.bool l,.slice nkp nnk nkc,.slice nvp nnv nvc,.slice nip nni nic] 52)).alloc (.cells #[.bool false,.slice none 0 0,.slice none 0 0,.slice none 0 0] 52)).drewN nq=W:=⟨_,rfl⟩
 have KW:Kept w W:=by rw[← hW];exact K0.drewN nq
 have S4W:W.heap[w.heap.size]? = some (.cells #[.int .i64 page,.bool false,.slice (some ⟨skb,sko,none⟩) snk skc,.slice svp snv svc,.slice (some ⟨sib,sio,none⟩) sni sic,.int .i64 (fr:Nat)] 113):=by rw[← hW];exact S4
 have S5W:W.heap[w.heap.size+1]? = some (.cells #[.bool l,.slice nkp nnk nkc,.slice nvp nnv nvc,.slice nip nni nic] 52):=by rw[← hW];exact S5
 have S6W:W.heap[w.heap.size+1+1]? = some (.cells #[.bool false,.slice none 0 0,.slice none 0 0,.slice none 0 0] 52):=by rw[← hW];exact S6
 rw[hW]
 clear hW S4 S5 S6 K0 s0 s1 s2 s3 s4 s5
 obtain⟨s0,s1,s2,s3,s4,s5⟩:=cells6 S4W
 obtain⟨y0,y1,y2,y3⟩:=(C4.mk S5W).cs
 go_wp2_with (first
  | (go_at_call 85;(with_reducible refine (HLo.out _ KW).mono ?_);rintro e w1 ⟨rfl,k1⟩;have K1:=KW.trans k1;have P4:=k1.block S4W;have P5:=k1.block S5W;have P6:=k1.block S6W;obtain⟨s0,s1,s2,s3,s4,s5⟩:=cells6 P4;obtain⟨y0,y1,y2,y3⟩:=(C4.mk P5).cs;have LP:Hid (Lx B c (blk jp) w w1):=Lx.ofKept K1 HK.out.2.2.2.1;have CP:=HC.out.kept K1;have OP:=HJ.out.kept K1;have HPut:=put_ok CP (HT.out.kept K1) (HV.out.kept K1) (Nat.le_trans HK.out.2.2.2.1 K1.size) (lds_kept HL.out K1) HK.out.2.2.2.2 (HY.out.kept K1) HWF.out.1 HWF.out.2 HR.out;have XP:=HX.out.kept K1;clear HLo)
  | (go_at_call 87;(with_reducible refine HPut.mono ?_);rintro e w3 ⟨pp,pc,kq,kqc,rfl,OPg,OKy,V3,o3,hkq⟩;have Q4:=o3.rows _ _ _ _ P4 calm113;have Q6:=o3.rows _ _ _ _ P6 calm52;obtain⟨s0,s1,s2,s3,s4,s5⟩:=cells6 Q4;have X3:=nv_on o3 XP;have C3:=CP.on o3;have O3:=own_on o3 calm3 OP;have L3:Hid (Lx B c (blk jp) w w3):=LP.out.on o3;have HCp:=N.copy_walk (l:=false) X3.k X3.v X3.i (kcl_ones _) (N.vcl_one _) (icl_ones _) (by have:=HN.out;omega) (by have:=HN.out;omega) (by have:=HN.out;omega))
  | (go_at_call 88;(with_reducible refine HCp.mono ?_);rintro e w4 ⟨kp4,kc4,vp4,vc4,ip4,ic4,rfl,OK4,OV4,OI4,k4⟩;obtain⟨gk,rfl⟩:=OK4.some_of (by have:=HN.out;have:=HT1.out;omega);obtain⟨gi,rfl⟩:=OI4.some_of (by have:=HN.out;have:=HT1.out;omega);have ka4:Kept w4 (w4.alloc (.cells #[.bool false,.slice (some ⟨gk,0,none⟩) snk kc4,.slice vp4 snv vc4,.slice (some ⟨gi,0,none⟩) sni ic4] 52)):=(Kept.refl w4).alloc _;obtain⟨z0,z1,z2,z3⟩:=(C4.alloc w4 52 (.bool false) (.slice (some ⟨gk,0,none⟩) snk kc4) (.slice vp4 snv vc4) (.slice (some ⟨gi,0,none⟩) sni ic4)).cs;have HRi:=replI (i:=fr) (j:=tt) (OI4.kept ka4) (Nat.le_trans k4.size ka4.size) (by have:=HT1.out;omega) (by have:=HT1.out;omega) (by have:=HT1.out;omega) (by have:=HN.out;omega) (OPg.kept (k4.trans ka4)) (PR.len HR.out).1 (PR.len HR.out).2.1 (fun b e=>Nat.ne_of_lt (Nat.lt_of_lt_of_le (own_lt OPg e) (OI4.nw gi 0 none rfl))))
  | (go_at_call 89;(with_reducible refine HRi.mono ?_);rintro e w5 ⟨ip5,ni5,ic5,rfl,OI5,g5⟩;have tI:=own_ty (OI4.kept ka4) (e':=9) (by decide);have tI2:=own_ty (OI4.kept ka4) (e':=52) (by decide);have tI3:=own_ty (OI4.kept ka4) (e':=33) (by decide);have C45:=c4_grown (C4.alloc w4 52 (.bool false) (.slice (some ⟨gk,0,none⟩) snk kc4) (.slice vp4 snv vc4) (.slice (some ⟨gi,0,none⟩) sni ic4)) g5 tI2;have OK5:=own_grown (OK4.kept ka4) g5 tI;have OV5:=own_grown (OV4.kept ka4) g5 tI3;have k35:Kept w3 w5:=N.grown_kept (B:=w3.heap.size) w3 (k4.trans ka4) g5 (Nat.le_refl _) (fun k e=>by cases e;exact OI4.nw gi 0 none rfl);have kz5:Kept w3 (w5.setCell ⟨w4.heap.size,3,none⟩ (.slice ip5 ni5 ic5)):=k35.set (a:=⟨w4.heap.size,3,none⟩) k4.size _;obtain⟨u0,u1,u2,u3⟩:=C45.cs;have uf:=frozen_of_row w5 w4.heap.size 3 _ _ C45.out;have C5z:C4 (w5.setCell ⟨w4.heap.size,3,none⟩ (.slice ip5 ni5 ic5)) w4.heap.size 52 (.bool false) (.slice (some ⟨gk,0,none⟩) snk kc4) (.slice vp4 snv vc4) (.slice ip5 ni5 ic5):=C4.mk (by rw[heap_setCell_same _ w4.heap.size 3 _ _ _ C45.out];rfl);obtain⟨v0,v1,v2,v3⟩:=C5z.cs;have OI5z:=own_other (i:=3) (v:=.slice ip5 ni5 ic5) OI5 C45.out (by decide);have OK5z:=own_other (i:=3) (v:=.slice ip5 ni5 ic5) OK5 C45.out (by decide);have OV5z:=own_other (i:=3) (v:=.slice ip5 ni5 ic5) OV5 C45.out (by decide);have HRk:=replK (i:=fr) (j:=te) OK5z kz5.size (by have:=HT1.out;omega) (by have:=HT1.out;have:=HN.out;omega) (by have:=HT1.out;omega) (by have:=HN.out;omega) (OKy.kept kz5) (PR.len HR.out).2.2 (fun b e=>Nat.ne_of_lt (Nat.lt_of_lt_of_le (own_lt OKy e) (OK4.nw gk 0 none rfl))) hkq)
  | (go_at_call 90;(with_reducible refine HRk.mono ?_);rintro e w6 ⟨kp6,nk6,kc6,rfl,OK6,g6⟩;have tK:=own_ty OK5z (e':=3) (by decide);have tK2:=own_ty OK5z (e':=52) (by decide);have tK3:=own_ty OK5z (e':=33) (by decide);have C56:=c4_grown C5z g6 tK2;have OI6:=own_grown OI5z g6 tK;have OV6:=own_grown OV5z g6 tK3;have k36:Kept w3 w6:=N.grown_kept (B:=w3.heap.size) w3 kz5 g6 (Nat.le_refl _) (fun k e=>by cases e;exact OK4.nw gk 0 none rfl);have kz6:Kept w3 (w6.setCell ⟨w4.heap.size,1,none⟩ (.slice kp6 nk6 kc6)):=k36.set (a:=⟨w4.heap.size,1,none⟩) k4.size _;obtain⟨p0,p1,p2,p3⟩:=C56.cs;have pf:=frozen_of_row w6 w4.heap.size 1 _ _ C56.out;have C6z:C4 (w6.setCell ⟨w4.heap.size,1,none⟩ (.slice kp6 nk6 kc6)) w4.heap.size 52 (.bool false) (.slice kp6 nk6 kc6) (.slice vp4 snv vc4) (.slice ip5 ni5 ic5):=C4.mk (by rw[heap_setCell_same _ w4.heap.size 1 _ _ _ C56.out];rfl);obtain⟨q0,q1,q2,q3⟩:=C6z.cs;have OI6z:=own_other (i:=1) (v:=.slice kp6 nk6 kc6) OI6 C56.out (by decide);have OK6z:=own_other (i:=1) (v:=.slice kp6 nk6 kc6) OK6 C56.out (by decide);have OV6z:=own_other (i:=1) (v:=.slice kp6 nk6 kc6) OV6 C56.out (by decide);have R6:C4 (w6.setCell ⟨w4.heap.size,1,none⟩ (.slice kp6 nk6 kc6)) (w.heap.size+1+1) 52 (.bool false) (.slice none 0 0) (.slice none 0 0) (.slice none 0 0):=C4.mk (kz6.block Q6);obtain⟨⟨h0,i0⟩,⟨h1,i1⟩,⟨h2,i2⟩,⟨h3,i3⟩,hfinal⟩:=N.ready4 R6.out (.bool false) (.slice kp6 nk6 kc6) (.slice vp4 snv vc4) (.slice ip5 ni5 ic5)))
 have othF:∀ k,k≠w.heap.size+1+1→(((((w6.setCell ⟨w4.heap.size,1,none⟩ (.slice kp6 nk6 kc6)).setCell ⟨w.heap.size+1+1,0,none⟩ (.bool false)).setCell ⟨w.heap.size+1+1,1,none⟩ (.slice kp6 nk6 kc6)).setCell ⟨w.heap.size+1+1,2,none⟩ (.slice vp4 snv vc4)).setCell ⟨w.heap.size+1+1,3,none⟩ (.slice ip5 ni5 ic5)).heap[k]? = (w6.setCell ⟨w4.heap.size,1,none⟩ (.slice kp6 nk6 kc6)).heap[k]?:=fun k hk=>N.others4 _ hk _ _ _ _
 have r1:NV (w6.setCell ⟨w4.heap.size,1,none⟩ (.slice kp6 nk6 kc6)) false kp6 nk6 kc6 vp4 snv vc4 ip5 ni5 ic5 (abv x fr te (ns.map fun n:Nat=>(n:Int)) KK):=by
  refine⟨rfl,OK6z.rw,?_,?_,OK6z.rx,OV6z.rx,OI6z.rx⟩
  ·have:=OV6z.rw;rw[HN.out.2.2.2.1]at this;exact this
  ·have:=OI6z.rw;rw[HT1.out.2.2.2.1]at this;exact this
 have r2:=r1.other R6 othF
 have r3:=cat_same (C3.kept kz6) R6.out (by decide) othF
 have r4:=own_same (O3.kept kz6) R6.out (by decide) othF
 have r5:Pv B (((((w6.setCell ⟨w4.heap.size,1,none⟩ (.slice kp6 nk6 kc6)).setCell ⟨w.heap.size+1+1,0,none⟩ (.bool false)).setCell ⟨w.heap.size+1+1,1,none⟩ (.slice kp6 nk6 kc6)).setCell ⟨w.heap.size+1+1,2,none⟩ (.slice vp4 snv vc4)).setCell ⟨w.heap.size+1+1,3,none⟩ (.slice ip5 ni5 ic5)) p m M':=(V3.kept kz6).ap (Ap.other R6.out (by decide) (fun k o hk hne=>(othF k hne).trans hk))
 have r6:Lx B c (blk jp) w (((((w6.setCell ⟨w4.heap.size,1,none⟩ (.slice kp6 nk6 kc6)).setCell ⟨w.heap.size+1+1,0,none⟩ (.bool false)).setCell ⟨w.heap.size+1+1,1,none⟩ (.slice kp6 nk6 kc6)).setCell ⟨w.heap.size+1+1,2,none⟩ (.slice vp4 snv vc4)).setCell ⟨w.heap.size+1+1,3,none⟩ (.slice ip5 ni5 ic5)):=(L3.out.kept kz6 HK.out.2.2.2.1).oth (z:=w.heap.size+1+1) (by omega) HK.out.2.2.2.1 (zero4 _ _ _ _ _ _) othF
 have r7:Apt c (blk jp) ip5:=by
  intro b off ph e
  have a1:=OI5.nw b off ph e
  have a2:=(Array.getElem?_eq_some_iff.1 C3.out).1
  refine⟨by omega,fun e2=>?_⟩
  obtain⟨cs',fr',e3⟩:=(jt_of C3 O3).j b e2
  have:=(Array.getElem?_eq_some_iff.1 e3).1
  omega
 generalize (((((w6.setCell ⟨w4.heap.size,1,none⟩ (.slice kp6 nk6 kc6)).setCell ⟨w.heap.size+1+1,0,none⟩ (.bool false)).setCell ⟨w.heap.size+1+1,1,none⟩ (.slice kp6 nk6 kc6)).setCell ⟨w.heap.size+1+1,2,none⟩ (.slice vp4 snv vc4)).setCell ⟨w.heap.size+1+1,3,none⟩ (.slice ip5 ni5 ic5))=WF at *
 refine bodyPost_ret (v:=.tuple #[.agg #[.bool false,.slice kp6 nk6 kc6,.slice vp4 snv vc4,.slice ip5 ni5 ic5],.int .i64 0]) ?_ rfl ⟨_,_,_,_,_,_,_,_,_,_,_,rfl,r2,r3,r4,r7,r5,r6⟩
 exact N.results_two (p:=6) (u:=7) (ty:=52) rfl _ _ (w.heap.size+1+1) 52 #[.bool false,.slice kp6 nk6 kc6,.slice vp4 snv vc4,.slice ip5 ni5 ic5] (0,0) _ rfl hfinal Tryz.underlying52 rfl N.size52
set_option linter.unusedSimpArgs false in
set_option maxRecDepth 100000 in
set_option maxHeartbeats 4000000 in
theorem lift_self_err {B:Nat} {w:World} {c t p m K nj jc d:Nat} {jp:Option Addr} {J:List Int} {root page:Int} {M M':Pm} (hC:CAt w c t (.slice jp nj jc)) (hJ:Own w K 3 1 jp nj jc (icl J)) (hK:K≤w.heap.size) (hBK:B≤K) (hKc:K≤c) (hB:B≤w.heap.size) (hB0:0<B) (hL:S.Lds w) (hT:TAt w t p root) (hV:Pv B w p m M)
  {l:Bool} {skb sko snk skc:Nat} {svp:Option Addr} {snv svc sib sio sni sic fr tt:Nat} {x:Nd} (hs:NV w false (some ⟨skb,sko,none⟩) snk skc svp snv svc (some ⟨sib,sio,none⟩) sni sic x) (gx:N.Good x) (hx2:2≤sni) (hti:tt≤sni)
  {nkp:Option Addr} {nnk nkc:Nat} {nvp:Option Addr} {nnv nvc:Nat} {nip:Option Addr} {nni nic:Nat} {y:Nd} (hy:NV w l nkp nnk nkc nvp nnv nvc nip nni nic y) (gy:N.Good y) (hlow:¬ y.put.length<79) (htt:tt=fr+1) (wf:WfN M d y) (hb:y.put.length≤(if d=0 then 352 else 380)) (hR:PE M m y M') :
  Calls Tryz.prog 56 #[.pointer (some ⟨c,0,none⟩),.agg #[.int .i64 page,.bool false,.slice (some ⟨skb,sko,none⟩) snk skc,.slice svp snv svc,.slice (some ⟨sib,sio,none⟩) sni sic,.int .i64 (fr:Nat)],.agg #[.bool l,.slice nkp nnk nkc,.slice nvp nnv nvc,.slice nip nni nic]] w fun e w'=>e=.returned (.tuple #[.agg #[.bool false,.slice none 0 0,.slice none 0 0,.slice none 0 0],.int .i64 80])∧Pv B w' p m M'∧Lx B c (blk jp) w w':=by
 have K0:Kept w (((w.alloc (.cells #[.int .i64 page,.bool false,.slice (some ⟨skb,sko,none⟩) snk skc,.slice svp snv svc,.slice (some ⟨sib,sio,none⟩) sni sic,.int .i64 (fr:Nat)] 113)).alloc (.cells #[.bool l,.slice nkp nnk nkc,.slice nvp nnv nvc,.slice nip nni nic] 52)).alloc (.cells #[.bool false,.slice none 0 0,.slice none 0 0,.slice none 0 0] 52)):=(((Kept.refl w).alloc _).alloc _).alloc _
 have S4:(((w.alloc (.cells #[.int .i64 page,.bool false,.slice (some ⟨skb,sko,none⟩) snk skc,.slice svp snv svc,.slice (some ⟨sib,sio,none⟩) sni sic,.int .i64 (fr:Nat)] 113)).alloc (.cells #[.bool l,.slice nkp nnk nkc,.slice nvp nnv nvc,.slice nip nni nic] 52)).alloc (.cells #[.bool false,.slice none 0 0,.slice none 0 0,.slice none 0 0] 52)).heap[w.heap.size]? = some (.cells #[.int .i64 page,.bool false,.slice (some ⟨skb,sko,none⟩) snk skc,.slice svp snv svc,.slice (some ⟨sib,sio,none⟩) sni sic,.int .i64 (fr:Nat)] 113):=((((Kept.refl _).alloc _).alloc _)).block (heap_alloc_new w _)
 have S5:(((w.alloc (.cells #[.int .i64 page,.bool false,.slice (some ⟨skb,sko,none⟩) snk skc,.slice svp snv svc,.slice (some ⟨sib,sio,none⟩) sni sic,.int .i64 (fr:Nat)] 113)).alloc (.cells #[.bool l,.slice nkp nnk nkc,.slice nvp nnv nvc,.slice nip nni nic] 52)).alloc (.cells #[.bool false,.slice none 0 0,.slice none 0 0,.slice none 0 0] 52)).heap[w.heap.size+1]? = some (.cells #[.bool l,.slice nkp nnk nkc,.slice nvp nnv nvc,.slice nip nni nic] 52):=((Kept.refl _).alloc _).block (D.two_new w _ _)
 have S6:(((w.alloc (.cells #[.int .i64 page,.bool false,.slice (some ⟨skb,sko,none⟩) snk skc,.slice svp snv svc,.slice (some ⟨sib,sio,none⟩) sni sic,.int .i64 (fr:Nat)] 113)).alloc (.cells #[.bool l,.slice nkp nnk nkc,.slice nvp nnv nvc,.slice nip nni nic] 52)).alloc (.cells #[.bool false,.slice none 0 0,.slice none 0 0,.slice none 0 0] 52)).heap[w.heap.size+1+1]? = some (.cells #[.bool false,.slice none 0 0,.slice none 0 0,.slice none 0 0] 52):=three_new w _ _ _
 obtain⟨fk,fv,fi⟩:=good_few hs gx
 have hxl:x.leaf=false:=hs.hl
 have eni:=hs.ni
 have enk:=hs.nk
 have eli:=(gx.li hxl).1
 have evs:=(gx.li hxl).2
 have e1:IntKind.i64.wrap ((fr:Int)+1)=(tt:Int):=by rw[IntKind.wrap_i64];omega
 obtain⟨te,hte⟩:∃ te,te=tt-1:=⟨_,rfl⟩
 have e4:IntKind.i64.wrap ((tt:Int)-1)=(te:Int):=by rw[IntKind.wrap_i64];omega
 have HT1:Hid (fr≤te∧te<tt∧tt≤fr+2∧tt=te+1∧tt≤sni∧fr<sni):=⟨by omega,by omega,by omega,by omega,by omega,by omega⟩
 have HC:Hid (CAt w c t (.slice jp nj jc)):=hC
 have HJ:Hid (Own w K 3 1 jp nj jc (icl J)):=hJ
 have HK:Hid (K≤w.heap.size∧B≤K∧K≤c∧B≤w.heap.size∧0<B):=⟨hK,hBK,hKc,hB,hB0⟩
 have HL:Hid (S.Lds w):=hL
 have HT:Hid (TAt w t p root):=hT
 have HV:Hid (Pv B w p m M):=hV
 have HX:Hid (NV w false (some ⟨skb,sko,none⟩) snk skc svp snv svc (some ⟨sib,sio,none⟩) sni sic x):=hs
 have HGX:Hid (N.Good x):=gx
 have HY:Hid (NV w l nkp nnk nkc nvp nnv nvc nip nni nic y):=hy
 have HGY:Hid (N.Good y):=gy
 have HWF:Hid (WfN M d y∧y.put.length≤(if d=0 then 352 else 380)):=⟨wf,hb⟩
 have HR:Hid (PE M m y M'):=hR
 have HN:Hid (x.ks.length=snk∧x.is.length=sni∧sni=snk+1∧x.vs=[]∧snk≤120∧snv≤120∧2≤sni):=⟨enk,eni,by omega,evs,fk,fv,hx2⟩
 have HTt:Hid (Jt w c (blk jp)):=jt_of hC hJ
 have HLo:Hid (∀ W,Kept w W→Calls Tryz.prog 85 #[.agg #[.bool l,.slice nkp nnk nkc,.slice nvp nnv nvc,.slice nip nni nic]] W fun e w'=>e=.returned (.bool false)∧Kept W w'):=fun W k=>by have:=N.low_walk (hy.kept k) gy;rwa [decide_eq_false hlow]at this
 obtain⟨s0,s1,s2,s3,s4,s5⟩:=cells6 S4
 clear hC hJ hK hBK hKc hB hB0 hL hT hV hs gx hx2 hti hy gy wf hb hR fk fv fi hxl eni enk eli evs htt hte hlow
 go_enter Tryz.func56,Tryz.ntmps56
 go_wp2
 go_quiet (fail)
 obtain⟨W,hW⟩:∃ W,(((w.alloc (.cells #[.int .i64 page,.bool false,.slice (some ⟨skb,sko,none⟩) snk skc,.slice svp snv svc,.slice (some ⟨sib,sio,none⟩) sni sic,.int .i64 (fr:Nat)] 113)).alloc (.cells #[.bool l,.slice nkp nnk nkc,.slice nvp nnv nvc,.slice nip nni nic] 52)).alloc (.cells #[.bool false,.slice none 0 0,.slice none 0 0,.slice none 0 0] 52)).drewN nq=W:=⟨_,rfl⟩
 have KW:Kept w W:=by rw[← hW];exact K0.drewN nq
 have S4W:W.heap[w.heap.size]? = some (.cells #[.int .i64 page,.bool false,.slice (some ⟨skb,sko,none⟩) snk skc,.slice svp snv svc,.slice (some ⟨sib,sio,none⟩) sni sic,.int .i64 (fr:Nat)] 113):=by rw[← hW];exact S4
 have S5W:W.heap[w.heap.size+1]? = some (.cells #[.bool l,.slice nkp nnk nkc,.slice nvp nnv nvc,.slice nip nni nic] 52):=by rw[← hW];exact S5
 have S6W:W.heap[w.heap.size+1+1]? = some (.cells #[.bool false,.slice none 0 0,.slice none 0 0,.slice none 0 0] 52):=by rw[← hW];exact S6
 rw[hW]
 clear hW S4 S5 S6 K0 s0 s1 s2 s3 s4 s5
 obtain⟨s0,s1,s2,s3,s4,s5⟩:=cells6 S4W
 obtain⟨y0,y1,y2,y3⟩:=(C4.mk S5W).cs
 go_wp2_with (first
  | (go_at_call 85;(with_reducible refine (HLo.out _ KW).mono ?_);rintro e w1 ⟨rfl,k1⟩;have K1:=KW.trans k1;have P4:=k1.block S4W;have P5:=k1.block S5W;have P6:=k1.block S6W;obtain⟨s0,s1,s2,s3,s4,s5⟩:=cells6 P4;obtain⟨y0,y1,y2,y3⟩:=(C4.mk P5).cs;have LP:Hid (Lx B c (blk jp) w w1):=Lx.ofKept K1 HK.out.2.2.2.1;have CP:=HC.out.kept K1;have OP:=HJ.out.kept K1;have HPut:=put_err CP (HT.out.kept K1) (HV.out.kept K1) (Nat.le_trans HK.out.2.2.2.1 K1.size) (lds_kept HL.out K1) HK.out.2.2.2.2 (HY.out.kept K1) HWF.out.1 HWF.out.2 HR.out;have XP:=HX.out.kept K1;clear HLo)
  | (go_at_call 87;(with_reducible refine HPut.mono ?_);rintro e w3 ⟨rfl,V3,o3⟩;have Q6:=o3.rows _ _ _ _ P6 calm52;have L3:Hid (Lx B c (blk jp) w w3):=LP.out.on o3;have R6:C4 w3 (w.heap.size+1+1) 52 (.bool false) (.slice none 0 0) (.slice none 0 0) (.slice none 0 0):=C4.mk Q6;obtain⟨⟨h0,i0⟩,⟨h1,i1⟩,⟨h2,i2⟩,⟨h3,i3⟩,hfinal⟩:=N.ready4 R6.out (.bool false) (.slice none 0 0) (.slice none 0 0) (.slice none 0 0)))
 have othF:∀ k,k≠w.heap.size+1+1→((((w3.setCell ⟨w.heap.size+1+1,0,none⟩ (.bool false)).setCell ⟨w.heap.size+1+1,1,none⟩ (.slice none 0 0)).setCell ⟨w.heap.size+1+1,2,none⟩ (.slice none 0 0)).setCell ⟨w.heap.size+1+1,3,none⟩ (.slice none 0 0)).heap[k]? = w3.heap[k]?:=fun k hk=>N.others4 _ hk _ _ _ _
 have r5:Pv B ((((w3.setCell ⟨w.heap.size+1+1,0,none⟩ (.bool false)).setCell ⟨w.heap.size+1+1,1,none⟩ (.slice none 0 0)).setCell ⟨w.heap.size+1+1,2,none⟩ (.slice none 0 0)).setCell ⟨w.heap.size+1+1,3,none⟩ (.slice none 0 0)) p m M':=V3.ap (Ap.other R6.out (by decide) (fun k o hk hne=>(othF k hne).trans hk))
 have r6:Lx B c (blk jp) w ((((w3.setCell ⟨w.heap.size+1+1,0,none⟩ (.bool false)).setCell ⟨w.heap.size+1+1,1,none⟩ (.slice none 0 0)).setCell ⟨w.heap.size+1+1,2,none⟩ (.slice none 0 0)).setCell ⟨w.heap.size+1+1,3,none⟩ (.slice none 0 0)):=L3.out.oth (z:=w.heap.size+1+1) (by omega) HK.out.2.2.2.1 (zero4 _ _ _ _ _ _) othF
 generalize ((((w3.setCell ⟨w.heap.size+1+1,0,none⟩ (.bool false)).setCell ⟨w.heap.size+1+1,1,none⟩ (.slice none 0 0)).setCell ⟨w.heap.size+1+1,2,none⟩ (.slice none 0 0)).setCell ⟨w.heap.size+1+1,3,none⟩ (.slice none 0 0))=WF at *
 refine bodyPost_ret (v:=.tuple #[.agg #[.bool false,.slice none 0 0,.slice none 0 0,.slice none 0 0],.int .i64 80]) ?_ rfl ⟨rfl,r5,r6⟩
 exact N.results_two (p:=6) (u:=7) (ty:=52) rfl _ _ (w.heap.size+1+1) 52 #[.bool false,.slice none 0 0,.slice none 0 0,.slice none 0 0] (0,0) _ rfl hfinal Tryz.underlying52 rfl N.size52
set_option linter.unusedSimpArgs false in
set_option maxRecDepth 100000 in
set_option maxHeartbeats 4000000 in
theorem lift_first_ok {B:Nat} {w:World} {c t p m K nj jc d:Nat} {jp:Option Addr} {J:List Int} {root page:Int} {M M':Pm} (hC:CAt w c t (.slice jp nj jc)) (hJ:Own w K 3 1 jp nj jc (icl J)) (hnj:nj≤1000) (hK:K≤w.heap.size) (hBK:B≤K) (hKc:K≤c) (hB:B≤w.heap.size) (hB0:0<B) (hL:S.Lds w) (hT:TAt w t p root) (hV:Pv B w p m M)
  {l:Bool} {skb sko snk skc:Nat} {svp:Option Addr} {snv svc sib sio sni sic kid fr tt:Nat} {x:Nd} (hs:NV w false (some ⟨skb,sko,none⟩) snk skc svp snv svc (some ⟨sib,sio,none⟩) sni sic x) (gx:N.Good x) (hx2:2≤sni) (has:Apt c (blk jp) (some ⟨sib,sio,none⟩)) (hti:tt≤sni)
  {nkp:Option Addr} {nnk nkc:Nat} {nvp:Option Addr} {nnv nvc:Nat} {nip:Option Addr} {nni nic:Nat} {y:Nd} (hy:NV w l nkp nnk nkc nvp nnv nvc nip nni nic y) (hay:Apt c (blk jp) nip) (gy:N.Good y) (hlow:y.put.length<79) (htt:tt=fr+2) (hkid:kid=0) (hfr:fr=0) {pg:Nat} {key:ByteArray} {beside:Nd} {q0:Int} (h0:x.is[fr]? = some q0) (hpg:x.is[fr+1]? = some (pg:Int)) (hkey:x.ks[fr]? = some key) (hM:M pg=some beside) (gb:N.Good beside) (ub:Up beside.ks) (hbl:beside.leaf=l) {ns:List Nat} {KK:List ByteArray} (wf:WfN M d (jn y key beside)) (hb:(jn y key beside).put.length≤(if d=0 then 352 else 380)) (hR:PR M m (jn y key beside) M' ns KK) :
  Calls Tryz.prog 56 #[.pointer (some ⟨c,0,none⟩),.agg #[.int .i64 page,.bool false,.slice (some ⟨skb,sko,none⟩) snk skc,.slice svp snv svc,.slice (some ⟨sib,sio,none⟩) sni sic,.int .i64 (kid:Nat)],.agg #[.bool l,.slice nkp nnk nkc,.slice nvp nnv nvc,.slice nip nni nic]] w fun e w'=>∃ kp nk kc vp nv vc ip ni ic jp' jc',e=.returned (.tuple #[.agg #[.bool false,.slice kp nk kc,.slice vp nv vc,.slice ip ni ic],.int .i64 0])∧NV w' false kp nk kc vp nv vc ip ni ic (abv x fr (tt-1) (ns.map fun n:Nat=>(n:Int)) KK)∧CAt w' c t (.slice jp' (nj+1) jc')∧Own w' K 3 1 jp' (nj+1) jc' (icl (J++[(pg:Int)]))∧Apt c (blk jp') ip∧Pv B w' p m M'∧Lx B c (blk jp) w w':=by
 have K0:Kept w (((w.alloc (.cells #[.int .i64 page,.bool false,.slice (some ⟨skb,sko,none⟩) snk skc,.slice svp snv svc,.slice (some ⟨sib,sio,none⟩) sni sic,.int .i64 (kid:Nat)] 113)).alloc (.cells #[.bool l,.slice nkp nnk nkc,.slice nvp nnv nvc,.slice nip nni nic] 52)).alloc (.cells #[.bool false,.slice none 0 0,.slice none 0 0,.slice none 0 0] 52)):=(((Kept.refl w).alloc _).alloc _).alloc _
 have S4:(((w.alloc (.cells #[.int .i64 page,.bool false,.slice (some ⟨skb,sko,none⟩) snk skc,.slice svp snv svc,.slice (some ⟨sib,sio,none⟩) sni sic,.int .i64 (kid:Nat)] 113)).alloc (.cells #[.bool l,.slice nkp nnk nkc,.slice nvp nnv nvc,.slice nip nni nic] 52)).alloc (.cells #[.bool false,.slice none 0 0,.slice none 0 0,.slice none 0 0] 52)).heap[w.heap.size]? = some (.cells #[.int .i64 page,.bool false,.slice (some ⟨skb,sko,none⟩) snk skc,.slice svp snv svc,.slice (some ⟨sib,sio,none⟩) sni sic,.int .i64 (kid:Nat)] 113):=((((Kept.refl _).alloc _).alloc _)).block (heap_alloc_new w _)
 have S5:(((w.alloc (.cells #[.int .i64 page,.bool false,.slice (some ⟨skb,sko,none⟩) snk skc,.slice svp snv svc,.slice (some ⟨sib,sio,none⟩) sni sic,.int .i64 (kid:Nat)] 113)).alloc (.cells #[.bool l,.slice nkp nnk nkc,.slice nvp nnv nvc,.slice nip nni nic] 52)).alloc (.cells #[.bool false,.slice none 0 0,.slice none 0 0,.slice none 0 0] 52)).heap[w.heap.size+1]? = some (.cells #[.bool l,.slice nkp nnk nkc,.slice nvp nnv nvc,.slice nip nni nic] 52):=((Kept.refl _).alloc _).block (D.two_new w _ _)
 have S6:(((w.alloc (.cells #[.int .i64 page,.bool false,.slice (some ⟨skb,sko,none⟩) snk skc,.slice svp snv svc,.slice (some ⟨sib,sio,none⟩) sni sic,.int .i64 (kid:Nat)] 113)).alloc (.cells #[.bool l,.slice nkp nnk nkc,.slice nvp nnv nvc,.slice nip nni nic] 52)).alloc (.cells #[.bool false,.slice none 0 0,.slice none 0 0,.slice none 0 0] 52)).heap[w.heap.size+1+1]? = some (.cells #[.bool false,.slice none 0 0,.slice none 0 0,.slice none 0 0] 52):=three_new w _ _ _
 obtain⟨fk,fv,fi⟩:=good_few hs gx
 have hxl:x.leaf=false:=hs.hl
 have eni:=hs.ni
 have enk:=hs.nk
 have eli:=(gx.li hxl).1
 have evs:=(gx.li hxl).2
 have e1:IntKind.i64.wrap ((kid:Int)+1)=(kid+1:Int):=by rw[IntKind.wrap_i64];omega
 have e2:IntKind.i64.wrap ((fr:Int)+2)=(tt:Int):=by rw[IntKind.wrap_i64];omega
 have e3:(1:Int)<(sni:Int):=by omega
 obtain⟨te,hte⟩:∃ te,te=tt-1:=⟨_,rfl⟩
 have e4:IntKind.i64.wrap ((tt:Int)-1)=(te:Int):=by rw[IntKind.wrap_i64];omega
 rw[← hte]
 have HT1:Hid (fr≤te∧te<tt∧tt≤fr+2∧tt=te+1∧tt≤sni∧fr<sni):=⟨by omega,by omega,by omega,by omega,by omega,by omega⟩
 have HC:Hid (CAt w c t (.slice jp nj jc)):=hC
 have HJ:Hid (Own w K 3 1 jp nj jc (icl J)):=hJ
 have HK:Hid (K≤w.heap.size∧B≤K∧K≤c∧B≤w.heap.size∧0<B):=⟨hK,hBK,hKc,hB,hB0⟩
 have HL:Hid (S.Lds w):=hL
 have HT:Hid (TAt w t p root):=hT
 have HV:Hid (Pv B w p m M):=hV
 have HX:Hid (NV w false (some ⟨skb,sko,none⟩) snk skc svp snv svc (some ⟨sib,sio,none⟩) sni sic x):=hs
 have HGX:Hid (N.Good x):=gx
 have HY:Hid (NV w l nkp nnk nkc nvp nnv nvc nip nni nic y):=hy
 have HGY:Hid (N.Good y):=gy
 have HWF:Hid (WfN M d (jn y key beside)∧(jn y key beside).put.length≤(if d=0 then 352 else 380)):=⟨wf,hb⟩
 have HR:Hid (PR M m (jn y key beside) M' ns KK):=hR
 have HN:Hid (x.ks.length=snk∧x.is.length=sni∧sni=snk+1∧x.vs=[]∧snk≤120∧snv≤120∧2≤sni):=⟨enk,eni,by omega,evs,fk,fv,hx2⟩
 have HTt:Hid (Jt w c (blk jp)):=jt_of hC hJ
 have HAS:Hid (Apt c (blk jp) (some ⟨sib,sio,none⟩)):=has
 have HAY:Hid (Apt c (blk jp) nip):=hay
 have HLo:Hid (∀ W,Kept w W→Calls Tryz.prog 85 #[.agg #[.bool l,.slice nkp nnk nkc,.slice nvp nnv nvc,.slice nip nni nic]] W fun e w'=>e=.returned (.bool true)∧Kept W w'):=fun W k=>by have:=N.low_walk (hy.kept k) gy;rwa [decide_eq_true hlow]at this
 have HJo:Hid (∀ W,Kept w W→Calls Tryz.prog 86 #[.pointer (some ⟨c,0,none⟩),.agg #[.int .i64 page,.bool false,.slice (some ⟨skb,sko,none⟩) snk skc,.slice svp snv svc,.slice (some ⟨sib,sio,none⟩) sni sic,.int .i64 (kid:Nat)],.int .i64 (fr:Nat),.agg #[.bool l,.slice nkp nnk nkc,.slice nvp nnv nvc,.slice nip nni nic]] W fun e w'=>∃ kp nk kc vp nv vc ip ni ic jp' jc',e=.returned (.tuple #[.agg #[.bool l,.slice kp nk kc,.slice vp nv vc,.slice ip ni ic],.int .i64 0])∧NV w' l kp nk kc vp nv vc ip ni ic (jn y key beside)∧CAt w' c t (.slice jp' (nj+1) jc')∧Own w' K 3 1 jp' (nj+1) jc' (icl (J++[(pg:Int)]))∧Jx c (blk jp) W w'):=fun W k=>by
  rw[show (kid:Nat)=fr by omega]
  exact join_first (hC.kept k) (hJ.kept k) hnj (Nat.le_trans hK k.size) (hT.kept k) (hV.kept k) (hs.kept k) has (hy.kept k) hay gy h0 hpg hkey (by omega) hM gb ub hbl
 obtain⟨qq,hqq⟩:∃ qq:Int,qq=-1:=⟨_,rfl⟩
 have e5:IntKind.i64.wrap ((kid:Int)-1)=qq:=by rw[IntKind.wrap_i64];omega
 have e6:max qq 0=(fr:Int):=by omega
 obtain⟨s0,s1,s2,s3,s4,s5⟩:=cells6 S4
 clear hC hJ hK hBK hKc hB hB0 hL hT hV hs gx hx2 hti hy gy wf hb hR fk fv fi hxl eni enk eli evs htt hte hlow hnj has hay hpg hkey hM gb ub hbl h0 hkid hfr hqq
 go_enter Tryz.func56,Tryz.ntmps56
 go_wp2
 go_quiet (fail)
 obtain⟨W,hW⟩:∃ W,(((w.alloc (.cells #[.int .i64 page,.bool false,.slice (some ⟨skb,sko,none⟩) snk skc,.slice svp snv svc,.slice (some ⟨sib,sio,none⟩) sni sic,.int .i64 (kid:Nat)] 113)).alloc (.cells #[.bool l,.slice nkp nnk nkc,.slice nvp nnv nvc,.slice nip nni nic] 52)).alloc (.cells #[.bool false,.slice none 0 0,.slice none 0 0,.slice none 0 0] 52)).drewN nq=W:=⟨_,rfl⟩
 have KW:Kept w W:=by rw[← hW];exact K0.drewN nq
 have S4W:W.heap[w.heap.size]? = some (.cells #[.int .i64 page,.bool false,.slice (some ⟨skb,sko,none⟩) snk skc,.slice svp snv svc,.slice (some ⟨sib,sio,none⟩) sni sic,.int .i64 (kid:Nat)] 113):=by rw[← hW];exact S4
 have S5W:W.heap[w.heap.size+1]? = some (.cells #[.bool l,.slice nkp nnk nkc,.slice nvp nnv nvc,.slice nip nni nic] 52):=by rw[← hW];exact S5
 have S6W:W.heap[w.heap.size+1+1]? = some (.cells #[.bool false,.slice none 0 0,.slice none 0 0,.slice none 0 0] 52):=by rw[← hW];exact S6
 rw[hW]
 clear hW S4 S5 S6 K0 s0 s1 s2 s3 s4 s5
 obtain⟨s0,s1,s2,s3,s4,s5⟩:=cells6 S4W
 obtain⟨y0,y1,y2,y3⟩:=(C4.mk S5W).cs
 go_wp2_with (first
  | (go_at_call 85;(with_reducible refine (HLo.out _ KW).mono ?_);rintro e w1 ⟨rfl,k1⟩;have K1:=KW.trans k1;have P4:=k1.block S4W;have P5:=k1.block S5W;have P6:=k1.block S6W;obtain⟨s0,s1,s2,s3,s4,s5⟩:=cells6 P4;obtain⟨y0,y1,y2,y3⟩:=(C4.mk P5).cs;clear HLo)
  | (go_at_call 86;(with_reducible refine (HJo.out _ K1).mono ?_);rintro e w2 ⟨akp,ank,akc,avp,anv,avc,aip,ani,aic,jq,jqc,rfl,NA,CA,OA,JA⟩;have JtA:Jt w1 c (blk jp):=jt_of (HC.out.kept K1) (HJ.out.kept K1);have ka:Kept w2 (w2.alloc (.cells #[.bool l,.slice akp ank akc,.slice avp anv avc,.slice aip ani aic] 52)):=(Kept.refl w2).alloc _;have P4a:=ka.block (JA.cells JtA P4 (by decide) (by decide));have P5a:=ka.block (JA.cells JtA P5 (by decide) (by decide));have P6a:=ka.block (JA.cells JtA P6 (by decide) (by decide));have R5:C4 (w2.alloc (.cells #[.bool l,.slice akp ank akc,.slice avp anv avc,.slice aip ani aic] 52)) (w.heap.size+1) 52 (.bool l) (.slice nkp nnk nkc) (.slice nvp nnv nvc) (.slice nip nni nic):=C4.mk P5a;obtain⟨a0,a1,a2,a3⟩:=(C4.alloc w2 52 (.bool l) (.slice akp ank akc) (.slice avp anv avc) (.slice aip ani aic)).cs;obtain⟨⟨g0,f0⟩,⟨g1,f1⟩,⟨g2,f2⟩,⟨g3,f3⟩,hfin⟩:=N.ready4 R5.out (.bool l) (.slice akp ank akc) (.slice avp anv avc) (.slice aip ani aic);have oth:∀ k,k≠w.heap.size+1→(((((w2.alloc (.cells #[.bool l,.slice akp ank akc,.slice avp anv avc,.slice aip ani aic] 52)).setCell ⟨w.heap.size+1,0,none⟩ (.bool l)).setCell ⟨w.heap.size+1,1,none⟩ (.slice akp ank akc)).setCell ⟨w.heap.size+1,2,none⟩ (.slice avp anv avc)).setCell ⟨w.heap.size+1,3,none⟩ (.slice aip ani aic)).heap[k]? = (w2.alloc (.cells #[.bool l,.slice akp ank akc,.slice avp anv avc,.slice aip ani aic] 52)).heap[k]?:=fun k hk=>N.others4 _ hk _ _ _ _;have P4:=(oth (w.heap.size) (by omega)).trans P4a;have P6:=(oth (w.heap.size+1+1) (by omega)).trans P6a;have CP:=cat_same (CA.kept ka) R5.out (by decide) oth;have OP:=own_same (OA.kept ka) R5.out (by decide) oth;have NP:=(NA.kept ka).other R5 oth;have LP:Hid (Lx B c (blk jp) w (((((w2.alloc (.cells #[.bool l,.slice akp ank akc,.slice avp anv avc,.slice aip ani aic] 52)).setCell ⟨w.heap.size+1,0,none⟩ (.bool l)).setCell ⟨w.heap.size+1,1,none⟩ (.slice akp ank akc)).setCell ⟨w.heap.size+1,2,none⟩ (.slice avp anv avc)).setCell ⟨w.heap.size+1,3,none⟩ (.slice aip ani aic))):=(((Lx.ofKept K1 HK.out.2.2.2.1).trans (Lx.ofJx JA (Nat.le_trans HK.out.2.2.2.1 K1.size) (Nat.le_trans HK.out.2.1 HK.out.2.2.1) (fun b e=>by obtain⟨_,_⟩:=own_blk (HJ.out.kept K1) b (by cases jp with | none=>cases e | some a=>exact e);exact Nat.le_trans HK.out.2.1 (by assumption)))).kept ka HK.out.2.2.2.1).oth (z:=w.heap.size+1) (by omega) HK.out.2.2.2.1 (zero4 _ _ _ _ _ _) oth;have XP:=((JA.nv JtA (HX.out.kept K1) HAS.out).kept ka).other R5 oth;have VP:Pv B (((((w2.alloc (.cells #[.bool l,.slice akp ank akc,.slice avp anv avc,.slice aip ani aic] 52)).setCell ⟨w.heap.size+1,0,none⟩ (.bool l)).setCell ⟨w.heap.size+1,1,none⟩ (.slice akp ank akc)).setCell ⟨w.heap.size+1,2,none⟩ (.slice avp anv avc)).setCell ⟨w.heap.size+1,3,none⟩ (.slice aip ani aic)) p m M:=(((HV.out.kept K1).ap (JA.ap JtA)).kept ka).ap (Ap.other R5.out (by decide) (fun k o hk hne=>(oth k hne).trans hk));have HPut:=put_ok CP (LP.out.tat HTt.out HT.out) VP (Nat.le_trans HK.out.2.2.2.1 LP.out.size) (G.lds_on HL.out LP.out.below HK.out.2.2.2.2) HK.out.2.2.2.2 NP HWF.out.1 HWF.out.2 HR.out;obtain⟨s0,s1,s2,s3,s4,s5⟩:=cells6 P4;obtain⟨y0,y1,y2,y3⟩:=(C4.mk hfin).cs;clear HJo)
  | (go_at_call 87;(with_reducible refine HPut.mono ?_);rintro e w3 ⟨pp,pc,kq,kqc,rfl,OPg,OKy,V3,o3,hkq⟩;have Q4:=o3.rows _ _ _ _ P4 calm113;have Q6:=o3.rows _ _ _ _ P6 calm52;obtain⟨s0,s1,s2,s3,s4,s5⟩:=cells6 Q4;have X3:=nv_on o3 XP;have C3:=CP.on o3;have O3:=own_on o3 calm3 OP;have L3:Hid (Lx B c (blk jp) w w3):=LP.out.on o3;have HCp:=N.copy_walk (l:=false) X3.k X3.v X3.i (kcl_ones _) (N.vcl_one _) (icl_ones _) (by have:=HN.out;omega) (by have:=HN.out;omega) (by have:=HN.out;omega))
  | (go_at_call 88;(with_reducible refine HCp.mono ?_);rintro e w4 ⟨kp4,kc4,vp4,vc4,ip4,ic4,rfl,OK4,OV4,OI4,k4⟩;obtain⟨gk,rfl⟩:=OK4.some_of (by have:=HN.out;have:=HT1.out;omega);obtain⟨gi,rfl⟩:=OI4.some_of (by have:=HN.out;have:=HT1.out;omega);have ka4:Kept w4 (w4.alloc (.cells #[.bool false,.slice (some ⟨gk,0,none⟩) snk kc4,.slice vp4 snv vc4,.slice (some ⟨gi,0,none⟩) sni ic4] 52)):=(Kept.refl w4).alloc _;obtain⟨z0,z1,z2,z3⟩:=(C4.alloc w4 52 (.bool false) (.slice (some ⟨gk,0,none⟩) snk kc4) (.slice vp4 snv vc4) (.slice (some ⟨gi,0,none⟩) sni ic4)).cs;have HRi:=replI (i:=fr) (j:=tt) (OI4.kept ka4) (Nat.le_trans k4.size ka4.size) (by have:=HT1.out;omega) (by have:=HT1.out;omega) (by have:=HT1.out;omega) (by have:=HN.out;omega) (OPg.kept (k4.trans ka4)) (PR.len HR.out).1 (PR.len HR.out).2.1 (fun b e=>Nat.ne_of_lt (Nat.lt_of_lt_of_le (own_lt OPg e) (OI4.nw gi 0 none rfl))))
  | (go_at_call 89;(with_reducible refine HRi.mono ?_);rintro e w5 ⟨ip5,ni5,ic5,rfl,OI5,g5⟩;have tI:=own_ty (OI4.kept ka4) (e':=9) (by decide);have tI2:=own_ty (OI4.kept ka4) (e':=52) (by decide);have tI3:=own_ty (OI4.kept ka4) (e':=33) (by decide);have C45:=c4_grown (C4.alloc w4 52 (.bool false) (.slice (some ⟨gk,0,none⟩) snk kc4) (.slice vp4 snv vc4) (.slice (some ⟨gi,0,none⟩) sni ic4)) g5 tI2;have OK5:=own_grown (OK4.kept ka4) g5 tI;have OV5:=own_grown (OV4.kept ka4) g5 tI3;have k35:Kept w3 w5:=N.grown_kept (B:=w3.heap.size) w3 (k4.trans ka4) g5 (Nat.le_refl _) (fun k e=>by cases e;exact OI4.nw gi 0 none rfl);have kz5:Kept w3 (w5.setCell ⟨w4.heap.size,3,none⟩ (.slice ip5 ni5 ic5)):=k35.set (a:=⟨w4.heap.size,3,none⟩) k4.size _;obtain⟨u0,u1,u2,u3⟩:=C45.cs;have uf:=frozen_of_row w5 w4.heap.size 3 _ _ C45.out;have C5z:C4 (w5.setCell ⟨w4.heap.size,3,none⟩ (.slice ip5 ni5 ic5)) w4.heap.size 52 (.bool false) (.slice (some ⟨gk,0,none⟩) snk kc4) (.slice vp4 snv vc4) (.slice ip5 ni5 ic5):=C4.mk (by rw[heap_setCell_same _ w4.heap.size 3 _ _ _ C45.out];rfl);obtain⟨v0,v1,v2,v3⟩:=C5z.cs;have OI5z:=own_other (i:=3) (v:=.slice ip5 ni5 ic5) OI5 C45.out (by decide);have OK5z:=own_other (i:=3) (v:=.slice ip5 ni5 ic5) OK5 C45.out (by decide);have OV5z:=own_other (i:=3) (v:=.slice ip5 ni5 ic5) OV5 C45.out (by decide);have HRk:=replK (i:=fr) (j:=te) OK5z kz5.size (by have:=HT1.out;omega) (by have:=HT1.out;have:=HN.out;omega) (by have:=HT1.out;omega) (by have:=HN.out;omega) (OKy.kept kz5) (PR.len HR.out).2.2 (fun b e=>Nat.ne_of_lt (Nat.lt_of_lt_of_le (own_lt OKy e) (OK4.nw gk 0 none rfl))) hkq)
  | (go_at_call 90;(with_reducible refine HRk.mono ?_);rintro e w6 ⟨kp6,nk6,kc6,rfl,OK6,g6⟩;have tK:=own_ty OK5z (e':=3) (by decide);have tK2:=own_ty OK5z (e':=52) (by decide);have tK3:=own_ty OK5z (e':=33) (by decide);have C56:=c4_grown C5z g6 tK2;have OI6:=own_grown OI5z g6 tK;have OV6:=own_grown OV5z g6 tK3;have k36:Kept w3 w6:=N.grown_kept (B:=w3.heap.size) w3 kz5 g6 (Nat.le_refl _) (fun k e=>by cases e;exact OK4.nw gk 0 none rfl);have kz6:Kept w3 (w6.setCell ⟨w4.heap.size,1,none⟩ (.slice kp6 nk6 kc6)):=k36.set (a:=⟨w4.heap.size,1,none⟩) k4.size _;obtain⟨p0,p1,p2,p3⟩:=C56.cs;have pf:=frozen_of_row w6 w4.heap.size 1 _ _ C56.out;have C6z:C4 (w6.setCell ⟨w4.heap.size,1,none⟩ (.slice kp6 nk6 kc6)) w4.heap.size 52 (.bool false) (.slice kp6 nk6 kc6) (.slice vp4 snv vc4) (.slice ip5 ni5 ic5):=C4.mk (by rw[heap_setCell_same _ w4.heap.size 1 _ _ _ C56.out];rfl);obtain⟨q0,q1,q2,q3⟩:=C6z.cs;have OI6z:=own_other (i:=1) (v:=.slice kp6 nk6 kc6) OI6 C56.out (by decide);have OK6z:=own_other (i:=1) (v:=.slice kp6 nk6 kc6) OK6 C56.out (by decide);have OV6z:=own_other (i:=1) (v:=.slice kp6 nk6 kc6) OV6 C56.out (by decide);have R6:C4 (w6.setCell ⟨w4.heap.size,1,none⟩ (.slice kp6 nk6 kc6)) (w.heap.size+1+1) 52 (.bool false) (.slice none 0 0) (.slice none 0 0) (.slice none 0 0):=C4.mk (kz6.block Q6);obtain⟨⟨h0,i0⟩,⟨h1,i1⟩,⟨h2,i2⟩,⟨h3,i3⟩,hfinal⟩:=N.ready4 R6.out (.bool false) (.slice kp6 nk6 kc6) (.slice vp4 snv vc4) (.slice ip5 ni5 ic5)))
 have othF:∀ k,k≠w.heap.size+1+1→(((((w6.setCell ⟨w4.heap.size,1,none⟩ (.slice kp6 nk6 kc6)).setCell ⟨w.heap.size+1+1,0,none⟩ (.bool false)).setCell ⟨w.heap.size+1+1,1,none⟩ (.slice kp6 nk6 kc6)).setCell ⟨w.heap.size+1+1,2,none⟩ (.slice vp4 snv vc4)).setCell ⟨w.heap.size+1+1,3,none⟩ (.slice ip5 ni5 ic5)).heap[k]? = (w6.setCell ⟨w4.heap.size,1,none⟩ (.slice kp6 nk6 kc6)).heap[k]?:=fun k hk=>N.others4 _ hk _ _ _ _
 have r1:NV (w6.setCell ⟨w4.heap.size,1,none⟩ (.slice kp6 nk6 kc6)) false kp6 nk6 kc6 vp4 snv vc4 ip5 ni5 ic5 (abv x fr te (ns.map fun n:Nat=>(n:Int)) KK):=by
  refine⟨rfl,OK6z.rw,?_,?_,OK6z.rx,OV6z.rx,OI6z.rx⟩
  ·have:=OV6z.rw;rw[HN.out.2.2.2.1]at this;exact this
  ·have:=OI6z.rw;rw[HT1.out.2.2.2.1]at this;exact this
 have r2:=r1.other R6 othF
 have r3:=cat_same (C3.kept kz6) R6.out (by decide) othF
 have r4:=own_same (O3.kept kz6) R6.out (by decide) othF
 have r5:Pv B (((((w6.setCell ⟨w4.heap.size,1,none⟩ (.slice kp6 nk6 kc6)).setCell ⟨w.heap.size+1+1,0,none⟩ (.bool false)).setCell ⟨w.heap.size+1+1,1,none⟩ (.slice kp6 nk6 kc6)).setCell ⟨w.heap.size+1+1,2,none⟩ (.slice vp4 snv vc4)).setCell ⟨w.heap.size+1+1,3,none⟩ (.slice ip5 ni5 ic5)) p m M':=(V3.kept kz6).ap (Ap.other R6.out (by decide) (fun k o hk hne=>(othF k hne).trans hk))
 have r6:Lx B c (blk jp) w (((((w6.setCell ⟨w4.heap.size,1,none⟩ (.slice kp6 nk6 kc6)).setCell ⟨w.heap.size+1+1,0,none⟩ (.bool false)).setCell ⟨w.heap.size+1+1,1,none⟩ (.slice kp6 nk6 kc6)).setCell ⟨w.heap.size+1+1,2,none⟩ (.slice vp4 snv vc4)).setCell ⟨w.heap.size+1+1,3,none⟩ (.slice ip5 ni5 ic5)):=(L3.out.kept kz6 HK.out.2.2.2.1).oth (z:=w.heap.size+1+1) (by omega) HK.out.2.2.2.1 (zero4 _ _ _ _ _ _) othF
 have r7:Apt c (blk jq) ip5:=by
  intro b off ph e
  have a1:=OI5.nw b off ph e
  have a2:=(Array.getElem?_eq_some_iff.1 C3.out).1
  refine⟨by omega,fun e2=>?_⟩
  obtain⟨cs',fr',e3⟩:=(jt_of C3 O3).j b e2
  have:=(Array.getElem?_eq_some_iff.1 e3).1
  omega
 generalize (((((w6.setCell ⟨w4.heap.size,1,none⟩ (.slice kp6 nk6 kc6)).setCell ⟨w.heap.size+1+1,0,none⟩ (.bool false)).setCell ⟨w.heap.size+1+1,1,none⟩ (.slice kp6 nk6 kc6)).setCell ⟨w.heap.size+1+1,2,none⟩ (.slice vp4 snv vc4)).setCell ⟨w.heap.size+1+1,3,none⟩ (.slice ip5 ni5 ic5))=WF at *
 refine bodyPost_ret (v:=.tuple #[.agg #[.bool false,.slice kp6 nk6 kc6,.slice vp4 snv vc4,.slice ip5 ni5 ic5],.int .i64 0]) ?_ rfl ⟨_,_,_,_,_,_,_,_,_,_,_,rfl,r2,r3,r4,r7,r5,r6⟩
 exact N.results_two (p:=6) (u:=7) (ty:=52) rfl _ _ (w.heap.size+1+1) 52 #[.bool false,.slice kp6 nk6 kc6,.slice vp4 snv vc4,.slice ip5 ni5 ic5] (0,0) _ rfl hfinal Tryz.underlying52 rfl N.size52
end Go.Proofs.YtncfpjccfmolgaaGreatDoor.T