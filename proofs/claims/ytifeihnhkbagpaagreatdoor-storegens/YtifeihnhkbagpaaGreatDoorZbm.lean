/- Joined. -/
import Derived.Test.YtifeihnhkbagpaaGreatDoorZbl
set_option maxRecDepth 100000
set_option maxHeartbeats 8000000
namespace Go.Proofs.YtifeihnhkbagpaaGreatDoor.T
open ChangeShapes WideShapes ChangeAt RowKit
open B (ig fF fm Pm pt kG Stp nI Ext Pn RZ jC us Lv Sg Pf Mk En R upd Tr Tree bN path bF iI iU cA cC got kH Wf)
open N (Nd NV NZ Nw Rw Rx Own Kept dA dQ aO Vl C4 C3 Up blk bP gG jG)
theorem ay{α:Type}(l:List α)(i:Nat)(a:α):l.toArray.setIfInBounds i a=(l.set i a).toArray:=by simp
theorem az{α:Type}(x:α)(l:List α)(a:α):(x :: l).set 0 a=a :: l:=rfl
theorem aA{α:Type}(x:α)(l:List α)(i:Nat)(a:α):(x :: l).set (i+1) a=x :: l.set i a:=rfl
abbrev kR:Oper:={ dst:=none,op:=.store 77 (.tmp 12) (.tmp 45),type:=0,pos:= "btree.go:76",after:=#[⟨10,.data⟩,⟨7,.data⟩,⟨11,.chain⟩,⟨0,.phase⟩,⟨1,.phase⟩,⟨2,.phase⟩,⟨3,.phase⟩,⟨4,.phase⟩,⟨5,.phase⟩,⟨6,.phase⟩,⟨7,.phase⟩,⟨8,.textOnly .lateStores⟩,⟨9,.phase⟩,⟨10,.phase⟩,⟨11,.phase⟩],guard:=none }
abbrev kS:Oper:={ dst:=none,op:=.store 121 (.tmp 11) (.tmp 44),type:=0,pos:= "btree.go:76",after:=#[⟨9,.data⟩,⟨6,.data⟩,⟨4,.chain⟩,⟨0,.phase⟩,⟨1,.phase⟩,⟨2,.phase⟩,⟨3,.phase⟩,⟨4,.phase⟩,⟨5,.phase⟩,⟨6,.phase⟩,⟨7,.textOnly .lateStores⟩,⟨8,.textOnly .lateStores⟩,⟨9,.phase⟩,⟨10,.phase⟩],guard:=none }
abbrev kT:Oper:={ dst:=some 13,op:=.assign (.tmp 46),type:=4,pos:= "btree.go:76",after:=#[⟨8,.data⟩,⟨12,.chain⟩,⟨0,.phase⟩,⟨1,.phase⟩,⟨2,.phase⟩,⟨3,.phase⟩,⟨4,.phase⟩,⟨5,.phase⟩,⟨6,.phase⟩,⟨7,.phase⟩,⟨8,.phase⟩,⟨9,.phase⟩,⟨10,.phase⟩,⟨11,.phase⟩,⟨12,.phase⟩],guard:=none }
abbrev mU:Oper:={ dst:=some 43,op:=.call { callee:=.value (.func 93),args:=#[.tmp 40,.tmp 41,.tmp 42],argTypes:=#[121,9,77] },type:=149,pos:= "btree.go:76",after:=#[⟨1,.data⟩,⟨2,.data⟩,⟨3,.data⟩,⟨1,.chain⟩],guard:=none }
abbrev zn:Oper:={ dst:=some 40,op:=.call { callee:=.value (.func 63),args:=#[.tmp 39],argTypes:=#[116] },type:=121,pos:= "btree.go:76",after:=#[⟨0,.data⟩],guard:=none }
abbrev mV:Oper:={ dst:=some 45,op:=.extract (.tmp 38) 1,type:=77,pos:= "btree.go:76",after:=#[⟨5,.data⟩,⟨11,.gcOnly .lateStores⟩],guard:=none }
abbrev mW:Oper:={ dst:=some 46,op:=.extract (.tmp 38) 2,type:=4,pos:= "btree.go:76",after:=#[⟨5,.data⟩,⟨12,.gcOnly .lateStores⟩],guard:=none }
abbrev mX:Oper:={ dst:=some 44,op:=.extract (.tmp 38) 0,type:=121,pos:= "btree.go:76",after:=#[⟨5,.data⟩],guard:=none }
abbrev mY:Oper:={ dst:=some 38,op:=.move (.tmp 43),type:=149,pos:= "btree.go:76",after:=#[⟨4,.data⟩],guard:=none }
abbrev VV:Oper:={ dst:=some 42,op:=.load 77 (.tmp 5),type:=77,pos:= "btree.go:76",after:=#[],guard:=none }
abbrev Ti:Oper:={ dst:=some 39,op:=.move (.tmp 9),type:=116,pos:= "btree.go:76",after:=#[],guard:=none }
abbrev Tj:Oper:={ dst:=some 41,op:=.move (.tmp 1),type:=9,pos:= "btree.go:76",after:=#[],guard:=none }
abbrev lD:Oper:={ dst:=some 11,op:=.alloc 121,type:=0,pos:= "btree.go:76",after:=#[],guard:=none }
abbrev lF:Oper:={ dst:=some 12,op:=.alloc 77,type:=0,pos:= "btree.go:76",after:=#[],guard:=none }
structure VW (kx B t p:Nat) (m:Xm) (root:Int) (M0:Pm) (ln:List En) (key:ByteArray) (vd:ByteArray) (bO vl':Int) (old:Vl) (ib:Bool) (ks':List ByteArray) (vs':List Vl) (w1:World) (q:Option Addr) (n cap:Nat) (zl:Bool) (sQ:Option Addr) (rQ sS:Nat) (xq:Option Addr) (rR uY:Nat) (zip:Option Addr) (uZ ve:Nat):Prop where
 f3:∀ W,Kept w1 W->Calls Tryz.prog 63 #[.slice q n cap] W fun e w'=>e=.returned (.agg #[.bool zl,.slice sQ rQ sS,.slice xq rR uY,.slice zip uZ ve])/\Kept W w'
 f4:∀ W,Kept w1 W->Calls Tryz.prog 93 #[.agg #[.bool zl,.slice sQ rQ sS,.slice xq rR uY,.slice zip uZ ve],.string key,.agg #[.string vd,.int .i64 bO,.int .i64 vl']] W fun e w'=>∃ kp' mm aY Gr eO,e=.returned (.tuple #[.agg #[.bool true,.slice kp' mm aY,.slice Gr mm eO,.slice none 0 0],.agg #[.string old.d,.int .i64 old.p,.int .i64 old.l],.bool ib])/\Own w' W.heap.size 9 1 kp' mm aY (dA ks')/\Own w' W.heap.size 77 3 Gr mm eO (dQ vs')/\Kept W w'
 f5:∀ W kp' mm aY Gr eO,Kept w1 W->NV W true kp' mm aY Gr mm eO none 0 0 ⟨true,ks',vs',[]⟩->Calls Tryz.prog 86 #[.pointer (some ⟨t,0,none⟩),.slice q n cap,.agg #[.bool true,.slice kp' mm aY,.slice Gr mm eO,.slice none 0 0]] W (Ph kx B t p m root M0 ln W)
structure Pc (w1:World) (old:Vl) (ib:Bool) (ks':List ByteArray) (vs':List Vl) (a b c:Value) (wx:World):Prop where
 out:∃ a9 sK kp' mm aY bO eO,a=.pointer (some ⟨a9,0,none⟩)/\b=.pointer (some ⟨sK,0,none⟩)/\c=.bool ib/\C4 wx a9 121 (.bool true) (.slice kp' mm aY) (.slice bO mm eO) (.slice none 0 0)/\C3 wx sK 77 (.string old.d) (.int .i64 old.p) (.int .i64 old.l)/\NV wx true kp' mm aY bO mm eO none 0 0 ⟨true,ks',vs',[]⟩/\Kept w1 wx
variable {old:Vl}{ib:Bool}{ks':List ByteArray}{vs':List Vl}
theorem pR{w1 wk:World}{a9 sK B1 B2:Nat}{kp':Option Addr}{mm aY:Nat}{bO:Option Addr}{eO:Nat}(hA:wk.heap[a9]? = some (.cells #[.bool false,.slice none 0 0,.slice none 0 0,.slice none 0 0] 121))(hZ:wk.heap[sK]? = some (.cells #[.string ⟨#[]⟩,.int .i64 0,.int .i64 0] 77))(OK:Own wk B1 9 1 kp' mm aY (dA ks'))(OV:Own wk B2 77 3 bO mm eO (dQ vs'))(hB2:sK<B2\/∀ b off ph,bO=some ⟨b,off,ph⟩->b≠sK)(J:Kept w1 wk)(h9:w1.heap.size<=a9)(h10:w1.heap.size<=sK) :
  Pc w1 old ib ks' vs' (.pointer (some ⟨a9,0,none⟩)) (.pointer (some ⟨sK,0,none⟩)) (.bool ib) (((((((wk.setCell ⟨a9,0,none⟩ (.bool true)).setCell ⟨a9,1,none⟩ (.slice kp' mm aY)).setCell ⟨a9,2,none⟩ (.slice bO mm eO)).setCell ⟨a9,3,none⟩ (.slice none 0 0)).setCell ⟨sK,0,none⟩ (.string old.d)).setCell ⟨sK,1,none⟩ (.int .i64 old.p)).setCell ⟨sK,2,none⟩ (.int .i64 old.l)):=by
 have hne:a9≠sK:=by rintro rfl;rw[hA]at hZ;cases hZ
 obtain⟨_,_,_,_,Lb⟩:=N.aD hA (.bool true) (.slice kp' mm aY) (.slice bO mm eO) (.slice none 0 0);have o9:∀ k,k≠a9->((((wk.setCell ⟨a9,0,none⟩ (.bool true)).setCell ⟨a9,1,none⟩ (.slice kp' mm aY)).setCell ⟨a9,2,none⟩ (.slice bO mm eO)).setCell ⟨a9,3,none⟩ (.slice none 0 0)).heap[k]? = wk.heap[k]?:=fun k hk=>N.aG _ hk _ _ _ _
 have k9:Kept w1 ((((wk.setCell ⟨a9,0,none⟩ (.bool true)).setCell ⟨a9,1,none⟩ (.slice kp' mm aY)).setCell ⟨a9,2,none⟩ (.slice bO mm eO)).setCell ⟨a9,3,none⟩ (.slice none 0 0)):=J.bS h9 _ _ _ _;have OK9:=eF OK hA (by decide) o9;have OV9:=eF OV hA (by decide) o9;have hZ9:=(o9 sK (Ne.symm hne)).trans hZ;generalize ((((wk.setCell ⟨a9,0,none⟩ (.bool true)).setCell ⟨a9,1,none⟩ (.slice kp' mm aY)).setCell ⟨a9,2,none⟩ (.slice bO mm eO)).setCell ⟨a9,3,none⟩ (.slice none 0 0))=W9 at *;obtain⟨_,_,_,vN⟩:=N.dw hZ9 (.string old.d) (.int .i64 old.p) (.int .i64 old.l);have o10:∀ k,k≠sK->(((W9.setCell ⟨sK,0,none⟩ (.string old.d)).setCell ⟨sK,1,none⟩ (.int .i64 old.p)).setCell ⟨sK,2,none⟩ (.int .i64 old.l)).heap[k]? = W9.heap[k]?:=fun k hk=>by
  rw[heap_setCell_other _ ⟨sK,2,none⟩ k _ hk,heap_setCell_other _ ⟨sK,1,none⟩ k _ hk,heap_setCell_other _ ⟨sK,0,none⟩ k _ hk]
 have k10:=k9.Aa h10 (.string old.d) (.int .i64 old.p) (.int .i64 old.l);have Yd:=eF OK9 hZ9 (by decide) o10;have Ye:Own (((W9.setCell ⟨sK,0,none⟩ (.string old.d)).setCell ⟨sK,1,none⟩ (.int .i64 old.p)).setCell ⟨sK,2,none⟩ (.int .i64 old.l)) B2 77 3 bO mm eO (dQ vs'):=by
  refine⟨OV9.out.1,?_⟩;rcases OV9.out.2 with h1 | ⟨b,cp,cur,e1,e2,e3,e4⟩
  ·exact .inl h1
  ·refine .inr ⟨b,cp,cur,e1,e2,(o10 b (fun e=>?_)).trans e3,e4⟩
   rcases hB2 with h | h
   ·omega
   ·injection e1 with e1;exact h b 0 none e1 e
 refine⟨a9,sK,kp',mm,aY,bO,eO,rfl,rfl,rfl,C4.mk ((o10 a9 hne).trans Lb),⟨vN⟩,⟨rfl,Yd.rw,Ye.rw,⟨rfl,aac _,aag _,.inl ⟨rfl,rfl⟩⟩,Yd.rx,Ye.rx,N.Rx.none _ _⟩,k10⟩
variable {w:World}{B:Nat}
theorem xu{b off:Nat}{ph:Option Nat}{e:TypeId}{sz n cap:Nat}{p:Option Addr}{cs:List Value}(h:Own w B e sz p n cap cs)(hp:p=some ⟨b,off,ph⟩):b<w.heap.size:=by
 rcases h.cases with⟨hx,_⟩|⟨g',cur,hx,_,hlt,_⟩
 ·rw[hx]at hp;cases hp
 ·rw[hx]at hp;injection hp with hp;injection hp with hp;subst hp;exact hlt
def Px (kx B t p:Nat) (m:Xm) (root:Int) (M0:Pm) (ln:List En) (old:Vl) (ib:Bool) (w:World) (e:Ending) (w':World):Prop:=
 (e=.returned (.tuple #[.agg #[.string old.d,.int .i64 old.p,.int .i64 old.l],.bool ib,.int .i64 0])/\∃ M' r,Tree M' r ln/\dI w' t p r/\Pv B w' p m M'/\Tx B t w w')\/(e=.returned (.tuple #[.agg #[.string ⟨#[]⟩,.int .i64 0,.int .i64 0],.bool false,.int .i64 80])/\∃ M',Er m M0 M' kx/\dI w' t p root/\Pv B w' p m M'/\Tx B t w w')
variable {t:Nat}
theorem Py{a b d:World}(h:Tx B t a b){z:Nat}(hz:a.heap.size<=z)(hB:B<=a.heap.size)(hd:Below 0 b d)(ho:∀ k,k≠z->d.heap[k]? = b.heap[k]?):Tx B t a d:=by
 refine⟨h.below.trans ⟨hd.os,hd.tape,hd.output,hd.size,fun k hk=>ho k (by omega)⟩,fun x cs ty fr hx ht hn=>(ho x ?_).trans (h.rows x cs ty fr hx ht hn)⟩;have:=(aaa.1 hx).1;omega
theorem Uq(W:World)(b:Nat)(v0 v1 v2:Value):Below 0 W (((W.setCell ⟨b,0,none⟩ v0).setCell ⟨b,1,none⟩ v1).setCell ⟨b,2,none⟩ v2):=
 (((Below.refl 0 W).setCell (aag _) v0).setCell (aag _) v1).setCell (aag _) v2
theorem Yf(W:World){b k:Nat}(hk:k≠b)(v0 v1 v2:Value):(((W.setCell ⟨b,0,none⟩ v0).setCell ⟨b,1,none⟩ v1).setCell ⟨b,2,none⟩ v2).heap[k]? = W.heap[k]?:=by
 rw[heap_setCell_other _ ⟨b,2,none⟩ k _ hk,heap_setCell_other _ ⟨b,1,none⟩ k _ hk,heap_setCell_other _ ⟨b,0,none⟩ k _ hk]
variable {p:Nat}{root:Int}
theorem Jb{w':World}{b:Nat}(h:dI w t p root){cc:Array Value}{ty:TypeId}{fr:Nat×Nat}(hb:w.heap[b]? = some (.cells cc ty fr))(ht:ty≠110)(ho:∀ k,k≠b->w'.heap[k]? = w.heap[k]?):dI w' t p root:=by
 refine⟨(ho t (fun e=>?_)).trans h.out⟩;subst e;rw[h.out]at hb;injection hb with hb;injection hb with _ hb _;exact ht hb.symm
set_option linter.unusedSimpArgs false in
theorem Ew{kx:Nat}{m:Xm}{r0:Int}{M0:Pm}{ln:List En}{key vd:ByteArray}{vp vl:Int}(hT:dI w t p r0)(hB:B<=w.heap.size)(hk:key.size<=64)(fm:∀ W,Kept w W->Calls Tryz.prog 92 #[.agg #[.string vd,.int .i64 vp,.int .i64 vl]] W fun e w'=>e=.returned (.bool true)/\Kept W w')(fw:∀ W,Kept w W->Calls Tryz.prog 62 #[.pointer (some ⟨t,0,none⟩),.string key] W fun e w1=>∃ q n cap zl sQ rQ sS xq rR uY zip uZ ve,e=.returned (.tuple #[.slice q n cap,.int .i64 0])/\VW kx B t p m root M0 ln key vd vp vl old ib ks' vs' w1 q n cap zl sQ rQ sS xq rR uY zip uZ ve/\Kept W w1):
 Calls Tryz.prog 61 #[.pointer (some ⟨t,0,none⟩),.string key,.agg #[.string vd,.int .i64 vp,.int .i64 vl]] w (Px kx B t p m root M0 ln old ib w):=by
 have K0:Kept w ((w.alloc (.cells #[.string vd,.int .i64 vp,.int .i64 vl] 77)).alloc (.cells #[.string ⟨#[]⟩,.int .i64 0,.int .i64 0] 77)):=((Kept.refl w).alloc _).alloc _;have S5:((w.alloc (.cells #[.string vd,.int .i64 vp,.int .i64 vl] 77)).alloc (.cells #[.string ⟨#[]⟩,.int .i64 0,.int .i64 0] 77)).heap[w.heap.size]? = some (.cells #[.string vd,.int .i64 vp,.int .i64 vl] 77):=((Kept.refl _).alloc _).block (heap_alloc_new w _);have S6:((w.alloc (.cells #[.string vd,.int .i64 vp,.int .i64 vl] 77)).alloc (.cells #[.string ⟨#[]⟩,.int .i64 0,.int .i64 0] 77)).heap[w.heap.size+1]? = some (.cells #[.string ⟨#[]⟩,.int .i64 0,.int .i64 0] 77):=D.bH w _ _;obtain⟨v0,v1,v2⟩:=(C3.mk S5).cs;have f1:=jR (hT.kept K0);have f2:Hid (∀ W,Calls Tryz.prog 84 #[.string key] W fun e w'=>e=.returned (.bool true)/\w'=W):=fun W=>by have:=D9 W key;rwa [decide_eq_true hk]at this
 have HM:Hid _:=fm;have HFw:Hid _:=fw;have HB:Hid (B<=w.heap.size):=hB;have HT:Hid _:=hT;clear hT hk fm fw hB;go_enter Tryz.func61,Tryz.ntmps61;go_upto_region 6 with (first
  | (go_at_call 57;(with_reducible refine f1.mono ?_);rintro e w1 ⟨rfl,hw1⟩;rw[hw1];clear hw1 f1)
  | (go_at_call 84;(with_reducible refine (f2.out _).mono ?_);rintro e w1 ⟨rfl,hw1⟩;rw[hw1];clear hw1 f2)
  | (go_at_call 92;(with_reducible refine (HM.out _ K0).mono ?_);rintro e w2 ⟨rfl,k2⟩;have K2:=K0.trans k2;have S52:=k2.block S5;have S62:=k2.block S6;clear HM)
  | (go_at_call 62;(with_reducible refine (HFw.out _ K2).mono ?_);rintro e w1 ⟨q,n,cap,zl,sQ,rQ,sS,xq,rR,uY,zip,uZ,ve,rfl,HW0,k1⟩;have HW:Hid (VW kx B t p m root M0 ln key vd vp vl old ib ks' vs' w1 q n cap zl sQ rQ sS xq rR uY zip uZ ve):=HW0;have K1:=K2.trans k1;have S51:=k1.block S52;have S61:=k1.block S62;clear HW0 HFw))
 clear v0 v1 v2 S5 S6 S52 S62;have HSA:Hid (∀ W,Kept w1 W->W.cell? ⟨w.heap.size,0,none⟩=some (.string vd)/\W.cell? ⟨w.heap.size,1,none⟩=some (.int .i64 vp)/\W.cell? ⟨w.heap.size,2,none⟩=some (.int .i64 vl)):=fun W k=>by
  obtain⟨a,b,c⟩:=(C3.mk (k.block S51)).cs;exact⟨a,b,c⟩
 go_cut [11,12,13] (fun a b c wx=>Pc w1 old ib ks' vs' a b c wx);case first=>
  have JI:Kept w1 w1.drew:=(Kept.refl w1).drew;clear K0 K1 K2 k1 k2 S51 S61;refine wp_region_held_drew (S:=(fun W=>W.cell? ⟨w.heap.size,0,none⟩=some (.string vd)/\W.cell? ⟨w.heap.size,1,none⟩=some (.int .i64 vp)/\W.cell? ⟨w.heap.size,2,none⟩=some (.int .i64 vl))) (by kernel_rfl) ?_ fun _=>?_
  ·exact HSA.out _ (by first | exact (Kept.refl _).drew | exact Kept.refl _)
  generalize w1.drew=X at *;refine tkk (v:=?_) 0 Ti ?_ ?_;rotate_left
  ·intro w hSw
   (try dsimp only at hSw);go_simp;all_goals with_reducible rfl
  try simp only[Act.put,ay,az,aA]
  refine tkk (v:=?_) 2 Tj ?_ ?_;rotate_left
  ·intro w hSw
   (try dsimp only at hSw);go_simp;all_goals with_reducible rfl
  try simp only[Act.put,ay,az,aA]
  refine tkk (v:=?_) 3 VV ?_ ?_;rotate_left
  ·intro w hSw
   (try dsimp only at hSw);go_simp;all_goals with_reducible rfl
  try simp only[Act.put,ay,az,aA]
  refine rdk [1,9,10] ?_;refine AllReadyH.cons (o:=zn) rfl (fun KK ai=>?_) ?_
  ·
   go_simp;go_at_call 63;(with_reducible refine (HW.out.f3 _ JI).mono ?_);rintro e X0 ⟨rfl,yM⟩;have J0:=JI.trans yM;go_wp2_with fail;refine ai.out _ _ ?_ fun _=>?_
   ·(try dsimp only)
    exact HSA.out _ J0
   clear ai KK;try simp only[Act.put,ay,az,aA]
   refine rdk [4,9,10] ?_;refine AllReadyH.cons (o:=mU) rfl (fun KK ai=>?_) ?_
   ·
    go_simp;go_at_call 93;(with_reducible refine (HW.out.f4 _ J0).mono ?_);rintro e X1 ⟨pX,mm,pY,qa,qi,rfl,OK1,OV1,ng⟩;have J1:=J0.trans ng;go_wp2_with fail;refine ai.out _ _ ?_ fun _=>?_
    ·(try dsimp only)
     exact HSA.out _ J1
    clear ai KK;try simp only[Act.put,ay,az,aA]
    refine tkk (v:=?_) 5 mY ?_ ?_;rotate_left
    ·intro w hSw
     (try dsimp only at hSw);go_simp;all_goals with_reducible rfl
    try simp only[Act.put,ay,az,aA]
    refine tkk (v:=?_) 6 mX ?_ ?_;rotate_left
    ·intro w hSw
     (try dsimp only at hSw);go_simp;all_goals with_reducible rfl
    try simp only[Act.put,ay,az,aA]
    refine tkk (v:=?_) 7 mV ?_ ?_;rotate_left
    ·intro w hSw
     (try dsimp only at hSw);go_simp;all_goals with_reducible rfl
    try simp only[Act.put,ay,az,aA]
    refine tkk (v:=?_) 8 mW ?_ ?_;rotate_left
    ·intro w hSw
     (try dsimp only at hSw);go_simp;all_goals with_reducible rfl
    try simp only[Act.put,ay,az,aA]
    refine rdk [9,10] ?_;refine AllReadyH.cons (o:=lD) rfl (fun KK ai=>?_) ?_
    ·
     have gu:=(Kept.refl X1).alloc (.cells #[.bool false,.slice none 0 0,.slice none 0 0,.slice none 0 0] 121);have J2:=J1.trans gu;have hn2:=heap_alloc_new X1 (.cells #[.bool false,.slice none 0 0,.slice none 0 0,.slice none 0 0] 121);have AR:=J1.size;have Pz:=OK1.kept gu;have Jc:=OV1.kept gu;go_simp;refine ai.out _ _ ?_ fun _=>?_
     ·(try dsimp only)
      exact HSA.out _ J2
     clear ai KK;try simp only[Act.put,ay,az,aA]
     refine rdk [10] ?_;refine AllReadyH.cons (o:=lF) rfl (fun KK ai=>?_) ?_
     ·
      clear gu;generalize X1.alloc (.cells #[.bool false,.slice none 0 0,.slice none 0 0,.slice none 0 0] 121)=X2 at *;have eX:=(Kept.refl X2).alloc (.cells #[.string ⟨#[]⟩,.int .i64 0,.int .i64 0] 77);have J3:=J2.trans eX;have pW:=heap_alloc_new X2 (.cells #[.string ⟨#[]⟩,.int .i64 0,.int .i64 0] 77);have AU:=J2.size;have hA3:=eX.block hn2;have zo:=Pz.kept eX;have zt:=Jc.kept eX;go_simp;refine ai.out _ _ ?_ fun _=>?_
      ·(try dsimp only)
       exact HSA.out _ J3
      clear ai KK;try simp only[Act.put,ay,az,aA]
      refine rdk [11] ?_;refine AllReadyH.cons (o:=kS) rfl (fun KK ai=>?_) ?_
      ·
       clear eX;generalize X2.alloc (.cells #[.string ⟨#[]⟩,.int .i64 0,.int .i64 0] 77)=X3 at *;obtain⟨⟨g0,f0⟩,⟨g1,f1⟩,⟨g2,f2⟩,⟨g3,f3⟩,Lb⟩:=N.aD hA3 (.bool true) (.slice pX mm pY) (.slice qa mm qi) (.slice none 0 0);go_simp;refine ai.out _ _ ?_ fun _=>?_
       ·(try dsimp only)
        exact HSA.out _ (J3.bS AR _ _ _ _)
       clear ai KK;try simp only[Act.put,ay,az,aA]
       refine rdk [12] ?_;refine AllReadyH.cons (o:=kR) rfl (fun KK ai=>?_) ?_
       ·
        have zu:=(N.aG X3 (show X2.heap.size≠X1.heap.size from fun e=>by rw[e]at pW;rw[hA3]at pW;cases pW) (.bool true) (.slice pX mm pY) (.slice qa mm qi) (.slice none 0 0)).trans pW;obtain⟨⟨p0,r0⟩,⟨p1,r1⟩,⟨p2,r2⟩,vN⟩:=N.dw zu (.string old.d) (.int .i64 old.p) (.int .i64 old.l);go_simp;refine ai.out _ _ ?_ fun _=>?_
        ·(try dsimp only)
         exact HSA.out _ ((J3.bS AR _ _ _ _).Aa AU _ _ _)
        clear ai KK;try simp only[Act.put,ay,az,aA]
        refine tkk (v:=?_) 13 kT ?_ ?_;rotate_left
        ·intro w hSw
         (try dsimp only at hSw);go_simp;all_goals with_reducible rfl
        try simp only[Act.put,ay,az,aA]
        refine wpAnyH_done (by kernel_rfl) ?_ _;have pc:=pR (old:=old) (ib:=ib) hA3 pW zo zt (.inr (fun b off ph e=>Nat.ne_of_lt (xu Jc e))) J3 AR AU;go_wp2_with fail;go_meet;exact pc
       exact AllReadyH.nil
      exact AllReadyH.nil
     exact AllReadyH.nil
    refine AllReadyH.cons (o:=lF) rfl (fun KK ai=>?_) ?_
    ·
     have gu:=(Kept.refl X1).alloc (.cells #[.string ⟨#[]⟩,.int .i64 0,.int .i64 0] 77);have J2:=J1.trans gu;have hn2:=heap_alloc_new X1 (.cells #[.string ⟨#[]⟩,.int .i64 0,.int .i64 0] 77);have AR:=J1.size;have Pz:=OK1.kept gu;have Jc:=OV1.kept gu;go_simp;refine ai.out _ _ ?_ fun _=>?_
     ·(try dsimp only)
      exact HSA.out _ J2
     clear ai KK;try simp only[Act.put,ay,az,aA]
     refine rdk [9] ?_;refine AllReadyH.cons (o:=lD) rfl (fun KK ai=>?_) ?_
     ·
      clear gu;generalize X1.alloc (.cells #[.string ⟨#[]⟩,.int .i64 0,.int .i64 0] 77)=X2 at *;have eX:=(Kept.refl X2).alloc (.cells #[.bool false,.slice none 0 0,.slice none 0 0,.slice none 0 0] 121);have J3:=J2.trans eX;have pW:=heap_alloc_new X2 (.cells #[.bool false,.slice none 0 0,.slice none 0 0,.slice none 0 0] 121);have AU:=J2.size;have hZ3:=eX.block hn2;have zo:=Pz.kept eX;have zt:=Jc.kept eX;go_simp;refine ai.out _ _ ?_ fun _=>?_
      ·(try dsimp only)
       exact HSA.out _ J3
      clear ai KK;try simp only[Act.put,ay,az,aA]
      refine rdk [11] ?_;refine AllReadyH.cons (o:=kS) rfl (fun KK ai=>?_) ?_
      ·
       clear eX;generalize X2.alloc (.cells #[.bool false,.slice none 0 0,.slice none 0 0,.slice none 0 0] 121)=X3 at *;obtain⟨⟨g0,f0⟩,⟨g1,f1⟩,⟨g2,f2⟩,⟨g3,f3⟩,Lb⟩:=N.aD pW (.bool true) (.slice pX mm pY) (.slice qa mm qi) (.slice none 0 0);go_simp;refine ai.out _ _ ?_ fun _=>?_
       ·(try dsimp only)
        exact HSA.out _ (J3.bS AU _ _ _ _)
       clear ai KK;try simp only[Act.put,ay,az,aA]
       refine rdk [12] ?_;refine AllReadyH.cons (o:=kR) rfl (fun KK ai=>?_) ?_
       ·
        have zu:=(N.aG X3 (show X1.heap.size≠X2.heap.size from fun e=>by rw[e]at hZ3;rw[pW]at hZ3;cases hZ3) (.bool true) (.slice pX mm pY) (.slice qa mm qi) (.slice none 0 0)).trans hZ3;obtain⟨⟨p0,r0⟩,⟨p1,r1⟩,⟨p2,r2⟩,vN⟩:=N.dw zu (.string old.d) (.int .i64 old.p) (.int .i64 old.l);go_simp;refine ai.out _ _ ?_ fun _=>?_
        ·(try dsimp only)
         exact HSA.out _ ((J3.bS AU _ _ _ _).Aa AR _ _ _)
        clear ai KK;try simp only[Act.put,ay,az,aA]
        refine tkk (v:=?_) 13 kT ?_ ?_;rotate_left
        ·intro w hSw
         (try dsimp only at hSw);go_simp;all_goals with_reducible rfl
        try simp only[Act.put,ay,az,aA]
        refine wpAnyH_done (by kernel_rfl) ?_ _;have pc:=pR (old:=old) (ib:=ib) pW hZ3 zo zt (.inr (fun b off ph e=>Nat.ne_of_lt (xu OV1 e))) J3 AU AR;go_wp2_with fail;go_meet;exact pc
       exact AllReadyH.nil
      exact AllReadyH.nil
     exact AllReadyH.nil
    exact AllReadyH.nil
   refine AllReadyH.cons (o:=lD) rfl (fun KK ai=>?_) ?_
   ·
    have ng:=(Kept.refl X0).alloc (.cells #[.bool false,.slice none 0 0,.slice none 0 0,.slice none 0 0] 121);have J1:=J0.trans ng;have hn1:=heap_alloc_new X0 (.cells #[.bool false,.slice none 0 0,.slice none 0 0,.slice none 0 0] 121);have Co:=J0.size;go_simp;refine ai.out _ _ ?_ fun _=>?_
    ·(try dsimp only)
     exact HSA.out _ J1
    clear ai KK;try simp only[Act.put,ay,az,aA]
    refine rdk [4,10] ?_;refine AllReadyH.cons (o:=mU) rfl (fun KK ai=>?_) ?_
    ·
     clear ng;generalize X0.alloc (.cells #[.bool false,.slice none 0 0,.slice none 0 0,.slice none 0 0] 121)=X1 at *;go_simp;go_at_call 93;(with_reducible refine (HW.out.f4 _ J1).mono ?_);rintro e X2 ⟨pX,mm,pY,qa,qi,rfl,Pz,Jc,gu⟩;have J2:=J1.trans gu;have hA2:=gu.block hn1;go_wp2_with fail;refine ai.out _ _ ?_ fun _=>?_
     ·(try dsimp only)
      exact HSA.out _ J2
     clear ai KK;try simp only[Act.put,ay,az,aA]
     refine tkk (v:=?_) 5 mY ?_ ?_;rotate_left
     ·intro w hSw
      (try dsimp only at hSw);go_simp;all_goals with_reducible rfl
     try simp only[Act.put,ay,az,aA]
     refine tkk (v:=?_) 6 mX ?_ ?_;rotate_left
     ·intro w hSw
      (try dsimp only at hSw);go_simp;all_goals with_reducible rfl
     try simp only[Act.put,ay,az,aA]
     refine tkk (v:=?_) 7 mV ?_ ?_;rotate_left
     ·intro w hSw
      (try dsimp only at hSw);go_simp;all_goals with_reducible rfl
     try simp only[Act.put,ay,az,aA]
     refine tkk (v:=?_) 8 mW ?_ ?_;rotate_left
     ·intro w hSw
      (try dsimp only at hSw);go_simp;all_goals with_reducible rfl
     try simp only[Act.put,ay,az,aA]
     refine rdk [10] ?_;refine AllReadyH.cons (o:=lF) rfl (fun KK ai=>?_) ?_
     ·
      have eX:=(Kept.refl X2).alloc (.cells #[.string ⟨#[]⟩,.int .i64 0,.int .i64 0] 77);have J3:=J2.trans eX;have pW:=heap_alloc_new X2 (.cells #[.string ⟨#[]⟩,.int .i64 0,.int .i64 0] 77);have AU:=J2.size;have hA3:=eX.block hA2;have zo:=Pz.kept eX;have zt:=Jc.kept eX;go_simp;refine ai.out _ _ ?_ fun _=>?_
      ·(try dsimp only)
       exact HSA.out _ J3
      clear ai KK;try simp only[Act.put,ay,az,aA]
      refine rdk [11] ?_;refine AllReadyH.cons (o:=kS) rfl (fun KK ai=>?_) ?_
      ·
       clear eX;generalize X2.alloc (.cells #[.string ⟨#[]⟩,.int .i64 0,.int .i64 0] 77)=X3 at *;obtain⟨⟨g0,f0⟩,⟨g1,f1⟩,⟨g2,f2⟩,⟨g3,f3⟩,Lb⟩:=N.aD hA3 (.bool true) (.slice pX mm pY) (.slice qa mm qi) (.slice none 0 0);go_simp;refine ai.out _ _ ?_ fun _=>?_
       ·(try dsimp only)
        exact HSA.out _ (J3.bS Co _ _ _ _)
       clear ai KK;try simp only[Act.put,ay,az,aA]
       refine rdk [12] ?_;refine AllReadyH.cons (o:=kR) rfl (fun KK ai=>?_) ?_
       ·
        have zu:=(N.aG X3 (show X2.heap.size≠X0.heap.size from fun e=>by rw[e]at pW;rw[hA3]at pW;cases pW) (.bool true) (.slice pX mm pY) (.slice qa mm qi) (.slice none 0 0)).trans pW;obtain⟨⟨p0,r0⟩,⟨p1,r1⟩,⟨p2,r2⟩,vN⟩:=N.dw zu (.string old.d) (.int .i64 old.p) (.int .i64 old.l);go_simp;refine ai.out _ _ ?_ fun _=>?_
        ·(try dsimp only)
         exact HSA.out _ ((J3.bS Co _ _ _ _).Aa AU _ _ _)
        clear ai KK;try simp only[Act.put,ay,az,aA]
        refine tkk (v:=?_) 13 kT ?_ ?_;rotate_left
        ·intro w hSw
         (try dsimp only at hSw);go_simp;all_goals with_reducible rfl
        try simp only[Act.put,ay,az,aA]
        refine wpAnyH_done (by kernel_rfl) ?_ _;have pc:=pR (old:=old) (ib:=ib) hA3 pW zo zt (.inr (fun b off ph e=>Nat.ne_of_lt (xu Jc e))) J3 Co AU;go_wp2_with fail;go_meet;exact pc
       exact AllReadyH.nil
      exact AllReadyH.nil
     exact AllReadyH.nil
    refine AllReadyH.cons (o:=lF) rfl (fun KK ai=>?_) ?_
    ·
     clear ng;generalize X0.alloc (.cells #[.bool false,.slice none 0 0,.slice none 0 0,.slice none 0 0] 121)=X1 at *;have gu:=(Kept.refl X1).alloc (.cells #[.string ⟨#[]⟩,.int .i64 0,.int .i64 0] 77);have J2:=J1.trans gu;have hn2:=heap_alloc_new X1 (.cells #[.string ⟨#[]⟩,.int .i64 0,.int .i64 0] 77);have AR:=J1.size;have hA2:=gu.block hn1;go_simp;refine ai.out _ _ ?_ fun _=>?_
     ·(try dsimp only)
      exact HSA.out _ J2
     clear ai KK;try simp only[Act.put,ay,az,aA]
     refine rdk [4] ?_;refine AllReadyH.cons (o:=mU) rfl (fun KK ai=>?_) ?_
     ·
      clear gu;generalize X1.alloc (.cells #[.string ⟨#[]⟩,.int .i64 0,.int .i64 0] 77)=X2 at *;go_simp;go_at_call 93;(with_reducible refine (HW.out.f4 _ J2).mono ?_);rintro e X3 ⟨pX,mm,pY,qa,qi,rfl,zo,zt,eX⟩;have J3:=J2.trans eX;have hA3:=eX.block hA2;have hZ3:=eX.block hn2;go_wp2_with fail;refine ai.out _ _ ?_ fun _=>?_
      ·(try dsimp only)
       exact HSA.out _ J3
      clear ai KK;try simp only[Act.put,ay,az,aA]
      refine tkk (v:=?_) 5 mY ?_ ?_;rotate_left
      ·intro w hSw
       (try dsimp only at hSw);go_simp;all_goals with_reducible rfl
      try simp only[Act.put,ay,az,aA]
      refine tkk (v:=?_) 6 mX ?_ ?_;rotate_left
      ·intro w hSw
       (try dsimp only at hSw);go_simp;all_goals with_reducible rfl
      try simp only[Act.put,ay,az,aA]
      refine tkk (v:=?_) 7 mV ?_ ?_;rotate_left
      ·intro w hSw
       (try dsimp only at hSw);go_simp;all_goals with_reducible rfl
      try simp only[Act.put,ay,az,aA]
      refine tkk (v:=?_) 8 mW ?_ ?_;rotate_left
      ·intro w hSw
       (try dsimp only at hSw);go_simp;all_goals with_reducible rfl
      try simp only[Act.put,ay,az,aA]
      refine rdk [11] ?_;refine AllReadyH.cons (o:=kS) rfl (fun KK ai=>?_) ?_
      ·
       obtain⟨⟨g0,f0⟩,⟨g1,f1⟩,⟨g2,f2⟩,⟨g3,f3⟩,Lb⟩:=N.aD hA3 (.bool true) (.slice pX mm pY) (.slice qa mm qi) (.slice none 0 0);go_simp;refine ai.out _ _ ?_ fun _=>?_
       ·(try dsimp only)
        exact HSA.out _ (J3.bS Co _ _ _ _)
       clear ai KK;try simp only[Act.put,ay,az,aA]
       refine rdk [12] ?_;refine AllReadyH.cons (o:=kR) rfl (fun KK ai=>?_) ?_
       ·
        have zu:=(N.aG X3 (show X1.heap.size≠X0.heap.size from fun e=>by rw[e]at hZ3;rw[hA3]at hZ3;cases hZ3) (.bool true) (.slice pX mm pY) (.slice qa mm qi) (.slice none 0 0)).trans hZ3;obtain⟨⟨p0,r0⟩,⟨p1,r1⟩,⟨p2,r2⟩,vN⟩:=N.dw zu (.string old.d) (.int .i64 old.p) (.int .i64 old.l);go_simp;refine ai.out _ _ ?_ fun _=>?_
        ·(try dsimp only)
         exact HSA.out _ ((J3.bS Co _ _ _ _).Aa AR _ _ _)
        clear ai KK;try simp only[Act.put,ay,az,aA]
        refine tkk (v:=?_) 13 kT ?_ ?_;rotate_left
        ·intro w hSw
         (try dsimp only at hSw);go_simp;all_goals with_reducible rfl
        try simp only[Act.put,ay,az,aA]
        refine wpAnyH_done (by kernel_rfl) ?_ _;have pc:=pR (old:=old) (ib:=ib) hA3 hZ3 zo zt (.inl ((aaa.1 hn2).1)) J3 Co AR;go_wp2_with fail;go_meet;exact pc
       exact AllReadyH.nil
      exact AllReadyH.nil
     exact AllReadyH.nil
    exact AllReadyH.nil
   refine AllReadyH.cons (o:=lF) rfl (fun KK ai=>?_) ?_
   ·
    have ng:=(Kept.refl X0).alloc (.cells #[.string ⟨#[]⟩,.int .i64 0,.int .i64 0] 77);have J1:=J0.trans ng;have hn1:=heap_alloc_new X0 (.cells #[.string ⟨#[]⟩,.int .i64 0,.int .i64 0] 77);have Co:=J0.size;go_simp;refine ai.out _ _ ?_ fun _=>?_
    ·(try dsimp only)
     exact HSA.out _ J1
    clear ai KK;try simp only[Act.put,ay,az,aA]
    refine rdk [4,9] ?_;refine AllReadyH.cons (o:=mU) rfl (fun KK ai=>?_) ?_
    ·
     clear ng;generalize X0.alloc (.cells #[.string ⟨#[]⟩,.int .i64 0,.int .i64 0] 77)=X1 at *;go_simp;go_at_call 93;(with_reducible refine (HW.out.f4 _ J1).mono ?_);rintro e X2 ⟨pX,mm,pY,qa,qi,rfl,Pz,Jc,gu⟩;have J2:=J1.trans gu;have hZ2:=gu.block hn1;go_wp2_with fail;refine ai.out _ _ ?_ fun _=>?_
     ·(try dsimp only)
      exact HSA.out _ J2
     clear ai KK;try simp only[Act.put,ay,az,aA]
     refine tkk (v:=?_) 5 mY ?_ ?_;rotate_left
     ·intro w hSw
      (try dsimp only at hSw);go_simp;all_goals with_reducible rfl
     try simp only[Act.put,ay,az,aA]
     refine tkk (v:=?_) 6 mX ?_ ?_;rotate_left
     ·intro w hSw
      (try dsimp only at hSw);go_simp;all_goals with_reducible rfl
     try simp only[Act.put,ay,az,aA]
     refine tkk (v:=?_) 7 mV ?_ ?_;rotate_left
     ·intro w hSw
      (try dsimp only at hSw);go_simp;all_goals with_reducible rfl
     try simp only[Act.put,ay,az,aA]
     refine tkk (v:=?_) 8 mW ?_ ?_;rotate_left
     ·intro w hSw
      (try dsimp only at hSw);go_simp;all_goals with_reducible rfl
     try simp only[Act.put,ay,az,aA]
     refine rdk [9] ?_;refine AllReadyH.cons (o:=lD) rfl (fun KK ai=>?_) ?_
     ·
      have eX:=(Kept.refl X2).alloc (.cells #[.bool false,.slice none 0 0,.slice none 0 0,.slice none 0 0] 121);have J3:=J2.trans eX;have pW:=heap_alloc_new X2 (.cells #[.bool false,.slice none 0 0,.slice none 0 0,.slice none 0 0] 121);have AU:=J2.size;have hZ3:=eX.block hZ2;have zo:=Pz.kept eX;have zt:=Jc.kept eX;go_simp;refine ai.out _ _ ?_ fun _=>?_
      ·(try dsimp only)
       exact HSA.out _ J3
      clear ai KK;try simp only[Act.put,ay,az,aA]
      refine rdk [11] ?_;refine AllReadyH.cons (o:=kS) rfl (fun KK ai=>?_) ?_
      ·
       clear eX;generalize X2.alloc (.cells #[.bool false,.slice none 0 0,.slice none 0 0,.slice none 0 0] 121)=X3 at *;obtain⟨⟨g0,f0⟩,⟨g1,f1⟩,⟨g2,f2⟩,⟨g3,f3⟩,Lb⟩:=N.aD pW (.bool true) (.slice pX mm pY) (.slice qa mm qi) (.slice none 0 0);go_simp;refine ai.out _ _ ?_ fun _=>?_
       ·(try dsimp only)
        exact HSA.out _ (J3.bS AU _ _ _ _)
       clear ai KK;try simp only[Act.put,ay,az,aA]
       refine rdk [12] ?_;refine AllReadyH.cons (o:=kR) rfl (fun KK ai=>?_) ?_
       ·
        have zu:=(N.aG X3 (show X0.heap.size≠X2.heap.size from fun e=>by rw[e]at hZ3;rw[pW]at hZ3;cases hZ3) (.bool true) (.slice pX mm pY) (.slice qa mm qi) (.slice none 0 0)).trans hZ3;obtain⟨⟨p0,r0⟩,⟨p1,r1⟩,⟨p2,r2⟩,vN⟩:=N.dw zu (.string old.d) (.int .i64 old.p) (.int .i64 old.l);go_simp;refine ai.out _ _ ?_ fun _=>?_
        ·(try dsimp only)
         exact HSA.out _ ((J3.bS AU _ _ _ _).Aa Co _ _ _)
        clear ai KK;try simp only[Act.put,ay,az,aA]
        refine tkk (v:=?_) 13 kT ?_ ?_;rotate_left
        ·intro w hSw
         (try dsimp only at hSw);go_simp;all_goals with_reducible rfl
        try simp only[Act.put,ay,az,aA]
        refine wpAnyH_done (by kernel_rfl) ?_ _;have pc:=pR (old:=old) (ib:=ib) pW hZ3 zo zt (.inl ((aaa.1 hn1).1)) J3 AU Co;go_wp2_with fail;go_meet;exact pc
       exact AllReadyH.nil
      exact AllReadyH.nil
     exact AllReadyH.nil
    refine AllReadyH.cons (o:=lD) rfl (fun KK ai=>?_) ?_
    ·
     clear ng;generalize X0.alloc (.cells #[.string ⟨#[]⟩,.int .i64 0,.int .i64 0] 77)=X1 at *;have gu:=(Kept.refl X1).alloc (.cells #[.bool false,.slice none 0 0,.slice none 0 0,.slice none 0 0] 121);have J2:=J1.trans gu;have hn2:=heap_alloc_new X1 (.cells #[.bool false,.slice none 0 0,.slice none 0 0,.slice none 0 0] 121);have AR:=J1.size;have hZ2:=gu.block hn1;go_simp;refine ai.out _ _ ?_ fun _=>?_
     ·(try dsimp only)
      exact HSA.out _ J2
     clear ai KK;try simp only[Act.put,ay,az,aA]
     refine rdk [4] ?_;refine AllReadyH.cons (o:=mU) rfl (fun KK ai=>?_) ?_
     ·
      clear gu;generalize X1.alloc (.cells #[.bool false,.slice none 0 0,.slice none 0 0,.slice none 0 0] 121)=X2 at *;go_simp;go_at_call 93;(with_reducible refine (HW.out.f4 _ J2).mono ?_);rintro e X3 ⟨pX,mm,pY,qa,qi,rfl,zo,zt,eX⟩;have J3:=J2.trans eX;have hA3:=eX.block hn2;have hZ3:=eX.block hZ2;go_wp2_with fail;refine ai.out _ _ ?_ fun _=>?_
      ·(try dsimp only)
       exact HSA.out _ J3
      clear ai KK;try simp only[Act.put,ay,az,aA]
      refine tkk (v:=?_) 5 mY ?_ ?_;rotate_left
      ·intro w hSw
       (try dsimp only at hSw);go_simp;all_goals with_reducible rfl
      try simp only[Act.put,ay,az,aA]
      refine tkk (v:=?_) 6 mX ?_ ?_;rotate_left
      ·intro w hSw
       (try dsimp only at hSw);go_simp;all_goals with_reducible rfl
      try simp only[Act.put,ay,az,aA]
      refine tkk (v:=?_) 7 mV ?_ ?_;rotate_left
      ·intro w hSw
       (try dsimp only at hSw);go_simp;all_goals with_reducible rfl
      try simp only[Act.put,ay,az,aA]
      refine tkk (v:=?_) 8 mW ?_ ?_;rotate_left
      ·intro w hSw
       (try dsimp only at hSw);go_simp;all_goals with_reducible rfl
      try simp only[Act.put,ay,az,aA]
      refine rdk [11] ?_;refine AllReadyH.cons (o:=kS) rfl (fun KK ai=>?_) ?_
      ·
       obtain⟨⟨g0,f0⟩,⟨g1,f1⟩,⟨g2,f2⟩,⟨g3,f3⟩,Lb⟩:=N.aD hA3 (.bool true) (.slice pX mm pY) (.slice qa mm qi) (.slice none 0 0);go_simp;refine ai.out _ _ ?_ fun _=>?_
       ·(try dsimp only)
        exact HSA.out _ (J3.bS AR _ _ _ _)
       clear ai KK;try simp only[Act.put,ay,az,aA]
       refine rdk [12] ?_;refine AllReadyH.cons (o:=kR) rfl (fun KK ai=>?_) ?_
       ·
        have zu:=(N.aG X3 (show X0.heap.size≠X1.heap.size from fun e=>by rw[e]at hZ3;rw[hA3]at hZ3;cases hZ3) (.bool true) (.slice pX mm pY) (.slice qa mm qi) (.slice none 0 0)).trans hZ3;obtain⟨⟨p0,r0⟩,⟨p1,r1⟩,⟨p2,r2⟩,vN⟩:=N.dw zu (.string old.d) (.int .i64 old.p) (.int .i64 old.l);go_simp;refine ai.out _ _ ?_ fun _=>?_
        ·(try dsimp only)
         exact HSA.out _ ((J3.bS AR _ _ _ _).Aa Co _ _ _)
        clear ai KK;try simp only[Act.put,ay,az,aA]
        refine tkk (v:=?_) 13 kT ?_ ?_;rotate_left
        ·intro w hSw
         (try dsimp only at hSw);go_simp;all_goals with_reducible rfl
        try simp only[Act.put,ay,az,aA]
        refine wpAnyH_done (by kernel_rfl) ?_ _;have pc:=pR (old:=old) (ib:=ib) hA3 hZ3 zo zt (.inl ((aaa.1 hZ2).1)) J3 AR Co;go_wp2_with fail;go_meet;exact pc
       exact AllReadyH.nil
      exact AllReadyH.nil
     exact AllReadyH.nil
    exact AllReadyH.nil
   exact AllReadyH.nil
  refine AllReadyH.cons (o:=lD) rfl (fun KK ai=>?_) ?_
  ·
   have yM:=(Kept.refl X).alloc (.cells #[.bool false,.slice none 0 0,.slice none 0 0,.slice none 0 0] 121);have J0:=JI.trans yM;have hn0:=heap_alloc_new X (.cells #[.bool false,.slice none 0 0,.slice none 0 0,.slice none 0 0] 121);have ES:=JI.size;go_simp;refine ai.out _ _ ?_ fun _=>?_
   ·(try dsimp only)
    exact HSA.out _ J0
   clear ai KK;try simp only[Act.put,ay,az,aA]
   refine rdk [1,10] ?_;refine AllReadyH.cons (o:=zn) rfl (fun KK ai=>?_) ?_
   ·
    clear yM;generalize X.alloc (.cells #[.bool false,.slice none 0 0,.slice none 0 0,.slice none 0 0] 121)=X0 at *;go_simp;go_at_call 63;(with_reducible refine (HW.out.f3 _ J0).mono ?_);rintro e X1 ⟨rfl,ng⟩;have J1:=J0.trans ng;have hA1:=ng.block hn0;go_wp2_with fail;refine ai.out _ _ ?_ fun _=>?_
    ·(try dsimp only)
     exact HSA.out _ J1
    clear ai KK;try simp only[Act.put,ay,az,aA]
    refine rdk [4,10] ?_;refine AllReadyH.cons (o:=mU) rfl (fun KK ai=>?_) ?_
    ·
     go_simp;go_at_call 93;(with_reducible refine (HW.out.f4 _ J1).mono ?_);rintro e X2 ⟨pX,mm,pY,qa,qi,rfl,Pz,Jc,gu⟩;have J2:=J1.trans gu;have hA2:=gu.block hA1;go_wp2_with fail;refine ai.out _ _ ?_ fun _=>?_
     ·(try dsimp only)
      exact HSA.out _ J2
     clear ai KK;try simp only[Act.put,ay,az,aA]
     refine tkk (v:=?_) 5 mY ?_ ?_;rotate_left
     ·intro w hSw
      (try dsimp only at hSw);go_simp;all_goals with_reducible rfl
     try simp only[Act.put,ay,az,aA]
     refine tkk (v:=?_) 6 mX ?_ ?_;rotate_left
     ·intro w hSw
      (try dsimp only at hSw);go_simp;all_goals with_reducible rfl
     try simp only[Act.put,ay,az,aA]
     refine tkk (v:=?_) 7 mV ?_ ?_;rotate_left
     ·intro w hSw
      (try dsimp only at hSw);go_simp;all_goals with_reducible rfl
     try simp only[Act.put,ay,az,aA]
     refine tkk (v:=?_) 8 mW ?_ ?_;rotate_left
     ·intro w hSw
      (try dsimp only at hSw);go_simp;all_goals with_reducible rfl
     try simp only[Act.put,ay,az,aA]
     refine rdk [10] ?_;refine AllReadyH.cons (o:=lF) rfl (fun KK ai=>?_) ?_
     ·
      have eX:=(Kept.refl X2).alloc (.cells #[.string ⟨#[]⟩,.int .i64 0,.int .i64 0] 77);have J3:=J2.trans eX;have pW:=heap_alloc_new X2 (.cells #[.string ⟨#[]⟩,.int .i64 0,.int .i64 0] 77);have AU:=J2.size;have hA3:=eX.block hA2;have zo:=Pz.kept eX;have zt:=Jc.kept eX;go_simp;refine ai.out _ _ ?_ fun _=>?_
      ·(try dsimp only)
       exact HSA.out _ J3
      clear ai KK;try simp only[Act.put,ay,az,aA]
      refine rdk [11] ?_;refine AllReadyH.cons (o:=kS) rfl (fun KK ai=>?_) ?_
      ·
       clear eX;generalize X2.alloc (.cells #[.string ⟨#[]⟩,.int .i64 0,.int .i64 0] 77)=X3 at *;obtain⟨⟨g0,f0⟩,⟨g1,f1⟩,⟨g2,f2⟩,⟨g3,f3⟩,Lb⟩:=N.aD hA3 (.bool true) (.slice pX mm pY) (.slice qa mm qi) (.slice none 0 0);go_simp;refine ai.out _ _ ?_ fun _=>?_
       ·(try dsimp only)
        exact HSA.out _ (J3.bS ES _ _ _ _)
       clear ai KK;try simp only[Act.put,ay,az,aA]
       refine rdk [12] ?_;refine AllReadyH.cons (o:=kR) rfl (fun KK ai=>?_) ?_
       ·
        have zu:=(N.aG X3 (show X2.heap.size≠X.heap.size from fun e=>by rw[e]at pW;rw[hA3]at pW;cases pW) (.bool true) (.slice pX mm pY) (.slice qa mm qi) (.slice none 0 0)).trans pW;obtain⟨⟨p0,r0⟩,⟨p1,r1⟩,⟨p2,r2⟩,vN⟩:=N.dw zu (.string old.d) (.int .i64 old.p) (.int .i64 old.l);go_simp;refine ai.out _ _ ?_ fun _=>?_
        ·(try dsimp only)
         exact HSA.out _ ((J3.bS ES _ _ _ _).Aa AU _ _ _)
        clear ai KK;try simp only[Act.put,ay,az,aA]
        refine tkk (v:=?_) 13 kT ?_ ?_;rotate_left
        ·intro w hSw
         (try dsimp only at hSw);go_simp;all_goals with_reducible rfl
        try simp only[Act.put,ay,az,aA]
        refine wpAnyH_done (by kernel_rfl) ?_ _;have pc:=pR (old:=old) (ib:=ib) hA3 pW zo zt (.inr (fun b off ph e=>Nat.ne_of_lt (xu Jc e))) J3 ES AU;go_wp2_with fail;go_meet;exact pc
       exact AllReadyH.nil
      exact AllReadyH.nil
     exact AllReadyH.nil
    refine AllReadyH.cons (o:=lF) rfl (fun KK ai=>?_) ?_
    ·
     have gu:=(Kept.refl X1).alloc (.cells #[.string ⟨#[]⟩,.int .i64 0,.int .i64 0] 77);have J2:=J1.trans gu;have hn2:=heap_alloc_new X1 (.cells #[.string ⟨#[]⟩,.int .i64 0,.int .i64 0] 77);have AR:=J1.size;have hA2:=gu.block hA1;go_simp;refine ai.out _ _ ?_ fun _=>?_
     ·(try dsimp only)
      exact HSA.out _ J2
     clear ai KK;try simp only[Act.put,ay,az,aA]
     refine rdk [4] ?_;refine AllReadyH.cons (o:=mU) rfl (fun KK ai=>?_) ?_
     ·
      clear gu;generalize X1.alloc (.cells #[.string ⟨#[]⟩,.int .i64 0,.int .i64 0] 77)=X2 at *;go_simp;go_at_call 93;(with_reducible refine (HW.out.f4 _ J2).mono ?_);rintro e X3 ⟨pX,mm,pY,qa,qi,rfl,zo,zt,eX⟩;have J3:=J2.trans eX;have hA3:=eX.block hA2;have hZ3:=eX.block hn2;go_wp2_with fail;refine ai.out _ _ ?_ fun _=>?_
      ·(try dsimp only)
       exact HSA.out _ J3
      clear ai KK;try simp only[Act.put,ay,az,aA]
      refine tkk (v:=?_) 5 mY ?_ ?_;rotate_left
      ·intro w hSw
       (try dsimp only at hSw);go_simp;all_goals with_reducible rfl
      try simp only[Act.put,ay,az,aA]
      refine tkk (v:=?_) 6 mX ?_ ?_;rotate_left
      ·intro w hSw
       (try dsimp only at hSw);go_simp;all_goals with_reducible rfl
      try simp only[Act.put,ay,az,aA]
      refine tkk (v:=?_) 7 mV ?_ ?_;rotate_left
      ·intro w hSw
       (try dsimp only at hSw);go_simp;all_goals with_reducible rfl
      try simp only[Act.put,ay,az,aA]
      refine tkk (v:=?_) 8 mW ?_ ?_;rotate_left
      ·intro w hSw
       (try dsimp only at hSw);go_simp;all_goals with_reducible rfl
      try simp only[Act.put,ay,az,aA]
      refine rdk [11] ?_;refine AllReadyH.cons (o:=kS) rfl (fun KK ai=>?_) ?_
      ·
       obtain⟨⟨g0,f0⟩,⟨g1,f1⟩,⟨g2,f2⟩,⟨g3,f3⟩,Lb⟩:=N.aD hA3 (.bool true) (.slice pX mm pY) (.slice qa mm qi) (.slice none 0 0);go_simp;refine ai.out _ _ ?_ fun _=>?_
       ·(try dsimp only)
        exact HSA.out _ (J3.bS ES _ _ _ _)
       clear ai KK;try simp only[Act.put,ay,az,aA]
       refine rdk [12] ?_;refine AllReadyH.cons (o:=kR) rfl (fun KK ai=>?_) ?_
       ·
        have zu:=(N.aG X3 (show X1.heap.size≠X.heap.size from fun e=>by rw[e]at hZ3;rw[hA3]at hZ3;cases hZ3) (.bool true) (.slice pX mm pY) (.slice qa mm qi) (.slice none 0 0)).trans hZ3;obtain⟨⟨p0,r0⟩,⟨p1,r1⟩,⟨p2,r2⟩,vN⟩:=N.dw zu (.string old.d) (.int .i64 old.p) (.int .i64 old.l);go_simp;refine ai.out _ _ ?_ fun _=>?_
        ·(try dsimp only)
         exact HSA.out _ ((J3.bS ES _ _ _ _).Aa AR _ _ _)
        clear ai KK;try simp only[Act.put,ay,az,aA]
        refine tkk (v:=?_) 13 kT ?_ ?_;rotate_left
        ·intro w hSw
         (try dsimp only at hSw);go_simp;all_goals with_reducible rfl
        try simp only[Act.put,ay,az,aA]
        refine wpAnyH_done (by kernel_rfl) ?_ _;have pc:=pR (old:=old) (ib:=ib) hA3 hZ3 zo zt (.inl ((aaa.1 hn2).1)) J3 ES AR;go_wp2_with fail;go_meet;exact pc
       exact AllReadyH.nil
      exact AllReadyH.nil
     exact AllReadyH.nil
    exact AllReadyH.nil
   refine AllReadyH.cons (o:=lF) rfl (fun KK ai=>?_) ?_
   ·
    clear yM;generalize X.alloc (.cells #[.bool false,.slice none 0 0,.slice none 0 0,.slice none 0 0] 121)=X0 at *;have ng:=(Kept.refl X0).alloc (.cells #[.string ⟨#[]⟩,.int .i64 0,.int .i64 0] 77);have J1:=J0.trans ng;have hn1:=heap_alloc_new X0 (.cells #[.string ⟨#[]⟩,.int .i64 0,.int .i64 0] 77);have Co:=J0.size;have hA1:=ng.block hn0;go_simp;refine ai.out _ _ ?_ fun _=>?_
    ·(try dsimp only)
     exact HSA.out _ J1
    clear ai KK;try simp only[Act.put,ay,az,aA]
    refine rdk [1] ?_;refine AllReadyH.cons (o:=zn) rfl (fun KK ai=>?_) ?_
    ·
     clear ng;generalize X0.alloc (.cells #[.string ⟨#[]⟩,.int .i64 0,.int .i64 0] 77)=X1 at *;go_simp;go_at_call 63;(with_reducible refine (HW.out.f3 _ J1).mono ?_);rintro e X2 ⟨rfl,gu⟩;have J2:=J1.trans gu;have hA2:=gu.block hA1;have hZ2:=gu.block hn1;go_wp2_with fail;refine ai.out _ _ ?_ fun _=>?_
     ·(try dsimp only)
      exact HSA.out _ J2
     clear ai KK;try simp only[Act.put,ay,az,aA]
     refine rdk [4] ?_;refine AllReadyH.cons (o:=mU) rfl (fun KK ai=>?_) ?_
     ·
      go_simp;go_at_call 93;(with_reducible refine (HW.out.f4 _ J2).mono ?_);rintro e X3 ⟨pX,mm,pY,qa,qi,rfl,zo,zt,eX⟩;have J3:=J2.trans eX;have hA3:=eX.block hA2;have hZ3:=eX.block hZ2;go_wp2_with fail;refine ai.out _ _ ?_ fun _=>?_
      ·(try dsimp only)
       exact HSA.out _ J3
      clear ai KK;try simp only[Act.put,ay,az,aA]
      refine tkk (v:=?_) 5 mY ?_ ?_;rotate_left
      ·intro w hSw
       (try dsimp only at hSw);go_simp;all_goals with_reducible rfl
      try simp only[Act.put,ay,az,aA]
      refine tkk (v:=?_) 6 mX ?_ ?_;rotate_left
      ·intro w hSw
       (try dsimp only at hSw);go_simp;all_goals with_reducible rfl
      try simp only[Act.put,ay,az,aA]
      refine tkk (v:=?_) 7 mV ?_ ?_;rotate_left
      ·intro w hSw
       (try dsimp only at hSw);go_simp;all_goals with_reducible rfl
      try simp only[Act.put,ay,az,aA]
      refine tkk (v:=?_) 8 mW ?_ ?_;rotate_left
      ·intro w hSw
       (try dsimp only at hSw);go_simp;all_goals with_reducible rfl
      try simp only[Act.put,ay,az,aA]
      refine rdk [11] ?_;refine AllReadyH.cons (o:=kS) rfl (fun KK ai=>?_) ?_
      ·
       obtain⟨⟨g0,f0⟩,⟨g1,f1⟩,⟨g2,f2⟩,⟨g3,f3⟩,Lb⟩:=N.aD hA3 (.bool true) (.slice pX mm pY) (.slice qa mm qi) (.slice none 0 0);go_simp;refine ai.out _ _ ?_ fun _=>?_
       ·(try dsimp only)
        exact HSA.out _ (J3.bS ES _ _ _ _)
       clear ai KK;try simp only[Act.put,ay,az,aA]
       refine rdk [12] ?_;refine AllReadyH.cons (o:=kR) rfl (fun KK ai=>?_) ?_
       ·
        have zu:=(N.aG X3 (show X0.heap.size≠X.heap.size from fun e=>by rw[e]at hZ3;rw[hA3]at hZ3;cases hZ3) (.bool true) (.slice pX mm pY) (.slice qa mm qi) (.slice none 0 0)).trans hZ3;obtain⟨⟨p0,r0⟩,⟨p1,r1⟩,⟨p2,r2⟩,vN⟩:=N.dw zu (.string old.d) (.int .i64 old.p) (.int .i64 old.l);go_simp;refine ai.out _ _ ?_ fun _=>?_
        ·(try dsimp only)
         exact HSA.out _ ((J3.bS ES _ _ _ _).Aa Co _ _ _)
        clear ai KK;try simp only[Act.put,ay,az,aA]
        refine tkk (v:=?_) 13 kT ?_ ?_;rotate_left
        ·intro w hSw
         (try dsimp only at hSw);go_simp;all_goals with_reducible rfl
        try simp only[Act.put,ay,az,aA]
        refine wpAnyH_done (by kernel_rfl) ?_ _;have pc:=pR (old:=old) (ib:=ib) hA3 hZ3 zo zt (.inl ((aaa.1 hZ2).1)) J3 ES Co;go_wp2_with fail;go_meet;exact pc
       exact AllReadyH.nil
      exact AllReadyH.nil
     exact AllReadyH.nil
    exact AllReadyH.nil
   exact AllReadyH.nil
  refine AllReadyH.cons (o:=lF) rfl (fun KK ai=>?_) ?_
  ·
   have yM:=(Kept.refl X).alloc (.cells #[.string ⟨#[]⟩,.int .i64 0,.int .i64 0] 77);have J0:=JI.trans yM;have hn0:=heap_alloc_new X (.cells #[.string ⟨#[]⟩,.int .i64 0,.int .i64 0] 77);have ES:=JI.size;go_simp;refine ai.out _ _ ?_ fun _=>?_
   ·(try dsimp only)
    exact HSA.out _ J0
   clear ai KK;try simp only[Act.put,ay,az,aA]
   refine rdk [1,9] ?_;refine AllReadyH.cons (o:=zn) rfl (fun KK ai=>?_) ?_
   ·
    clear yM;generalize X.alloc (.cells #[.string ⟨#[]⟩,.int .i64 0,.int .i64 0] 77)=X0 at *;go_simp;go_at_call 63;(with_reducible refine (HW.out.f3 _ J0).mono ?_);rintro e X1 ⟨rfl,ng⟩;have J1:=J0.trans ng;have hZ1:=ng.block hn0;go_wp2_with fail;refine ai.out _ _ ?_ fun _=>?_
    ·(try dsimp only)
     exact HSA.out _ J1
    clear ai KK;try simp only[Act.put,ay,az,aA]
    refine rdk [4,9] ?_;refine AllReadyH.cons (o:=mU) rfl (fun KK ai=>?_) ?_
    ·
     go_simp;go_at_call 93;(with_reducible refine (HW.out.f4 _ J1).mono ?_);rintro e X2 ⟨pX,mm,pY,qa,qi,rfl,Pz,Jc,gu⟩;have J2:=J1.trans gu;have hZ2:=gu.block hZ1;go_wp2_with fail;refine ai.out _ _ ?_ fun _=>?_
     ·(try dsimp only)
      exact HSA.out _ J2
     clear ai KK;try simp only[Act.put,ay,az,aA]
     refine tkk (v:=?_) 5 mY ?_ ?_;rotate_left
     ·intro w hSw
      (try dsimp only at hSw);go_simp;all_goals with_reducible rfl
     try simp only[Act.put,ay,az,aA]
     refine tkk (v:=?_) 6 mX ?_ ?_;rotate_left
     ·intro w hSw
      (try dsimp only at hSw);go_simp;all_goals with_reducible rfl
     try simp only[Act.put,ay,az,aA]
     refine tkk (v:=?_) 7 mV ?_ ?_;rotate_left
     ·intro w hSw
      (try dsimp only at hSw);go_simp;all_goals with_reducible rfl
     try simp only[Act.put,ay,az,aA]
     refine tkk (v:=?_) 8 mW ?_ ?_;rotate_left
     ·intro w hSw
      (try dsimp only at hSw);go_simp;all_goals with_reducible rfl
     try simp only[Act.put,ay,az,aA]
     refine rdk [9] ?_;refine AllReadyH.cons (o:=lD) rfl (fun KK ai=>?_) ?_
     ·
      have eX:=(Kept.refl X2).alloc (.cells #[.bool false,.slice none 0 0,.slice none 0 0,.slice none 0 0] 121);have J3:=J2.trans eX;have pW:=heap_alloc_new X2 (.cells #[.bool false,.slice none 0 0,.slice none 0 0,.slice none 0 0] 121);have AU:=J2.size;have hZ3:=eX.block hZ2;have zo:=Pz.kept eX;have zt:=Jc.kept eX;go_simp;refine ai.out _ _ ?_ fun _=>?_
      ·(try dsimp only)
       exact HSA.out _ J3
      clear ai KK;try simp only[Act.put,ay,az,aA]
      refine rdk [11] ?_;refine AllReadyH.cons (o:=kS) rfl (fun KK ai=>?_) ?_
      ·
       clear eX;generalize X2.alloc (.cells #[.bool false,.slice none 0 0,.slice none 0 0,.slice none 0 0] 121)=X3 at *;obtain⟨⟨g0,f0⟩,⟨g1,f1⟩,⟨g2,f2⟩,⟨g3,f3⟩,Lb⟩:=N.aD pW (.bool true) (.slice pX mm pY) (.slice qa mm qi) (.slice none 0 0);go_simp;refine ai.out _ _ ?_ fun _=>?_
       ·(try dsimp only)
        exact HSA.out _ (J3.bS AU _ _ _ _)
       clear ai KK;try simp only[Act.put,ay,az,aA]
       refine rdk [12] ?_;refine AllReadyH.cons (o:=kR) rfl (fun KK ai=>?_) ?_
       ·
        have zu:=(N.aG X3 (show X.heap.size≠X2.heap.size from fun e=>by rw[e]at hZ3;rw[pW]at hZ3;cases hZ3) (.bool true) (.slice pX mm pY) (.slice qa mm qi) (.slice none 0 0)).trans hZ3;obtain⟨⟨p0,r0⟩,⟨p1,r1⟩,⟨p2,r2⟩,vN⟩:=N.dw zu (.string old.d) (.int .i64 old.p) (.int .i64 old.l);go_simp;refine ai.out _ _ ?_ fun _=>?_
        ·(try dsimp only)
         exact HSA.out _ ((J3.bS AU _ _ _ _).Aa ES _ _ _)
        clear ai KK;try simp only[Act.put,ay,az,aA]
        refine tkk (v:=?_) 13 kT ?_ ?_;rotate_left
        ·intro w hSw
         (try dsimp only at hSw);go_simp;all_goals with_reducible rfl
        try simp only[Act.put,ay,az,aA]
        refine wpAnyH_done (by kernel_rfl) ?_ _;have pc:=pR (old:=old) (ib:=ib) pW hZ3 zo zt (.inl ((aaa.1 hZ1).1)) J3 AU ES;go_wp2_with fail;go_meet;exact pc
       exact AllReadyH.nil
      exact AllReadyH.nil
     exact AllReadyH.nil
    refine AllReadyH.cons (o:=lD) rfl (fun KK ai=>?_) ?_
    ·
     have gu:=(Kept.refl X1).alloc (.cells #[.bool false,.slice none 0 0,.slice none 0 0,.slice none 0 0] 121);have J2:=J1.trans gu;have hn2:=heap_alloc_new X1 (.cells #[.bool false,.slice none 0 0,.slice none 0 0,.slice none 0 0] 121);have AR:=J1.size;have hZ2:=gu.block hZ1;go_simp;refine ai.out _ _ ?_ fun _=>?_
     ·(try dsimp only)
      exact HSA.out _ J2
     clear ai KK;try simp only[Act.put,ay,az,aA]
     refine rdk [4] ?_;refine AllReadyH.cons (o:=mU) rfl (fun KK ai=>?_) ?_
     ·
      clear gu;generalize X1.alloc (.cells #[.bool false,.slice none 0 0,.slice none 0 0,.slice none 0 0] 121)=X2 at *;go_simp;go_at_call 93;(with_reducible refine (HW.out.f4 _ J2).mono ?_);rintro e X3 ⟨pX,mm,pY,qa,qi,rfl,zo,zt,eX⟩;have J3:=J2.trans eX;have hA3:=eX.block hn2;have hZ3:=eX.block hZ2;go_wp2_with fail;refine ai.out _ _ ?_ fun _=>?_
      ·(try dsimp only)
       exact HSA.out _ J3
      clear ai KK;try simp only[Act.put,ay,az,aA]
      refine tkk (v:=?_) 5 mY ?_ ?_;rotate_left
      ·intro w hSw
       (try dsimp only at hSw);go_simp;all_goals with_reducible rfl
      try simp only[Act.put,ay,az,aA]
      refine tkk (v:=?_) 6 mX ?_ ?_;rotate_left
      ·intro w hSw
       (try dsimp only at hSw);go_simp;all_goals with_reducible rfl
      try simp only[Act.put,ay,az,aA]
      refine tkk (v:=?_) 7 mV ?_ ?_;rotate_left
      ·intro w hSw
       (try dsimp only at hSw);go_simp;all_goals with_reducible rfl
      try simp only[Act.put,ay,az,aA]
      refine tkk (v:=?_) 8 mW ?_ ?_;rotate_left
      ·intro w hSw
       (try dsimp only at hSw);go_simp;all_goals with_reducible rfl
      try simp only[Act.put,ay,az,aA]
      refine rdk [11] ?_;refine AllReadyH.cons (o:=kS) rfl (fun KK ai=>?_) ?_
      ·
       obtain⟨⟨g0,f0⟩,⟨g1,f1⟩,⟨g2,f2⟩,⟨g3,f3⟩,Lb⟩:=N.aD hA3 (.bool true) (.slice pX mm pY) (.slice qa mm qi) (.slice none 0 0);go_simp;refine ai.out _ _ ?_ fun _=>?_
       ·(try dsimp only)
        exact HSA.out _ (J3.bS AR _ _ _ _)
       clear ai KK;try simp only[Act.put,ay,az,aA]
       refine rdk [12] ?_;refine AllReadyH.cons (o:=kR) rfl (fun KK ai=>?_) ?_
       ·
        have zu:=(N.aG X3 (show X.heap.size≠X1.heap.size from fun e=>by rw[e]at hZ3;rw[hA3]at hZ3;cases hZ3) (.bool true) (.slice pX mm pY) (.slice qa mm qi) (.slice none 0 0)).trans hZ3;obtain⟨⟨p0,r0⟩,⟨p1,r1⟩,⟨p2,r2⟩,vN⟩:=N.dw zu (.string old.d) (.int .i64 old.p) (.int .i64 old.l);go_simp;refine ai.out _ _ ?_ fun _=>?_
        ·(try dsimp only)
         exact HSA.out _ ((J3.bS AR _ _ _ _).Aa ES _ _ _)
        clear ai KK;try simp only[Act.put,ay,az,aA]
        refine tkk (v:=?_) 13 kT ?_ ?_;rotate_left
        ·intro w hSw
         (try dsimp only at hSw);go_simp;all_goals with_reducible rfl
        try simp only[Act.put,ay,az,aA]
        refine wpAnyH_done (by kernel_rfl) ?_ _;have pc:=pR (old:=old) (ib:=ib) hA3 hZ3 zo zt (.inl ((aaa.1 hZ2).1)) J3 AR ES;go_wp2_with fail;go_meet;exact pc
       exact AllReadyH.nil
      exact AllReadyH.nil
     exact AllReadyH.nil
    exact AllReadyH.nil
   refine AllReadyH.cons (o:=lD) rfl (fun KK ai=>?_) ?_
   ·
    clear yM;generalize X.alloc (.cells #[.string ⟨#[]⟩,.int .i64 0,.int .i64 0] 77)=X0 at *;have ng:=(Kept.refl X0).alloc (.cells #[.bool false,.slice none 0 0,.slice none 0 0,.slice none 0 0] 121);have J1:=J0.trans ng;have hn1:=heap_alloc_new X0 (.cells #[.bool false,.slice none 0 0,.slice none 0 0,.slice none 0 0] 121);have Co:=J0.size;have hZ1:=ng.block hn0;go_simp;refine ai.out _ _ ?_ fun _=>?_
    ·(try dsimp only)
     exact HSA.out _ J1
    clear ai KK;try simp only[Act.put,ay,az,aA]
    refine rdk [1] ?_;refine AllReadyH.cons (o:=zn) rfl (fun KK ai=>?_) ?_
    ·
     clear ng;generalize X0.alloc (.cells #[.bool false,.slice none 0 0,.slice none 0 0,.slice none 0 0] 121)=X1 at *;go_simp;go_at_call 63;(with_reducible refine (HW.out.f3 _ J1).mono ?_);rintro e X2 ⟨rfl,gu⟩;have J2:=J1.trans gu;have hA2:=gu.block hn1;have hZ2:=gu.block hZ1;go_wp2_with fail;refine ai.out _ _ ?_ fun _=>?_
     ·(try dsimp only)
      exact HSA.out _ J2
     clear ai KK;try simp only[Act.put,ay,az,aA]
     refine rdk [4] ?_;refine AllReadyH.cons (o:=mU) rfl (fun KK ai=>?_) ?_
     ·
      go_simp;go_at_call 93;(with_reducible refine (HW.out.f4 _ J2).mono ?_);rintro e X3 ⟨pX,mm,pY,qa,qi,rfl,zo,zt,eX⟩;have J3:=J2.trans eX;have hA3:=eX.block hA2;have hZ3:=eX.block hZ2;go_wp2_with fail;refine ai.out _ _ ?_ fun _=>?_
      ·(try dsimp only)
       exact HSA.out _ J3
      clear ai KK;try simp only[Act.put,ay,az,aA]
      refine tkk (v:=?_) 5 mY ?_ ?_;rotate_left
      ·intro w hSw
       (try dsimp only at hSw);go_simp;all_goals with_reducible rfl
      try simp only[Act.put,ay,az,aA]
      refine tkk (v:=?_) 6 mX ?_ ?_;rotate_left
      ·intro w hSw
       (try dsimp only at hSw);go_simp;all_goals with_reducible rfl
      try simp only[Act.put,ay,az,aA]
      refine tkk (v:=?_) 7 mV ?_ ?_;rotate_left
      ·intro w hSw
       (try dsimp only at hSw);go_simp;all_goals with_reducible rfl
      try simp only[Act.put,ay,az,aA]
      refine tkk (v:=?_) 8 mW ?_ ?_;rotate_left
      ·intro w hSw
       (try dsimp only at hSw);go_simp;all_goals with_reducible rfl
      try simp only[Act.put,ay,az,aA]
      refine rdk [11] ?_;refine AllReadyH.cons (o:=kS) rfl (fun KK ai=>?_) ?_
      ·
       obtain⟨⟨g0,f0⟩,⟨g1,f1⟩,⟨g2,f2⟩,⟨g3,f3⟩,Lb⟩:=N.aD hA3 (.bool true) (.slice pX mm pY) (.slice qa mm qi) (.slice none 0 0);go_simp;refine ai.out _ _ ?_ fun _=>?_
       ·(try dsimp only)
        exact HSA.out _ (J3.bS Co _ _ _ _)
       clear ai KK;try simp only[Act.put,ay,az,aA]
       refine rdk [12] ?_;refine AllReadyH.cons (o:=kR) rfl (fun KK ai=>?_) ?_
       ·
        have zu:=(N.aG X3 (show X.heap.size≠X0.heap.size from fun e=>by rw[e]at hZ3;rw[hA3]at hZ3;cases hZ3) (.bool true) (.slice pX mm pY) (.slice qa mm qi) (.slice none 0 0)).trans hZ3;obtain⟨⟨p0,r0⟩,⟨p1,r1⟩,⟨p2,r2⟩,vN⟩:=N.dw zu (.string old.d) (.int .i64 old.p) (.int .i64 old.l);go_simp;refine ai.out _ _ ?_ fun _=>?_
        ·(try dsimp only)
         exact HSA.out _ ((J3.bS Co _ _ _ _).Aa ES _ _ _)
        clear ai KK;try simp only[Act.put,ay,az,aA]
        refine tkk (v:=?_) 13 kT ?_ ?_;rotate_left
        ·intro w hSw
         (try dsimp only at hSw);go_simp;all_goals with_reducible rfl
        try simp only[Act.put,ay,az,aA]
        refine wpAnyH_done (by kernel_rfl) ?_ _;have pc:=pR (old:=old) (ib:=ib) hA3 hZ3 zo zt (.inl ((aaa.1 hZ2).1)) J3 Co ES;go_wp2_with fail;go_meet;exact pc
       exact AllReadyH.nil
      exact AllReadyH.nil
     exact AllReadyH.nil
    exact AllReadyH.nil
   exact AllReadyH.nil
  exact AllReadyH.nil
 case rest=>
  obtain⟨a9,sK,pX,mm,pY,qa,qi,rfl,rfl,rfl,X9,X10,N9,k9⟩:=hcut.out;obtain⟨x0,x1,x2,x3⟩:=X9.cs;have f5:=HW.out.f5 wc pX mm pY qa qi k9 N9;have Yg:Hid (C3 wc sK 77 (.string old.d) (.int .i64 old.p) (.int .i64 old.l)):=X10;have H6:Hid (wc.heap[w.heap.size+1]? = some (.cells #[.string ⟨#[]⟩,.int .i64 0,.int .i64 0] 77)):=k9.block S61;have HKc:Hid (Kept w wc):=K1.trans k9;clear hcut X9 X10 N9 k9 HSA HW S51 S61 K0 K1 K2 k1 k2;go_wp2_with fail;refine f5.mono ?_;rintro e w5 hR;have VH:Hid (∀ b cc fr,wc.heap[b]? = some (.cells cc 77 fr)->b≠t):=fun b cc fr hb e=>by
   have h2:=(HT.out.kept HKc.out).out;rw[e,h2]at hb;injection hb with hb;injection hb with _ hb _;exact absurd hb (by decide)
  rcases hR with⟨rfl,M',r,tr,T5,V5,x5⟩|⟨rfl,M',ex,T5,V5,x5⟩
  ·have R6:C3 w5 (w.heap.size+1) 77 (.string ⟨#[]⟩) (.int .i64 0) (.int .i64 0):=⟨x5.rows _ _ _ _ H6.out nK (VH.out _ _ _ H6.out)⟩
   have Y10:C3 w5 sK 77 (.string old.d) (.int .i64 old.p) (.int .i64 old.l):=⟨x5.rows _ _ _ _ Yg.out.out nK (VH.out _ _ _ Yg.out.out)⟩;obtain⟨y0,y1,y2⟩:=Y10.cs;obtain⟨⟨g0,i0⟩,⟨g1,i1⟩,⟨g2,i2⟩,hfin⟩:=N.dw R6.out (.string old.d) (.int .i64 old.p) (.int .i64 old.l);have dm:∀ k,k≠w.heap.size+1->(((w5.setCell ⟨w.heap.size+1,0,none⟩ (.string old.d)).setCell ⟨w.heap.size+1,1,none⟩ (.int .i64 old.p)).setCell ⟨w.heap.size+1,2,none⟩ (.int .i64 old.l)).heap[k]? = w5.heap[k]?:=fun k hk=>Yf w5 hk _ _ _
   have q1:=Jb T5 R6.out (by decide) dm;have q2:Pv B (((w5.setCell ⟨w.heap.size+1,0,none⟩ (.string old.d)).setCell ⟨w.heap.size+1,1,none⟩ (.int .i64 old.p)).setCell ⟨w.heap.size+1,2,none⟩ (.int .i64 old.l)) p m M':=V5.ap (Ap.other R6.out (by decide) (fun k o hk hne=>(dm k hne).trans hk));have q3:=Py ((Tx.Pe (t:=t) (G.On.ax ⟨HKc.out.out⟩ HB.out)).trans x5) (z:=w.heap.size+1) (Nat.le_succ _) HB.out (Uq _ _ _ _ _) dm;clear T5 V5 x5 dm R6 Y10 f5 x0 x1 x2 x3;go_wp2;generalize (((w5.setCell ⟨w.heap.size+1,0,none⟩ (.string old.d)).setCell ⟨w.heap.size+1,1,none⟩ (.int .i64 old.p)).setCell ⟨w.heap.size+1,2,none⟩ (.int .i64 old.l))=WF at *;refine bodyPost_ret (v:=.tuple #[.agg #[.string old.d,.int .i64 old.p,.int .i64 old.l],.bool ib,.int .i64 0]) ?_ rfl (.inl ⟨rfl,M',r,tr,q1,q2,q3⟩);exact gQ (p:=6) (u:=7) (v:=8) (ty:=77) rfl _ _ (w.heap.size+1) 77 #[.string old.d,.int .i64 old.p,.int .i64 old.l] (0,0) _ rfl hfin Tryz.underlying77 rfl iJ
  ·have R6:C3 w5 (w.heap.size+1) 77 (.string ⟨#[]⟩) (.int .i64 0) (.int .i64 0):=⟨x5.rows _ _ _ _ H6.out nK (VH.out _ _ _ H6.out)⟩
   obtain⟨⟨g0,i0⟩,⟨g1,i1⟩,⟨g2,i2⟩,hfin⟩:=N.dw R6.out (.string ⟨#[]⟩) (.int .i64 0) (.int .i64 0);have dm:∀ k,k≠w.heap.size+1->(((w5.setCell ⟨w.heap.size+1,0,none⟩ (.string ⟨#[]⟩)).setCell ⟨w.heap.size+1,1,none⟩ (.int .i64 0)).setCell ⟨w.heap.size+1,2,none⟩ (.int .i64 0)).heap[k]? = w5.heap[k]?:=fun k hk=>Yf w5 hk _ _ _
   have q1:=Jb T5 R6.out (by decide) dm;have q2:Pv B (((w5.setCell ⟨w.heap.size+1,0,none⟩ (.string ⟨#[]⟩)).setCell ⟨w.heap.size+1,1,none⟩ (.int .i64 0)).setCell ⟨w.heap.size+1,2,none⟩ (.int .i64 0)) p m M':=V5.ap (Ap.other R6.out (by decide) (fun k o hk hne=>(dm k hne).trans hk));have q3:=Py ((Tx.Pe (t:=t) (G.On.ax ⟨HKc.out.out⟩ HB.out)).trans x5) (z:=w.heap.size+1) (Nat.le_succ _) HB.out (Uq _ _ _ _ _) dm;clear T5 V5 x5 dm R6 f5 x0 x1 x2 x3;go_wp2;generalize (((w5.setCell ⟨w.heap.size+1,0,none⟩ (.string ⟨#[]⟩)).setCell ⟨w.heap.size+1,1,none⟩ (.int .i64 0)).setCell ⟨w.heap.size+1,2,none⟩ (.int .i64 0))=WF at *;refine bodyPost_ret (v:=.tuple #[.agg #[.string ⟨#[]⟩,.int .i64 0,.int .i64 0],.bool false,.int .i64 80]) ?_ rfl (.inr ⟨rfl,M',ex,q1,q2,q3⟩);exact gQ (p:=6) (u:=7) (v:=8) (ty:=77) rfl _ _ (w.heap.size+1) 77 #[.string ⟨#[]⟩,.int .i64 0,.int .i64 0] (0,0) _ rfl hfin Tryz.underlying77 rfl iJ
