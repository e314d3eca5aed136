/- Joined. -/
import Derived.Test.YtafgecaeiodmiaaGreatDoorZbi
namespace Go.Proofs.YtafgecaeiodmiaaGreatDoor.T
open Go.ChangeShapes Go.WideShapes Go.ChangeAt Go.RowKit
open B (path_zero stpAt fm Pm pt drp Stp plc Ext Pn Prt WfN us Lv Sg Pf Mk En R upd Tr Tree con path path_length path_pf path_next cA cC got path_got Wf)
open N (Nd NV NZ Nw Rw Rx Own Kept kcl vcl icl Vl C4 C3 Up blk fnd isk oldV)
theorem sbj1{α:Type}(l:List α)(i:Nat)(a:α):l.toArray.setIfInBounds i a=(l.set i a).toArray:=by simp
theorem sbj2{α:Type}(x:α)(l:List α)(a:α):(x :: l).set 0 a=a :: l:=rfl
theorem sbj3{α:Type}(x:α)(l:List α)(i:Nat)(a:α):(x :: l).set (i+1) a=x :: l.set i a:=rfl
abbrev oprtv0:Go.Oper:={ dst:=none,op:=.store 35 (.tmp 12) (.tmp 45),type:=0,pos:= "btree.go:76",after:=#[⟨10,.data⟩,⟨7,.data⟩,⟨11,.chain⟩,⟨0,.phase⟩,⟨1,.phase⟩,⟨2,.phase⟩,⟨3,.phase⟩,⟨4,.phase⟩,⟨5,.phase⟩,⟨6,.phase⟩,⟨7,.phase⟩,⟨8,.textOnly .lateStores⟩,⟨9,.phase⟩,⟨10,.phase⟩,⟨11,.phase⟩],guard:=none }
abbrev oprtv1:Go.Oper:={ dst:=none,op:=.store 71 (.tmp 11) (.tmp 44),type:=0,pos:= "btree.go:76",after:=#[⟨9,.data⟩,⟨6,.data⟩,⟨4,.chain⟩,⟨0,.phase⟩,⟨1,.phase⟩,⟨2,.phase⟩,⟨3,.phase⟩,⟨4,.phase⟩,⟨5,.phase⟩,⟨6,.phase⟩,⟨7,.textOnly .lateStores⟩,⟨8,.textOnly .lateStores⟩,⟨9,.phase⟩,⟨10,.phase⟩],guard:=none }
abbrev oprtv2:Go.Oper:={ dst:=some 13,op:=.assign (.tmp 46),type:=4,pos:= "btree.go:76",after:=#[⟨8,.data⟩,⟨12,.chain⟩,⟨0,.phase⟩,⟨1,.phase⟩,⟨2,.phase⟩,⟨3,.phase⟩,⟨4,.phase⟩,⟨5,.phase⟩,⟨6,.phase⟩,⟨7,.phase⟩,⟨8,.phase⟩,⟨9,.phase⟩,⟨10,.phase⟩,⟨11,.phase⟩,⟨12,.phase⟩],guard:=none }
abbrev oprtv3:Go.Oper:={ dst:=some 43,op:=.call { callee:=.value (.func 44),args:=#[.tmp 40,.tmp 41,.tmp 42],argTypes:=#[71,9,35] },type:=112,pos:= "btree.go:76",after:=#[⟨1,.data⟩,⟨2,.data⟩,⟨3,.data⟩,⟨1,.chain⟩],guard:=none }
abbrev oprtv4:Go.Oper:={ dst:=some 40,op:=.call { callee:=.value (.func 45),args:=#[.tmp 39],argTypes:=#[109] },type:=71,pos:= "btree.go:76",after:=#[⟨0,.data⟩],guard:=none }
abbrev oprtv5:Go.Oper:={ dst:=some 45,op:=.extract (.tmp 38) 1,type:=35,pos:= "btree.go:76",after:=#[⟨5,.data⟩,⟨11,.gcOnly .lateStores⟩],guard:=none }
abbrev oprtv6:Go.Oper:={ dst:=some 46,op:=.extract (.tmp 38) 2,type:=4,pos:= "btree.go:76",after:=#[⟨5,.data⟩,⟨12,.gcOnly .lateStores⟩],guard:=none }
abbrev oprtv7:Go.Oper:={ dst:=some 44,op:=.extract (.tmp 38) 0,type:=71,pos:= "btree.go:76",after:=#[⟨5,.data⟩],guard:=none }
abbrev oprtv8:Go.Oper:={ dst:=some 38,op:=.move (.tmp 43),type:=112,pos:= "btree.go:76",after:=#[⟨4,.data⟩],guard:=none }
abbrev oprtv9:Go.Oper:={ dst:=some 42,op:=.load 35 (.tmp 5),type:=35,pos:= "btree.go:76",after:=#[],guard:=none }
abbrev oprtv10:Go.Oper:={ dst:=some 39,op:=.move (.tmp 9),type:=109,pos:= "btree.go:76",after:=#[],guard:=none }
abbrev oprtv11:Go.Oper:={ dst:=some 41,op:=.move (.tmp 1),type:=9,pos:= "btree.go:76",after:=#[],guard:=none }
abbrev oprtv12:Go.Oper:={ dst:=some 11,op:=.alloc 71,type:=0,pos:= "btree.go:76",after:=#[],guard:=none }
abbrev oprtv13:Go.Oper:={ dst:=some 12,op:=.alloc 35,type:=0,pos:= "btree.go:76",after:=#[],guard:=none }
structure WayS (kx B t p m:Nat) (root:Int) (M0:Pm) (ln:List En) (key:ByteArray) (vd:ByteArray) (vp' vl':Int) (old:Vl) (ib:Bool) (ks':List ByteArray) (vs':List Vl) (w1:World) (q:Option Addr) (n cap:Nat) (zl:Bool) (zkp:Option Addr) (znk zkc:Nat) (zvp:Option Addr) (znv zvc:Nat) (zip:Option Addr) (zni zic:Nat):Prop where
 f3:∀ W,Kept w1 W→Calls Tryz.prog 45 #[.slice q n cap] W fun e w'=>e=.returned (.agg #[.bool zl,.slice zkp znk zkc,.slice zvp znv zvc,.slice zip zni zic])∧Kept W w'
 f4:∀ W,Kept w1 W→Calls Tryz.prog 44 #[.agg #[.bool zl,.slice zkp znk zkc,.slice zvp znv zvc,.slice zip zni zic],.string key,.agg #[.string vd,.int .i64 vp',.int .i64 vl']] W fun e w'=>∃ kp' mm kc' vp'' vc',e=.returned (.tuple #[.agg #[.bool true,.slice kp' mm kc',.slice vp'' mm vc',.slice none 0 0],.agg #[.string old.d,.int .i64 old.p,.int .i64 old.l],.bool ib])∧Own w' W.heap.size 9 1 kp' mm kc' (kcl ks')∧Own w' W.heap.size 35 3 vp'' mm vc' (vcl vs')∧Kept W w'
 f5:∀ W kp' mm kc' vp'' vc',Kept w1 W→NV W true kp' mm kc' vp'' mm vc' none 0 0 ⟨true,ks',vs',[]⟩→Calls Tryz.prog 46 #[.pointer (some ⟨t,0,none⟩),.slice q n cap,.agg #[.bool true,.slice kp' mm kc',.slice vp'' mm vc',.slice none 0 0]] W (RPost kx B t p m root M0 ln W)
structure Pc (w1:World) (old:Vl) (ib:Bool) (ks':List ByteArray) (vs':List Vl) (a b c:Value) (wx:World):Prop where
 out:∃ a9 a10 kp' mm kc' vp' vc',a=.pointer (some ⟨a9,0,none⟩)∧b=.pointer (some ⟨a10,0,none⟩)∧c=.bool ib∧C4 wx a9 71 (.bool true) (.slice kp' mm kc') (.slice vp' mm vc') (.slice none 0 0)∧C3 wx a10 35 (.string old.d) (.int .i64 old.p) (.int .i64 old.l)∧NV wx true kp' mm kc' vp' mm vc' none 0 0 ⟨true,ks',vs',[]⟩∧Kept w1 wx
theorem pc_of{w1 wk:World}{old:Vl}{ib:Bool}{ks':List ByteArray}{vs':List Vl}{a9 a10 B1 B2:Nat}{kp':Option Addr}{mm kc':Nat}{vp':Option Addr}{vc':Nat}(hA:wk.heap[a9]? = some (.cells #[.bool false,.slice none 0 0,.slice none 0 0,.slice none 0 0] 71))(hZ:wk.heap[a10]? = some (.cells #[.string ⟨#[]⟩,.int .i64 0,.int .i64 0] 35))(OK:Own wk B1 9 1 kp' mm kc' (kcl ks'))(OV:Own wk B2 35 3 vp' mm vc' (vcl vs'))(hB2:a10<B2∨∀ b off ph,vp'=some ⟨b,off,ph⟩→b≠a10)(J:Kept w1 wk)(h9:w1.heap.size≤a9)(h10:w1.heap.size≤a10) :
  Pc w1 old ib ks' vs' (.pointer (some ⟨a9,0,none⟩)) (.pointer (some ⟨a10,0,none⟩)) (.bool ib) (((((((wk.setCell ⟨a9,0,none⟩ (.bool true)).setCell ⟨a9,1,none⟩ (.slice kp' mm kc')).setCell ⟨a9,2,none⟩ (.slice vp' mm vc')).setCell ⟨a9,3,none⟩ (.slice none 0 0)).setCell ⟨a10,0,none⟩ (.string old.d)).setCell ⟨a10,1,none⟩ (.int .i64 old.p)).setCell ⟨a10,2,none⟩ (.int .i64 old.l)):=by
 have hne:a9≠a10:=by rintro rfl;rw[hA]at hZ;cases hZ
 obtain⟨_,_,_,_,hf9⟩:=N.ready4 hA (.bool true) (.slice kp' mm kc') (.slice vp' mm vc') (.slice none 0 0);have o9:∀ k,k≠a9→((((wk.setCell ⟨a9,0,none⟩ (.bool true)).setCell ⟨a9,1,none⟩ (.slice kp' mm kc')).setCell ⟨a9,2,none⟩ (.slice vp' mm vc')).setCell ⟨a9,3,none⟩ (.slice none 0 0)).heap[k]? = wk.heap[k]?:=fun k hk=>N.others4 _ hk _ _ _ _
 have k9:Kept w1 ((((wk.setCell ⟨a9,0,none⟩ (.bool true)).setCell ⟨a9,1,none⟩ (.slice kp' mm kc')).setCell ⟨a9,2,none⟩ (.slice vp' mm vc')).setCell ⟨a9,3,none⟩ (.slice none 0 0)):=J.st4 h9 _ _ _ _;have OK9:=own_same OK hA (by decide) o9;have OV9:=own_same OV hA (by decide) o9;have hZ9:=(o9 a10 (Ne.symm hne)).trans hZ;generalize ((((wk.setCell ⟨a9,0,none⟩ (.bool true)).setCell ⟨a9,1,none⟩ (.slice kp' mm kc')).setCell ⟨a9,2,none⟩ (.slice vp' mm vc')).setCell ⟨a9,3,none⟩ (.slice none 0 0))=W9 at *;obtain⟨_,_,_,hf10⟩:=N.ready3 hZ9 (.string old.d) (.int .i64 old.p) (.int .i64 old.l);have o10:∀ k,k≠a10→(((W9.setCell ⟨a10,0,none⟩ (.string old.d)).setCell ⟨a10,1,none⟩ (.int .i64 old.p)).setCell ⟨a10,2,none⟩ (.int .i64 old.l)).heap[k]? = W9.heap[k]?:=fun k hk=>by
  rw[heap_setCell_other _ ⟨a10,2,none⟩ k _ hk,heap_setCell_other _ ⟨a10,1,none⟩ k _ hk,heap_setCell_other _ ⟨a10,0,none⟩ k _ hk]
 have k10:=k9.st3 h10 (.string old.d) (.int .i64 old.p) (.int .i64 old.l);have OK10:=own_same OK9 hZ9 (by decide) o10;have OV10:Own (((W9.setCell ⟨a10,0,none⟩ (.string old.d)).setCell ⟨a10,1,none⟩ (.int .i64 old.p)).setCell ⟨a10,2,none⟩ (.int .i64 old.l)) B2 35 3 vp' mm vc' (vcl vs'):=by
  refine⟨OV9.out.1,?_⟩;rcases OV9.out.2 with h1 | ⟨b,cp,cur,e1,e2,e3,e4⟩
  ·exact .inl h1
  ·refine .inr ⟨b,cp,cur,e1,e2,(o10 b (fun e=>?_)).trans e3,e4⟩
   rcases hB2 with h | h
   ·omega
   ·injection e1 with e1;exact h b 0 none e1 e
 refine⟨a9,a10,kp',mm,kc',vp',vc',rfl,rfl,rfl,C4.mk ((o10 a9 hne).trans hf9),⟨hf10⟩,⟨rfl,OK10.rw,OV10.rw,⟨rfl,Nat.le_refl _,Nat.zero_le _,.inl ⟨rfl,rfl⟩⟩,OK10.rx,OV10.rx,N.Rx.none _ _⟩,k10⟩
theorem own_nlt{w:World}{B b off:Nat}{ph:Option Nat}{e:TypeId}{sz n cap:Nat}{p:Option Addr}{cs:List Value}(h:Own w B e sz p n cap cs)(hp:p=some ⟨b,off,ph⟩):b<w.heap.size:=by
 rcases h.cases with⟨hx,_⟩|⟨g',cur,hx,_,hlt,_⟩
 ·rw[hx]at hp;cases hp
 ·rw[hx]at hp;injection hp with hp;injection hp with hp;subst hp;exact hlt
def PPost (kx B t p m:Nat) (root:Int) (M0:Pm) (ln:List En) (old:Vl) (ib:Bool) (w:World) (e:Ending) (w':World):Prop:=
 (e=.returned (.tuple #[.agg #[.string old.d,.int .i64 old.p,.int .i64 old.l],.bool ib,.int .i64 0])∧∃ M' r,Tree M' r ln∧TAt w' t p r∧Pv B w' p m M'∧Tx B t w w')∨(e=.returned (.tuple #[.agg #[.string ⟨#[]⟩,.int .i64 0,.int .i64 0],.bool false,.int .i64 80])∧∃ M',Er m M0 M' kx∧TAt w' t p root∧Pv B w' p m M'∧Tx B t w w')
theorem tx_oth{B t:Nat}{a b d:World}(h:Tx B t a b){z:Nat}(hz:a.heap.size≤z)(hB:B≤a.heap.size)(hd:Below 0 b d)(ho:∀ k,k≠z→d.heap[k]? = b.heap[k]?):Tx B t a d:=by
 refine⟨h.below.trans ⟨hd.os,hd.tape,hd.output,hd.size,fun k hk=>ho k (by omega)⟩,fun x cs ty fr hx ht hn=>(ho x ?_).trans (h.rows x cs ty fr hx ht hn)⟩;have:=(Array.getElem?_eq_some_iff.1 hx).1;omega
theorem zero3(W:World)(b:Nat)(v0 v1 v2:Value):Below 0 W (((W.setCell ⟨b,0,none⟩ v0).setCell ⟨b,1,none⟩ v1).setCell ⟨b,2,none⟩ v2):=
 (((Below.refl 0 W).setCell (Nat.zero_le _) v0).setCell (Nat.zero_le _) v1).setCell (Nat.zero_le _) v2
theorem oth3(W:World){b k:Nat}(hk:k≠b)(v0 v1 v2:Value):(((W.setCell ⟨b,0,none⟩ v0).setCell ⟨b,1,none⟩ v1).setCell ⟨b,2,none⟩ v2).heap[k]? = W.heap[k]?:=by
 rw[heap_setCell_other _ ⟨b,2,none⟩ k _ hk,heap_setCell_other _ ⟨b,1,none⟩ k _ hk,heap_setCell_other _ ⟨b,0,none⟩ k _ hk]
theorem tat_oth{w w':World}{t p b:Nat}{root:Int}(h:TAt w t p root){cc:Array Value}{ty:TypeId}{fr:Nat×Nat}(hb:w.heap[b]? = some (.cells cc ty fr))(ht:ty≠82)(ho:∀ k,k≠b→w'.heap[k]? = w.heap[k]?):TAt w' t p root:=by
 refine⟨(ho t (fun e=>?_)).trans h.out⟩;subst e;rw[h.out]at hb;injection hb with hb;injection hb with _ hb _;exact ht hb.symm
set_option linter.unusedSimpArgs false in
set_option maxRecDepth 100000 in
set_option maxHeartbeats 8000000 in
theorem put_core{kx B:Nat}{w:World}{t p m:Nat}{root r0:Int}{M0:Pm}{ln:List En}{key vd:ByteArray}{vp vl:Int}{old:Vl}{ib:Bool}{ks':List ByteArray}{vs':List Vl}(hT:TAt w t p r0)(hB:B≤w.heap.size)(hk:key.size≤64)(fm:∀ W,Kept w W→Calls Tryz.prog 42 #[.agg #[.string vd,.int .i64 vp,.int .i64 vl]] W fun e w'=>e=.returned (.bool true)∧Kept W w')(fw:∀ W,Kept w W→Calls Tryz.prog 43 #[.pointer (some ⟨t,0,none⟩),.string key] W fun e w1=>∃ q n cap zl zkp znk zkc zvp znv zvc zip zni zic,e=.returned (.tuple #[.slice q n cap,.int .i64 0])∧WayS kx B t p m root M0 ln key vd vp vl old ib ks' vs' w1 q n cap zl zkp znk zkc zvp znv zvc zip zni zic∧Kept W w1) :
  Calls Tryz.prog 22 #[.pointer (some ⟨t,0,none⟩),.string key,.agg #[.string vd,.int .i64 vp,.int .i64 vl]] w (PPost kx B t p m root M0 ln old ib w):=by
 have K0:Kept w ((w.alloc (.cells #[.string vd,.int .i64 vp,.int .i64 vl] 35)).alloc (.cells #[.string ⟨#[]⟩,.int .i64 0,.int .i64 0] 35)):=((Kept.refl w).alloc _).alloc _;have S5:((w.alloc (.cells #[.string vd,.int .i64 vp,.int .i64 vl] 35)).alloc (.cells #[.string ⟨#[]⟩,.int .i64 0,.int .i64 0] 35)).heap[w.heap.size]? = some (.cells #[.string vd,.int .i64 vp,.int .i64 vl] 35):=((Kept.refl _).alloc _).block (heap_alloc_new w _);have S6:((w.alloc (.cells #[.string vd,.int .i64 vp,.int .i64 vl] 35)).alloc (.cells #[.string ⟨#[]⟩,.int .i64 0,.int .i64 0] 35)).heap[w.heap.size+1]? = some (.cells #[.string ⟨#[]⟩,.int .i64 0,.int .i64 0] 35):=D.two_new w _ _;obtain⟨v0,v1,v2⟩:=(C3.mk S5).cs;have f1:=none_walk (hT.kept K0);have f2:Hid (∀ W,Calls Tryz.prog 41 #[.string key] W fun e w'=>e=.returned (.bool true)∧w'=W):=fun W=>by have:=mayKey_walk W key;rwa [decide_eq_true hk]at this
 have HM:Hid (∀ W,Kept w W→Calls Tryz.prog 42 #[.agg #[.string vd,.int .i64 vp,.int .i64 vl]] W fun e w'=>e=.returned (.bool true)∧Kept W w'):=fm;have HFw:Hid (∀ W,Kept w W→Calls Tryz.prog 43 #[.pointer (some ⟨t,0,none⟩),.string key] W fun e w1=>∃ q n cap zl zkp znk zkc zvp znv zvc zip zni zic,e=.returned (.tuple #[.slice q n cap,.int .i64 0])∧WayS kx B t p m root M0 ln key vd vp vl old ib ks' vs' w1 q n cap zl zkp znk zkc zvp znv zvc zip zni zic∧Kept W w1):=fw;have HB:Hid (B≤w.heap.size):=hB;have HT:Hid (TAt w t p r0):=hT;clear hT hk fm fw hB;go_enter Tryz.func22,Tryz.ntmps22;go_upto_region 6 with (first
  | (go_at_call 29;(with_reducible refine f1.mono ?_);rintro e w1 ⟨rfl,hw1⟩;rw[hw1];clear hw1 f1)
  | (go_at_call 41;(with_reducible refine (f2.out _).mono ?_);rintro e w1 ⟨rfl,hw1⟩;rw[hw1];clear hw1 f2)
  | (go_at_call 42;(with_reducible refine (HM.out _ K0).mono ?_);rintro e w2 ⟨rfl,k2⟩;have K2:=K0.trans k2;have S52:=k2.block S5;have S62:=k2.block S6;clear HM)
  | (go_at_call 43;(with_reducible refine (HFw.out _ K2).mono ?_);rintro e w1 ⟨q,n,cap,zl,zkp,znk,zkc,zvp,znv,zvc,zip,zni,zic,rfl,HW0,k1⟩;have HW:Hid (WayS kx B t p m root M0 ln key vd vp vl old ib ks' vs' w1 q n cap zl zkp znk zkc zvp znv zvc zip zni zic):=HW0;have K1:=K2.trans k1;have S51:=k1.block S52;have S61:=k1.block S62;clear HW0 HFw))
 clear v0 v1 v2 S5 S6 S52 S62;have HSA:Hid (∀ W,Kept w1 W→W.cell? ⟨w.heap.size,0,none⟩=some (.string vd)∧W.cell? ⟨w.heap.size,1,none⟩=some (.int .i64 vp)∧W.cell? ⟨w.heap.size,2,none⟩=some (.int .i64 vl)):=fun W k=>by
  obtain⟨a,b,c⟩:=(C3.mk (k.block S51)).cs;exact⟨a,b,c⟩
 go_cut [11,12,13] (fun a b c wx=>Pc w1 old ib ks' vs' a b c wx);case first=>
  have JI:Kept w1 w1.drew:=(Kept.refl w1).drew;clear K0 K1 K2 k1 k2 S51 S61;refine wp_region_held_drew (S:=(fun W=>W.cell? ⟨w.heap.size,0,none⟩=some (.string vd)∧W.cell? ⟨w.heap.size,1,none⟩=some (.int .i64 vp)∧W.cell? ⟨w.heap.size,2,none⟩=some (.int .i64 vl))) (by kernel_rfl) ?_ (fun hHeld=>?_)
  ·exact HSA.out _ (by first | exact (Kept.refl _).drew | exact Kept.refl _)
  generalize w1.drew=X at *;refine wpAnyH_take (i:=0) (oi:=oprtv10) (v:=?_) rfl (by kernel_rfl) (by kernel_rfl) (by kernel_rfl) (fun _ _ _ h=>h) (Or.inl ⟨by rfl,?_⟩) (by assumption) ?_;rotate_left
  ·intro w hSw
   (try dsimp only at hSw);go_simp;all_goals with_reducible rfl
  try simp only[Act.put,sbj1,sbj2,sbj3]
  refine wpAnyH_take (i:=2) (oi:=oprtv11) (v:=?_) rfl (by kernel_rfl) (by kernel_rfl) (by kernel_rfl) (fun _ _ _ h=>h) (Or.inl ⟨by rfl,?_⟩) (by assumption) ?_;rotate_left
  ·intro w hSw
   (try dsimp only at hSw);go_simp;all_goals with_reducible rfl
  try simp only[Act.put,sbj1,sbj2,sbj3]
  refine wpAnyH_take (i:=3) (oi:=oprtv9) (v:=?_) rfl (by kernel_rfl) (by kernel_rfl) (by kernel_rfl) (fun _ _ _ h=>h) (Or.inl ⟨by rfl,?_⟩) (by assumption) ?_;rotate_left
  ·intro w hSw
   (try dsimp only at hSw);go_simp;all_goals with_reducible rfl
  try simp only[Act.put,sbj1,sbj2,sbj3]
  refine wpAnyH_ready (rs:=[1,9,10]) (by kernel_rfl) (by simp) ?_;refine AllReadyH.cons (o:=oprtv4) rfl (fun KK hKK=>?_) ?_
  ·
   go_simp;go_at_call 45;(with_reducible refine (HW.out.f3 _ JI).mono ?_);rintro e X0 ⟨rfl,kk0⟩;have J0:=JI.trans kk0;go_wp2_with fail;refine hKK.out _ _ ?_ (fun hHeld=>?_)
   ·(try dsimp only)
    exact HSA.out _ J0
   clear hKK KK;try simp only[Act.put,sbj1,sbj2,sbj3]
   refine wpAnyH_ready (rs:=[4,9,10]) (by kernel_rfl) (by simp) ?_;refine AllReadyH.cons (o:=oprtv3) rfl (fun KK hKK=>?_) ?_
   ·
    go_simp;go_at_call 44;(with_reducible refine (HW.out.f4 _ J0).mono ?_);rintro e X1 ⟨kp9,mm,kc9,vp9,vc9,rfl,OK1,OV1,kk1⟩;have J1:=J0.trans kk1;go_wp2_with fail;refine hKK.out _ _ ?_ (fun hHeld=>?_)
    ·(try dsimp only)
     exact HSA.out _ J1
    clear hKK KK;try simp only[Act.put,sbj1,sbj2,sbj3]
    refine wpAnyH_take (i:=5) (oi:=oprtv8) (v:=?_) rfl (by kernel_rfl) (by kernel_rfl) (by kernel_rfl) (fun _ _ _ h=>h) (Or.inl ⟨by rfl,?_⟩) (by assumption) ?_;rotate_left
    ·intro w hSw
     (try dsimp only at hSw);go_simp;all_goals with_reducible rfl
    try simp only[Act.put,sbj1,sbj2,sbj3]
    refine wpAnyH_take (i:=6) (oi:=oprtv7) (v:=?_) rfl (by kernel_rfl) (by kernel_rfl) (by kernel_rfl) (fun _ _ _ h=>h) (Or.inl ⟨by rfl,?_⟩) (by assumption) ?_;rotate_left
    ·intro w hSw
     (try dsimp only at hSw);go_simp;all_goals with_reducible rfl
    try simp only[Act.put,sbj1,sbj2,sbj3]
    refine wpAnyH_take (i:=7) (oi:=oprtv5) (v:=?_) rfl (by kernel_rfl) (by kernel_rfl) (by kernel_rfl) (fun _ _ _ h=>h) (Or.inl ⟨by rfl,?_⟩) (by assumption) ?_;rotate_left
    ·intro w hSw
     (try dsimp only at hSw);go_simp;all_goals with_reducible rfl
    try simp only[Act.put,sbj1,sbj2,sbj3]
    refine wpAnyH_take (i:=8) (oi:=oprtv6) (v:=?_) rfl (by kernel_rfl) (by kernel_rfl) (by kernel_rfl) (fun _ _ _ h=>h) (Or.inl ⟨by rfl,?_⟩) (by assumption) ?_;rotate_left
    ·intro w hSw
     (try dsimp only at hSw);go_simp;all_goals with_reducible rfl
    try simp only[Act.put,sbj1,sbj2,sbj3]
    refine wpAnyH_ready (rs:=[9,10]) (by kernel_rfl) (by simp) ?_;refine AllReadyH.cons (o:=oprtv12) rfl (fun KK hKK=>?_) ?_
    ·
     have kk2:=(Kept.refl X1).alloc (.cells #[.bool false,.slice none 0 0,.slice none 0 0,.slice none 0 0] 71);have J2:=J1.trans kk2;have hn2:=heap_alloc_new X1 (.cells #[.bool false,.slice none 0 0,.slice none 0 0,.slice none 0 0] 71);have sz2:=J1.size;have OK2:=OK1.kept kk2;have OV2:=OV1.kept kk2;go_simp;refine hKK.out _ _ ?_ (fun hHeld=>?_)
     ·(try dsimp only)
      exact HSA.out _ J2
     clear hKK KK;try simp only[Act.put,sbj1,sbj2,sbj3]
     refine wpAnyH_ready (rs:=[10]) (by kernel_rfl) (by simp) ?_;refine AllReadyH.cons (o:=oprtv13) rfl (fun KK hKK=>?_) ?_
     ·
      clear kk2;generalize X1.alloc (.cells #[.bool false,.slice none 0 0,.slice none 0 0,.slice none 0 0] 71)=X2 at *;have kk3:=(Kept.refl X2).alloc (.cells #[.string ⟨#[]⟩,.int .i64 0,.int .i64 0] 35);have J3:=J2.trans kk3;have hn3:=heap_alloc_new X2 (.cells #[.string ⟨#[]⟩,.int .i64 0,.int .i64 0] 35);have sz3:=J2.size;have hA3:=kk3.block hn2;have OK3:=OK2.kept kk3;have OV3:=OV2.kept kk3;go_simp;refine hKK.out _ _ ?_ (fun hHeld=>?_)
      ·(try dsimp only)
       exact HSA.out _ J3
      clear hKK KK;try simp only[Act.put,sbj1,sbj2,sbj3]
      refine wpAnyH_ready (rs:=[11]) (by kernel_rfl) (by simp) ?_;refine AllReadyH.cons (o:=oprtv1) rfl (fun KK hKK=>?_) ?_
      ·
       clear kk3;generalize X2.alloc (.cells #[.string ⟨#[]⟩,.int .i64 0,.int .i64 0] 35)=X3 at *;obtain⟨⟨g0,f0⟩,⟨g1,f1⟩,⟨g2,f2⟩,⟨g3,f3⟩,hf9⟩:=N.ready4 hA3 (.bool true) (.slice kp9 mm kc9) (.slice vp9 mm vc9) (.slice none 0 0);go_simp;refine hKK.out _ _ ?_ (fun hHeld=>?_)
       ·(try dsimp only)
        exact HSA.out _ (J3.st4 sz2 _ _ _ _)
       clear hKK KK;try simp only[Act.put,sbj1,sbj2,sbj3]
       refine wpAnyH_ready (rs:=[12]) (by kernel_rfl) (by simp) ?_;refine AllReadyH.cons (o:=oprtv0) rfl (fun KK hKK=>?_) ?_
       ·
        have hz9:=(N.others4 X3 (show X2.heap.size≠X1.heap.size from fun e=>by rw[e]at hn3;rw[hA3]at hn3;cases hn3) (.bool true) (.slice kp9 mm kc9) (.slice vp9 mm vc9) (.slice none 0 0)).trans hn3;obtain⟨⟨p0,r0⟩,⟨p1,r1⟩,⟨p2,r2⟩,hf10⟩:=N.ready3 hz9 (.string old.d) (.int .i64 old.p) (.int .i64 old.l);go_simp;refine hKK.out _ _ ?_ (fun hHeld=>?_)
        ·(try dsimp only)
         exact HSA.out _ ((J3.st4 sz2 _ _ _ _).st3 sz3 _ _ _)
        clear hKK KK;try simp only[Act.put,sbj1,sbj2,sbj3]
        refine wpAnyH_take (i:=13) (oi:=oprtv2) (v:=?_) rfl (by kernel_rfl) (by kernel_rfl) (by kernel_rfl) (fun _ _ _ h=>h) (Or.inl ⟨by rfl,?_⟩) (by assumption) ?_;rotate_left
        ·intro w hSw
         (try dsimp only at hSw);go_simp;all_goals with_reducible rfl
        try simp only[Act.put,sbj1,sbj2,sbj3]
        refine wpAnyH_done (by kernel_rfl) ?_ _;have pc:=pc_of (old:=old) (ib:=ib) hA3 hn3 OK3 OV3 (.inr (fun b off ph e=>Nat.ne_of_lt (own_nlt OV2 e))) J3 sz2 sz3;go_wp2_with fail;go_meet;exact pc
       exact AllReadyH.nil
      exact AllReadyH.nil
     exact AllReadyH.nil
    refine AllReadyH.cons (o:=oprtv13) rfl (fun KK hKK=>?_) ?_
    ·
     have kk2:=(Kept.refl X1).alloc (.cells #[.string ⟨#[]⟩,.int .i64 0,.int .i64 0] 35);have J2:=J1.trans kk2;have hn2:=heap_alloc_new X1 (.cells #[.string ⟨#[]⟩,.int .i64 0,.int .i64 0] 35);have sz2:=J1.size;have OK2:=OK1.kept kk2;have OV2:=OV1.kept kk2;go_simp;refine hKK.out _ _ ?_ (fun hHeld=>?_)
     ·(try dsimp only)
      exact HSA.out _ J2
     clear hKK KK;try simp only[Act.put,sbj1,sbj2,sbj3]
     refine wpAnyH_ready (rs:=[9]) (by kernel_rfl) (by simp) ?_;refine AllReadyH.cons (o:=oprtv12) rfl (fun KK hKK=>?_) ?_
     ·
      clear kk2;generalize X1.alloc (.cells #[.string ⟨#[]⟩,.int .i64 0,.int .i64 0] 35)=X2 at *;have kk3:=(Kept.refl X2).alloc (.cells #[.bool false,.slice none 0 0,.slice none 0 0,.slice none 0 0] 71);have J3:=J2.trans kk3;have hn3:=heap_alloc_new X2 (.cells #[.bool false,.slice none 0 0,.slice none 0 0,.slice none 0 0] 71);have sz3:=J2.size;have hZ3:=kk3.block hn2;have OK3:=OK2.kept kk3;have OV3:=OV2.kept kk3;go_simp;refine hKK.out _ _ ?_ (fun hHeld=>?_)
      ·(try dsimp only)
       exact HSA.out _ J3
      clear hKK KK;try simp only[Act.put,sbj1,sbj2,sbj3]
      refine wpAnyH_ready (rs:=[11]) (by kernel_rfl) (by simp) ?_;refine AllReadyH.cons (o:=oprtv1) rfl (fun KK hKK=>?_) ?_
      ·
       clear kk3;generalize X2.alloc (.cells #[.bool false,.slice none 0 0,.slice none 0 0,.slice none 0 0] 71)=X3 at *;obtain⟨⟨g0,f0⟩,⟨g1,f1⟩,⟨g2,f2⟩,⟨g3,f3⟩,hf9⟩:=N.ready4 hn3 (.bool true) (.slice kp9 mm kc9) (.slice vp9 mm vc9) (.slice none 0 0);go_simp;refine hKK.out _ _ ?_ (fun hHeld=>?_)
       ·(try dsimp only)
        exact HSA.out _ (J3.st4 sz3 _ _ _ _)
       clear hKK KK;try simp only[Act.put,sbj1,sbj2,sbj3]
       refine wpAnyH_ready (rs:=[12]) (by kernel_rfl) (by simp) ?_;refine AllReadyH.cons (o:=oprtv0) rfl (fun KK hKK=>?_) ?_
       ·
        have hz9:=(N.others4 X3 (show X1.heap.size≠X2.heap.size from fun e=>by rw[e]at hZ3;rw[hn3]at hZ3;cases hZ3) (.bool true) (.slice kp9 mm kc9) (.slice vp9 mm vc9) (.slice none 0 0)).trans hZ3;obtain⟨⟨p0,r0⟩,⟨p1,r1⟩,⟨p2,r2⟩,hf10⟩:=N.ready3 hz9 (.string old.d) (.int .i64 old.p) (.int .i64 old.l);go_simp;refine hKK.out _ _ ?_ (fun hHeld=>?_)
        ·(try dsimp only)
         exact HSA.out _ ((J3.st4 sz3 _ _ _ _).st3 sz2 _ _ _)
        clear hKK KK;try simp only[Act.put,sbj1,sbj2,sbj3]
        refine wpAnyH_take (i:=13) (oi:=oprtv2) (v:=?_) rfl (by kernel_rfl) (by kernel_rfl) (by kernel_rfl) (fun _ _ _ h=>h) (Or.inl ⟨by rfl,?_⟩) (by assumption) ?_;rotate_left
        ·intro w hSw
         (try dsimp only at hSw);go_simp;all_goals with_reducible rfl
        try simp only[Act.put,sbj1,sbj2,sbj3]
        refine wpAnyH_done (by kernel_rfl) ?_ _;have pc:=pc_of (old:=old) (ib:=ib) hn3 hZ3 OK3 OV3 (.inr (fun b off ph e=>Nat.ne_of_lt (own_nlt OV1 e))) J3 sz3 sz2;go_wp2_with fail;go_meet;exact pc
       exact AllReadyH.nil
      exact AllReadyH.nil
     exact AllReadyH.nil
    exact AllReadyH.nil
   refine AllReadyH.cons (o:=oprtv12) rfl (fun KK hKK=>?_) ?_
   ·
    have kk1:=(Kept.refl X0).alloc (.cells #[.bool false,.slice none 0 0,.slice none 0 0,.slice none 0 0] 71);have J1:=J0.trans kk1;have hn1:=heap_alloc_new X0 (.cells #[.bool false,.slice none 0 0,.slice none 0 0,.slice none 0 0] 71);have sz1:=J0.size;go_simp;refine hKK.out _ _ ?_ (fun hHeld=>?_)
    ·(try dsimp only)
     exact HSA.out _ J1
    clear hKK KK;try simp only[Act.put,sbj1,sbj2,sbj3]
    refine wpAnyH_ready (rs:=[4,10]) (by kernel_rfl) (by simp) ?_;refine AllReadyH.cons (o:=oprtv3) rfl (fun KK hKK=>?_) ?_
    ·
     clear kk1;generalize X0.alloc (.cells #[.bool false,.slice none 0 0,.slice none 0 0,.slice none 0 0] 71)=X1 at *;go_simp;go_at_call 44;(with_reducible refine (HW.out.f4 _ J1).mono ?_);rintro e X2 ⟨kp9,mm,kc9,vp9,vc9,rfl,OK2,OV2,kk2⟩;have J2:=J1.trans kk2;have hA2:=kk2.block hn1;go_wp2_with fail;refine hKK.out _ _ ?_ (fun hHeld=>?_)
     ·(try dsimp only)
      exact HSA.out _ J2
     clear hKK KK;try simp only[Act.put,sbj1,sbj2,sbj3]
     refine wpAnyH_take (i:=5) (oi:=oprtv8) (v:=?_) rfl (by kernel_rfl) (by kernel_rfl) (by kernel_rfl) (fun _ _ _ h=>h) (Or.inl ⟨by rfl,?_⟩) (by assumption) ?_;rotate_left
     ·intro w hSw
      (try dsimp only at hSw);go_simp;all_goals with_reducible rfl
     try simp only[Act.put,sbj1,sbj2,sbj3]
     refine wpAnyH_take (i:=6) (oi:=oprtv7) (v:=?_) rfl (by kernel_rfl) (by kernel_rfl) (by kernel_rfl) (fun _ _ _ h=>h) (Or.inl ⟨by rfl,?_⟩) (by assumption) ?_;rotate_left
     ·intro w hSw
      (try dsimp only at hSw);go_simp;all_goals with_reducible rfl
     try simp only[Act.put,sbj1,sbj2,sbj3]
     refine wpAnyH_take (i:=7) (oi:=oprtv5) (v:=?_) rfl (by kernel_rfl) (by kernel_rfl) (by kernel_rfl) (fun _ _ _ h=>h) (Or.inl ⟨by rfl,?_⟩) (by assumption) ?_;rotate_left
     ·intro w hSw
      (try dsimp only at hSw);go_simp;all_goals with_reducible rfl
     try simp only[Act.put,sbj1,sbj2,sbj3]
     refine wpAnyH_take (i:=8) (oi:=oprtv6) (v:=?_) rfl (by kernel_rfl) (by kernel_rfl) (by kernel_rfl) (fun _ _ _ h=>h) (Or.inl ⟨by rfl,?_⟩) (by assumption) ?_;rotate_left
     ·intro w hSw
      (try dsimp only at hSw);go_simp;all_goals with_reducible rfl
     try simp only[Act.put,sbj1,sbj2,sbj3]
     refine wpAnyH_ready (rs:=[10]) (by kernel_rfl) (by simp) ?_;refine AllReadyH.cons (o:=oprtv13) rfl (fun KK hKK=>?_) ?_
     ·
      have kk3:=(Kept.refl X2).alloc (.cells #[.string ⟨#[]⟩,.int .i64 0,.int .i64 0] 35);have J3:=J2.trans kk3;have hn3:=heap_alloc_new X2 (.cells #[.string ⟨#[]⟩,.int .i64 0,.int .i64 0] 35);have sz3:=J2.size;have hA3:=kk3.block hA2;have OK3:=OK2.kept kk3;have OV3:=OV2.kept kk3;go_simp;refine hKK.out _ _ ?_ (fun hHeld=>?_)
      ·(try dsimp only)
       exact HSA.out _ J3
      clear hKK KK;try simp only[Act.put,sbj1,sbj2,sbj3]
      refine wpAnyH_ready (rs:=[11]) (by kernel_rfl) (by simp) ?_;refine AllReadyH.cons (o:=oprtv1) rfl (fun KK hKK=>?_) ?_
      ·
       clear kk3;generalize X2.alloc (.cells #[.string ⟨#[]⟩,.int .i64 0,.int .i64 0] 35)=X3 at *;obtain⟨⟨g0,f0⟩,⟨g1,f1⟩,⟨g2,f2⟩,⟨g3,f3⟩,hf9⟩:=N.ready4 hA3 (.bool true) (.slice kp9 mm kc9) (.slice vp9 mm vc9) (.slice none 0 0);go_simp;refine hKK.out _ _ ?_ (fun hHeld=>?_)
       ·(try dsimp only)
        exact HSA.out _ (J3.st4 sz1 _ _ _ _)
       clear hKK KK;try simp only[Act.put,sbj1,sbj2,sbj3]
       refine wpAnyH_ready (rs:=[12]) (by kernel_rfl) (by simp) ?_;refine AllReadyH.cons (o:=oprtv0) rfl (fun KK hKK=>?_) ?_
       ·
        have hz9:=(N.others4 X3 (show X2.heap.size≠X0.heap.size from fun e=>by rw[e]at hn3;rw[hA3]at hn3;cases hn3) (.bool true) (.slice kp9 mm kc9) (.slice vp9 mm vc9) (.slice none 0 0)).trans hn3;obtain⟨⟨p0,r0⟩,⟨p1,r1⟩,⟨p2,r2⟩,hf10⟩:=N.ready3 hz9 (.string old.d) (.int .i64 old.p) (.int .i64 old.l);go_simp;refine hKK.out _ _ ?_ (fun hHeld=>?_)
        ·(try dsimp only)
         exact HSA.out _ ((J3.st4 sz1 _ _ _ _).st3 sz3 _ _ _)
        clear hKK KK;try simp only[Act.put,sbj1,sbj2,sbj3]
        refine wpAnyH_take (i:=13) (oi:=oprtv2) (v:=?_) rfl (by kernel_rfl) (by kernel_rfl) (by kernel_rfl) (fun _ _ _ h=>h) (Or.inl ⟨by rfl,?_⟩) (by assumption) ?_;rotate_left
        ·intro w hSw
         (try dsimp only at hSw);go_simp;all_goals with_reducible rfl
        try simp only[Act.put,sbj1,sbj2,sbj3]
        refine wpAnyH_done (by kernel_rfl) ?_ _;have pc:=pc_of (old:=old) (ib:=ib) hA3 hn3 OK3 OV3 (.inr (fun b off ph e=>Nat.ne_of_lt (own_nlt OV2 e))) J3 sz1 sz3;go_wp2_with fail;go_meet;exact pc
       exact AllReadyH.nil
      exact AllReadyH.nil
     exact AllReadyH.nil
    refine AllReadyH.cons (o:=oprtv13) rfl (fun KK hKK=>?_) ?_
    ·
     clear kk1;generalize X0.alloc (.cells #[.bool false,.slice none 0 0,.slice none 0 0,.slice none 0 0] 71)=X1 at *;have kk2:=(Kept.refl X1).alloc (.cells #[.string ⟨#[]⟩,.int .i64 0,.int .i64 0] 35);have J2:=J1.trans kk2;have hn2:=heap_alloc_new X1 (.cells #[.string ⟨#[]⟩,.int .i64 0,.int .i64 0] 35);have sz2:=J1.size;have hA2:=kk2.block hn1;go_simp;refine hKK.out _ _ ?_ (fun hHeld=>?_)
     ·(try dsimp only)
      exact HSA.out _ J2
     clear hKK KK;try simp only[Act.put,sbj1,sbj2,sbj3]
     refine wpAnyH_ready (rs:=[4]) (by kernel_rfl) (by simp) ?_;refine AllReadyH.cons (o:=oprtv3) rfl (fun KK hKK=>?_) ?_
     ·
      clear kk2;generalize X1.alloc (.cells #[.string ⟨#[]⟩,.int .i64 0,.int .i64 0] 35)=X2 at *;go_simp;go_at_call 44;(with_reducible refine (HW.out.f4 _ J2).mono ?_);rintro e X3 ⟨kp9,mm,kc9,vp9,vc9,rfl,OK3,OV3,kk3⟩;have J3:=J2.trans kk3;have hA3:=kk3.block hA2;have hZ3:=kk3.block hn2;go_wp2_with fail;refine hKK.out _ _ ?_ (fun hHeld=>?_)
      ·(try dsimp only)
       exact HSA.out _ J3
      clear hKK KK;try simp only[Act.put,sbj1,sbj2,sbj3]
      refine wpAnyH_take (i:=5) (oi:=oprtv8) (v:=?_) rfl (by kernel_rfl) (by kernel_rfl) (by kernel_rfl) (fun _ _ _ h=>h) (Or.inl ⟨by rfl,?_⟩) (by assumption) ?_;rotate_left
      ·intro w hSw
       (try dsimp only at hSw);go_simp;all_goals with_reducible rfl
      try simp only[Act.put,sbj1,sbj2,sbj3]
      refine wpAnyH_take (i:=6) (oi:=oprtv7) (v:=?_) rfl (by kernel_rfl) (by kernel_rfl) (by kernel_rfl) (fun _ _ _ h=>h) (Or.inl ⟨by rfl,?_⟩) (by assumption) ?_;rotate_left
      ·intro w hSw
       (try dsimp only at hSw);go_simp;all_goals with_reducible rfl
      try simp only[Act.put,sbj1,sbj2,sbj3]
      refine wpAnyH_take (i:=7) (oi:=oprtv5) (v:=?_) rfl (by kernel_rfl) (by kernel_rfl) (by kernel_rfl) (fun _ _ _ h=>h) (Or.inl ⟨by rfl,?_⟩) (by assumption) ?_;rotate_left
      ·intro w hSw
       (try dsimp only at hSw);go_simp;all_goals with_reducible rfl
      try simp only[Act.put,sbj1,sbj2,sbj3]
      refine wpAnyH_take (i:=8) (oi:=oprtv6) (v:=?_) rfl (by kernel_rfl) (by kernel_rfl) (by kernel_rfl) (fun _ _ _ h=>h) (Or.inl ⟨by rfl,?_⟩) (by assumption) ?_;rotate_left
      ·intro w hSw
       (try dsimp only at hSw);go_simp;all_goals with_reducible rfl
      try simp only[Act.put,sbj1,sbj2,sbj3]
      refine wpAnyH_ready (rs:=[11]) (by kernel_rfl) (by simp) ?_;refine AllReadyH.cons (o:=oprtv1) rfl (fun KK hKK=>?_) ?_
      ·
       obtain⟨⟨g0,f0⟩,⟨g1,f1⟩,⟨g2,f2⟩,⟨g3,f3⟩,hf9⟩:=N.ready4 hA3 (.bool true) (.slice kp9 mm kc9) (.slice vp9 mm vc9) (.slice none 0 0);go_simp;refine hKK.out _ _ ?_ (fun hHeld=>?_)
       ·(try dsimp only)
        exact HSA.out _ (J3.st4 sz1 _ _ _ _)
       clear hKK KK;try simp only[Act.put,sbj1,sbj2,sbj3]
       refine wpAnyH_ready (rs:=[12]) (by kernel_rfl) (by simp) ?_;refine AllReadyH.cons (o:=oprtv0) rfl (fun KK hKK=>?_) ?_
       ·
        have hz9:=(N.others4 X3 (show X1.heap.size≠X0.heap.size from fun e=>by rw[e]at hZ3;rw[hA3]at hZ3;cases hZ3) (.bool true) (.slice kp9 mm kc9) (.slice vp9 mm vc9) (.slice none 0 0)).trans hZ3;obtain⟨⟨p0,r0⟩,⟨p1,r1⟩,⟨p2,r2⟩,hf10⟩:=N.ready3 hz9 (.string old.d) (.int .i64 old.p) (.int .i64 old.l);go_simp;refine hKK.out _ _ ?_ (fun hHeld=>?_)
        ·(try dsimp only)
         exact HSA.out _ ((J3.st4 sz1 _ _ _ _).st3 sz2 _ _ _)
        clear hKK KK;try simp only[Act.put,sbj1,sbj2,sbj3]
        refine wpAnyH_take (i:=13) (oi:=oprtv2) (v:=?_) rfl (by kernel_rfl) (by kernel_rfl) (by kernel_rfl) (fun _ _ _ h=>h) (Or.inl ⟨by rfl,?_⟩) (by assumption) ?_;rotate_left
        ·intro w hSw
         (try dsimp only at hSw);go_simp;all_goals with_reducible rfl
        try simp only[Act.put,sbj1,sbj2,sbj3]
        refine wpAnyH_done (by kernel_rfl) ?_ _;have pc:=pc_of (old:=old) (ib:=ib) hA3 hZ3 OK3 OV3 (.inl ((Array.getElem?_eq_some_iff.1 hn2).1)) J3 sz1 sz2;go_wp2_with fail;go_meet;exact pc
       exact AllReadyH.nil
      exact AllReadyH.nil
     exact AllReadyH.nil
    exact AllReadyH.nil
   refine AllReadyH.cons (o:=oprtv13) rfl (fun KK hKK=>?_) ?_
   ·
    have kk1:=(Kept.refl X0).alloc (.cells #[.string ⟨#[]⟩,.int .i64 0,.int .i64 0] 35);have J1:=J0.trans kk1;have hn1:=heap_alloc_new X0 (.cells #[.string ⟨#[]⟩,.int .i64 0,.int .i64 0] 35);have sz1:=J0.size;go_simp;refine hKK.out _ _ ?_ (fun hHeld=>?_)
    ·(try dsimp only)
     exact HSA.out _ J1
    clear hKK KK;try simp only[Act.put,sbj1,sbj2,sbj3]
    refine wpAnyH_ready (rs:=[4,9]) (by kernel_rfl) (by simp) ?_;refine AllReadyH.cons (o:=oprtv3) rfl (fun KK hKK=>?_) ?_
    ·
     clear kk1;generalize X0.alloc (.cells #[.string ⟨#[]⟩,.int .i64 0,.int .i64 0] 35)=X1 at *;go_simp;go_at_call 44;(with_reducible refine (HW.out.f4 _ J1).mono ?_);rintro e X2 ⟨kp9,mm,kc9,vp9,vc9,rfl,OK2,OV2,kk2⟩;have J2:=J1.trans kk2;have hZ2:=kk2.block hn1;go_wp2_with fail;refine hKK.out _ _ ?_ (fun hHeld=>?_)
     ·(try dsimp only)
      exact HSA.out _ J2
     clear hKK KK;try simp only[Act.put,sbj1,sbj2,sbj3]
     refine wpAnyH_take (i:=5) (oi:=oprtv8) (v:=?_) rfl (by kernel_rfl) (by kernel_rfl) (by kernel_rfl) (fun _ _ _ h=>h) (Or.inl ⟨by rfl,?_⟩) (by assumption) ?_;rotate_left
     ·intro w hSw
      (try dsimp only at hSw);go_simp;all_goals with_reducible rfl
     try simp only[Act.put,sbj1,sbj2,sbj3]
     refine wpAnyH_take (i:=6) (oi:=oprtv7) (v:=?_) rfl (by kernel_rfl) (by kernel_rfl) (by kernel_rfl) (fun _ _ _ h=>h) (Or.inl ⟨by rfl,?_⟩) (by assumption) ?_;rotate_left
     ·intro w hSw
      (try dsimp only at hSw);go_simp;all_goals with_reducible rfl
     try simp only[Act.put,sbj1,sbj2,sbj3]
     refine wpAnyH_take (i:=7) (oi:=oprtv5) (v:=?_) rfl (by kernel_rfl) (by kernel_rfl) (by kernel_rfl) (fun _ _ _ h=>h) (Or.inl ⟨by rfl,?_⟩) (by assumption) ?_;rotate_left
     ·intro w hSw
      (try dsimp only at hSw);go_simp;all_goals with_reducible rfl
     try simp only[Act.put,sbj1,sbj2,sbj3]
     refine wpAnyH_take (i:=8) (oi:=oprtv6) (v:=?_) rfl (by kernel_rfl) (by kernel_rfl) (by kernel_rfl) (fun _ _ _ h=>h) (Or.inl ⟨by rfl,?_⟩) (by assumption) ?_;rotate_left
     ·intro w hSw
      (try dsimp only at hSw);go_simp;all_goals with_reducible rfl
     try simp only[Act.put,sbj1,sbj2,sbj3]
     refine wpAnyH_ready (rs:=[9]) (by kernel_rfl) (by simp) ?_;refine AllReadyH.cons (o:=oprtv12) rfl (fun KK hKK=>?_) ?_
     ·
      have kk3:=(Kept.refl X2).alloc (.cells #[.bool false,.slice none 0 0,.slice none 0 0,.slice none 0 0] 71);have J3:=J2.trans kk3;have hn3:=heap_alloc_new X2 (.cells #[.bool false,.slice none 0 0,.slice none 0 0,.slice none 0 0] 71);have sz3:=J2.size;have hZ3:=kk3.block hZ2;have OK3:=OK2.kept kk3;have OV3:=OV2.kept kk3;go_simp;refine hKK.out _ _ ?_ (fun hHeld=>?_)
      ·(try dsimp only)
       exact HSA.out _ J3
      clear hKK KK;try simp only[Act.put,sbj1,sbj2,sbj3]
      refine wpAnyH_ready (rs:=[11]) (by kernel_rfl) (by simp) ?_;refine AllReadyH.cons (o:=oprtv1) rfl (fun KK hKK=>?_) ?_
      ·
       clear kk3;generalize X2.alloc (.cells #[.bool false,.slice none 0 0,.slice none 0 0,.slice none 0 0] 71)=X3 at *;obtain⟨⟨g0,f0⟩,⟨g1,f1⟩,⟨g2,f2⟩,⟨g3,f3⟩,hf9⟩:=N.ready4 hn3 (.bool true) (.slice kp9 mm kc9) (.slice vp9 mm vc9) (.slice none 0 0);go_simp;refine hKK.out _ _ ?_ (fun hHeld=>?_)
       ·(try dsimp only)
        exact HSA.out _ (J3.st4 sz3 _ _ _ _)
       clear hKK KK;try simp only[Act.put,sbj1,sbj2,sbj3]
       refine wpAnyH_ready (rs:=[12]) (by kernel_rfl) (by simp) ?_;refine AllReadyH.cons (o:=oprtv0) rfl (fun KK hKK=>?_) ?_
       ·
        have hz9:=(N.others4 X3 (show X0.heap.size≠X2.heap.size from fun e=>by rw[e]at hZ3;rw[hn3]at hZ3;cases hZ3) (.bool true) (.slice kp9 mm kc9) (.slice vp9 mm vc9) (.slice none 0 0)).trans hZ3;obtain⟨⟨p0,r0⟩,⟨p1,r1⟩,⟨p2,r2⟩,hf10⟩:=N.ready3 hz9 (.string old.d) (.int .i64 old.p) (.int .i64 old.l);go_simp;refine hKK.out _ _ ?_ (fun hHeld=>?_)
        ·(try dsimp only)
         exact HSA.out _ ((J3.st4 sz3 _ _ _ _).st3 sz1 _ _ _)
        clear hKK KK;try simp only[Act.put,sbj1,sbj2,sbj3]
        refine wpAnyH_take (i:=13) (oi:=oprtv2) (v:=?_) rfl (by kernel_rfl) (by kernel_rfl) (by kernel_rfl) (fun _ _ _ h=>h) (Or.inl ⟨by rfl,?_⟩) (by assumption) ?_;rotate_left
        ·intro w hSw
         (try dsimp only at hSw);go_simp;all_goals with_reducible rfl
        try simp only[Act.put,sbj1,sbj2,sbj3]
        refine wpAnyH_done (by kernel_rfl) ?_ _;have pc:=pc_of (old:=old) (ib:=ib) hn3 hZ3 OK3 OV3 (.inl ((Array.getElem?_eq_some_iff.1 hn1).1)) J3 sz3 sz1;go_wp2_with fail;go_meet;exact pc
       exact AllReadyH.nil
      exact AllReadyH.nil
     exact AllReadyH.nil
    refine AllReadyH.cons (o:=oprtv12) rfl (fun KK hKK=>?_) ?_
    ·
     clear kk1;generalize X0.alloc (.cells #[.string ⟨#[]⟩,.int .i64 0,.int .i64 0] 35)=X1 at *;have kk2:=(Kept.refl X1).alloc (.cells #[.bool false,.slice none 0 0,.slice none 0 0,.slice none 0 0] 71);have J2:=J1.trans kk2;have hn2:=heap_alloc_new X1 (.cells #[.bool false,.slice none 0 0,.slice none 0 0,.slice none 0 0] 71);have sz2:=J1.size;have hZ2:=kk2.block hn1;go_simp;refine hKK.out _ _ ?_ (fun hHeld=>?_)
     ·(try dsimp only)
      exact HSA.out _ J2
     clear hKK KK;try simp only[Act.put,sbj1,sbj2,sbj3]
     refine wpAnyH_ready (rs:=[4]) (by kernel_rfl) (by simp) ?_;refine AllReadyH.cons (o:=oprtv3) rfl (fun KK hKK=>?_) ?_
     ·
      clear kk2;generalize X1.alloc (.cells #[.bool false,.slice none 0 0,.slice none 0 0,.slice none 0 0] 71)=X2 at *;go_simp;go_at_call 44;(with_reducible refine (HW.out.f4 _ J2).mono ?_);rintro e X3 ⟨kp9,mm,kc9,vp9,vc9,rfl,OK3,OV3,kk3⟩;have J3:=J2.trans kk3;have hA3:=kk3.block hn2;have hZ3:=kk3.block hZ2;go_wp2_with fail;refine hKK.out _ _ ?_ (fun hHeld=>?_)
      ·(try dsimp only)
       exact HSA.out _ J3
      clear hKK KK;try simp only[Act.put,sbj1,sbj2,sbj3]
      refine wpAnyH_take (i:=5) (oi:=oprtv8) (v:=?_) rfl (by kernel_rfl) (by kernel_rfl) (by kernel_rfl) (fun _ _ _ h=>h) (Or.inl ⟨by rfl,?_⟩) (by assumption) ?_;rotate_left
      ·intro w hSw
       (try dsimp only at hSw);go_simp;all_goals with_reducible rfl
      try simp only[Act.put,sbj1,sbj2,sbj3]
      refine wpAnyH_take (i:=6) (oi:=oprtv7) (v:=?_) rfl (by kernel_rfl) (by kernel_rfl) (by kernel_rfl) (fun _ _ _ h=>h) (Or.inl ⟨by rfl,?_⟩) (by assumption) ?_;rotate_left
      ·intro w hSw
       (try dsimp only at hSw);go_simp;all_goals with_reducible rfl
      try simp only[Act.put,sbj1,sbj2,sbj3]
      refine wpAnyH_take (i:=7) (oi:=oprtv5) (v:=?_) rfl (by kernel_rfl) (by kernel_rfl) (by kernel_rfl) (fun _ _ _ h=>h) (Or.inl ⟨by rfl,?_⟩) (by assumption) ?_;rotate_left
      ·intro w hSw
       (try dsimp only at hSw);go_simp;all_goals with_reducible rfl
      try simp only[Act.put,sbj1,sbj2,sbj3]
      refine wpAnyH_take (i:=8) (oi:=oprtv6) (v:=?_) rfl (by kernel_rfl) (by kernel_rfl) (by kernel_rfl) (fun _ _ _ h=>h) (Or.inl ⟨by rfl,?_⟩) (by assumption) ?_;rotate_left
      ·intro w hSw
       (try dsimp only at hSw);go_simp;all_goals with_reducible rfl
      try simp only[Act.put,sbj1,sbj2,sbj3]
      refine wpAnyH_ready (rs:=[11]) (by kernel_rfl) (by simp) ?_;refine AllReadyH.cons (o:=oprtv1) rfl (fun KK hKK=>?_) ?_
      ·
       obtain⟨⟨g0,f0⟩,⟨g1,f1⟩,⟨g2,f2⟩,⟨g3,f3⟩,hf9⟩:=N.ready4 hA3 (.bool true) (.slice kp9 mm kc9) (.slice vp9 mm vc9) (.slice none 0 0);go_simp;refine hKK.out _ _ ?_ (fun hHeld=>?_)
       ·(try dsimp only)
        exact HSA.out _ (J3.st4 sz2 _ _ _ _)
       clear hKK KK;try simp only[Act.put,sbj1,sbj2,sbj3]
       refine wpAnyH_ready (rs:=[12]) (by kernel_rfl) (by simp) ?_;refine AllReadyH.cons (o:=oprtv0) rfl (fun KK hKK=>?_) ?_
       ·
        have hz9:=(N.others4 X3 (show X0.heap.size≠X1.heap.size from fun e=>by rw[e]at hZ3;rw[hA3]at hZ3;cases hZ3) (.bool true) (.slice kp9 mm kc9) (.slice vp9 mm vc9) (.slice none 0 0)).trans hZ3;obtain⟨⟨p0,r0⟩,⟨p1,r1⟩,⟨p2,r2⟩,hf10⟩:=N.ready3 hz9 (.string old.d) (.int .i64 old.p) (.int .i64 old.l);go_simp;refine hKK.out _ _ ?_ (fun hHeld=>?_)
        ·(try dsimp only)
         exact HSA.out _ ((J3.st4 sz2 _ _ _ _).st3 sz1 _ _ _)
        clear hKK KK;try simp only[Act.put,sbj1,sbj2,sbj3]
        refine wpAnyH_take (i:=13) (oi:=oprtv2) (v:=?_) rfl (by kernel_rfl) (by kernel_rfl) (by kernel_rfl) (fun _ _ _ h=>h) (Or.inl ⟨by rfl,?_⟩) (by assumption) ?_;rotate_left
        ·intro w hSw
         (try dsimp only at hSw);go_simp;all_goals with_reducible rfl
        try simp only[Act.put,sbj1,sbj2,sbj3]
        refine wpAnyH_done (by kernel_rfl) ?_ _;have pc:=pc_of (old:=old) (ib:=ib) hA3 hZ3 OK3 OV3 (.inl ((Array.getElem?_eq_some_iff.1 hZ2).1)) J3 sz2 sz1;go_wp2_with fail;go_meet;exact pc
       exact AllReadyH.nil
      exact AllReadyH.nil
     exact AllReadyH.nil
    exact AllReadyH.nil
   exact AllReadyH.nil
  refine AllReadyH.cons (o:=oprtv12) rfl (fun KK hKK=>?_) ?_
  ·
   have kk0:=(Kept.refl X).alloc (.cells #[.bool false,.slice none 0 0,.slice none 0 0,.slice none 0 0] 71);have J0:=JI.trans kk0;have hn0:=heap_alloc_new X (.cells #[.bool false,.slice none 0 0,.slice none 0 0,.slice none 0 0] 71);have sz0:=JI.size;go_simp;refine hKK.out _ _ ?_ (fun hHeld=>?_)
   ·(try dsimp only)
    exact HSA.out _ J0
   clear hKK KK;try simp only[Act.put,sbj1,sbj2,sbj3]
   refine wpAnyH_ready (rs:=[1,10]) (by kernel_rfl) (by simp) ?_;refine AllReadyH.cons (o:=oprtv4) rfl (fun KK hKK=>?_) ?_
   ·
    clear kk0;generalize X.alloc (.cells #[.bool false,.slice none 0 0,.slice none 0 0,.slice none 0 0] 71)=X0 at *;go_simp;go_at_call 45;(with_reducible refine (HW.out.f3 _ J0).mono ?_);rintro e X1 ⟨rfl,kk1⟩;have J1:=J0.trans kk1;have hA1:=kk1.block hn0;go_wp2_with fail;refine hKK.out _ _ ?_ (fun hHeld=>?_)
    ·(try dsimp only)
     exact HSA.out _ J1
    clear hKK KK;try simp only[Act.put,sbj1,sbj2,sbj3]
    refine wpAnyH_ready (rs:=[4,10]) (by kernel_rfl) (by simp) ?_;refine AllReadyH.cons (o:=oprtv3) rfl (fun KK hKK=>?_) ?_
    ·
     go_simp;go_at_call 44;(with_reducible refine (HW.out.f4 _ J1).mono ?_);rintro e X2 ⟨kp9,mm,kc9,vp9,vc9,rfl,OK2,OV2,kk2⟩;have J2:=J1.trans kk2;have hA2:=kk2.block hA1;go_wp2_with fail;refine hKK.out _ _ ?_ (fun hHeld=>?_)
     ·(try dsimp only)
      exact HSA.out _ J2
     clear hKK KK;try simp only[Act.put,sbj1,sbj2,sbj3]
     refine wpAnyH_take (i:=5) (oi:=oprtv8) (v:=?_) rfl (by kernel_rfl) (by kernel_rfl) (by kernel_rfl) (fun _ _ _ h=>h) (Or.inl ⟨by rfl,?_⟩) (by assumption) ?_;rotate_left
     ·intro w hSw
      (try dsimp only at hSw);go_simp;all_goals with_reducible rfl
     try simp only[Act.put,sbj1,sbj2,sbj3]
     refine wpAnyH_take (i:=6) (oi:=oprtv7) (v:=?_) rfl (by kernel_rfl) (by kernel_rfl) (by kernel_rfl) (fun _ _ _ h=>h) (Or.inl ⟨by rfl,?_⟩) (by assumption) ?_;rotate_left
     ·intro w hSw
      (try dsimp only at hSw);go_simp;all_goals with_reducible rfl
     try simp only[Act.put,sbj1,sbj2,sbj3]
     refine wpAnyH_take (i:=7) (oi:=oprtv5) (v:=?_) rfl (by kernel_rfl) (by kernel_rfl) (by kernel_rfl) (fun _ _ _ h=>h) (Or.inl ⟨by rfl,?_⟩) (by assumption) ?_;rotate_left
     ·intro w hSw
      (try dsimp only at hSw);go_simp;all_goals with_reducible rfl
     try simp only[Act.put,sbj1,sbj2,sbj3]
     refine wpAnyH_take (i:=8) (oi:=oprtv6) (v:=?_) rfl (by kernel_rfl) (by kernel_rfl) (by kernel_rfl) (fun _ _ _ h=>h) (Or.inl ⟨by rfl,?_⟩) (by assumption) ?_;rotate_left
     ·intro w hSw
      (try dsimp only at hSw);go_simp;all_goals with_reducible rfl
     try simp only[Act.put,sbj1,sbj2,sbj3]
     refine wpAnyH_ready (rs:=[10]) (by kernel_rfl) (by simp) ?_;refine AllReadyH.cons (o:=oprtv13) rfl (fun KK hKK=>?_) ?_
     ·
      have kk3:=(Kept.refl X2).alloc (.cells #[.string ⟨#[]⟩,.int .i64 0,.int .i64 0] 35);have J3:=J2.trans kk3;have hn3:=heap_alloc_new X2 (.cells #[.string ⟨#[]⟩,.int .i64 0,.int .i64 0] 35);have sz3:=J2.size;have hA3:=kk3.block hA2;have OK3:=OK2.kept kk3;have OV3:=OV2.kept kk3;go_simp;refine hKK.out _ _ ?_ (fun hHeld=>?_)
      ·(try dsimp only)
       exact HSA.out _ J3
      clear hKK KK;try simp only[Act.put,sbj1,sbj2,sbj3]
      refine wpAnyH_ready (rs:=[11]) (by kernel_rfl) (by simp) ?_;refine AllReadyH.cons (o:=oprtv1) rfl (fun KK hKK=>?_) ?_
      ·
       clear kk3;generalize X2.alloc (.cells #[.string ⟨#[]⟩,.int .i64 0,.int .i64 0] 35)=X3 at *;obtain⟨⟨g0,f0⟩,⟨g1,f1⟩,⟨g2,f2⟩,⟨g3,f3⟩,hf9⟩:=N.ready4 hA3 (.bool true) (.slice kp9 mm kc9) (.slice vp9 mm vc9) (.slice none 0 0);go_simp;refine hKK.out _ _ ?_ (fun hHeld=>?_)
       ·(try dsimp only)
        exact HSA.out _ (J3.st4 sz0 _ _ _ _)
       clear hKK KK;try simp only[Act.put,sbj1,sbj2,sbj3]
       refine wpAnyH_ready (rs:=[12]) (by kernel_rfl) (by simp) ?_;refine AllReadyH.cons (o:=oprtv0) rfl (fun KK hKK=>?_) ?_
       ·
        have hz9:=(N.others4 X3 (show X2.heap.size≠X.heap.size from fun e=>by rw[e]at hn3;rw[hA3]at hn3;cases hn3) (.bool true) (.slice kp9 mm kc9) (.slice vp9 mm vc9) (.slice none 0 0)).trans hn3;obtain⟨⟨p0,r0⟩,⟨p1,r1⟩,⟨p2,r2⟩,hf10⟩:=N.ready3 hz9 (.string old.d) (.int .i64 old.p) (.int .i64 old.l);go_simp;refine hKK.out _ _ ?_ (fun hHeld=>?_)
        ·(try dsimp only)
         exact HSA.out _ ((J3.st4 sz0 _ _ _ _).st3 sz3 _ _ _)
        clear hKK KK;try simp only[Act.put,sbj1,sbj2,sbj3]
        refine wpAnyH_take (i:=13) (oi:=oprtv2) (v:=?_) rfl (by kernel_rfl) (by kernel_rfl) (by kernel_rfl) (fun _ _ _ h=>h) (Or.inl ⟨by rfl,?_⟩) (by assumption) ?_;rotate_left
        ·intro w hSw
         (try dsimp only at hSw);go_simp;all_goals with_reducible rfl
        try simp only[Act.put,sbj1,sbj2,sbj3]
        refine wpAnyH_done (by kernel_rfl) ?_ _;have pc:=pc_of (old:=old) (ib:=ib) hA3 hn3 OK3 OV3 (.inr (fun b off ph e=>Nat.ne_of_lt (own_nlt OV2 e))) J3 sz0 sz3;go_wp2_with fail;go_meet;exact pc
       exact AllReadyH.nil
      exact AllReadyH.nil
     exact AllReadyH.nil
    refine AllReadyH.cons (o:=oprtv13) rfl (fun KK hKK=>?_) ?_
    ·
     have kk2:=(Kept.refl X1).alloc (.cells #[.string ⟨#[]⟩,.int .i64 0,.int .i64 0] 35);have J2:=J1.trans kk2;have hn2:=heap_alloc_new X1 (.cells #[.string ⟨#[]⟩,.int .i64 0,.int .i64 0] 35);have sz2:=J1.size;have hA2:=kk2.block hA1;go_simp;refine hKK.out _ _ ?_ (fun hHeld=>?_)
     ·(try dsimp only)
      exact HSA.out _ J2
     clear hKK KK;try simp only[Act.put,sbj1,sbj2,sbj3]
     refine wpAnyH_ready (rs:=[4]) (by kernel_rfl) (by simp) ?_;refine AllReadyH.cons (o:=oprtv3) rfl (fun KK hKK=>?_) ?_
     ·
      clear kk2;generalize X1.alloc (.cells #[.string ⟨#[]⟩,.int .i64 0,.int .i64 0] 35)=X2 at *;go_simp;go_at_call 44;(with_reducible refine (HW.out.f4 _ J2).mono ?_);rintro e X3 ⟨kp9,mm,kc9,vp9,vc9,rfl,OK3,OV3,kk3⟩;have J3:=J2.trans kk3;have hA3:=kk3.block hA2;have hZ3:=kk3.block hn2;go_wp2_with fail;refine hKK.out _ _ ?_ (fun hHeld=>?_)
      ·(try dsimp only)
       exact HSA.out _ J3
      clear hKK KK;try simp only[Act.put,sbj1,sbj2,sbj3]
      refine wpAnyH_take (i:=5) (oi:=oprtv8) (v:=?_) rfl (by kernel_rfl) (by kernel_rfl) (by kernel_rfl) (fun _ _ _ h=>h) (Or.inl ⟨by rfl,?_⟩) (by assumption) ?_;rotate_left
      ·intro w hSw
       (try dsimp only at hSw);go_simp;all_goals with_reducible rfl
      try simp only[Act.put,sbj1,sbj2,sbj3]
      refine wpAnyH_take (i:=6) (oi:=oprtv7) (v:=?_) rfl (by kernel_rfl) (by kernel_rfl) (by kernel_rfl) (fun _ _ _ h=>h) (Or.inl ⟨by rfl,?_⟩) (by assumption) ?_;rotate_left
      ·intro w hSw
       (try dsimp only at hSw);go_simp;all_goals with_reducible rfl
      try simp only[Act.put,sbj1,sbj2,sbj3]
      refine wpAnyH_take (i:=7) (oi:=oprtv5) (v:=?_) rfl (by kernel_rfl) (by kernel_rfl) (by kernel_rfl) (fun _ _ _ h=>h) (Or.inl ⟨by rfl,?_⟩) (by assumption) ?_;rotate_left
      ·intro w hSw
       (try dsimp only at hSw);go_simp;all_goals with_reducible rfl
      try simp only[Act.put,sbj1,sbj2,sbj3]
      refine wpAnyH_take (i:=8) (oi:=oprtv6) (v:=?_) rfl (by kernel_rfl) (by kernel_rfl) (by kernel_rfl) (fun _ _ _ h=>h) (Or.inl ⟨by rfl,?_⟩) (by assumption) ?_;rotate_left
      ·intro w hSw
       (try dsimp only at hSw);go_simp;all_goals with_reducible rfl
      try simp only[Act.put,sbj1,sbj2,sbj3]
      refine wpAnyH_ready (rs:=[11]) (by kernel_rfl) (by simp) ?_;refine AllReadyH.cons (o:=oprtv1) rfl (fun KK hKK=>?_) ?_
      ·
       obtain⟨⟨g0,f0⟩,⟨g1,f1⟩,⟨g2,f2⟩,⟨g3,f3⟩,hf9⟩:=N.ready4 hA3 (.bool true) (.slice kp9 mm kc9) (.slice vp9 mm vc9) (.slice none 0 0);go_simp;refine hKK.out _ _ ?_ (fun hHeld=>?_)
       ·(try dsimp only)
        exact HSA.out _ (J3.st4 sz0 _ _ _ _)
       clear hKK KK;try simp only[Act.put,sbj1,sbj2,sbj3]
       refine wpAnyH_ready (rs:=[12]) (by kernel_rfl) (by simp) ?_;refine AllReadyH.cons (o:=oprtv0) rfl (fun KK hKK=>?_) ?_
       ·
        have hz9:=(N.others4 X3 (show X1.heap.size≠X.heap.size from fun e=>by rw[e]at hZ3;rw[hA3]at hZ3;cases hZ3) (.bool true) (.slice kp9 mm kc9) (.slice vp9 mm vc9) (.slice none 0 0)).trans hZ3;obtain⟨⟨p0,r0⟩,⟨p1,r1⟩,⟨p2,r2⟩,hf10⟩:=N.ready3 hz9 (.string old.d) (.int .i64 old.p) (.int .i64 old.l);go_simp;refine hKK.out _ _ ?_ (fun hHeld=>?_)
        ·(try dsimp only)
         exact HSA.out _ ((J3.st4 sz0 _ _ _ _).st3 sz2 _ _ _)
        clear hKK KK;try simp only[Act.put,sbj1,sbj2,sbj3]
        refine wpAnyH_take (i:=13) (oi:=oprtv2) (v:=?_) rfl (by kernel_rfl) (by kernel_rfl) (by kernel_rfl) (fun _ _ _ h=>h) (Or.inl ⟨by rfl,?_⟩) (by assumption) ?_;rotate_left
        ·intro w hSw
         (try dsimp only at hSw);go_simp;all_goals with_reducible rfl
        try simp only[Act.put,sbj1,sbj2,sbj3]
        refine wpAnyH_done (by kernel_rfl) ?_ _;have pc:=pc_of (old:=old) (ib:=ib) hA3 hZ3 OK3 OV3 (.inl ((Array.getElem?_eq_some_iff.1 hn2).1)) J3 sz0 sz2;go_wp2_with fail;go_meet;exact pc
       exact AllReadyH.nil
      exact AllReadyH.nil
     exact AllReadyH.nil
    exact AllReadyH.nil
   refine AllReadyH.cons (o:=oprtv13) rfl (fun KK hKK=>?_) ?_
   ·
    clear kk0;generalize X.alloc (.cells #[.bool false,.slice none 0 0,.slice none 0 0,.slice none 0 0] 71)=X0 at *;have kk1:=(Kept.refl X0).alloc (.cells #[.string ⟨#[]⟩,.int .i64 0,.int .i64 0] 35);have J1:=J0.trans kk1;have hn1:=heap_alloc_new X0 (.cells #[.string ⟨#[]⟩,.int .i64 0,.int .i64 0] 35);have sz1:=J0.size;have hA1:=kk1.block hn0;go_simp;refine hKK.out _ _ ?_ (fun hHeld=>?_)
    ·(try dsimp only)
     exact HSA.out _ J1
    clear hKK KK;try simp only[Act.put,sbj1,sbj2,sbj3]
    refine wpAnyH_ready (rs:=[1]) (by kernel_rfl) (by simp) ?_;refine AllReadyH.cons (o:=oprtv4) rfl (fun KK hKK=>?_) ?_
    ·
     clear kk1;generalize X0.alloc (.cells #[.string ⟨#[]⟩,.int .i64 0,.int .i64 0] 35)=X1 at *;go_simp;go_at_call 45;(with_reducible refine (HW.out.f3 _ J1).mono ?_);rintro e X2 ⟨rfl,kk2⟩;have J2:=J1.trans kk2;have hA2:=kk2.block hA1;have hZ2:=kk2.block hn1;go_wp2_with fail;refine hKK.out _ _ ?_ (fun hHeld=>?_)
     ·(try dsimp only)
      exact HSA.out _ J2
     clear hKK KK;try simp only[Act.put,sbj1,sbj2,sbj3]
     refine wpAnyH_ready (rs:=[4]) (by kernel_rfl) (by simp) ?_;refine AllReadyH.cons (o:=oprtv3) rfl (fun KK hKK=>?_) ?_
     ·
      go_simp;go_at_call 44;(with_reducible refine (HW.out.f4 _ J2).mono ?_);rintro e X3 ⟨kp9,mm,kc9,vp9,vc9,rfl,OK3,OV3,kk3⟩;have J3:=J2.trans kk3;have hA3:=kk3.block hA2;have hZ3:=kk3.block hZ2;go_wp2_with fail;refine hKK.out _ _ ?_ (fun hHeld=>?_)
      ·(try dsimp only)
       exact HSA.out _ J3
      clear hKK KK;try simp only[Act.put,sbj1,sbj2,sbj3]
      refine wpAnyH_take (i:=5) (oi:=oprtv8) (v:=?_) rfl (by kernel_rfl) (by kernel_rfl) (by kernel_rfl) (fun _ _ _ h=>h) (Or.inl ⟨by rfl,?_⟩) (by assumption) ?_;rotate_left
      ·intro w hSw
       (try dsimp only at hSw);go_simp;all_goals with_reducible rfl
      try simp only[Act.put,sbj1,sbj2,sbj3]
      refine wpAnyH_take (i:=6) (oi:=oprtv7) (v:=?_) rfl (by kernel_rfl) (by kernel_rfl) (by kernel_rfl) (fun _ _ _ h=>h) (Or.inl ⟨by rfl,?_⟩) (by assumption) ?_;rotate_left
      ·intro w hSw
       (try dsimp only at hSw);go_simp;all_goals with_reducible rfl
      try simp only[Act.put,sbj1,sbj2,sbj3]
      refine wpAnyH_take (i:=7) (oi:=oprtv5) (v:=?_) rfl (by kernel_rfl) (by kernel_rfl) (by kernel_rfl) (fun _ _ _ h=>h) (Or.inl ⟨by rfl,?_⟩) (by assumption) ?_;rotate_left
      ·intro w hSw
       (try dsimp only at hSw);go_simp;all_goals with_reducible rfl
      try simp only[Act.put,sbj1,sbj2,sbj3]
      refine wpAnyH_take (i:=8) (oi:=oprtv6) (v:=?_) rfl (by kernel_rfl) (by kernel_rfl) (by kernel_rfl) (fun _ _ _ h=>h) (Or.inl ⟨by rfl,?_⟩) (by assumption) ?_;rotate_left
      ·intro w hSw
       (try dsimp only at hSw);go_simp;all_goals with_reducible rfl
      try simp only[Act.put,sbj1,sbj2,sbj3]
      refine wpAnyH_ready (rs:=[11]) (by kernel_rfl) (by simp) ?_;refine AllReadyH.cons (o:=oprtv1) rfl (fun KK hKK=>?_) ?_
      ·
       obtain⟨⟨g0,f0⟩,⟨g1,f1⟩,⟨g2,f2⟩,⟨g3,f3⟩,hf9⟩:=N.ready4 hA3 (.bool true) (.slice kp9 mm kc9) (.slice vp9 mm vc9) (.slice none 0 0);go_simp;refine hKK.out _ _ ?_ (fun hHeld=>?_)
       ·(try dsimp only)
        exact HSA.out _ (J3.st4 sz0 _ _ _ _)
       clear hKK KK;try simp only[Act.put,sbj1,sbj2,sbj3]
       refine wpAnyH_ready (rs:=[12]) (by kernel_rfl) (by simp) ?_;refine AllReadyH.cons (o:=oprtv0) rfl (fun KK hKK=>?_) ?_
       ·
        have hz9:=(N.others4 X3 (show X0.heap.size≠X.heap.size from fun e=>by rw[e]at hZ3;rw[hA3]at hZ3;cases hZ3) (.bool true) (.slice kp9 mm kc9) (.slice vp9 mm vc9) (.slice none 0 0)).trans hZ3;obtain⟨⟨p0,r0⟩,⟨p1,r1⟩,⟨p2,r2⟩,hf10⟩:=N.ready3 hz9 (.string old.d) (.int .i64 old.p) (.int .i64 old.l);go_simp;refine hKK.out _ _ ?_ (fun hHeld=>?_)
        ·(try dsimp only)
         exact HSA.out _ ((J3.st4 sz0 _ _ _ _).st3 sz1 _ _ _)
        clear hKK KK;try simp only[Act.put,sbj1,sbj2,sbj3]
        refine wpAnyH_take (i:=13) (oi:=oprtv2) (v:=?_) rfl (by kernel_rfl) (by kernel_rfl) (by kernel_rfl) (fun _ _ _ h=>h) (Or.inl ⟨by rfl,?_⟩) (by assumption) ?_;rotate_left
        ·intro w hSw
         (try dsimp only at hSw);go_simp;all_goals with_reducible rfl
        try simp only[Act.put,sbj1,sbj2,sbj3]
        refine wpAnyH_done (by kernel_rfl) ?_ _;have pc:=pc_of (old:=old) (ib:=ib) hA3 hZ3 OK3 OV3 (.inl ((Array.getElem?_eq_some_iff.1 hZ2).1)) J3 sz0 sz1;go_wp2_with fail;go_meet;exact pc
       exact AllReadyH.nil
      exact AllReadyH.nil
     exact AllReadyH.nil
    exact AllReadyH.nil
   exact AllReadyH.nil
  refine AllReadyH.cons (o:=oprtv13) rfl (fun KK hKK=>?_) ?_
  ·
   have kk0:=(Kept.refl X).alloc (.cells #[.string ⟨#[]⟩,.int .i64 0,.int .i64 0] 35);have J0:=JI.trans kk0;have hn0:=heap_alloc_new X (.cells #[.string ⟨#[]⟩,.int .i64 0,.int .i64 0] 35);have sz0:=JI.size;go_simp;refine hKK.out _ _ ?_ (fun hHeld=>?_)
   ·(try dsimp only)
    exact HSA.out _ J0
   clear hKK KK;try simp only[Act.put,sbj1,sbj2,sbj3]
   refine wpAnyH_ready (rs:=[1,9]) (by kernel_rfl) (by simp) ?_;refine AllReadyH.cons (o:=oprtv4) rfl (fun KK hKK=>?_) ?_
   ·
    clear kk0;generalize X.alloc (.cells #[.string ⟨#[]⟩,.int .i64 0,.int .i64 0] 35)=X0 at *;go_simp;go_at_call 45;(with_reducible refine (HW.out.f3 _ J0).mono ?_);rintro e X1 ⟨rfl,kk1⟩;have J1:=J0.trans kk1;have hZ1:=kk1.block hn0;go_wp2_with fail;refine hKK.out _ _ ?_ (fun hHeld=>?_)
    ·(try dsimp only)
     exact HSA.out _ J1
    clear hKK KK;try simp only[Act.put,sbj1,sbj2,sbj3]
    refine wpAnyH_ready (rs:=[4,9]) (by kernel_rfl) (by simp) ?_;refine AllReadyH.cons (o:=oprtv3) rfl (fun KK hKK=>?_) ?_
    ·
     go_simp;go_at_call 44;(with_reducible refine (HW.out.f4 _ J1).mono ?_);rintro e X2 ⟨kp9,mm,kc9,vp9,vc9,rfl,OK2,OV2,kk2⟩;have J2:=J1.trans kk2;have hZ2:=kk2.block hZ1;go_wp2_with fail;refine hKK.out _ _ ?_ (fun hHeld=>?_)
     ·(try dsimp only)
      exact HSA.out _ J2
     clear hKK KK;try simp only[Act.put,sbj1,sbj2,sbj3]
     refine wpAnyH_take (i:=5) (oi:=oprtv8) (v:=?_) rfl (by kernel_rfl) (by kernel_rfl) (by kernel_rfl) (fun _ _ _ h=>h) (Or.inl ⟨by rfl,?_⟩) (by assumption) ?_;rotate_left
     ·intro w hSw
      (try dsimp only at hSw);go_simp;all_goals with_reducible rfl
     try simp only[Act.put,sbj1,sbj2,sbj3]
     refine wpAnyH_take (i:=6) (oi:=oprtv7) (v:=?_) rfl (by kernel_rfl) (by kernel_rfl) (by kernel_rfl) (fun _ _ _ h=>h) (Or.inl ⟨by rfl,?_⟩) (by assumption) ?_;rotate_left
     ·intro w hSw
      (try dsimp only at hSw);go_simp;all_goals with_reducible rfl
     try simp only[Act.put,sbj1,sbj2,sbj3]
     refine wpAnyH_take (i:=7) (oi:=oprtv5) (v:=?_) rfl (by kernel_rfl) (by kernel_rfl) (by kernel_rfl) (fun _ _ _ h=>h) (Or.inl ⟨by rfl,?_⟩) (by assumption) ?_;rotate_left
     ·intro w hSw
      (try dsimp only at hSw);go_simp;all_goals with_reducible rfl
     try simp only[Act.put,sbj1,sbj2,sbj3]
     refine wpAnyH_take (i:=8) (oi:=oprtv6) (v:=?_) rfl (by kernel_rfl) (by kernel_rfl) (by kernel_rfl) (fun _ _ _ h=>h) (Or.inl ⟨by rfl,?_⟩) (by assumption) ?_;rotate_left
     ·intro w hSw
      (try dsimp only at hSw);go_simp;all_goals with_reducible rfl
     try simp only[Act.put,sbj1,sbj2,sbj3]
     refine wpAnyH_ready (rs:=[9]) (by kernel_rfl) (by simp) ?_;refine AllReadyH.cons (o:=oprtv12) rfl (fun KK hKK=>?_) ?_
     ·
      have kk3:=(Kept.refl X2).alloc (.cells #[.bool false,.slice none 0 0,.slice none 0 0,.slice none 0 0] 71);have J3:=J2.trans kk3;have hn3:=heap_alloc_new X2 (.cells #[.bool false,.slice none 0 0,.slice none 0 0,.slice none 0 0] 71);have sz3:=J2.size;have hZ3:=kk3.block hZ2;have OK3:=OK2.kept kk3;have OV3:=OV2.kept kk3;go_simp;refine hKK.out _ _ ?_ (fun hHeld=>?_)
      ·(try dsimp only)
       exact HSA.out _ J3
      clear hKK KK;try simp only[Act.put,sbj1,sbj2,sbj3]
      refine wpAnyH_ready (rs:=[11]) (by kernel_rfl) (by simp) ?_;refine AllReadyH.cons (o:=oprtv1) rfl (fun KK hKK=>?_) ?_
      ·
       clear kk3;generalize X2.alloc (.cells #[.bool false,.slice none 0 0,.slice none 0 0,.slice none 0 0] 71)=X3 at *;obtain⟨⟨g0,f0⟩,⟨g1,f1⟩,⟨g2,f2⟩,⟨g3,f3⟩,hf9⟩:=N.ready4 hn3 (.bool true) (.slice kp9 mm kc9) (.slice vp9 mm vc9) (.slice none 0 0);go_simp;refine hKK.out _ _ ?_ (fun hHeld=>?_)
       ·(try dsimp only)
        exact HSA.out _ (J3.st4 sz3 _ _ _ _)
       clear hKK KK;try simp only[Act.put,sbj1,sbj2,sbj3]
       refine wpAnyH_ready (rs:=[12]) (by kernel_rfl) (by simp) ?_;refine AllReadyH.cons (o:=oprtv0) rfl (fun KK hKK=>?_) ?_
       ·
        have hz9:=(N.others4 X3 (show X.heap.size≠X2.heap.size from fun e=>by rw[e]at hZ3;rw[hn3]at hZ3;cases hZ3) (.bool true) (.slice kp9 mm kc9) (.slice vp9 mm vc9) (.slice none 0 0)).trans hZ3;obtain⟨⟨p0,r0⟩,⟨p1,r1⟩,⟨p2,r2⟩,hf10⟩:=N.ready3 hz9 (.string old.d) (.int .i64 old.p) (.int .i64 old.l);go_simp;refine hKK.out _ _ ?_ (fun hHeld=>?_)
        ·(try dsimp only)
         exact HSA.out _ ((J3.st4 sz3 _ _ _ _).st3 sz0 _ _ _)
        clear hKK KK;try simp only[Act.put,sbj1,sbj2,sbj3]
        refine wpAnyH_take (i:=13) (oi:=oprtv2) (v:=?_) rfl (by kernel_rfl) (by kernel_rfl) (by kernel_rfl) (fun _ _ _ h=>h) (Or.inl ⟨by rfl,?_⟩) (by assumption) ?_;rotate_left
        ·intro w hSw
         (try dsimp only at hSw);go_simp;all_goals with_reducible rfl
        try simp only[Act.put,sbj1,sbj2,sbj3]
        refine wpAnyH_done (by kernel_rfl) ?_ _;have pc:=pc_of (old:=old) (ib:=ib) hn3 hZ3 OK3 OV3 (.inl ((Array.getElem?_eq_some_iff.1 hZ1).1)) J3 sz3 sz0;go_wp2_with fail;go_meet;exact pc
       exact AllReadyH.nil
      exact AllReadyH.nil
     exact AllReadyH.nil
    refine AllReadyH.cons (o:=oprtv12) rfl (fun KK hKK=>?_) ?_
    ·
     have kk2:=(Kept.refl X1).alloc (.cells #[.bool false,.slice none 0 0,.slice none 0 0,.slice none 0 0] 71);have J2:=J1.trans kk2;have hn2:=heap_alloc_new X1 (.cells #[.bool false,.slice none 0 0,.slice none 0 0,.slice none 0 0] 71);have sz2:=J1.size;have hZ2:=kk2.block hZ1;go_simp;refine hKK.out _ _ ?_ (fun hHeld=>?_)
     ·(try dsimp only)
      exact HSA.out _ J2
     clear hKK KK;try simp only[Act.put,sbj1,sbj2,sbj3]
     refine wpAnyH_ready (rs:=[4]) (by kernel_rfl) (by simp) ?_;refine AllReadyH.cons (o:=oprtv3) rfl (fun KK hKK=>?_) ?_
     ·
      clear kk2;generalize X1.alloc (.cells #[.bool false,.slice none 0 0,.slice none 0 0,.slice none 0 0] 71)=X2 at *;go_simp;go_at_call 44;(with_reducible refine (HW.out.f4 _ J2).mono ?_);rintro e X3 ⟨kp9,mm,kc9,vp9,vc9,rfl,OK3,OV3,kk3⟩;have J3:=J2.trans kk3;have hA3:=kk3.block hn2;have hZ3:=kk3.block hZ2;go_wp2_with fail;refine hKK.out _ _ ?_ (fun hHeld=>?_)
      ·(try dsimp only)
       exact HSA.out _ J3
      clear hKK KK;try simp only[Act.put,sbj1,sbj2,sbj3]
      refine wpAnyH_take (i:=5) (oi:=oprtv8) (v:=?_) rfl (by kernel_rfl) (by kernel_rfl) (by kernel_rfl) (fun _ _ _ h=>h) (Or.inl ⟨by rfl,?_⟩) (by assumption) ?_;rotate_left
      ·intro w hSw
       (try dsimp only at hSw);go_simp;all_goals with_reducible rfl
      try simp only[Act.put,sbj1,sbj2,sbj3]
      refine wpAnyH_take (i:=6) (oi:=oprtv7) (v:=?_) rfl (by kernel_rfl) (by kernel_rfl) (by kernel_rfl) (fun _ _ _ h=>h) (Or.inl ⟨by rfl,?_⟩) (by assumption) ?_;rotate_left
      ·intro w hSw
       (try dsimp only at hSw);go_simp;all_goals with_reducible rfl
      try simp only[Act.put,sbj1,sbj2,sbj3]
      refine wpAnyH_take (i:=7) (oi:=oprtv5) (v:=?_) rfl (by kernel_rfl) (by kernel_rfl) (by kernel_rfl) (fun _ _ _ h=>h) (Or.inl ⟨by rfl,?_⟩) (by assumption) ?_;rotate_left
      ·intro w hSw
       (try dsimp only at hSw);go_simp;all_goals with_reducible rfl
      try simp only[Act.put,sbj1,sbj2,sbj3]
      refine wpAnyH_take (i:=8) (oi:=oprtv6) (v:=?_) rfl (by kernel_rfl) (by kernel_rfl) (by kernel_rfl) (fun _ _ _ h=>h) (Or.inl ⟨by rfl,?_⟩) (by assumption) ?_;rotate_left
      ·intro w hSw
       (try dsimp only at hSw);go_simp;all_goals with_reducible rfl
      try simp only[Act.put,sbj1,sbj2,sbj3]
      refine wpAnyH_ready (rs:=[11]) (by kernel_rfl) (by simp) ?_;refine AllReadyH.cons (o:=oprtv1) rfl (fun KK hKK=>?_) ?_
      ·
       obtain⟨⟨g0,f0⟩,⟨g1,f1⟩,⟨g2,f2⟩,⟨g3,f3⟩,hf9⟩:=N.ready4 hA3 (.bool true) (.slice kp9 mm kc9) (.slice vp9 mm vc9) (.slice none 0 0);go_simp;refine hKK.out _ _ ?_ (fun hHeld=>?_)
       ·(try dsimp only)
        exact HSA.out _ (J3.st4 sz2 _ _ _ _)
       clear hKK KK;try simp only[Act.put,sbj1,sbj2,sbj3]
       refine wpAnyH_ready (rs:=[12]) (by kernel_rfl) (by simp) ?_;refine AllReadyH.cons (o:=oprtv0) rfl (fun KK hKK=>?_) ?_
       ·
        have hz9:=(N.others4 X3 (show X.heap.size≠X1.heap.size from fun e=>by rw[e]at hZ3;rw[hA3]at hZ3;cases hZ3) (.bool true) (.slice kp9 mm kc9) (.slice vp9 mm vc9) (.slice none 0 0)).trans hZ3;obtain⟨⟨p0,r0⟩,⟨p1,r1⟩,⟨p2,r2⟩,hf10⟩:=N.ready3 hz9 (.string old.d) (.int .i64 old.p) (.int .i64 old.l);go_simp;refine hKK.out _ _ ?_ (fun hHeld=>?_)
        ·(try dsimp only)
         exact HSA.out _ ((J3.st4 sz2 _ _ _ _).st3 sz0 _ _ _)
        clear hKK KK;try simp only[Act.put,sbj1,sbj2,sbj3]
        refine wpAnyH_take (i:=13) (oi:=oprtv2) (v:=?_) rfl (by kernel_rfl) (by kernel_rfl) (by kernel_rfl) (fun _ _ _ h=>h) (Or.inl ⟨by rfl,?_⟩) (by assumption) ?_;rotate_left
        ·intro w hSw
         (try dsimp only at hSw);go_simp;all_goals with_reducible rfl
        try simp only[Act.put,sbj1,sbj2,sbj3]
        refine wpAnyH_done (by kernel_rfl) ?_ _;have pc:=pc_of (old:=old) (ib:=ib) hA3 hZ3 OK3 OV3 (.inl ((Array.getElem?_eq_some_iff.1 hZ2).1)) J3 sz2 sz0;go_wp2_with fail;go_meet;exact pc
       exact AllReadyH.nil
      exact AllReadyH.nil
     exact AllReadyH.nil
    exact AllReadyH.nil
   refine AllReadyH.cons (o:=oprtv12) rfl (fun KK hKK=>?_) ?_
   ·
    clear kk0;generalize X.alloc (.cells #[.string ⟨#[]⟩,.int .i64 0,.int .i64 0] 35)=X0 at *;have kk1:=(Kept.refl X0).alloc (.cells #[.bool false,.slice none 0 0,.slice none 0 0,.slice none 0 0] 71);have J1:=J0.trans kk1;have hn1:=heap_alloc_new X0 (.cells #[.bool false,.slice none 0 0,.slice none 0 0,.slice none 0 0] 71);have sz1:=J0.size;have hZ1:=kk1.block hn0;go_simp;refine hKK.out _ _ ?_ (fun hHeld=>?_)
    ·(try dsimp only)
     exact HSA.out _ J1
    clear hKK KK;try simp only[Act.put,sbj1,sbj2,sbj3]
    refine wpAnyH_ready (rs:=[1]) (by kernel_rfl) (by simp) ?_;refine AllReadyH.cons (o:=oprtv4) rfl (fun KK hKK=>?_) ?_
    ·
     clear kk1;generalize X0.alloc (.cells #[.bool false,.slice none 0 0,.slice none 0 0,.slice none 0 0] 71)=X1 at *;go_simp;go_at_call 45;(with_reducible refine (HW.out.f3 _ J1).mono ?_);rintro e X2 ⟨rfl,kk2⟩;have J2:=J1.trans kk2;have hA2:=kk2.block hn1;have hZ2:=kk2.block hZ1;go_wp2_with fail;refine hKK.out _ _ ?_ (fun hHeld=>?_)
     ·(try dsimp only)
      exact HSA.out _ J2
     clear hKK KK;try simp only[Act.put,sbj1,sbj2,sbj3]
     refine wpAnyH_ready (rs:=[4]) (by kernel_rfl) (by simp) ?_;refine AllReadyH.cons (o:=oprtv3) rfl (fun KK hKK=>?_) ?_
     ·
      go_simp;go_at_call 44;(with_reducible refine (HW.out.f4 _ J2).mono ?_);rintro e X3 ⟨kp9,mm,kc9,vp9,vc9,rfl,OK3,OV3,kk3⟩;have J3:=J2.trans kk3;have hA3:=kk3.block hA2;have hZ3:=kk3.block hZ2;go_wp2_with fail;refine hKK.out _ _ ?_ (fun hHeld=>?_)
      ·(try dsimp only)
       exact HSA.out _ J3
      clear hKK KK;try simp only[Act.put,sbj1,sbj2,sbj3]
      refine wpAnyH_take (i:=5) (oi:=oprtv8) (v:=?_) rfl (by kernel_rfl) (by kernel_rfl) (by kernel_rfl) (fun _ _ _ h=>h) (Or.inl ⟨by rfl,?_⟩) (by assumption) ?_;rotate_left
      ·intro w hSw
       (try dsimp only at hSw);go_simp;all_goals with_reducible rfl
      try simp only[Act.put,sbj1,sbj2,sbj3]
      refine wpAnyH_take (i:=6) (oi:=oprtv7) (v:=?_) rfl (by kernel_rfl) (by kernel_rfl) (by kernel_rfl) (fun _ _ _ h=>h) (Or.inl ⟨by rfl,?_⟩) (by assumption) ?_;rotate_left
      ·intro w hSw
       (try dsimp only at hSw);go_simp;all_goals with_reducible rfl
      try simp only[Act.put,sbj1,sbj2,sbj3]
      refine wpAnyH_take (i:=7) (oi:=oprtv5) (v:=?_) rfl (by kernel_rfl) (by kernel_rfl) (by kernel_rfl) (fun _ _ _ h=>h) (Or.inl ⟨by rfl,?_⟩) (by assumption) ?_;rotate_left
      ·intro w hSw
       (try dsimp only at hSw);go_simp;all_goals with_reducible rfl
      try simp only[Act.put,sbj1,sbj2,sbj3]
      refine wpAnyH_take (i:=8) (oi:=oprtv6) (v:=?_) rfl (by kernel_rfl) (by kernel_rfl) (by kernel_rfl) (fun _ _ _ h=>h) (Or.inl ⟨by rfl,?_⟩) (by assumption) ?_;rotate_left
      ·intro w hSw
       (try dsimp only at hSw);go_simp;all_goals with_reducible rfl
      try simp only[Act.put,sbj1,sbj2,sbj3]
      refine wpAnyH_ready (rs:=[11]) (by kernel_rfl) (by simp) ?_;refine AllReadyH.cons (o:=oprtv1) rfl (fun KK hKK=>?_) ?_
      ·
       obtain⟨⟨g0,f0⟩,⟨g1,f1⟩,⟨g2,f2⟩,⟨g3,f3⟩,hf9⟩:=N.ready4 hA3 (.bool true) (.slice kp9 mm kc9) (.slice vp9 mm vc9) (.slice none 0 0);go_simp;refine hKK.out _ _ ?_ (fun hHeld=>?_)
       ·(try dsimp only)
        exact HSA.out _ (J3.st4 sz1 _ _ _ _)
       clear hKK KK;try simp only[Act.put,sbj1,sbj2,sbj3]
       refine wpAnyH_ready (rs:=[12]) (by kernel_rfl) (by simp) ?_;refine AllReadyH.cons (o:=oprtv0) rfl (fun KK hKK=>?_) ?_
       ·
        have hz9:=(N.others4 X3 (show X.heap.size≠X0.heap.size from fun e=>by rw[e]at hZ3;rw[hA3]at hZ3;cases hZ3) (.bool true) (.slice kp9 mm kc9) (.slice vp9 mm vc9) (.slice none 0 0)).trans hZ3;obtain⟨⟨p0,r0⟩,⟨p1,r1⟩,⟨p2,r2⟩,hf10⟩:=N.ready3 hz9 (.string old.d) (.int .i64 old.p) (.int .i64 old.l);go_simp;refine hKK.out _ _ ?_ (fun hHeld=>?_)
        ·(try dsimp only)
         exact HSA.out _ ((J3.st4 sz1 _ _ _ _).st3 sz0 _ _ _)
        clear hKK KK;try simp only[Act.put,sbj1,sbj2,sbj3]
        refine wpAnyH_take (i:=13) (oi:=oprtv2) (v:=?_) rfl (by kernel_rfl) (by kernel_rfl) (by kernel_rfl) (fun _ _ _ h=>h) (Or.inl ⟨by rfl,?_⟩) (by assumption) ?_;rotate_left
        ·intro w hSw
         (try dsimp only at hSw);go_simp;all_goals with_reducible rfl
        try simp only[Act.put,sbj1,sbj2,sbj3]
        refine wpAnyH_done (by kernel_rfl) ?_ _;have pc:=pc_of (old:=old) (ib:=ib) hA3 hZ3 OK3 OV3 (.inl ((Array.getElem?_eq_some_iff.1 hZ2).1)) J3 sz1 sz0;go_wp2_with fail;go_meet;exact pc
       exact AllReadyH.nil
      exact AllReadyH.nil
     exact AllReadyH.nil
    exact AllReadyH.nil
   exact AllReadyH.nil
  exact AllReadyH.nil
 case rest=>
  obtain⟨a9,a10,kp9,mm,kc9,vp9,vc9,rfl,rfl,rfl,X9,X10,N9,k9⟩:=hcut.out;obtain⟨x0,x1,x2,x3⟩:=X9.cs;have f5:=HW.out.f5 wc kp9 mm kc9 vp9 vc9 k9 N9;have HX10:Hid (C3 wc a10 35 (.string old.d) (.int .i64 old.p) (.int .i64 old.l)):=X10;have H6:Hid (wc.heap[w.heap.size+1]? = some (.cells #[.string ⟨#[]⟩,.int .i64 0,.int .i64 0] 35)):=k9.block S61;have HKc:Hid (Kept w wc):=K1.trans k9;clear hcut X9 X10 N9 k9 HSA HW S51 S61 K0 K1 K2 k1 k2;go_wp2_with fail;refine f5.mono ?_;rintro e w5 hR;have HNe:Hid (∀ b cc fr,wc.heap[b]? = some (.cells cc 35 fr)→b≠t):=fun b cc fr hb e=>by
   have h2:=(HT.out.kept HKc.out).out;rw[e,h2]at hb;injection hb with hb;injection hb with _ hb _;exact absurd hb (by decide)
  rcases hR with⟨rfl,M',r,tr,T5,V5,x5⟩|⟨rfl,M',ex,T5,V5,x5⟩
  ·have R6:C3 w5 (w.heap.size+1) 35 (.string ⟨#[]⟩) (.int .i64 0) (.int .i64 0):=⟨x5.rows _ _ _ _ H6.out calm35 (HNe.out _ _ _ H6.out)⟩
   have Y10:C3 w5 a10 35 (.string old.d) (.int .i64 old.p) (.int .i64 old.l):=⟨x5.rows _ _ _ _ HX10.out.out calm35 (HNe.out _ _ _ HX10.out.out)⟩;obtain⟨y0,y1,y2⟩:=Y10.cs;obtain⟨⟨g0,i0⟩,⟨g1,i1⟩,⟨g2,i2⟩,hfin⟩:=N.ready3 R6.out (.string old.d) (.int .i64 old.p) (.int .i64 old.l);have oth:∀ k,k≠w.heap.size+1→(((w5.setCell ⟨w.heap.size+1,0,none⟩ (.string old.d)).setCell ⟨w.heap.size+1,1,none⟩ (.int .i64 old.p)).setCell ⟨w.heap.size+1,2,none⟩ (.int .i64 old.l)).heap[k]? = w5.heap[k]?:=fun k hk=>oth3 w5 hk _ _ _
   have q1:=tat_oth T5 R6.out (by decide) oth;have q2:Pv B (((w5.setCell ⟨w.heap.size+1,0,none⟩ (.string old.d)).setCell ⟨w.heap.size+1,1,none⟩ (.int .i64 old.p)).setCell ⟨w.heap.size+1,2,none⟩ (.int .i64 old.l)) p m M':=V5.ap (Ap.other R6.out (by decide) (fun k o hk hne=>(oth k hne).trans hk));have q3:=tx_oth ((Tx.ofOn (t:=t) (G.On.ofKept ⟨HKc.out.out⟩ HB.out)).trans x5) (z:=w.heap.size+1) (Nat.le_succ _) HB.out (zero3 _ _ _ _ _) oth;clear T5 V5 x5 oth R6 Y10 f5 x0 x1 x2 x3;go_wp2;generalize (((w5.setCell ⟨w.heap.size+1,0,none⟩ (.string old.d)).setCell ⟨w.heap.size+1,1,none⟩ (.int .i64 old.p)).setCell ⟨w.heap.size+1,2,none⟩ (.int .i64 old.l))=WF at *;refine bodyPost_ret (v:=.tuple #[.agg #[.string old.d,.int .i64 old.p,.int .i64 old.l],.bool ib,.int .i64 0]) ?_ rfl (.inl ⟨rfl,M',r,tr,q1,q2,q3⟩);exact results_ctt (p:=6) (u:=7) (v:=8) (ty:=35) rfl _ _ (w.heap.size+1) 35 #[.string old.d,.int .i64 old.p,.int .i64 old.l] (0,0) _ rfl hfin Tryz.underlying35 rfl size35
  ·have R6:C3 w5 (w.heap.size+1) 35 (.string ⟨#[]⟩) (.int .i64 0) (.int .i64 0):=⟨x5.rows _ _ _ _ H6.out calm35 (HNe.out _ _ _ H6.out)⟩
   obtain⟨⟨g0,i0⟩,⟨g1,i1⟩,⟨g2,i2⟩,hfin⟩:=N.ready3 R6.out (.string ⟨#[]⟩) (.int .i64 0) (.int .i64 0);have oth:∀ k,k≠w.heap.size+1→(((w5.setCell ⟨w.heap.size+1,0,none⟩ (.string ⟨#[]⟩)).setCell ⟨w.heap.size+1,1,none⟩ (.int .i64 0)).setCell ⟨w.heap.size+1,2,none⟩ (.int .i64 0)).heap[k]? = w5.heap[k]?:=fun k hk=>oth3 w5 hk _ _ _
   have q1:=tat_oth T5 R6.out (by decide) oth;have q2:Pv B (((w5.setCell ⟨w.heap.size+1,0,none⟩ (.string ⟨#[]⟩)).setCell ⟨w.heap.size+1,1,none⟩ (.int .i64 0)).setCell ⟨w.heap.size+1,2,none⟩ (.int .i64 0)) p m M':=V5.ap (Ap.other R6.out (by decide) (fun k o hk hne=>(oth k hne).trans hk));have q3:=tx_oth ((Tx.ofOn (t:=t) (G.On.ofKept ⟨HKc.out.out⟩ HB.out)).trans x5) (z:=w.heap.size+1) (Nat.le_succ _) HB.out (zero3 _ _ _ _ _) oth;clear T5 V5 x5 oth R6 f5 x0 x1 x2 x3;go_wp2;generalize (((w5.setCell ⟨w.heap.size+1,0,none⟩ (.string ⟨#[]⟩)).setCell ⟨w.heap.size+1,1,none⟩ (.int .i64 0)).setCell ⟨w.heap.size+1,2,none⟩ (.int .i64 0))=WF at *;refine bodyPost_ret (v:=.tuple #[.agg #[.string ⟨#[]⟩,.int .i64 0,.int .i64 0],.bool false,.int .i64 80]) ?_ rfl (.inr ⟨rfl,M',ex,q1,q2,q3⟩);exact results_ctt (p:=6) (u:=7) (v:=8) (ty:=35) rfl _ _ (w.heap.size+1) 35 #[.string ⟨#[]⟩,.int .i64 0,.int .i64 0] (0,0) _ rfl hfin Tryz.underlying35 rfl size35
open B (tr_deep con_ord put_leaf ksum_le)
open N (setK setV delK delV Okv)
theorem mayVal_ok(w:World)(d:ByteArray)(hd:d.size≤48):Calls Tryz.prog 42 #[.agg #[.string d,.int .i64 (-1),.int .i64 0]] w fun e w'=>e=.returned (.bool true)∧Kept w w':=by
 have K0:Kept w (w.alloc (.cells #[.string d,.int .i64 (-1),.int .i64 0] 35)):=(Kept.refl w).alloc _;obtain⟨x0,x1,x2⟩:=(C3.alloc w 35 (.string d) (.int .i64 (-1)) (.int .i64 0)).cs;have h1:(d.size:Int)≤48:=by omega
 go_enter Tryz.func42,Tryz.ntmps42;go_wp2;go_ret;exact⟨rfl,K0⟩
theorem set_nil_k(key:ByteArray):setK [] key=[key]:=by simp[setK,isk,N.ins,fnd]
theorem set_nil_v(key:ByteArray)(v:Vl):setV [] [] key v=[v]:=by simp[setV,isk,N.ins,fnd]
theorem old_nil(key:ByteArray):oldV [] [] key=⟨⟨#[]⟩,-1,0⟩:=by simp[oldV,isk]
theorem isk_nil(key:ByteArray):isk key []=false:=by simp[isk]
theorem one_small{key:ByteArray}{v:Vl}(hk:key.size≤64)(hv:Okv v):N.Good ⟨true,[key],[v],[]⟩∧(⟨true,[key],[v],[]⟩:Nd).put.length≤237:=by
 have g:N.Good ⟨true,[key],[v],[]⟩:=⟨by simp,fun k h=>by simp at h;rw[h];exact hk,fun _=>⟨rfl,rfl⟩,(fun e=>by cases e),fun x h=>by simp at h;rw[h];exact hv,fun i h=>by cases h⟩;refine⟨g,?_⟩;rw[put_leaf g rfl];have h1:=ksum_le [key] (fun k h=>by simp at h;rw[h];exact hk);have h2:N.vsum [v]≤50:=by
  have:=N.valN_length _ hv;simp[N.vsum];omega
 simp at h1;show 1+N.ksum [key] + N.vsum [v]≤237;omega
theorem put_empty{B:Nat}{w:World}{t p m:Nat}{M:Pm}(key d:ByteArray)(hT:TAt w t p (-1))(hBt:B≤t)(hV:Pv B w p m M)(hM:∀ q,M q=none)(hB:B≤w.heap.size)(hL:S.Lds w)(hk:key.size≤64)(hd:d.size≤48) :
  Calls Tryz.prog 22 #[.pointer (some ⟨t,0,none⟩),.string key,.agg #[.string d,.int .i64 (-1),.int .i64 0]] w (PPost 0 B t p m (-1) M [(key,⟨d,-1,0⟩)] ⟨⟨#[]⟩,-1,0⟩ false w):=by
 have hv:Okv ⟨d,-1,0⟩:=.inl ⟨rfl,rfl,hd⟩;obtain⟨g1,g2⟩:=one_small (key:=key) hk hv;refine put_core (ks':=[key]) (vs':=[⟨d,-1,0⟩]) hT hB hk (fun W _=>mayVal_ok W d hd) (fun W k=>?_);refine (way_nil (key:=key) (hT.kept k)).mono ?_;rintro e w1 ⟨rfl,rfl⟩;refine⟨none,0,0,true,none,0,0,none,0,0,none,0,0,rfl,⟨fun W1 _=>end_nil W1,fun W1 _=>?_,fun W1 kp' mm kc' vp'' vc' k1 hN=>?_⟩,Kept.refl _⟩
 ·have:=N.set_walk (w:=W1) (l:=true) (kp:=none) (vp:=none) (ip:=none) (n:=0) (kc:=0) (vc:=0) (ni:=0) (ic:=0) (ks:=[]) (vs:=[]) ⟨rfl,Nat.le_refl _,Nat.zero_le _,.inl ⟨rfl,rfl⟩⟩ ⟨rfl,Nat.le_refl _,Nat.zero_le _,.inl ⟨rfl,rfl⟩⟩ (by omega) key ⟨d,-1,0⟩
  rw[set_nil_k,set_nil_v,old_nil,isk_nil]at this;exact this
 ·exact replace_nil ((hT.kept k).kept k1) hBt ((hV.kept k).kept k1) hM (Nat.le_trans hB (Nat.le_trans k.size k1.size)) (lds_kept (lds_kept hL k) k1) hN rfl g1 g2
theorem leaf_of{M:Pm}{key:ByteArray}{d n:Nat}{L:List Sm}{s:Stp}{w:World}{q:Option Addr}{cap len:Nat}(hs:(path M key d n)[d]? = some s)(hLP:L.map Sm.stp=path M key d n)(hW:WAt w q len cap L)(hp:Pf M key 0 s (cA M d ((path M key d n).take d)) (cC M d ((path M key d n).take d))) :
  ∃ z:Sm,L[d]? = some z∧z.x=s.x∧NV w z.l z.kp z.nk z.kc z.vp z.nk z.vc z.ip z.ni z.ic s.x∧z.nv=z.nk∧z.nk≤120:=by
 have e:=hs;rw[← hLP,List.getElem?_map]at e;cases hz:L[d]? with
 | none=>rw[hz]at e;cases e
 | some z=>
  rw[hz]at e;have ez:z.stp=s:=Option.some.inj e;have ex:z.x=s.x:=by rw[← ez];rfl
  have hn:=hW.ok z (List.mem_of_getElem? hz);have g:=hp.wf.good;have hl:=(g.lv hp.wf.1).1;unfold Sm.ok at hn;rw[ex]at hn;have a:=hn.nk;have b:=hn.nv;have hnv:z.nv=z.nk:=by omega
  refine⟨z,rfl,ex,?_,hnv,by have:=g.few;omega⟩;rw[hnv]at hn;exact hn
theorem put_tree{B:Nat}{w:World}{t p m:Nat}{root:Int}{M:Pm}{l:List En}(key d:ByteArray)(hT:TAt w t p root)(hBt:B≤t)(hV:Pv B w p m M)(h:Tree M root l)(hB:B≤w.heap.size)(hB0:1<B)(hL:S.Lds w)(hk:key.size≤64)(hd:d.size≤48) :
  Calls Tryz.prog 22 #[.pointer (some ⟨t,0,none⟩),.string key,.agg #[.string d,.int .i64 (-1),.int .i64 0]] w (PPost (if l=[] then 0 else 23) B t p m root M (upd key [(key,⟨d,-1,0⟩)] l) (had key l) (got key l).isSome w):=by
 have hv:Okv ⟨d,-1,0⟩:=.inl ⟨rfl,rfl,hd⟩;rcases h with⟨rfl,rfl,hM⟩|⟨dd,n,rfl,hTr,rfl⟩
 ·rw[if_pos rfl]
  exact put_empty key d hT hBt hV hM hB hL hk hd
 ·have hdd:=tr_deep hTr (fun k x hx=>(hV.rng k x hx).2.1) hV.few
  have hne:con (fm M dd n)≠[]:=fun e=>by
   have:=(Tr.many hTr).1;rw[e]at this;have:0<2 ^ dd:=Nat.pow_pos (by decide);simp at *
  rw[if_neg hne];have hpf:=hTr.pf key;have hwy:=wy_of hpf (by omega);have hpl:=path_length M key dd n;obtain⟨s,hs⟩:∃ s,(path M key dd n)[dd]? = some s:=⟨_,List.getElem?_eq_getElem (by omega)⟩;obtain⟨_,hps⟩:=path_pf dd n [] [] hpf dd s hs;rw[Nat.sub_self,List.nil_append,List.append_nil]at hps;have hg:=path_got dd n [] [] hpf s hs;have e1:had key (con (fm M dd n))=oldV s.x.ks s.x.vs key:=by
   unfold had;rw[hg];split
   ·rfl
   ·rename_i hi;unfold oldV;rw[if_neg hi];rfl
  have e2:(got key (con (fm M dd n))).isSome=isk key s.x.ks:=by
   rw[hg];split
   ·rename_i hi;rw[hi];rfl
   ·rename_i hi;simp at hi;rw[hi];rfl
  rw[e1,e2];refine put_core (ks':=setK s.x.ks key) (vs':=setV s.x.ks s.x.vs key ⟨d,-1,0⟩) hT hB hk (fun W _=>mayVal_ok W d hd) (fun W k=>?_);refine (way_walk (hT.kept k) (hV.kept k) hwy (by omega) (fun s hs=>by rw[path_zero]at hs;rw[← Option.some.inj hs];rfl)).mono ?_;rintro e w1 ⟨q,c,L,rfl,hLP,hW,k1⟩;obtain⟨z,hz,ezx,hN,hnv,hnk⟩:=leaf_of hs hLP hW hps;refine⟨q,_,c,z.l,z.kp,z.nk,z.kc,z.vp,z.nv,z.vc,z.ip,z.ni,z.ic,rfl,⟨fun W1 k2=>end_walk (k:=dd) (hW.kept k2) (by omega) hpl hz,fun W1 k2=>?_,fun W1 kp' mm kc' vp'' vc' k2 hN2=>?_⟩,k1⟩
  ·rw[hnv]
   exact N.set_walk (hN.kept k2).k (hN.kept k2).v (by omega) key ⟨d,-1,0⟩
  ·refine replace_walk (d:=dd) (((hT.kept k).kept k1).kept k2) hBt (((hV.kept k).kept k1).kept k2) (Nat.le_trans hB (Nat.le_trans k.size (Nat.le_trans k1.size k2.size))) hB0 (lds_kept (lds_kept (lds_kept hL k) k1) k2) (hW.kept k2) hpl hLP hTr (by omega) hN2 (fun s' hs'=>?_)
   rw[hs]at hs';obtain rfl:=Option.some.inj hs';exact (hps.start hk ⟨d,-1,0⟩ hv).1
open Go.Proofs.YtafgecaeiodmiaaGreatDoor.D (Dk DiskAt CutsAt Ok)
open G (fmt_new Liv fmtd_ok format_walk open_flu sd_zeros sd_state sup11 opened begin_flu)
theorem ahead_at(k:Nat):G.ahead k=decide (k<2):=by
 unfold G.ahead S.useAt;by_cases h0:k=0
 ·subst h0;rfl
 ·by_cases h1:k=1
  ·subst h1;rfl
  ·rw[if_neg h1,if_neg h0];simp;omega
theorem pv_new{B:Nat}{w:World}{p b g n:Nat}{d:Dk}(h:G.GAt B w p b g (opened d (1,-1)))(hn:d.secs.length=n)(hc:d.cuts=[])(h2:2≤n)(h3:n≤1024):Pv B w p n (fun _=>none):=
 ⟨⟨b,g,_,h,hn,⟨by show 1<4000;omega,hc⟩,fun _=>rfl,fun k _=>by show G.ahead k=_;rw[ahead_at];simp,fun k _=>ahead_at k⟩,(fun k x hx=>by cases hx),h3,h2⟩
open B (pgs_of tree_pages full_pages su su_congr su_add su_count)
theorem er_many{m:Nat}{M M':Pm}{k:Nat}{root:Int}{l:List En}(h:Er m M M' k)(ht:Tree M root l):m≤2*l.length-1+k+2:=by
 obtain⟨a,b,c⟩:=h.out;have h1:=full_pages h.full;have h2:=tree_pages m ht;have h3:pgs_of M' m=pgs_of M m+su (fun q=>a.count q) m:=by
  unfold pgs_of;rw[← su_add];exact su_congr fun q _=>c q
 have h4:=(su_count a m).1;omega
structure Vw (B:Nat) (W:World) (t p m:Nat) (root:Int) (M:Pm) (l:List En):Prop where
 tat:TAt W t p root
 pv:Pv B W p m M
 tr:Tree M root l
 bt:B≤t
 bw:B≤W.heap.size
 b0:1<B
 lds:S.Lds W
theorem Vw.kept{B:Nat}{W W':World}{t p m:Nat}{root:Int}{M:Pm}{l:List En}(h:Vw B W t p m root M l)(k:Kept W W'):Vw B W' t p m root M l:=⟨h.tat.kept k,h.pv.kept k,h.tr,h.bt,Nat.le_trans h.bw k.size,h.b0,lds_kept h.lds k⟩
theorem Vw.readable{B:Nat}{W:World}{t p m:Nat}{root:Int}{M:Pm}{l:List En}(h:Vw B W t p m root M l):TreeW M root l:=TreeW.of h.tr (fun k x hx=>(h.pv.rng k x hx).2.1) h.pv.few
theorem Vw.tx{B:Nat}{W W':World}{t p m:Nat}{root r:Int}{M M':Pm}{l l':List En}(h:Vw B W t p m root M l)(x:Tx B t W W')(hT:TAt W' t p r)(hV:Pv B W' p m M')(ht:Tree M' r l'):Vw B W' t p m r M' l':=⟨hT,hV,ht,h.bt,Nat.le_trans h.bw x.size,h.b0,G.lds_on h.lds x.below h.b0⟩
theorem Vw.put{B:Nat}{W:World}{t p m:Nat}{root:Int}{M:Pm}{l:List En}(h:Vw B W t p m root M l)(key d:ByteArray)(hk:key.size≤64)(hd:d.size≤48)(hm:2*l.length-1+(if l=[] then 0 else 23)+2<m) :
  Calls Tryz.prog 22 #[.pointer (some ⟨t,0,none⟩),.string key,.agg #[.string d,.int .i64 (-1),.int .i64 0]] W fun e w'=>e=.returned (.tuple #[.agg #[.string (had key l).d,.int .i64 (had key l).p,.int .i64 (had key l).l],.bool (got key l).isSome,.int .i64 0])∧(∃ M' r,Vw B w' t p m r M' (upd key [(key,⟨d,-1,0⟩)] l))∧Tx B t W w':=by
 refine (put_tree key d h.tat h.bt h.pv h.tr h.bw h.b0 h.lds hk hd).mono ?_;rintro e w' (⟨rfl,M',r,tr,T5,V5,x5⟩|⟨rfl,M',er,_⟩)
 ·exact⟨rfl,⟨M',r,h.tx x5 T5 V5 tr⟩,x5⟩
 ·have:=er_many er h.tr;omega
open B (sl_asymm)
open N (sl_irrefl)
theorem upd_length(k:ByteArray)(mid:List En):∀ l:List En,(upd k mid l).length≤mid.length+l.length:=by
 intro l;unfold upd;rw[List.length_append,List.length_append];have:∀ l:List En,(l.filter (fun e=>N.sl e.1 k)).length+(l.filter (fun e=>N.sl k e.1)).length≤l.length:=by
  intro l;induction l with
  | nil=>simp
  | cons a r ih=>
   rw[List.filter_cons,List.filter_cons];by_cases h1:N.sl a.1 k=true
   ·rw[if_pos h1,if_neg (by rw[sl_asymm h1];decide)];simp only[List.length_cons];omega
   ·rw[if_neg h1]
    split <;> simp only[List.length_cons] <;> omega
 have:=this l;omega
theorem mem_upd{k:ByteArray}{mid l:List En}{e:En}(h:e∈upd k mid l):e∈mid∨(e∈l∧e.1≠k):=by
 unfold upd at h;rcases List.mem_append.1 h with h | h
 ·obtain⟨a,b⟩:=List.mem_filter.1 h
  exact .inr ⟨a,fun e1=>by rw[e1,sl_irrefl]at b;cases b⟩
 ·rcases List.mem_append.1 h with h | h
  ·exact .inl h
  ·obtain⟨a,b⟩:=List.mem_filter.1 h
   exact .inr ⟨a,fun e1=>by rw[e1,sl_irrefl]at b;cases b⟩
end Go.Proofs.YtafgecaeiodmiaaGreatDoor.T