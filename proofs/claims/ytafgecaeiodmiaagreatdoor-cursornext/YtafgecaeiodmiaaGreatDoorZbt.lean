/- Joined. -/
import Derived.Test.YtafgecaeiodmiaaGreatDoorZbr
import Derived.Deep.RegionHeld3
import Derived.Deep.DrawnRows
namespace Go.Proofs.YtafgecaeiodmiaaGreatDoor.T
open Go.ChangeShapes Go.WideShapes Go.ChangeAt Go.RowKit
open B (Pm Mk En upd Tree Ord R)
open N (Kept Rw Rx Vl sl C4)
theorem sbt1{α:Type}(l:List α)(i:Nat)(a:α):l.toArray.setIfInBounds i a=(l.set i a).toArray:=by simp
theorem sbt2{α:Type}(x:α)(l:List α)(a:α):(x :: l).set 0 a=a :: l:=rfl
theorem sbt3{α:Type}(x:α)(l:List α)(i:Nat)(a:α):(x :: l).set (i+1) a=x :: l.set i a:=rfl
theorem frm_first{s:ByteArray}{l:List En}{i:Nat}{x:En}(h:∀ j e,j<i→l[j]? = some e→sl e.1 s=true)(hx:l[i]? = some x)(hs:sl x.1 s=false):∃ r,frm s l=x :: r:=by
 have e:l=l.take i++x :: l.drop (i+1):=by
  have:=List.take_append_drop i l;rw[List.drop_eq_getElem_cons (List.getElem?_eq_some_iff.1 hx).1,(List.getElem?_eq_some_iff.1 hx).2]at this;exact this.symm
 rw[e,frm_append,frm_none]
 ·exact⟨frm s (l.drop (i+1)),by unfold frm;rw[List.nil_append,List.filter_cons_of_pos (p:=fun e:En=>!sl e.1 s) (by rw[hs];rfl)]⟩
 ·intro y hy
  obtain⟨j,hj⟩:=List.mem_iff_getElem?.1 hy;have hji:j<i:=by
   have:=(List.getElem?_eq_some_iff.1 hj).1;rw[List.length_take]at this;omega
  rw[List.getElem?_take_of_lt hji]at hj;exact h j y hji hj
theorem frm_nil{s:ByteArray}{l:List En}(h:∀ j e,j<l.length→l[j]? = some e→sl e.1 s=true):frm s l=[]:=
 frm_none fun e he=>by
  obtain⟨j,hj⟩:=List.mem_iff_getElem?.1 he;exact h j e (List.getElem?_eq_some_iff.1 hj).1 hj
set_option maxRecDepth 100000 in
set_option maxHeartbeats 2000000 in
theorem next_law{w:World}(hL:S.Lds w){pa:Option Addr}{na ca:Nat}(A:Strs w pa na)(s:ByteArray) :
  Calls Tryz.prog 4 #[.slice pa na ca,.string s] w fun e w'=>e=.returned (.bool true)∧Kept w w':=by
 have f1:=begun_walk (ca:=ca) hL A;have f4:Hid (∀ W,Kept w W→Calls Tryz.prog 11 #[] W fun e w'=>e=.returned (.bool true)∧Kept W w'):=fun W k=>awake_walk (lds_kept hL k)
 have HLn:Hid ((begl A.s (min na 100)).length≤100):=by have:=begl_len A.s (min na 100);show _≤100;omega
 generalize begl A.s (min na 100)=l at f1 HLn;have f2:Hid (∀ W t p kp n kc,Gs w W t p kp n kc l l→Calls Tryz.prog 12 #[.pointer (some ⟨t,0,none⟩),.string s] W fun e w'=>((∃ x r,frm s l=x :: r∧e=.returned (.tuple #[.agg #[.string x.1,.string x.2.d,.int .i64 x.2.p,.int .i64 x.2.l],.bool true,.int .i64 0]))∨(frm s l=[]∧e=.returned (.tuple #[.agg #[.string ⟨#[]⟩,.string ⟨#[]⟩,.int .i64 0,.int .i64 0],.bool false,.int .i64 0])))∧Kept W w'):=fun W t p kp n kc h=>by
  obtain⟨Z,HS⟩:=h.seek;exact next_walk HS
 clear hL A;have f2':Hid (∀ W t p kp n kc,Gs w W t p kp n kc l l→Calls Tryz.prog 12 #[.pointer (some ⟨t,0,none⟩),.string s] W fun e w'=>∃ (k d:ByteArray) (a b:Int) (is:Bool),e=.returned (.tuple #[.agg #[.string k,.string d,.int .i64 a,.int .i64 b],.bool is,.int .i64 0])∧Hid (∀ i,(∀ j e,j<i→l[j]? = some e→sl e.1 s=true)→(∀ x,l[i]? = some x→sl x.1 s=false→is=true∧x.1=k)∧(i=l.length→is=false))∧Kept W w'):=fun W t p kp n kc h=>by
  refine (f2.out W t p kp n kc h).mono ?_;rintro e w' ⟨⟨x,r,hf,rfl⟩|⟨hf,rfl⟩,k⟩
  ·refine⟨_,_,_,_,_,rfl,fun i hi=>⟨fun y hy hys=>?_,fun e=>?_⟩,k⟩
   ·obtain⟨r',hr⟩:=frm_first hi hy hys
    rw[hf]at hr;injection hr with h1 _
    exact⟨rfl,by rw[h1]⟩
   ·subst e
    rw[frm_nil hi]at hf;cases hf
  ·refine⟨_,_,_,_,_,rfl,fun i hi=>⟨fun y hy hys=>?_,fun _=>rfl⟩,k⟩
   obtain⟨r',hr⟩:=frm_first hi hy hys;rw[hf]at hr;cases hr
 clear f2;go_enter Tryz.func4,Tryz.ntmps4;go_wp2_with (first
  | (go_at_call 8;(with_reducible refine f1.mono ?_);rintro e w1 ⟨t,p,kp,n,kc,rfl,G1⟩;have g2:=f2'.out _ t p kp n kc G1;have HG1:Hid (Gs w w1 t p kp n kc l l):=G1;clear f1 G1)
  | (go_at_call 12;(with_reducible refine g2.mono ?_);rintro e w2 ⟨k,d,a,b,is,rfl,HN,k2⟩;clear g2 f2'))
 have PX:=C4.alloc w2 37 (.string k) (.string d) (.int .i64 a) (.int .i64 b);have k3:Kept w2 ((w2.alloc (.cells #[.string k,.string d,.int .i64 a,.int .i64 b] 37)).alloc (.cells #[] 39)):=((Kept.refl w2).alloc _).alloc _;have PX3:=PX.kept ((Kept.refl _).alloc (.cells #[] 39));have KW3:Kept w ((w2.alloc (.cells #[.string k,.string d,.int .i64 a,.int .i64 b] 37)).alloc (.cells #[] 39)):=(HG1.out.low.trans k2).trans k3;have PL:=pl_kept (Pl.of HG1.out.rw_) (k2.trans k3);have hn:n≤100:=by have:=HG1.out.len;have:=HLn.out;omega
 have HLen:Hid (l.length=n):=HG1.out.len;have hkc:n≤kc:=HG1.out.rw_.le;obtain⟨_,lb,lo,lat,lcs⟩:=PL;obtain⟨y0,_,_,_⟩:=PX3.cs;generalize ((w2.alloc (.cells #[.string k,.string d,.int .i64 a,.int .i64 b] 37)).alloc (.cells #[] 39))=w3 at *;have AT:Hid (0<n→kp=some ⟨lb,lo,none⟩):=lat;have CS:Hid (∀ i e,l[i]? = some e→w3.cell? ⟨lb,lo+i*2,none⟩=some (.string e.1)∧w3.cell? ⟨lb,lo+i*2+1,none⟩=some (.string e.2.d)):=lcs;have HK3:Hid (Kept w w3):=KW3;clear lat lcs KW3 PX PX3 k3 k2 HG1 HLn;go_loopg [11,12] n (fun gg wv iv wx=>∃ (i m cap:Nat) (q:Addr),wv=.slice (some q) m cap∧iv=.int .i64 (i:Nat)∧Hid (gg=n-i)∧i≤n∧m≤1∧wx=w3∧Hid ((m=0∧∀ j e,j<i→l[j]? = some e→sl e.1 s=true)∨(m=1∧∃ j x,l[j]? = some x∧sl x.1 s=false∧q=⟨lb,lo+j*2,none⟩∧∀ j' e,j'<j→l[j']? = some e→sl e.1 s=true)));case atStart=>exact⟨0,0,0,_,rfl,rfl,rfl,Nat.zero_le _,Nat.zero_le _,rfl,.inl ⟨rfl,fun j e h=>absurd h (Nat.not_lt_zero _)⟩⟩
 case round=>
  obtain⟨i,m,cap,q,rfl,rfl,hg,hin,hm1,rfl,HF⟩:=hrel;by_cases h1:(i:Int)<(n:Int)
  ·rcases Nat.eq_zero_or_pos m with rfl | hm
   ·obtain⟨x,hx⟩:∃ x,l[i]? = some x:=⟨_,List.getElem?_eq_getElem (by rw[HLen.out];omega)⟩
    obtain rfl:=AT.out (by omega);have c0:=(CS.out i x hx).1;have HB:Hid (∀ j e,j<i→l[j]? = some e→sl e.1 s=true):=by
     rcases HF.out with⟨_,h⟩|⟨h,_⟩
     ·exact h
     ·omega
    have HX:Hid (l[i]? = some x):=hx;have hk1:i+1≤kc:=by omega
    have hk2:(i:Int)+1≤(kc:Int):=by omega
    have hk3:¬ kc=i:=by omega
    clear HF hx;by_cases hs:Op.bytesLess x.1.toList s.toList=true
    ·go_wp2
     go_roundg (n-(i+1));case measure=>rw[hg.out];omega
     case rel=>
      refine⟨i+1,0,cap,q,rfl,by go_num,rfl,by omega,by omega,rfl,.inl ⟨rfl,fun j e hj he=>?_⟩⟩;by_cases hji:j=i
      ·subst hji;rw[HX.out]at he;cases he;exact hs
      ·exact HB.out j e (by omega) he
    ·have hs':Op.bytesLess x.1.toList s.toList=false:=by simpa using hs
     clear hs;have HS':Hid (sl x.1 s=false):=hs';go_wp2;go_roundg (n-(i+1));case measure=>rw[hg.out];omega
     case rel=>exact⟨i+1,1,_,⟨lb,lo+i*2,none⟩,rfl,by go_num,rfl,by omega,by omega,rfl,.inr ⟨rfl,i,x,HX.out,HS'.out,rfl,HB.out⟩⟩
   ·obtain rfl:m=1:=by omega
    have HF2:Hid (∃ j x,l[j]? = some x∧sl x.1 s=false∧q=⟨lb,lo+j*2,none⟩∧∀ j' e,j'<j→l[j']? = some e→sl e.1 s=true):=by
     rcases HF.out with⟨h,_⟩|⟨_,h⟩
     ·omega
     ·exact h
    clear HF;obtain⟨j,x,hx,hxs,rfl,hbef⟩:=HF2.out;obtain⟨his,hk⟩:=(HN.out j hbef).1 x hx hxs;have d0:=(CS.out j x hx).1;rw[hk]at d0;subst his;have KD:Kept wr wr.drew:=(Kept.refl wr).drew;have HSA:Hid (∀ W,Kept wr W→W.cell? ⟨lb,lo+j*2,none⟩=some (.string k)∧W.cell? ⟨w2.heap.size,0,none⟩=some (.string k)):=fun W hW=>⟨hW.cell d0,hW.cell y0⟩
    have g4:=f4.out wr.drew (HK3.out.trans KD);clear HF2 hx hxs hbef hk HN f4 CS d0 y0 AT;go_upto_region 9 with fail
    go_region_held3 (fun W=>W.cell? ⟨lb,lo+j*2,none⟩=some (.string k)∧W.cell? ⟨w2.heap.size,0,none⟩=some (.string k)) (exact HSA.out _ (by assumption)) (first
     | (go_at_call 11;(with_reducible refine g4.mono ?_);rintro e v1 ⟨rfl,k4⟩;have J1:=KD.trans k4;clear k4 KD g4))
    all_goals (go_wp2_with fail)
    go_ret;exact⟨rfl,HK3.out.trans J1⟩
  ·obtain rfl:i=n:=by omega
   rcases Nat.eq_zero_or_pos m with rfl | hm
   ·have HB:Hid (∀ j e,j<i→l[j]? = some e→sl e.1 s=true):=by
     rcases HF.out with⟨_,h⟩|⟨h,_⟩
     ·exact h
     ·omega
    have his:is=false:=(HN.out i HB.out).2 HLen.out.symm;subst his;have KD:Kept wr wr.drew:=(Kept.refl wr).drew;have g4:=f4.out wr.drew (HK3.out.trans KD);clear HF HB HN f4 CS y0 AT;go_upto_region 9 with fail
    refine wp_region_held_drew (S:=(fun W=>0≤W.heap.size)) (by kernel_rfl) ?_ (fun hHeld=>?_)
    ·exact Nat.zero_le _
    refine wpAnyH_ready (rs:=[0]) (by kernel_rfl) (by simp) ?_;refine AllReadyH.cons (o:={ dst:=some 50,op:=.call { callee:=.value (.func 11),args:=#[],argTypes:=#[] },type:=4,pos:= "law.go:65",after:=#[],guard:=none }) rfl (fun KK hKK=>?_) ?_
    ·
     go_simp;go_at_call 11;(with_reducible refine g4.mono ?_);rintro e v1 ⟨rfl,k4⟩;have J1:=KD.trans k4;go_wp2_with fail;refine hKK.out _ _ ?_ (fun hHeld=>?_)
     ·(try dsimp only)
      exact Nat.zero_le _
     clear hKK KK;try simp only[Act.put,sbt1,sbt2,sbt3]
     refine wpAnyH_take (i:=1) (oi:={ dst:=some 51,op:=.move (.tmp 50),type:=4,pos:= "law.go:65",after:=#[⟨0,.data⟩,⟨0,.chain⟩],guard:=none }) (v:=?_) rfl (by kernel_rfl) (by kernel_rfl) (by kernel_rfl) (fun _ _ _ h=>h) (Or.inl ⟨by rfl,?_⟩) (by assumption) ?_;rotate_left
     ·intro w hSw
      (try dsimp only at hSw);go_simp;all_goals with_reducible rfl
     try simp only[Act.put,sbt1,sbt2,sbt3]
     refine wpAnyH_take (i:=2) (oi:={ dst:=some 52,op:=.move (.tmp 7),type:=4,pos:= "law.go:65",after:=#[⟨1,.guard⟩],guard:=some (1,true) }) (v:=?_) rfl (by kernel_rfl) (by kernel_rfl) (by kernel_rfl) (fun _ _ _ h=>h) (Or.inl ⟨by rfl,?_⟩) (by assumption) ?_;rotate_left
     ·intro w hSw
      (try dsimp only at hSw);go_simp;all_goals with_reducible rfl
     try simp only[Act.put,sbt1,sbt2,sbt3]
     refine wpAnyH_take (i:=3) (oi:={ dst:=some 53,op:=.pick (.tmp 51) (.tmp 52) (.const (Go.Value.bool false)),type:=4,pos:= "law.go:65",after:=#[⟨1,.data⟩,⟨2,.data⟩],guard:=none }) (v:=?_) rfl (by kernel_rfl) (by kernel_rfl) (by kernel_rfl) (fun _ _ _ h=>h) (Or.inl ⟨by rfl,?_⟩) (by assumption) ?_;rotate_left
     ·intro w hSw
      (try dsimp only at hSw);go_simp;all_goals with_reducible rfl
     try simp only[Act.put,sbt1,sbt2,sbt3]
     refine wpAnyH_take (i:=4) (oi:={ dst:=some 54,op:=.move (.tmp 53),type:=4,pos:= "law.go:65",after:=#[⟨3,.data⟩,⟨1,.chain⟩],guard:=none }) (v:=?_) rfl (by kernel_rfl) (by kernel_rfl) (by kernel_rfl) (fun _ _ _ h=>h) (Or.inl ⟨by rfl,?_⟩) (by assumption) ?_;rotate_left
     ·intro w hSw
      (try dsimp only at hSw);go_simp;all_goals with_reducible rfl
     try simp only[Act.put,sbt1,sbt2,sbt3]
     refine wpAnyH_take (i:=5) (oi:={ dst:=some 55,op:=.move (.tmp 10),type:=29,pos:= "law.go:65",after:=#[⟨4,.guard⟩],guard:=some (4,true) }) (v:=?_) rfl (by kernel_rfl) (by kernel_rfl) (by kernel_rfl) (fun _ _ _ h=>h) (Or.inl ⟨by rfl,?_⟩) (by assumption) ?_;rotate_left
     ·intro w hSw
      (try dsimp only at hSw);go_simp;all_goals with_reducible rfl
     try simp only[Act.put,sbt1,sbt2,sbt3]
     refine wpAnyH_take (i:=6) (oi:={ dst:=some 56,op:=.binOp .eql 29 (.tmp 55) (.const (Go.Value.int .i64 0)) 29,type:=4,pos:= "law.go:65",after:=#[⟨5,.data⟩,⟨4,.guard⟩],guard:=some (4,true) }) (v:=?_) rfl (by kernel_rfl) (by kernel_rfl) (by kernel_rfl) (fun _ _ _ h=>h) (Or.inl ⟨by rfl,?_⟩) (by assumption) ?_;rotate_left
     ·intro w hSw
      (try dsimp only at hSw);go_simp;all_goals with_reducible rfl
     try simp only[Act.put,sbt1,sbt2,sbt3]
     refine wpAnyH_take (i:=7) (oi:={ dst:=some 57,op:=.pick (.tmp 54) (.tmp 56) (.const (Go.Value.bool false)),type:=4,pos:= "law.go:65",after:=#[⟨4,.data⟩,⟨6,.data⟩],guard:=none }) (v:=?_) rfl (by kernel_rfl) (by kernel_rfl) (by kernel_rfl) (fun _ _ _ h=>h) (Or.inl ⟨by rfl,?_⟩) (by assumption) ?_;rotate_left
     ·intro w hSw
      (try dsimp only at hSw);go_simp;all_goals with_reducible rfl
     try simp only[Act.put,sbt1,sbt2,sbt3]
     refine wpAnyH_take (i:=8) (oi:={ dst:=some 58,op:=.move (.tmp 57),type:=4,pos:= "law.go:65",after:=#[⟨7,.data⟩,⟨4,.chain⟩],guard:=none }) (v:=?_) rfl (by kernel_rfl) (by kernel_rfl) (by kernel_rfl) (fun _ _ _ h=>h) (Or.inl ⟨by rfl,?_⟩) (by assumption) ?_;rotate_left
     ·intro w hSw
      (try dsimp only at hSw);go_simp;all_goals with_reducible rfl
     try simp only[Act.put,sbt1,sbt2,sbt3]
     refine wpAnyH_take (i:=9) (oi:={ dst:=some 59,op:=.move (.tmp 9),type:=4,pos:= "law.go:65",after:=#[⟨8,.guard⟩],guard:=some (8,true) }) (v:=?_) rfl (by kernel_rfl) (by kernel_rfl) (by kernel_rfl) (fun _ _ _ h=>h) (Or.inl ⟨by rfl,?_⟩) (by assumption) ?_;rotate_left
     ·intro w hSw
      (try dsimp only at hSw);go_simp;all_goals with_reducible rfl
     try simp only[Act.put,sbt1,sbt2,sbt3]
     refine wpAnyH_take (i:=10) (oi:={ dst:=some 60,op:=.move (.tmp 11),type:=25,pos:= "law.go:65",after:=#[⟨8,.guard⟩],guard:=some (8,true) }) (v:=?_) rfl (by kernel_rfl) (by kernel_rfl) (by kernel_rfl) (fun _ _ _ h=>h) (Or.inl ⟨by rfl,?_⟩) (by assumption) ?_;rotate_left
     ·intro w hSw
      (try dsimp only at hSw);go_simp;all_goals with_reducible rfl
     try simp only[Act.put,sbt1,sbt2,sbt3]
     refine wpAnyH_take (i:=11) (oi:={ dst:=some 61,op:=.call { callee:=.builtin Go.Builtin.len,args:=#[.tmp 60],argTypes:=#[25] },type:=3,pos:= "law.go:65",after:=#[⟨10,.data⟩,⟨8,.guard⟩],guard:=some (8,true) }) (v:=?_) rfl (by kernel_rfl) (by kernel_rfl) (by kernel_rfl) (fun _ _ _ h=>h) (Or.inl ⟨by rfl,?_⟩) (by assumption) ?_;rotate_left
     ·intro w hSw
      (try dsimp only at hSw);go_simp;all_goals with_reducible rfl
     try simp only[Act.put,sbt1,sbt2,sbt3]
     refine wpAnyH_take (i:=12) (oi:={ dst:=some 62,op:=.binOp .gtr 3 (.tmp 61) (.const (Go.Value.int .i64 0)) 3,type:=4,pos:= "law.go:65",after:=#[⟨11,.data⟩,⟨8,.guard⟩],guard:=some (8,true) }) (v:=?_) rfl (by kernel_rfl) (by kernel_rfl) (by kernel_rfl) (fun _ _ _ h=>h) (Or.inl ⟨by rfl,?_⟩) (by assumption) ?_;rotate_left
     ·intro w hSw
      (try dsimp only at hSw);go_simp;all_goals with_reducible rfl
     try simp only[Act.put,sbt1,sbt2,sbt3]
     refine wpAnyH_take (i:=13) (oi:={ dst:=some 63,op:=.binOp .eql 4 (.tmp 59) (.tmp 62) 4,type:=4,pos:= "law.go:65",after:=#[⟨9,.data⟩,⟨12,.data⟩,⟨8,.guard⟩],guard:=some (8,true) }) (v:=?_) rfl (by kernel_rfl) (by kernel_rfl) (by kernel_rfl) (fun _ _ _ h=>h) (Or.inl ⟨by rfl,?_⟩) (by assumption) ?_;rotate_left
     ·intro w hSw
      (try dsimp only at hSw);go_simp;all_goals with_reducible rfl
     try simp only[Act.put,sbt1,sbt2,sbt3]
     refine wpAnyH_take (i:=14) (oi:={ dst:=some 64,op:=.pick (.tmp 58) (.tmp 63) (.const (Go.Value.bool false)),type:=4,pos:= "law.go:65",after:=#[⟨8,.data⟩,⟨13,.data⟩],guard:=none }) (v:=?_) rfl (by kernel_rfl) (by kernel_rfl) (by kernel_rfl) (fun _ _ _ h=>h) (Or.inl ⟨by rfl,?_⟩) (by assumption) ?_;rotate_left
     ·intro w hSw
      (try dsimp only at hSw);go_simp;all_goals with_reducible rfl
     try simp only[Act.put,sbt1,sbt2,sbt3]
     refine wpAnyH_take (i:=15) (oi:={ dst:=some 65,op:=.move (.tmp 64),type:=4,pos:= "law.go:65",after:=#[⟨14,.data⟩,⟨8,.chain⟩],guard:=none }) (v:=?_) rfl (by kernel_rfl) (by kernel_rfl) (by kernel_rfl) (fun _ _ _ h=>h) (Or.inl ⟨by rfl,?_⟩) (by assumption) ?_;rotate_left
     ·intro w hSw
      (try dsimp only at hSw);go_simp;all_goals with_reducible rfl
     try simp only[Act.put,sbt1,sbt2,sbt3]
     refine wpAnyH_take (i:=16) (oi:={ dst:=some 66,op:=.move (.tmp 9),type:=4,pos:= "law.go:65",after:=#[⟨15,.guard⟩],guard:=some (15,true) }) (v:=?_) rfl (by kernel_rfl) (by kernel_rfl) (by kernel_rfl) (fun _ _ _ h=>h) (Or.inl ⟨by rfl,?_⟩) (by assumption) ?_;rotate_left
     ·intro w hSw
      (try dsimp only at hSw);go_simp;all_goals with_reducible rfl
     try simp only[Act.put,sbt1,sbt2,sbt3]
     refine wpAnyH_take (i:=17) (oi:={ dst:=some 67,op:=.unOp .not 4 (.tmp 66),type:=4,pos:= "law.go:65",after:=#[⟨16,.data⟩,⟨15,.guard⟩],guard:=some (15,true) }) (v:=?_) rfl (by kernel_rfl) (by kernel_rfl) (by kernel_rfl) (fun _ _ _ h=>h) (Or.inl ⟨by rfl,?_⟩) (by assumption) ?_;rotate_left
     ·intro w hSw
      (try dsimp only at hSw);go_simp;all_goals with_reducible rfl
     try simp only[Act.put,sbt1,sbt2,sbt3]
     refine wpAnyH_take (i:=18) (oi:={ dst:=some 68,op:=.move (.tmp 67),type:=4,pos:= "law.go:65",after:=#[⟨17,.data⟩,⟨15,.chain⟩,⟨15,.guard⟩],guard:=some (15,true) }) (v:=?_) rfl (by kernel_rfl) (by kernel_rfl) (by kernel_rfl) (fun _ _ _ h=>h) (Or.inl ⟨by rfl,?_⟩) (by assumption) ?_;rotate_left
     ·intro w hSw
      (try dsimp only at hSw);go_simp;all_goals with_reducible rfl
     try simp only[Act.put,sbt1,sbt2,sbt3]
     refine wpAnyH_take (i:=19) (oi:={ dst:=some 69,op:=.fieldAddr 37 (.tmp 8) 0,type:=0,pos:= "law.go:65",after:=#[⟨18,.guard⟩],guard:=some (18,false) }) (v:=undef) rfl (by kernel_rfl) (by kernel_rfl) (by kernel_rfl) (fun _ _ _ h=>h) (Or.inr ⟨by rfl,by rfl⟩) (by assumption) ?_;try simp only[Act.put,sbt1,sbt2,sbt3]
     refine wpAnyH_take (i:=20) (oi:={ dst:=some 70,op:=.load 9 (.tmp 69),type:=9,pos:= "law.go:65",after:=#[⟨19,.data⟩,⟨18,.guard⟩],guard:=some (18,false) }) (v:=undef) rfl (by kernel_rfl) (by kernel_rfl) (by kernel_rfl) (fun _ _ _ h=>h) (Or.inr ⟨by rfl,by rfl⟩) (by assumption) ?_;try simp only[Act.put,sbt1,sbt2,sbt3]
     refine wpAnyH_take (i:=21) (oi:={ dst:=some 71,op:=.move (.tmp 11),type:=25,pos:= "law.go:65",after:=#[⟨18,.guard⟩],guard:=some (18,false) }) (v:=undef) rfl (by kernel_rfl) (by kernel_rfl) (by kernel_rfl) (fun _ _ _ h=>h) (Or.inr ⟨by rfl,by rfl⟩) (by assumption) ?_;try simp only[Act.put,sbt1,sbt2,sbt3]
     refine wpAnyH_take (i:=22) (oi:={ dst:=some 72,op:=.indexAddr 25 (.tmp 71) (.const (Go.Value.int .i64 0)),type:=0,pos:= "law.go:65",after:=#[⟨21,.data⟩,⟨18,.guard⟩],guard:=some (18,false) }) (v:=undef) rfl (by kernel_rfl) (by kernel_rfl) (by kernel_rfl) (fun _ _ _ h=>h) (Or.inr ⟨by rfl,by rfl⟩) (by assumption) ?_;try simp only[Act.put,sbt1,sbt2,sbt3]
     refine wpAnyH_take (i:=23) (oi:={ dst:=some 73,op:=.fieldAddr 39 (.tmp 72) 0,type:=0,pos:= "law.go:65",after:=#[⟨22,.data⟩,⟨18,.guard⟩],guard:=some (18,false) }) (v:=undef) rfl (by kernel_rfl) (by kernel_rfl) (by kernel_rfl) (fun _ _ _ h=>h) (Or.inr ⟨by rfl,by rfl⟩) (by assumption) ?_;try simp only[Act.put,sbt1,sbt2,sbt3]
     refine wpAnyH_take (i:=24) (oi:={ dst:=some 74,op:=.load 9 (.tmp 73),type:=9,pos:= "law.go:65",after:=#[⟨23,.data⟩,⟨18,.guard⟩],guard:=some (18,false) }) (v:=undef) rfl (by kernel_rfl) (by kernel_rfl) (by kernel_rfl) (fun _ _ _ h=>h) (Or.inr ⟨by rfl,by rfl⟩) (by assumption) ?_;try simp only[Act.put,sbt1,sbt2,sbt3]
     refine wpAnyH_take (i:=25) (oi:={ dst:=some 75,op:=.binOp .eql 9 (.tmp 70) (.tmp 74) 9,type:=4,pos:= "law.go:65",after:=#[⟨20,.data⟩,⟨24,.data⟩,⟨18,.guard⟩],guard:=some (18,false) }) (v:=undef) rfl (by kernel_rfl) (by kernel_rfl) (by kernel_rfl) (fun _ _ _ h=>h) (Or.inr ⟨by rfl,by rfl⟩) (by assumption) ?_;try simp only[Act.put,sbt1,sbt2,sbt3]
     refine wpAnyH_take (i:=26) (oi:={ dst:=some 76,op:=.pick (.tmp 68) (.const (Go.Value.bool true)) (.tmp 75),type:=4,pos:= "law.go:65",after:=#[⟨18,.data⟩,⟨25,.data⟩,⟨15,.guard⟩],guard:=some (15,true) }) (v:=?_) rfl (by kernel_rfl) (by kernel_rfl) (by kernel_rfl) (fun _ _ _ h=>h) (Or.inl ⟨by rfl,?_⟩) (by assumption) ?_;rotate_left
     ·intro w hSw
      (try dsimp only at hSw);go_simp;all_goals with_reducible rfl
     try simp only[Act.put,sbt1,sbt2,sbt3]
     refine wpAnyH_take (i:=27) (oi:={ dst:=some 77,op:=.pick (.tmp 65) (.tmp 76) (.const (Go.Value.bool false)),type:=4,pos:= "law.go:65",after:=#[⟨15,.data⟩,⟨26,.data⟩],guard:=none }) (v:=?_) rfl (by kernel_rfl) (by kernel_rfl) (by kernel_rfl) (fun _ _ _ h=>h) (Or.inl ⟨by rfl,?_⟩) (by assumption) ?_;rotate_left
     ·intro w hSw
      (try dsimp only at hSw);go_simp;all_goals with_reducible rfl
     try simp only[Act.put,sbt1,sbt2,sbt3]
     refine wpAnyH_take (i:=28) (oi:={ dst:=some 4,op:=.assign (.tmp 77),type:=4,pos:= "law.go:65",after:=#[⟨27,.data⟩,⟨18,.chain⟩,⟨0,.phase⟩,⟨1,.phase⟩,⟨2,.phase⟩,⟨3,.phase⟩,⟨4,.phase⟩,⟨5,.phase⟩,⟨6,.phase⟩,⟨7,.phase⟩,⟨8,.phase⟩,⟨9,.phase⟩,⟨10,.phase⟩,⟨11,.phase⟩,⟨12,.phase⟩,⟨13,.phase⟩,⟨14,.phase⟩,⟨15,.phase⟩,⟨16,.phase⟩,⟨17,.phase⟩,⟨18,.phase⟩,⟨19,.phase⟩,⟨20,.phase⟩,⟨21,.phase⟩,⟨22,.phase⟩,⟨23,.phase⟩,⟨24,.phase⟩,⟨25,.phase⟩,⟨26,.phase⟩,⟨27,.phase⟩],guard:=none }) (v:=?_) rfl (by kernel_rfl) (by kernel_rfl) (by kernel_rfl) (fun _ _ _ h=>h) (Or.inl ⟨by rfl,?_⟩) (by assumption) ?_;rotate_left
     ·intro w hSw
      (try dsimp only at hSw);go_simp;all_goals with_reducible rfl
     try simp only[Act.put,sbt1,sbt2,sbt3]
     refine wpAnyH_done (by kernel_rfl) ?_ _;go_wp2;go_ret;exact⟨rfl,HK3.out.trans J1⟩
    exact AllReadyH.nil
   ·obtain rfl:m=1:=by omega
    have HF2:Hid (∃ j x,l[j]? = some x∧sl x.1 s=false∧q=⟨lb,lo+j*2,none⟩∧∀ j' e,j'<j→l[j']? = some e→sl e.1 s=true):=by
     rcases HF.out with⟨h,_⟩|⟨_,h⟩
     ·omega
     ·exact h
    clear HF;obtain⟨j,x,hx,hxs,rfl,hbef⟩:=HF2.out;obtain⟨his,hk⟩:=(HN.out j hbef).1 x hx hxs;have d0:=(CS.out j x hx).1;rw[hk]at d0;subst his;have KD:Kept wr wr.drew:=(Kept.refl wr).drew;have HSA:Hid (∀ W,Kept wr W→W.cell? ⟨lb,lo+j*2,none⟩=some (.string k)∧W.cell? ⟨w2.heap.size,0,none⟩=some (.string k)):=fun W hW=>⟨hW.cell d0,hW.cell y0⟩
    have g4:=f4.out wr.drew (HK3.out.trans KD);clear HF2 hx hxs hbef hk HN f4 CS d0 y0 AT;go_upto_region 9 with fail
    go_region_held3 (fun W=>W.cell? ⟨lb,lo+j*2,none⟩=some (.string k)∧W.cell? ⟨w2.heap.size,0,none⟩=some (.string k)) (exact HSA.out _ (by assumption)) (first
     | (go_at_call 11;(with_reducible refine g4.mono ?_);rintro e v1 ⟨rfl,k4⟩;have J1:=KD.trans k4;clear k4 KD g4))
    all_goals (go_wp2_with fail)
    go_ret;exact⟨rfl,HK3.out.trans J1⟩
end Go.Proofs.YtafgecaeiodmiaaGreatDoor.T