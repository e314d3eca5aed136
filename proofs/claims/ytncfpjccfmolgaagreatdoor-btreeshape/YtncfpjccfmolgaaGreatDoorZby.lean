/- Joined: VH. What is proved of the functions beneath BtreeEnds,BtreeFull,BtreeShape,BtreePlays. Conditions: those that each row names. -/
import Derived.Test.YtncfpjccfmolgaaGreatDoorZbv
import Derived.Test.YtncfpjccfmolgaaGreatDoorZbx
import Derived.Deep.RegionHeld3
import Derived.Deep.DrawnRows
namespace Go.Proofs.YtncfpjccfmolgaaGreatDoor.T
open Go.ChangeShapes Go.WideShapes Go.ChangeAt Go.RowKit
open B (Pm En upd Tree Tr pg tr_deep pgs_of su us su_congr su_zero su_count)
open N (Kept Own blk)
theorem tree_all {B:Nat} {W:World} {p m d n:Nat} {M:Pm} (hV:Pv B W p m M) (h:Tr M d n):(pg M d n).length+lft m M+2=m:=by
 have h1:=lft_pages (M:=M) (fun k x hx=>(hV.rng k x hx).1) m hV.two
 have h2:pgs_of M m=(pg M d n).length:=by
  unfold pgs_of
  rw[su_congr (g:=fun q=>(pg M d n).count q) (fun q _=>(h.cnt q).symm)]
  refine (su_count (pg M d n) m).2 fun q hq=>?_
  have hc:0<(pg M d n).count q:=List.count_pos_iff.2 hq
  rw[h.cnt q]at hc
  cases hM:M q with
  | none=>unfold us at hc;rw[hM]at hc;simp at hc
  | some x=>exact (hV.rng q x hM).2.1
 omega
structure Sh (w W:World) (t p q:Nat):Prop where
 vw:∃ r M l,Vw w.heap.size W t p 500 r M l∧l.length≤q
 low:Below w.heap.size w W
theorem Sh.kept {w W W':World} {t p q:Nat} (h:Sh w W t p q) (k:Kept W W'):Sh w W' t p q:=by
 obtain⟨r,M,l,V,hl⟩:=h.vw
 exact⟨⟨r,M,l,V.kept k,hl⟩,h.low.trans (k.out.mono V.bw)⟩
theorem Sh.put {w W:World} {t p q:Nat} (h:Sh w W t p q) (hq:q<120) (k d:ByteArray) (hk:k.size≤64) (hd:d.size≤48) :
  Calls Tryz.prog 15 #[.pointer (some ⟨t,0,none⟩),.string k,.agg #[.string d,.int .i64 (-1),.int .i64 0]] W fun e w'=>∃ x a b c,e=.returned (.tuple #[.agg #[.string x,.int .i64 a,.int .i64 b],.bool c,.int .i64 0])∧Sh w w' t p (q+1):=by
 obtain⟨r,M,l,V,hl⟩:=h.vw
 refine (V.put k d hk hd (by split <;> omega)).mono ?_
 rintro e w' ⟨rfl,⟨M',r',V'⟩,x⟩
 have:=upd_length k [(k,⟨d,-1,0⟩)] l
 simp only[List.length_cons,List.length_nil]at this
 exact⟨_,_,_,_,rfl,⟨r',M',_,V',by omega⟩,h.low.trans x.below⟩
theorem Sh.delete {w W:World} {t p q:Nat} (h:Sh w W t p q) (hq:q<120) (k:ByteArray) (hk:k.size≤64) :
  Calls Tryz.prog 11 #[.pointer (some ⟨t,0,none⟩),.string k] W fun e w'=>∃ x a b c,e=.returned (.tuple #[.agg #[.string x,.int .i64 a,.int .i64 b],.bool c,.int .i64 0])∧Sh w w' t p (q+1):=by
 obtain⟨r,M,l,V,hl⟩:=h.vw
 refine (V.delete k hk (by split <;> omega)).mono ?_
 rintro e w' ⟨rfl,⟨M',r',V'⟩,x⟩
 have:=upd_length k [] l
 simp only[List.length_nil]at this
 exact⟨_,_,_,_,rfl,⟨r',M',_,V',by omega⟩,h.low.trans x.below⟩
theorem Sh.look {w W:World} {t p q:Nat} (h:Sh w W t p q) :
  (TAt W t p (-1)∧Calls Tryz.prog 18 #[.pointer (some ⟨p,0,none⟩)] W fun e w'=>e=.returned (.int .i64 498)∧w'=W) ∨
  ∃ n d pl lf:Nat,TAt W t p (n:Nat)∧pl+lf=498∧(∀ W',Kept W W'→Calls Tryz.prog 18 #[.pointer (some ⟨p,0,none⟩)] W' fun e w'=>e=.returned (.int .i64 (lf:Nat))∧w'=W')∧Calls Tryz.prog 19 #[.pointer (some ⟨t,0,none⟩),.int .i64 (n:Nat),.int .i64 0] W fun e w'=>e=.returned (.tuple #[.int .i64 ((d+1:Nat):Int),.int .i64 (pl:Nat),.bool true])∧Kept W w':=by
 obtain⟨r,M,l,V,hl⟩:=h.vw
 have hf:=V.pv.few
 rcases V.tr with⟨rfl,_,hM⟩|⟨d,n,rfl,hT,_⟩
 ·refine .inl ⟨V.tat,?_⟩
  have h1:=left_pv V.pv
  have h2:=lft_pages (M:=M) (fun k x hx=>by rw[hM k]at hx;cases hx) 500 V.pv.two
  have h3:pgs_of M 500=0:=by
   unfold pgs_of
   rw[su_congr (g:=fun _=>0) (fun q _=>by unfold us;rw[hM q];rfl),su_zero]
  rw[show lft 500 M=498 by omega]at h1
  exact h1
 ·have h1:=tree_all V.pv hT
  refine .inr ⟨n,d,(pg M d n).length,lft 500 M,V.tat,by omega,fun W' k=>left_pv (V.pv.kept k),?_⟩
  have hd:=tr_deep hT (fun k x hx=>(V.pv.rng k x hx).2.1) hf
  exact shape_walk d n 0 W V.tat V.pv hT.wf hT.ord (by omega) (by omega)
set_option maxRecDepth 100000 in
set_option maxHeartbeats 8000000 in
theorem shape_law {w:World} (hL:S.Lds w) {pa:Option Addr} {n ca:Nat} (A:Acts w pa n):Calls Tryz.prog 4 #[.slice pa n ca] w fun e w'=>e=.returned (.bool true)∧Kept w w':=by
 have f1:Calls Tryz.prog 8 #[.int .i64 500] w _:=begun_vw hL 500 (by decide) (by decide)
 have f2:Hid (∀ W,Kept w W→Calls Tryz.prog 9 #[] W fun e w'=>e=.returned (.bool true)∧Kept W w'):=fun W k=>awake_walk (lds_kept hL k)
 have f3:Hid (∀ W p,Pv w.heap.size W p 500 (fun _=>none)→Calls Tryz.prog 18 #[.pointer (some ⟨p,0,none⟩)] W fun e w'=>e=.returned (.int .i64 498)∧w'=W):=fun W p V=>by
  have h1:=left_pv V
  rw[show lft 500 (fun _=>none)=498 by have:=lft_all V;omega]at h1
  exact h1
 clear hL
 obtain⟨b,o,what,ak,av,wide,hmax,hat,a0,a1,a2,a3⟩:=A
 have A0:Hid (∀ j,j<n→w.cell? ⟨b,o+j*4,none⟩=some (.int .i64 (what j))):=a0
 have A1:Hid (∀ j,j<n→w.cell? ⟨b,o+j*4+1,none⟩=some (.string (ak j))):=a1
 have A2:Hid (∀ j,j<n→w.cell? ⟨b,o+j*4+2,none⟩=some (.string (av j))):=a2
 have A3:Hid (∀ j,j<n→w.cell? ⟨b,o+j*4+3,none⟩=some (.int .i64 (wide j))):=a3
 have AT:Hid (0<n→pa=some ⟨b,o,none⟩):=hat
 clear a0 a1 a2 a3 hat
 go_enter Tryz.func4,Tryz.ntmps4
 go_wp2_with (first
  | (go_at_call 8;(with_reducible refine f1.mono ?_);rintro e w1 ⟨t,p,rfl,V1,k1⟩;have g2:=f2.out _ k1;clear f1)
  | (go_at_call 9;(with_reducible refine g2.mono ?_);rintro e w2 ⟨rfl,k2⟩;have V2:=V1.kept k2;have g3:=f3.out _ _ V2.pv;clear g2 f2)
  | (go_at_call 18;(with_reducible refine g3.mono ?_);rintro e w3 ⟨rfl,hw3⟩;rw[hw3];clear hw3 g3))
 have S2:Hid (Sh w w2 t p 0):=⟨⟨_,_,_,V2,Nat.le_refl _⟩,(k1.trans k2).out⟩
 clear V1 V2 k1 k2 f3
 go_loopg [7] n (fun gg iv wx=>∃ i:Nat,iv=.int .i64 (i:Nat)∧Hid (gg=n-i)∧i≤n∧i≤120∧Hid (Sh w wx t p i))
 case atStart=>exact⟨0,rfl,rfl,Nat.zero_le _,by decide,S2⟩
 case round=>
  obtain⟨i,rfl,hg,hin,hi6,F⟩:=hrel
  clear S2
  by_cases h3:(i:Int)<(n:Int)∧(i:Int)<120
  ·obtain⟨h1,h2⟩:=h3
   obtain rfl:=AT.out (by omega)
   have c0:=(F.out.low.cell (World.block_lt_of_cell? w _ (A0.out i (by omega)))).trans (A0.out i (by omega))
   have c1:=(F.out.low.cell (World.block_lt_of_cell? w _ (A1.out i (by omega)))).trans (A1.out i (by omega))
   have c2:=(F.out.low.cell (World.block_lt_of_cell? w _ (A2.out i (by omega)))).trans (A2.out i (by omega))
   have c3:=(F.out.low.cell (World.block_lt_of_cell? w _ (A3.out i (by omega)))).trans (A3.out i (by omega))
   have c0':=c0
   clear c0
   obtain⟨mn,hmn,hm1,hm2⟩:∃ mn:Nat,min ((av i).size:Int) 48=(mn:Int)∧(mn:Int)≤((av i).size:Int)∧mn≤48:=⟨min (av i).size 48,by omega,by omega,by omega⟩
   have hm0:(0:Int)≤(mn:Int):=by omega
   have e48:((av i).extract 0 mn).size≤48:=by rw[ByteArray.size_extract];omega
   go_upto_region 8 with fail
   go_cut [8,9] from 37 to 54 (fun kv vv wx=>∃ s d:ByteArray,kv=.string s∧vv=.string d∧s.size≤64∧d.size≤48∧Kept wr wx)
   case first=>
    have KD:Kept wr wr.drew:=(Kept.refl wr).drew
    have HSA:Hid (∀ W,Kept wr W→W.cell? ⟨b,o+i*4,none⟩=some (.int .i64 (what i))∧W.cell? ⟨b,o+i*4+1,none⟩=some (.string (ak i))∧W.cell? ⟨b,o+i*4+2,none⟩=some (.string (av i))∧W.cell? ⟨b,o+i*4+3,none⟩=some (.int .i64 (wide i))):=fun W hW=>⟨hW.cell c0',hW.cell c1,hW.cell c2,hW.cell c3⟩
    clear F c0' c1 c2 c3
    go_region_held3 (fun W=>W.cell? ⟨b,o+i*4,none⟩=some (.int .i64 (what i))∧W.cell? ⟨b,o+i*4+1,none⟩=some (.string (ak i))∧W.cell? ⟨b,o+i*4+2,none⟩=some (.string (av i))∧W.cell? ⟨b,o+i*4+3,none⟩=some (.int .i64 (wide i))) (exact HSA.out _ (by assumption)) (first
     | (go_at_call 10;(with_reducible refine (key_walk (what i) (wide i) (ak i) (av i)).mono ?_);rintro e v1 ⟨s,rfl,hs,k4⟩;have J1:=KD.trans k4;clear k4 KD))
    all_goals (go_wp2_with fail)
    all_goals go_meet
    all_goals exact⟨_,_,rfl,rfl,hs,e48,J1⟩
   case rest=>
    obtain⟨s,d,rfl,rfl,hs,hd,kc⟩:=hcut
    have G:Hid (Sh w wc t p i):=F.out.kept kc
    have c0:=kc.cell c0'
    clear F c0' kc
    by_cases hw:bits .and .i64 (what i) 3=3
    ·have P4:=G.out.delete (by omega) s hs
     clear G
     go_wp2_with fail
     refine P4.mono ?_
     rintro e w6 ⟨x,a,b',c',rfl,F6⟩
     clear P4
     rcases F6.look with⟨T6,L6⟩|⟨rn,dp,pl,lf,T6,hpl,L6,C6⟩
     ·have R6:=root_walk T6
      have F6:Hid (Sh w w6 t p (i+1)):=F6
      clear T6
      go_wp2_with (first
       | (go_at_call 17;(with_reducible refine R6.mono ?_);rintro e w8 ⟨rfl,hw8⟩;rw[hw8];clear hw8 R6)
       | (go_at_call 18;(with_reducible refine L6.mono ?_);rintro e w8 ⟨rfl,hw8⟩;rw[hw8];clear hw8 L6))
      go_roundg (n-(i+1))
      case measure=>rw[hg.out];omega
      case rel=>exact⟨i+1,by go_num,rfl,by omega,by omega,F6⟩
     ·have R6:=root_walk T6
      have F6:Hid (Sh w w6 t p (i+1)):=F6
      have L6:Hid (∀ W',Kept w6 W'→Calls Tryz.prog 18 #[.pointer (some ⟨p,0,none⟩)] W' fun e w'=>e=.returned (.int .i64 (lf:Nat))∧w'=W'):=L6
      have hrn:¬ ((rn:Int)<0):=by omega
      have hlf:IntKind.i64.wrap (498-(pl:Int))=(lf:Int):=by rw[IntKind.wrap_i64];omega
      clear T6
      go_wp2_with (first
       | (go_at_call 17;(with_reducible refine R6.mono ?_);rintro e w8 ⟨rfl,hw8⟩;rw[hw8];clear hw8)
       | (go_at_call 19;(with_reducible refine C6.mono ?_);rintro e w9 ⟨rfl,k9⟩;have F9:Hid (Sh w w9 t p (i+1)):=F6.out.kept k9;have L9:=L6.out _ k9;clear F6 L6 C6)
       | (go_at_call 18;(with_reducible refine L9.mono ?_);rintro e w8 ⟨rfl,hw8⟩;rw[hw8];clear hw8 L9))
      go_roundg (n-(i+1))
      case measure=>rw[hg.out];omega
      case rel=>exact⟨i+1,by go_num,rfl,by omega,by omega,F9⟩
    ·have P4:=G.out.put (by omega) s d hs hd
     clear G
     go_wp2_with fail
     refine P4.mono ?_
     rintro e w6 ⟨x,a,b',c',rfl,F6⟩
     clear P4
     rcases F6.look with⟨T6,L6⟩|⟨rn,dp,pl,lf,T6,hpl,L6,C6⟩
     ·have R6:=root_walk T6
      have F6:Hid (Sh w w6 t p (i+1)):=F6
      clear T6
      go_wp2_with (first
       | (go_at_call 17;(with_reducible refine R6.mono ?_);rintro e w8 ⟨rfl,hw8⟩;rw[hw8];clear hw8 R6)
       | (go_at_call 18;(with_reducible refine L6.mono ?_);rintro e w8 ⟨rfl,hw8⟩;rw[hw8];clear hw8 L6))
      go_roundg (n-(i+1))
      case measure=>rw[hg.out];omega
      case rel=>exact⟨i+1,by go_num,rfl,by omega,by omega,F6⟩
     ·have R6:=root_walk T6
      have F6:Hid (Sh w w6 t p (i+1)):=F6
      have L6:Hid (∀ W',Kept w6 W'→Calls Tryz.prog 18 #[.pointer (some ⟨p,0,none⟩)] W' fun e w'=>e=.returned (.int .i64 (lf:Nat))∧w'=W'):=L6
      have hrn:¬ ((rn:Int)<0):=by omega
      have hlf:IntKind.i64.wrap (498-(pl:Int))=(lf:Int):=by rw[IntKind.wrap_i64];omega
      clear T6
      go_wp2_with (first
       | (go_at_call 17;(with_reducible refine R6.mono ?_);rintro e w8 ⟨rfl,hw8⟩;rw[hw8];clear hw8)
       | (go_at_call 19;(with_reducible refine C6.mono ?_);rintro e w9 ⟨rfl,k9⟩;have F9:Hid (Sh w w9 t p (i+1)):=F6.out.kept k9;have L9:=L6.out _ k9;clear F6 L6 C6)
       | (go_at_call 18;(with_reducible refine L9.mono ?_);rintro e w8 ⟨rfl,hw8⟩;rw[hw8];clear hw8 L9))
      go_roundg (n-(i+1))
      case measure=>rw[hg.out];omega
      case rel=>exact⟨i+1,by go_num,rfl,by omega,by omega,F9⟩
  ·have LW:Hid (Below w.heap.size w wr):=F.out.low
   clear F
   by_cases h1:(i:Int)<(n:Int)
   ·have h2:¬ ((i:Int)<120):=fun h=>h3 ⟨h1,h⟩
    clear h3
    go_wp2
    go_ret
    exact⟨rfl,⟨LW.out⟩⟩
   ·clear h3
    go_wp2
    go_ret
    exact⟨rfl,⟨LW.out⟩⟩
end Go.Proofs.YtncfpjccfmolgaaGreatDoor.T