/- Joined: VJ. What is proved of the functions beneath BtreeEnds,BtreeFull,BtreeShape,BtreePlays. Conditions: those that each row names. -/
import Derived.Test.YtncfpjccfmolgaaGreatDoorZbz
import Derived.Deep.RegionHeld3
import Derived.Deep.DrawnRows
import Derived.Deep.QuietTactic
import Derived.BigQuiet
namespace Go.Proofs.YtncfpjccfmolgaaGreatDoor.T
open Go.ChangeShapes Go.WideShapes Go.ChangeAt Go.RowKit
open B (En upd)
open N (Kept Own blk C3 seq_iff)
set_option maxRecDepth 100000 in
set_option maxHeartbeats 16000000 in
theorem plays_law {w:World} (hL:S.Lds w) {pa:Option Addr} {n ca:Nat} (A:Acts w pa n):Calls Tryz.prog 3 #[.slice pa n ca] w fun e w'=>e=.returned (.bool true)∧Kept w w':=by
 have f1:Calls Tryz.prog 8 #[.int .i64 500] w _:=begun_vw hL 500 (by decide) (by decide)
 have f2:Hid (∀ W,Kept w W→Calls Tryz.prog 9 #[] W fun e w'=>e=.returned (.bool true)∧Kept W w'):=fun W k=>awake_walk (lds_kept hL k)
 clear hL
 obtain⟨b,o,what,ak,av,wide,hmax,hat,a0,a1,a2,a3⟩:=A
 have A0:Hid (∀ j,j<n→w.cell? ⟨b,o+j*4,none⟩=some (.int .i64 (what j))):=a0
 have A1:Hid (∀ j,j<n→w.cell? ⟨b,o+j*4+1,none⟩=some (.string (ak j))):=a1
 have A2:Hid (∀ j,j<n→w.cell? ⟨b,o+j*4+2,none⟩=some (.string (av j))):=a2
 have A3:Hid (∀ j,j<n→w.cell? ⟨b,o+j*4+3,none⟩=some (.int .i64 (wide j))):=a3
 have AT:Hid (0<n→pa=some ⟨b,o,none⟩):=hat
 clear a0 a1 a2 a3 hat
 go_enter Tryz.func3,Tryz.ntmps3
 go_wp2_with (first
  | (go_at_call 8;(with_reducible refine f1.mono ?_);rintro e w1 ⟨t,p,rfl,V1,k1⟩;have S1:Hid (Fs w (w1.alloc (.cells #[] 42)) t p 500 (some ⟨w1.heap.size,0,none⟩) 0 0 [] [] (-1)):=Fs.start k1 V1;have g2:=f2.out _ (k1.trans ((Kept.refl w1).alloc (.cells #[] 42)));clear f1 V1)
  | (go_at_call 9;(with_reducible refine g2.mono ?_);rintro e w2 ⟨rfl,k2⟩;have S2:Hid (Fs w w2 t p 500 (some ⟨w1.heap.size,0,none⟩) 0 0 [] [] (-1)):=S1.out.kept k2;clear g2 f2 S1 k1 k2))
 go_loopg [6,7] n (fun gg sv iv wx=>∃ (i lc lk:Nat) (lp:Option Addr) (l:List En) (r:Int),sv=.slice lp lc lk∧iv=.int .i64 (i:Nat)∧Hid (gg=n-i)∧i≤n∧i≤120∧lc≤i∧Hid (Fs w wx t p 500 lp lc lk l l r))
 case atStart=>exact⟨0,0,0,_,[],-1,rfl,rfl,rfl,Nat.zero_le _,by decide,Nat.le_refl _,S2⟩
 case round=>
  obtain⟨i,lc,lk,lp,l,r,rfl,rfl,hg,hin,hi6,hlc,F⟩:=hrel
  clear S2
  by_cases h3:(i:Int)<(n:Int)∧(i:Int)<120
  ·obtain⟨h1,h2⟩:=h3
   obtain rfl:=AT.out (by omega)
   have c0:=(F.out.low.cell (World.block_lt_of_cell? w _ (A0.out i (by omega)))).trans (A0.out i (by omega))
   have c1:=(F.out.low.cell (World.block_lt_of_cell? w _ (A1.out i (by omega)))).trans (A1.out i (by omega))
   have c2:=(F.out.low.cell (World.block_lt_of_cell? w _ (A2.out i (by omega)))).trans (A2.out i (by omega))
   have c3:=(F.out.low.cell (World.block_lt_of_cell? w _ (A3.out i (by omega)))).trans (A3.out i (by omega))
   have c0':=c0
   clear c0
   obtain⟨mn,hmn,hm1,hm2⟩:∃ mn:Nat,min ((av i).size:Int) 48=(mn:Int)∧(mn:Int)≤((av i).size:Int)∧mn≤48:=⟨min (av i).size 48,by omega,by omega,by omega⟩
   have hm0:(0:Int)≤(mn:Int):=by omega
   have e48:((av i).extract 0 mn).size≤48:=by rw[ByteArray.size_extract];omega
   go_upto_region 8 with fail
   go_cut [8,9] from 39 to 56 (fun kv vv wx=>∃ s d:ByteArray,kv=.string s∧vv=.string d∧s.size≤64∧d.size≤48∧Kept wr wx)
   case first=>
    have KD:Kept wr wr.drew:=(Kept.refl wr).drew
    have HSA:Hid (∀ W,Kept wr W→W.cell? ⟨b,o+i*4,none⟩=some (.int .i64 (what i))∧W.cell? ⟨b,o+i*4+1,none⟩=some (.string (ak i))∧W.cell? ⟨b,o+i*4+2,none⟩=some (.string (av i))∧W.cell? ⟨b,o+i*4+3,none⟩=some (.int .i64 (wide i))):=fun W hW=>⟨hW.cell c0',hW.cell c1,hW.cell c2,hW.cell c3⟩
    clear F c0' c1 c2 c3
    go_region_held3 (fun W=>W.cell? ⟨b,o+i*4,none⟩=some (.int .i64 (what i))∧W.cell? ⟨b,o+i*4+1,none⟩=some (.string (ak i))∧W.cell? ⟨b,o+i*4+2,none⟩=some (.string (av i))∧W.cell? ⟨b,o+i*4+3,none⟩=some (.int .i64 (wide i))) (exact HSA.out _ (by assumption)) (first
     | (go_at_call 10;(with_reducible refine (key_walk (what i) (wide i) (ak i) (av i)).mono ?_);rintro e v1 ⟨s,rfl,hs,k4⟩;have J1:=KD.trans k4;clear k4 KD))
    all_goals (go_wp2_with fail)
    all_goals go_meet
    all_goals exact⟨_,_,rfl,rfl,hs,e48,J1⟩
   case rest=>
    obtain⟨s,d,rfl,rfl,hs,hd,kc⟩:=hcut
    have kz:Kept wc (wc.alloc (.cells #[.string ⟨#[]⟩,.int .i64 0,.int .i64 0] 33)):=(Kept.refl wc).alloc _
    have Z:C3 (wc.alloc (.cells #[.string ⟨#[]⟩,.int .i64 0,.int .i64 0] 33)) wc.heap.size 33 (.string ⟨#[]⟩) (.int .i64 0) (.int .i64 0):=C3.alloc wc 33 _ _ _
    have G:Hid (Fs w (wc.alloc (.cells #[.string ⟨#[]⟩,.int .i64 0,.int .i64 0] 33)) t p 500 lp lc lk l l r):=(F.out.kept kc).kept kz
    have HB:Hid (w.heap.size≤wc.heap.size):=(F.out.kept kc).low.size
    have c0:=kz.cell (kc.cell c0')
    clear F c0' kc
    by_cases hw3:bits .and .i64 (what i) 7=3
    ·have P4:=G.out.delete (by omega) s hs Z
     clear G Z
     go_wp2_with fail
     refine P4.mono ?_
     rintro e w6 ⟨xd,xp,xl,xb,r',rfl,sy,F6,Z6⟩
     obtain⟨⟨g0,i0⟩,⟨g1,i1⟩,⟨g2,i2⟩,hfin⟩:=N.ready3 Z6.out (.string xd) (.int .i64 xp) (.int .i64 xl)
     have F7:Hid (Fs w (((w6.setCell ⟨wc.heap.size,0,none⟩ (.string xd)).setCell ⟨wc.heap.size,1,none⟩ (.int .i64 xp)).setCell ⟨wc.heap.size,2,none⟩ (.int .i64 xl)) t p 500 lp lc lk (upd s [] l) l r'):=F6.store Z6 HB.out _ _ _
     have H7:=F7.out.has (by omega) sy
     clear P4 F6 Z6 sy F7 hfin
     go_wp2_with (first
      | (go_at_call 12;(with_reducible refine H7.mono ?_);rintro e w8 ⟨rfl,F8⟩;have L8:=F8.unlist (by omega);clear H7 F8)
      | (go_at_call 13;(with_reducible refine L8.mono ?_);rintro e w9 ⟨p9,n9,c9,rfl,hn9,F9⟩;have F9:Hid (Fs w w9 t p 500 p9 n9 c9 (upd s [] l) (upd s [] l) r'):=F9;clear L8))
     go_roundg (n-(i+1))
     case measure=>rw[hg.out];omega
     case rel=>exact⟨i+1,n9,c9,p9,_,r',rfl,by go_num,rfl,by omega,by omega,by omega,F9⟩
    ·by_cases hw5:bits .and .i64 (what i) 7=5
     ·have P4:=G.out.delete (by omega) s hs Z
      clear G Z
      go_wp2_with fail
      refine P4.mono ?_
      rintro e w6 ⟨xd,xp,xl,xb,r',rfl,sy,F6,Z6⟩
      obtain⟨⟨g0,i0⟩,⟨g1,i1⟩,⟨g2,i2⟩,hfin⟩:=N.ready3 Z6.out (.string xd) (.int .i64 xp) (.int .i64 xl)
      have F7:Hid (Fs w (((w6.setCell ⟨wc.heap.size,0,none⟩ (.string xd)).setCell ⟨wc.heap.size,1,none⟩ (.int .i64 xp)).setCell ⟨wc.heap.size,2,none⟩ (.int .i64 xl)) t p 500 lp lc lk (upd s [] l) l r'):=F6.store Z6 HB.out _ _ _
      have H7:=F7.out.has (by omega) sy
      clear P4 F6 Z6 sy F7 hfin
      go_wp2_with (first
       | (go_at_call 12;(with_reducible refine H7.mono ?_);rintro e w8 ⟨rfl,F8⟩;have L8:=F8.unlist (by omega);clear H7 F8)
       | (go_at_call 13;(with_reducible refine L8.mono ?_);rintro e w9 ⟨p9,n9,c9,rfl,hn9,F9⟩;have F9:Hid (Fs w w9 t p 500 p9 n9 c9 (upd s [] l) (upd s [] l) r'):=F9;clear L8))
      go_roundg (n-(i+1))
      case measure=>rw[hg.out];omega
      case rel=>exact⟨i+1,n9,c9,p9,_,r',rfl,by go_num,rfl,by omega,by omega,by omega,F9⟩
     ·by_cases hw4:bits .and .i64 (what i) 7=4
      ·have P4:=G.out.get s Z
       clear G Z
       go_wp2_with fail
       refine P4.mono ?_
       rintro e w6 ⟨xd,xp,xl,xb,rfl,sy,F6,Z6⟩
       obtain⟨⟨g0,i0⟩,⟨g1,i1⟩,⟨g2,i2⟩,hfin⟩:=N.ready3 Z6.out (.string xd) (.int .i64 xp) (.int .i64 xl)
       have F7:Hid (Fs w (((w6.setCell ⟨wc.heap.size,0,none⟩ (.string xd)).setCell ⟨wc.heap.size,1,none⟩ (.int .i64 xp)).setCell ⟨wc.heap.size,2,none⟩ (.int .i64 xl)) t p 500 lp lc lk l l r):=F6.store Z6 HB.out _ _ _
       have H7:=F7.out.has (by omega) sy
       clear P4 F6 Z6 sy F7 hfin
       go_wp2_with (go_at_call 12;(with_reducible refine H7.mono ?_);rintro e w8 ⟨rfl,F8⟩;have F9:Hid (Fs w w8 t p 500 lp lc lk l l r):=F8;clear H7 F8)
       go_roundg (n-(i+1))
       case measure=>rw[hg.out];omega
       case rel=>exact⟨i+1,lc,lk,lp,_,r,rfl,by go_num,rfl,by omega,by omega,by omega,F9⟩
      ·have P4:=G.out.put (by omega) s d hs hd Z
       clear G Z
       go_wp2_with fail
       refine P4.mono ?_
       rintro e w6 ⟨xd,xp,xl,xb,r',rfl,sy,F6,Z6⟩
       obtain⟨⟨g0,i0⟩,⟨g1,i1⟩,⟨g2,i2⟩,hfin⟩:=N.ready3 Z6.out (.string xd) (.int .i64 xp) (.int .i64 xl)
       have F7:Hid (Fs w (((w6.setCell ⟨wc.heap.size,0,none⟩ (.string xd)).setCell ⟨wc.heap.size,1,none⟩ (.int .i64 xp)).setCell ⟨wc.heap.size,2,none⟩ (.int .i64 xl)) t p 500 lp lc lk (upd s [(s,⟨d,-1,0⟩)] l) l r'):=F6.store Z6 HB.out _ _ _
       have H7:=F7.out.has (by omega) sy
       clear P4 F6 Z6 sy F7 hfin
       go_wp2_with (first
        | (go_at_call 12;(with_reducible refine H7.mono ?_);rintro e w8 ⟨rfl,F8⟩;have L8:=F8.list (by omega);clear H7 F8)
        | (go_at_call 16;(with_reducible refine L8.mono ?_);rintro e w9 ⟨p9,n9,c9,rfl,hn9,F9⟩;have F9:Hid (Fs w w9 t p 500 p9 n9 c9 (upd s [(s,⟨d,-1,0⟩)] l) (upd s [(s,⟨d,-1,0⟩)] l) r'):=F9;clear L8))
       go_roundg (n-(i+1))
       case measure=>rw[hg.out];omega
       case rel=>exact⟨i+1,n9,c9,p9,_,r',rfl,by go_num,rfl,by omega,by omega,by omega,F9⟩
  ·by_cases h1:(i:Int)<(n:Int)
   ·have h2:¬ ((i:Int)<120):=fun h=>h3 ⟨h1,h⟩
    clear h3
    go_wp2_with fail
    go_loopg [13] lc (fun gg jv wx=>∃ j:Nat,jv=.int .i64 (j:Nat)∧Hid (gg=lc-j)∧j≤lc∧Hid (Fs w wx t p 500 lp lc lk l l r))
    case atStart=>exact⟨0,rfl,rfl,Nat.zero_le _,F⟩
    case round=>
     obtain⟨j,rfl,hg,hj,H⟩:=hrel
     clear F
     by_cases h4:(j:Int)<(lc:Int)
     ·obtain⟨gq,rfl⟩:=H.out.own.some_of (by omega)
      obtain⟨x,hx⟩:∃ x,l[j]? = some x:=⟨l[j]'(by rw[H.out.len];omega),List.getElem?_eq_getElem _⟩
      have HX:Hid (l[j]? = some x):=hx
      have d0:wr.cell? ⟨gq,j*2,none⟩=some (.string x.1):=H.out.own.cell (prs_at hx).1
      have P5:=H.out.gets hx
      have hne:(x.2.d.toList == x.2.d.toList)=true:=by rw[seq_iff];simp
      clear H hx
      go_wp2_with (go_at_call 14;(with_reducible refine P5.mono ?_);rintro e v6 ⟨xp,xl,rfl,E6⟩;have E7:Hid (Fs w (v6.alloc (.cells #[.string x.2.d,.int .i64 xp,.int .i64 xl] 33)) t p 500 (some ⟨gq,0,none⟩) lc lk l l r):=E6.kept ((Kept.refl v6).alloc _);have d1:(v6.alloc (.cells #[.string x.2.d,.int .i64 xp,.int .i64 xl] 33)).cell? ⟨gq,j*2+1,none⟩=some (.string x.2.d):=E7.out.own.cell (prs_at HX.out).2;clear P5 E6)
      go_quiet (fail)
      have E8:Hid (Fs w ((v6.alloc (.cells #[.string x.2.d,.int .i64 xp,.int .i64 xl] 33)).drewN nq) t p 500 (some ⟨gq,0,none⟩) lc lk l l r):=E7.out.kept ⟨(Below.refl _ _).trans ⟨rfl,rfl,rfl,Nat.le_refl _,fun _ _=>rfl⟩⟩
      clear E7
      go_wp2
      go_roundg (lc-(j+1))
      case measure=>rw[hg.out];omega
      case rel=>exact⟨j+1,by go_num,rfl,by omega,E8⟩
     ·have R5:=root_walk H.out.fr.tat
      have LW:Hid (Below w.heap.size w wr):=H.out.low
      rcases H.out.root with⟨rfl,rfl⟩|⟨hr0,hlc0⟩
      ·clear H
       go_wp2_with (go_at_call 17;(with_reducible refine R5.mono ?_);rintro e v7 ⟨rfl,hv7⟩;rw[hv7];clear hv7 R5)
       go_ret
       exact⟨by first | rfl | simp,⟨LW.out⟩⟩
      ·have e1:decide (r<0)=false:=decide_eq_false (by omega)
       have e2:((lc:Int) == 0)=false:=by simp;omega
       clear H
       go_wp2_with (go_at_call 17;(with_reducible refine R5.mono ?_);rintro e v7 ⟨rfl,hv7⟩;rw[hv7];clear hv7 R5)
       go_ret
       exact⟨by simp,⟨LW.out⟩⟩
   ·clear h3
    go_wp2_with fail
    go_loopg [13] lc (fun gg jv wx=>∃ j:Nat,jv=.int .i64 (j:Nat)∧Hid (gg=lc-j)∧j≤lc∧Hid (Fs w wx t p 500 lp lc lk l l r))
    case atStart=>exact⟨0,rfl,rfl,Nat.zero_le _,F⟩
    case round=>
     obtain⟨j,rfl,hg,hj,H⟩:=hrel
     clear F
     by_cases h4:(j:Int)<(lc:Int)
     ·obtain⟨gq,rfl⟩:=H.out.own.some_of (by omega)
      obtain⟨x,hx⟩:∃ x,l[j]? = some x:=⟨l[j]'(by rw[H.out.len];omega),List.getElem?_eq_getElem _⟩
      have HX:Hid (l[j]? = some x):=hx
      have d0:wr.cell? ⟨gq,j*2,none⟩=some (.string x.1):=H.out.own.cell (prs_at hx).1
      have P5:=H.out.gets hx
      have hne:(x.2.d.toList == x.2.d.toList)=true:=by rw[seq_iff];simp
      clear H hx
      go_wp2_with (go_at_call 14;(with_reducible refine P5.mono ?_);rintro e v6 ⟨xp,xl,rfl,E6⟩;have E7:Hid (Fs w (v6.alloc (.cells #[.string x.2.d,.int .i64 xp,.int .i64 xl] 33)) t p 500 (some ⟨gq,0,none⟩) lc lk l l r):=E6.kept ((Kept.refl v6).alloc _);have d1:(v6.alloc (.cells #[.string x.2.d,.int .i64 xp,.int .i64 xl] 33)).cell? ⟨gq,j*2+1,none⟩=some (.string x.2.d):=E7.out.own.cell (prs_at HX.out).2;clear P5 E6)
      go_quiet (fail)
      have E8:Hid (Fs w ((v6.alloc (.cells #[.string x.2.d,.int .i64 xp,.int .i64 xl] 33)).drewN nq) t p 500 (some ⟨gq,0,none⟩) lc lk l l r):=E7.out.kept ⟨(Below.refl _ _).trans ⟨rfl,rfl,rfl,Nat.le_refl _,fun _ _=>rfl⟩⟩
      clear E7
      go_wp2
      go_roundg (lc-(j+1))
      case measure=>rw[hg.out];omega
      case rel=>exact⟨j+1,by go_num,rfl,by omega,E8⟩
     ·have R5:=root_walk H.out.fr.tat
      have LW:Hid (Below w.heap.size w wr):=H.out.low
      rcases H.out.root with⟨rfl,rfl⟩|⟨hr0,hlc0⟩
      ·clear H
       go_wp2_with (go_at_call 17;(with_reducible refine R5.mono ?_);rintro e v7 ⟨rfl,hv7⟩;rw[hv7];clear hv7 R5)
       go_ret
       exact⟨by first | rfl | simp,⟨LW.out⟩⟩
      ·have e1:decide (r<0)=false:=decide_eq_false (by omega)
       have e2:((lc:Int) == 0)=false:=by simp;omega
       clear H
       go_wp2_with (go_at_call 17;(with_reducible refine R5.mono ?_);rintro e v7 ⟨rfl,hv7⟩;rw[hv7];clear hv7 R5)
       go_ret
       exact⟨by simp,⟨LW.out⟩⟩
end Go.Proofs.YtncfpjccfmolgaaGreatDoor.T