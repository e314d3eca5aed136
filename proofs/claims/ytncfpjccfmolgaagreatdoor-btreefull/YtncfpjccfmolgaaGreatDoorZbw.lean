/- Joined: VE. What is proved of the functions beneath BtreeEnds,BtreeFull,BtreeShape,BtreePlays. Conditions: those that each row names. -/
import Derived.Test.YtncfpjccfmolgaaGreatDoorZbv
namespace Go.Proofs.YtncfpjccfmolgaaGreatDoor.T
open Go.ChangeShapes Go.WideShapes Go.ChangeAt Go.RowKit
open B (En upd)
open N (Kept Own blk)
set_option maxRecDepth 100000 in
set_option maxHeartbeats 4000000 in
theorem full_law {w:World} (hL:S.Lds w) {pa:Option Addr} {n ca:Nat} (A:Acts w pa n) (sec:Int):Calls Tryz.prog 6 #[.slice pa n ca,.int .i64 sec] w fun e w'=>e=.returned (.bool true)∧Kept w w':=by
 obtain⟨sx,hsx,hsb⟩:=D.low 4 15 (by decide) (by decide) sec
 have ex:bits .and .i64 sec 15=(sx:Int):=hsb
 clear hsb
 have hsx':sx<16:=hsx
 clear hsx
 have e3:IntKind.i64.wrap (3+(sx:Int))=((3+sx:Nat):Int):=by rw[IntKind.wrap_i64];omega
 have e1:IntKind.i64.wrap (1+(sx:Int))=((1+sx:Nat):Int):=by rw[IntKind.wrap_i64];omega
 obtain⟨m,hm⟩:∃ m,m=3+sx:=⟨_,rfl⟩
 have HM:Hid (m=3+sx):=hm
 rw[← hm]at e3
 have f1:Calls Tryz.prog 8 #[.int .i64 (m:Nat)] w _:=begun_vw hL m (by omega) (by omega)
 have f2:Hid (∀ W,Kept w W→Calls Tryz.prog 9 #[] W fun e w'=>e=.returned (.bool true)∧Kept W w'):=fun W k=>awake_walk (lds_kept hL k)
 clear hL hm
 obtain⟨b,o,what,ak,av,wide,hmax,hat,a0,a1,a2,a3⟩:=A
 have A0:Hid (∀ j,j<n→w.cell? ⟨b,o+j*4,none⟩=some (.int .i64 (what j))):=a0
 have A1:Hid (∀ j,j<n→w.cell? ⟨b,o+j*4+1,none⟩=some (.string (ak j))):=a1
 have A2:Hid (∀ j,j<n→w.cell? ⟨b,o+j*4+2,none⟩=some (.string (av j))):=a2
 have A3:Hid (∀ j,j<n→w.cell? ⟨b,o+j*4+3,none⟩=some (.int .i64 (wide j))):=a3
 have AT:Hid (0<n→pa=some ⟨b,o,none⟩):=hat
 clear a0 a1 a2 a3 hat
 go_enter Tryz.func6,Tryz.ntmps6
 go_wp2_with (first
  | (go_at_call 8;(with_reducible refine f1.mono ?_);rintro e w1 ⟨t,p,rfl,V1,k1⟩;have S1:Hid (Fs w (w1.alloc (.cells #[] 42)) t p m (some ⟨w1.heap.size,0,none⟩) 0 0 [] [] (-1)):=Fs.start k1 V1;have g2:=f2.out _ (k1.trans ((Kept.refl w1).alloc (.cells #[] 42)));clear f1 V1)
  | (go_at_call 9;(with_reducible refine g2.mono ?_);rintro e w2 ⟨rfl,k2⟩;have S2:Hid (Fs w w2 t p m (some ⟨w1.heap.size,0,none⟩) 0 0 [] [] (-1)):=S1.out.kept k2;clear g2 f2 S1 k1 k2))
 go_loopg [8,9] n (fun gg sv iv wx=>∃ (i lc lk:Nat) (lp:Option Addr) (l:List En) (r:Int),sv=.slice lp lc lk∧iv=.int .i64 (i:Nat)∧Hid (gg=n-i)∧i≤n∧i≤60∧lc≤i∧Hid (Fs w wx t p m lp lc lk l l r))
 case atStart=>exact⟨0,0,0,_,[],-1,rfl,rfl,rfl,Nat.zero_le _,by decide,Nat.le_refl _,S2⟩
 case round=>
  obtain⟨i,lc,lk,lp,l,r,rfl,rfl,hg,hin,hi6,hlc,F⟩:=hrel
  clear S2
  by_cases h3:(i:Int)<(n:Int)∧(i:Int)<60
  ·obtain⟨h1,h2⟩:=h3
   obtain rfl:=AT.out (by omega)
   have c0:=(F.out.low.cell (World.block_lt_of_cell? w _ (A0.out i (by omega)))).trans (A0.out i (by omega))
   have c1:=(F.out.low.cell (World.block_lt_of_cell? w _ (A1.out i (by omega)))).trans (A1.out i (by omega))
   have c2:=(F.out.low.cell (World.block_lt_of_cell? w _ (A2.out i (by omega)))).trans (A2.out i (by omega))
   have c3:=(F.out.low.cell (World.block_lt_of_cell? w _ (A3.out i (by omega)))).trans (A3.out i (by omega))
   go_wp2_with (first
    | (go_at_call 10;(with_reducible refine (key_walk (what i) (wide i) (ak i) (av i)).mono ?_);rintro e v1 ⟨s,rfl,hs,k4⟩;have F4:Hid (Fs w v1 t p m lp lc lk l l r):=F.out.kept k4;have R4:Calls Tryz.prog 17 #[.pointer (some ⟨t,0,none⟩)] v1 _:=root_walk F4.out.fr.tat;have P4:=F4.out.puts s ⟨#[118]⟩ hs (by decide);clear F k4 c0 c1 c2 c3)
    | (go_at_call 17;(with_reducible refine R4.mono ?_);rintro e w8 ⟨rfl,hw8⟩;rw[hw8];clear hw8 R4))
   refine P4.mono ?_
   rintro e w6 hR
   clear P4 F4
   rcases hR with⟨d,a,b',c',r',rfl,F6⟩|⟨rfl,F6⟩
   ·have F7:Hid (Fs w (w6.alloc (.cells #[.string d,.int .i64 a,.int .i64 b'] 33)) t p m lp lc lk (upd s [(s,⟨⟨#[118]⟩,-1,0⟩)] l) l r'):=F6.kept ((Kept.refl w6).alloc _)
    have L7:=F7.out.list (by omega)
    clear F6 F7
    go_wp2_with (go_at_call 16;(with_reducible refine L7.mono ?_);rintro e w9 ⟨p9,n9,c9,rfl,hn9,F9⟩;have F9:Hid (Fs w w9 t p m p9 n9 c9 (upd s [(s,⟨⟨#[118]⟩,-1,0⟩)] l) (upd s [(s,⟨⟨#[118]⟩,-1,0⟩)] l) r'):=F9;clear L7)
    go_roundg (n-(i+1))
    case measure=>rw[hg.out];omega
    case rel=>exact⟨i+1,n9,c9,p9,_,r',rfl,by go_num,rfl,by omega,by omega,by omega,F9⟩
   ·have G:Hid (Fr w (w6.alloc (.cells #[.string ⟨#[]⟩,.int .i64 0,.int .i64 0] 33)) t p m lp lc lk l r):=F6.kept ((Kept.refl w6).alloc _)
    have R7:Calls Tryz.prog 17 #[.pointer (some ⟨t,0,none⟩)] (w6.alloc (.cells #[.string ⟨#[]⟩,.int .i64 0,.int .i64 0] 33)) _:=root_walk G.out.tat
    clear F6
    go_wp2_with (go_at_call 17;(with_reducible refine R7.mono ?_);rintro e w8 ⟨rfl,hw8⟩;rw[hw8];clear hw8 R7)
    go_loopg [15] lc (fun gg jv wx=>∃ j:Nat,jv=.int .i64 (j:Nat)∧Hid (gg=lc-j)∧j≤lc∧Hid (Fr w wx t p m lp lc lk l r))
    case atStart=>exact⟨0,rfl,rfl,Nat.zero_le _,G⟩
    case round=>
     obtain⟨j,rfl,hg,hj,H⟩:=hrel
     clear G
     by_cases h4:(j:Int)<(lc:Int)
     ·obtain⟨gq,rfl⟩:=H.out.own.some_of (by omega)
      obtain⟨x,hx⟩:∃ x,l[j]? = some x:=⟨l[j]'(by rw[H.out.len];omega),List.getElem?_eq_getElem _⟩
      have d0:wr.cell? ⟨gq,j*2,none⟩=some (.string x.1):=H.out.own.cell (prs_at hx).1
      have P5:=H.out.get hx
      clear H hx
      go_wp2_with (go_at_call 14;(with_reducible refine P5.mono ?_);rintro e v6 ⟨d,a,b',rfl,E6⟩;have E7:Hid (Fr w (v6.alloc (.cells #[.string d,.int .i64 a,.int .i64 b'] 33)) t p m (some ⟨gq,0,none⟩) lc lk l r):=E6.kept ((Kept.refl v6).alloc _);clear P5 E6)
      go_roundg (lc-(j+1))
      case measure=>rw[hg.out];omega
      case rel=>exact⟨j+1,by go_num,rfl,by omega,E7⟩
     ·have P5:=H.out.undo
      clear H
      go_wp2_with (first
       | (go_at_call 20;(with_reducible refine P5.mono ?_);rintro e v6 ⟨rfl,V6,LW0⟩;have LW:Hid (Below w.heap.size w v6):=LW0;have L6:=left_pv V6;rw[show lft m (fun _=>none)=1+sx by have:=lft_all V6;have:=HM.out;omega]at L6;clear P5 V6 LW0)
       | (go_at_call 18;(with_reducible refine L6.mono ?_);rintro e v7 ⟨rfl,hv7⟩;rw[hv7];clear hv7 L6))
      go_ret
      exact⟨by first | rfl | simp,⟨LW.out⟩⟩
  ·have G:Hid (Fr w wr t p m lp lc lk l r):=F.out.fr
   clear F
   by_cases h1:(i:Int)<(n:Int)
   ·have h2:¬ ((i:Int)<60):=fun h=>h3 ⟨h1,h⟩
    clear h3
    go_wp2_with fail
    go_loopg [15] lc (fun gg jv wx=>∃ j:Nat,jv=.int .i64 (j:Nat)∧Hid (gg=lc-j)∧j≤lc∧Hid (Fr w wx t p m lp lc lk l r))
    case atStart=>exact⟨0,rfl,rfl,Nat.zero_le _,G⟩
    case round=>
     obtain⟨j,rfl,hg,hj,H⟩:=hrel
     clear G
     by_cases h4:(j:Int)<(lc:Int)
     ·obtain⟨gq,rfl⟩:=H.out.own.some_of (by omega)
      obtain⟨x,hx⟩:∃ x,l[j]? = some x:=⟨l[j]'(by rw[H.out.len];omega),List.getElem?_eq_getElem _⟩
      have d0:wr.cell? ⟨gq,j*2,none⟩=some (.string x.1):=H.out.own.cell (prs_at hx).1
      have P5:=H.out.get hx
      clear H hx
      go_wp2_with (go_at_call 14;(with_reducible refine P5.mono ?_);rintro e v6 ⟨d,a,b',rfl,E6⟩;have E7:Hid (Fr w (v6.alloc (.cells #[.string d,.int .i64 a,.int .i64 b'] 33)) t p m (some ⟨gq,0,none⟩) lc lk l r):=E6.kept ((Kept.refl v6).alloc _);clear P5 E6)
      go_roundg (lc-(j+1))
      case measure=>rw[hg.out];omega
      case rel=>exact⟨j+1,by go_num,rfl,by omega,E7⟩
     ·have P5:=H.out.undo
      clear H
      go_wp2_with (first
       | (go_at_call 20;(with_reducible refine P5.mono ?_);rintro e v6 ⟨rfl,V6,LW0⟩;have LW:Hid (Below w.heap.size w v6):=LW0;have L6:=left_pv V6;rw[show lft m (fun _=>none)=1+sx by have:=lft_all V6;have:=HM.out;omega]at L6;clear P5 V6 LW0)
       | (go_at_call 18;(with_reducible refine L6.mono ?_);rintro e v7 ⟨rfl,hv7⟩;rw[hv7];clear hv7 L6))
      go_ret
      exact⟨by first | rfl | simp,⟨LW.out⟩⟩
   ·clear h3
    go_wp2_with fail
    go_loopg [15] lc (fun gg jv wx=>∃ j:Nat,jv=.int .i64 (j:Nat)∧Hid (gg=lc-j)∧j≤lc∧Hid (Fr w wx t p m lp lc lk l r))
    case atStart=>exact⟨0,rfl,rfl,Nat.zero_le _,G⟩
    case round=>
     obtain⟨j,rfl,hg,hj,H⟩:=hrel
     clear G
     by_cases h4:(j:Int)<(lc:Int)
     ·obtain⟨gq,rfl⟩:=H.out.own.some_of (by omega)
      obtain⟨x,hx⟩:∃ x,l[j]? = some x:=⟨l[j]'(by rw[H.out.len];omega),List.getElem?_eq_getElem _⟩
      have d0:wr.cell? ⟨gq,j*2,none⟩=some (.string x.1):=H.out.own.cell (prs_at hx).1
      have P5:=H.out.get hx
      clear H hx
      go_wp2_with (go_at_call 14;(with_reducible refine P5.mono ?_);rintro e v6 ⟨d,a,b',rfl,E6⟩;have E7:Hid (Fr w (v6.alloc (.cells #[.string d,.int .i64 a,.int .i64 b'] 33)) t p m (some ⟨gq,0,none⟩) lc lk l r):=E6.kept ((Kept.refl v6).alloc _);clear P5 E6)
      go_roundg (lc-(j+1))
      case measure=>rw[hg.out];omega
      case rel=>exact⟨j+1,by go_num,rfl,by omega,E7⟩
     ·have P5:=H.out.undo
      clear H
      go_wp2_with (first
       | (go_at_call 20;(with_reducible refine P5.mono ?_);rintro e v6 ⟨rfl,V6,LW0⟩;have LW:Hid (Below w.heap.size w v6):=LW0;have L6:=left_pv V6;rw[show lft m (fun _=>none)=1+sx by have:=lft_all V6;have:=HM.out;omega]at L6;clear P5 V6 LW0)
       | (go_at_call 18;(with_reducible refine L6.mono ?_);rintro e v7 ⟨rfl,hv7⟩;rw[hv7];clear hv7 L6))
      go_ret
      exact⟨by first | rfl | simp,⟨LW.out⟩⟩
end Go.Proofs.YtncfpjccfmolgaaGreatDoor.T