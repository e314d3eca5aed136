/- Joined: UG. What is proved of the functions beneath BtreeEnds,BtreeFull,BtreeShape,BtreePlays. Conditions: those that each row names. -/
import Derived.Test.YtncfpjccfmolgaaGreatDoorZbp
namespace Go.Proofs.YtncfpjccfmolgaaGreatDoor.T
open Go.ChangeShapes Go.WideShapes Go.ChangeAt Go.RowKit
open N (Kept Own blk kcl info9 one_cellA)
set_option maxRecDepth 100000 in
set_option maxHeartbeats 4000000 in
theorem ends_law {w:World} (hL:S.Lds w) {pa:Option Addr} {n ca:Nat} (A:Acts w pa n):Calls Tryz.prog 5 #[.slice pa n ca] w fun e w'=>e=.returned (.bool true)∧Kept w w':=by
 obtain⟨i9,hi9,hz90,hz91,hz92⟩:=info_parts info9
 have f1:Calls Tryz.prog 8 #[.int .i64 500] w _:=begun_vw hL 500 (by decide) (by decide)
 have f2:Hid (∀ W,Kept w W→Calls Tryz.prog 9 #[] W fun e w'=>e=.returned (.bool true)∧Kept W w'):=fun W k=>awake_walk (lds_kept hL k)
 clear hL
 obtain⟨b,o,what,ak,av,wide,hmax,hat,a0,a1,a2,a3⟩:=A
 have A0:Hid (∀ j,j<n→w.cell? ⟨b,o+j*4,none⟩=some (.int .i64 (what j))):=a0
 have A1:Hid (∀ j,j<n→w.cell? ⟨b,o+j*4+1,none⟩=some (.string (ak j))):=a1
 have A2:Hid (∀ j,j<n→w.cell? ⟨b,o+j*4+2,none⟩=some (.string (av j))):=a2
 have A3:Hid (∀ j,j<n→w.cell? ⟨b,o+j*4+3,none⟩=some (.int .i64 (wide j))):=a3
 have AT:Hid (0<n→pa=some ⟨b,o,none⟩):=hat
 clear a0 a1 a2 a3 hat
 go_enter Tryz.func5,Tryz.ntmps5
 go_wp2_with (first
  | (go_at_call 8;(with_reducible refine f1.mono ?_);rintro e w1 ⟨t,p,rfl,V1,k1⟩;have g2:=f2.out _ k1;clear f1)
  | (go_at_call 9;(with_reducible refine g2.mono ?_);rintro e w2 ⟨rfl,k2⟩;have V2:=V1.kept k2;have g3:=left_pv V2.pv;clear g2 f2)
  | (go_at_call 18;(with_reducible refine g3.mono ?_);rintro e w3 ⟨rfl,hw3⟩;rw[hw3];clear hw3 g3))
 have ES:Hid (Eo w (w2.alloc (.cells #[] 9)) t p (some ⟨w2.heap.size,0,none⟩) 0 0 [] 0 []):=Eo.start (k1.trans k2) V2
 clear V1 V2 k1 k2
 generalize hlf:lft 500 (fun _=>none)=lf at *
 have HLF:Hid (lft 500 (fun _=>none)=lf):=hlf
 clear hlf
 go_loopg [7,8] n (fun gg sv iv wx=>∃ (i kc:Nat) (kp:Option Addr) (ks:List ByteArray),sv=.slice kp i kc∧iv=.int .i64 (i:Nat)∧Hid (gg=n-i)∧i≤n∧i≤80∧Hid (Eo w wx t p kp i kc ks i ks))
 case atStart=>exact⟨0,0,_,[],rfl,rfl,rfl,Nat.zero_le _,by decide,ES⟩
 case round=>
  obtain⟨i,kc,kp,ks,rfl,rfl,hg,hin,hi8,E⟩:=hrel
  clear ES
  by_cases h3:(i:Int)<(n:Int)∧(i:Int)<80
  ·obtain⟨h1,h2⟩:=h3
   obtain rfl:=AT.out (by omega)
   have c0:=(E.out.low.cell (World.block_lt_of_cell? w _ (A0.out i (by omega)))).trans (A0.out i (by omega))
   have c1:=(E.out.low.cell (World.block_lt_of_cell? w _ (A1.out i (by omega)))).trans (A1.out i (by omega))
   have c2:=(E.out.low.cell (World.block_lt_of_cell? w _ (A2.out i (by omega)))).trans (A2.out i (by omega))
   have c3:=(E.out.low.cell (World.block_lt_of_cell? w _ (A3.out i (by omega)))).trans (A3.out i (by omega))
   have hq:i<80:=by omega
   go_wp2_with (first
    | (go_at_call 10;(with_reducible refine (key_walk (what i) (wide i) (ak i) (av i)).mono ?_);rintro e v1 ⟨s,rfl,hs,k4⟩;have E4:Hid (Eo w (v1.alloc (.cells #[.string s] 9)) t p kp i kc ks i ks):=E.out.kept (k4.trans ((Kept.refl v1).alloc (.cells #[.string s] 9))))
    | (at_builtin;refine wpList_append_own _ rfl _ _ 47 rfl w.heap.size 9 i9 _ 1 16 Tryz.underlying47 hi9 hz90 hz91 hz92 rfl (by decide) (.slice kp i kc) i (kcl ks) rfl E4.out.own.out ⟨v1.heap.size,0,none⟩ 1 1 [.string s] rfl rfl (one_cell v1 _ 9) (by intro u hu;simp at hu;subst hu;rfl) (by unfold maxLen;omega) (by omega) E4.out.low.size ?_;intro v' w5 o5 g5 _;obtain⟨kq,qc,rfl⟩:=owns_shape o5;have E5:Hid (Eo w w5 t p kq (i+1) qc (ks++[s]) i (ks++[s])):=E4.out.more hs o5 g5;obtain⟨gq,rfl⟩:=E5.out.own.some_of (Nat.succ_pos i);have d5:w5.cell? ⟨gq,i,none⟩=some (.string s):=E5.out.own.cell (by unfold kcl;rw[← E.out.len];simp);have P5:=E5.out.put (k:=s) (by simp) hq;clear o5 g5 E4)
    | (go_at_call 15;(with_reducible refine P5.mono ?_);rintro e w6 ⟨d,a,b',c',rfl,E6⟩;have E7:Hid (Eo w (w6.alloc (.cells #[.string d,.int .i64 a,.int .i64 b'] 33)) t p (some ⟨gq,0,none⟩) (i+1) qc (ks++[s]) (i+1) (ks++[s])):=E6.kept ((Kept.refl w6).alloc _);clear P5 E6))
   go_roundg (n-(i+1))
   case measure=>rw[hg.out];omega
   case rel=>exact⟨i+1,_,_,_,rfl,by go_num,rfl,by omega,by omega,E7⟩
  ·by_cases h1:(i:Int)<(n:Int)
   ·have h2:¬ ((i:Int)<80):=fun h=>h3 ⟨h1,h⟩
    clear h3
    go_wp2_with fail
    go_loopg [12] i (fun gg jv wx=>∃ j:Nat,jv=.int .i64 (j:Nat)∧Hid (gg=i-j)∧j≤i∧Hid (Eo w wx t p kp i kc ks i (ks.drop j)))
    case atStart=>exact⟨0,rfl,rfl,Nat.zero_le _,E⟩
    case round=>
     obtain⟨j,rfl,hg,hj,F⟩:=hrel
     clear E
     by_cases h4:(j:Int)<(i:Int)
     ·obtain⟨gq,rfl⟩:=F.out.own.some_of (by omega)
      obtain⟨s,hs⟩:∃ s,ks[j]? = some s:=⟨ks[j]'(by rw[F.out.len];omega),List.getElem?_eq_getElem _⟩
      have d5:wr.cell? ⟨gq,j,none⟩=some (.string s):=F.out.own.cell (by unfold kcl;rw[List.getElem?_map,hs];rfl)
      have hd:ks.drop j=s :: ks.drop (j+1):=by
       obtain⟨hl,he⟩:=List.getElem?_eq_some_iff.1 hs
       rw[List.drop_eq_getElem_cons hl,he]
      have F1:=F.out
      rw[hd]at F1
      have P5:=F1.delete (F1.sm s (List.mem_of_getElem? hs)) hi8
      clear F F1 hd
      go_wp2_with (go_at_call 11;(with_reducible refine P5.mono ?_);rintro e w6 ⟨d,a,b',c',rfl,E6⟩;have E7:Hid (Eo w (w6.alloc (.cells #[.string d,.int .i64 a,.int .i64 b'] 33)) t p (some ⟨gq,0,none⟩) i kc ks i (ks.drop (j+1))):=E6.kept ((Kept.refl w6).alloc _);clear P5 E6)
      go_roundg (i-(j+1))
      case measure=>rw[hg.out];omega
      case rel=>exact⟨j+1,by go_num,rfl,by omega,E7⟩
     ·have P5:Calls Tryz.prog 11 _ wr _:=Eo.last (by have F1:=F.out;rwa [List.drop_eq_nil_of_le (by rw[F1.len];omega)]at F1)
      clear F
      go_wp2_with (first
       | (go_at_call 11;(with_reducible refine P5.mono ?_);rintro e w6 ⟨d,a,b',rfl,E6⟩;have E7:=E6.kept ((Kept.refl w6).alloc (.cells #[.string d,.int .i64 a,.int .i64 b'] 33));have LW:Hid (Below w.heap.size w (w6.alloc (.cells #[.string d,.int .i64 a,.int .i64 b'] 33))):=E7.low;obtain⟨M,V7,hM⟩:=E7.void;have R7:=root_walk V7.tat;have L7:=left_pv V7.pv;rw[(lft_none hM).trans HLF.out]at L7;clear P5 E6 E7)
       | (go_at_call 17;(with_reducible refine R7.mono ?_);rintro e w8 ⟨rfl,hw8⟩;rw[hw8];clear hw8 R7)
       | (go_at_call 18;(with_reducible refine L7.mono ?_);rintro e w9 ⟨rfl,hw9⟩;rw[hw9];clear hw9 L7))
      go_ret
      exact⟨by first | rfl | simp,⟨LW.out⟩⟩
   ·clear h3
    go_wp2_with fail
    go_loopg [12] i (fun gg jv wx=>∃ j:Nat,jv=.int .i64 (j:Nat)∧Hid (gg=i-j)∧j≤i∧Hid (Eo w wx t p kp i kc ks i (ks.drop j)))
    case atStart=>exact⟨0,rfl,rfl,Nat.zero_le _,E⟩
    case round=>
     obtain⟨j,rfl,hg,hj,F⟩:=hrel
     clear E
     by_cases h4:(j:Int)<(i:Int)
     ·obtain⟨gq,rfl⟩:=F.out.own.some_of (by omega)
      obtain⟨s,hs⟩:∃ s,ks[j]? = some s:=⟨ks[j]'(by rw[F.out.len];omega),List.getElem?_eq_getElem _⟩
      have d5:wr.cell? ⟨gq,j,none⟩=some (.string s):=F.out.own.cell (by unfold kcl;rw[List.getElem?_map,hs];rfl)
      have hd:ks.drop j=s :: ks.drop (j+1):=by
       obtain⟨hl,he⟩:=List.getElem?_eq_some_iff.1 hs
       rw[List.drop_eq_getElem_cons hl,he]
      have F1:=F.out
      rw[hd]at F1
      have P5:=F1.delete (F1.sm s (List.mem_of_getElem? hs)) hi8
      clear F F1 hd
      go_wp2_with (go_at_call 11;(with_reducible refine P5.mono ?_);rintro e w6 ⟨d,a,b',c',rfl,E6⟩;have E7:Hid (Eo w (w6.alloc (.cells #[.string d,.int .i64 a,.int .i64 b'] 33)) t p (some ⟨gq,0,none⟩) i kc ks i (ks.drop (j+1))):=E6.kept ((Kept.refl w6).alloc _);clear P5 E6)
      go_roundg (i-(j+1))
      case measure=>rw[hg.out];omega
      case rel=>exact⟨j+1,by go_num,rfl,by omega,E7⟩
     ·have P5:Calls Tryz.prog 11 _ wr _:=Eo.last (by have F1:=F.out;rwa [List.drop_eq_nil_of_le (by rw[F1.len];omega)]at F1)
      clear F
      go_wp2_with (first
       | (go_at_call 11;(with_reducible refine P5.mono ?_);rintro e w6 ⟨d,a,b',rfl,E6⟩;have E7:=E6.kept ((Kept.refl w6).alloc (.cells #[.string d,.int .i64 a,.int .i64 b'] 33));have LW:Hid (Below w.heap.size w (w6.alloc (.cells #[.string d,.int .i64 a,.int .i64 b'] 33))):=E7.low;obtain⟨M,V7,hM⟩:=E7.void;have R7:=root_walk V7.tat;have L7:=left_pv V7.pv;rw[(lft_none hM).trans HLF.out]at L7;clear P5 E6 E7)
       | (go_at_call 17;(with_reducible refine R7.mono ?_);rintro e w8 ⟨rfl,hw8⟩;rw[hw8];clear hw8 R7)
       | (go_at_call 18;(with_reducible refine L7.mono ?_);rintro e w9 ⟨rfl,hw9⟩;rw[hw9];clear hw9 L7))
      go_ret
      exact⟨by first | rfl | simp,⟨LW.out⟩⟩
end Go.Proofs.YtncfpjccfmolgaaGreatDoor.T