/- Joined. -/
import Derived.Test.YtafgecaeiodmiaaGreatDoorZbn
namespace Go.Proofs.YtafgecaeiodmiaaGreatDoor.T
open Go.ChangeShapes Go.WideShapes Go.ChangeAt Go.RowKit
open B (Pm Mk En upd Tree Ord R)
open N (Kept Rw Rx Vl sl C4)
theorem pages_none(w:World)(fv:Value):Calls Tryz.prog 14 #[.pointer none,fv] w fun e w'=>e=.returned (.tuple #[.slice none 0 0,.int .i64 0])∧w'=w:=by
 have fr:=root_nil w;go_enter Tryz.func14,Tryz.ntmps14;go_wp2_with (go_at_call 16;(with_reducible refine fr.mono ?_);rintro e w1 ⟨rfl,hw1⟩;rw[hw1];clear hw1);go_ret2;exact⟨rfl,rfl⟩
set_option maxRecDepth 100000 in
set_option maxHeartbeats 1000000 in
theorem none_law{w:World}(hL:S.Lds w)(s:ByteArray):Calls Tryz.prog 7 #[.string s] w fun e w'=>e=.returned (.bool true)∧Kept w w':=by
 have f1:Calls Tryz.prog 9 #[.pointer none,.string ⟨#[]⟩,.string s,.int .i64 5] w fun e w'=>∃ q c,e=.returned (.tuple #[.slice q 0 c,.int .i64 0])∧Kept w w':=by
  refine (range_walk (s:=⟨#[]⟩) (tz:=s) (most:=5) (l:=[]) (Z:=[]) (fun W key _=>seek_none W key) (by decide)).mono ?_;rintro e w' ⟨q,n,c,rfl,hR,k⟩;have hn:n=0:=by have:=hR.len;rw[show rng ⟨#[]⟩ s 5 []=[] from rfl]at this;simp[pcl]at this;omega
  subst hn;exact⟨q,c,rfl,k⟩
 have f2:Hid (∀ W,Calls Tryz.prog 12 #[.pointer none,.string s] W fun e w'=>e=.returned (.tuple #[.agg #[.string ⟨#[]⟩,.string ⟨#[]⟩,.int .i64 0,.int .i64 0],.bool false,.int .i64 0])∧Kept W w'):=fun W=>by
  refine (next_walk (s:=s) (l:=[]) (Z:=[]) (fun W key _=>seek_none W key)).mono ?_;rintro e w' ⟨h | ⟨_,h⟩,k⟩
  ·obtain⟨x,r,h,_⟩:=h
   cases h
  ·exact⟨h,k⟩
 have f4:Hid (∀ W,Kept w W→Calls Tryz.prog 11 #[] W fun e w'=>e=.returned (.bool true)∧Kept W w'):=fun W k=>awake_walk (lds_kept hL k)
 clear hL;go_enter Tryz.func7,Tryz.ntmps7;go_wp2_with (first
  | (go_at_call 9;(with_reducible refine f1.mono ?_);rintro e w1 ⟨q,c,rfl,k1⟩;clear f1)
  | (go_at_call 12;(with_reducible refine (f2.out _).mono ?_);rintro e w2 ⟨rfl,k2⟩;have k3:Kept w (w2.alloc (.cells #[.string ⟨#[]⟩,.string ⟨#[]⟩,.int .i64 0,.int .i64 0] 37)):=(k1.trans k2).alloc _;have g4:=f4.out _ k3;clear f2)
  | (go_at_call 14;(with_reducible refine (pages_none _ _).mono ?_);rintro e w3 ⟨rfl,hw3⟩;rw[hw3];clear hw3)
  | (go_at_call 11;(with_reducible refine g4.mono ?_);rintro e w4 ⟨rfl,k4⟩;clear g4))
 go_ret;exact⟨by first | rfl | decide,k3.trans k4⟩
end Go.Proofs.YtafgecaeiodmiaaGreatDoor.T