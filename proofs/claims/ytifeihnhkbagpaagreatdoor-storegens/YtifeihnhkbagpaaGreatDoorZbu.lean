/- Joined. -/
import Derived.Test.YtifeihnhkbagpaaGreatDoorZbr
import Derived.Test.YtifeihnhkbagpaaGreatDoorZbt
set_option maxRecDepth 100000
namespace Go.Proofs.YtifeihnhkbagpaaGreatDoor.T
open ChangeShapes WideShapes ChangeAt RowKit
open Go.Proofs.YtifeihnhkbagpaaGreatDoor.D (Dk aa fJ)
open N (Kept Rw)
variable {w:World}{s d p t:Nat}{db:Bool}
theorem GK(hS:bB w s d p t 0 db)(hT:dI w t p (-1))(a b:ByteArray):
 Calls Tryz.prog 24 #[.pointer (some ⟨s,0,none⟩),.string a,.string b,.int .i64 1000] w fun e w'=>e=.returned (.tuple #[.slice none 0 0,.slice none 0 0,.int .i64 0])/\Kept w w':=by
 have f1:=bE hS;obtain⟨c0,c1,c2,c3,c4⟩:=hS.cs;have f2:=LK (pt:=some ⟨t,0,none⟩) (s:=a) (tz:=b) (w:=w) (fun W key k=>PW (hT.kept k));clear hS hT;go_enter Tryz.func24,Tryz.ntmps24;go_wp2_with (first
  | (go_at_call 25;(with_reducible refine f1.mono ?_);rintro e w1 ⟨rfl,hw1⟩;rw[hw1];clear hw1)
  | (go_at_call 42;(with_reducible refine f2.mono ?_);rintro e w2 ⟨rfl,k2⟩))
 refine wp_loop_rounds 1 ?_;rw[rounds_succ];go_wp2;go_ret3;exact⟨rfl,k2⟩
theorem all_none(hS:bB w s d p t 0 db)(hT:dI w t p (-1)):
 Calls Tryz.prog 20 #[.pointer (some ⟨s,0,none⟩),.slice none 0 0] w fun e w'=>e=.returned (.bool true)/\Kept w w':=by
 have f1:=GK hS hT ⟨#[]⟩ ⟨#[255,255,255,255,255,255,255]⟩;clear hS hT;go_enter Tryz.func20,Tryz.ntmps20;go_wp2_with (go_at_call 24;(with_reducible refine f1.mono ?_);rintro e w1 ⟨rfl,k1⟩);refine wp_loop_rounds 1 ?_;rw[rounds_succ];go_wp2;go_ret;exact⟨rfl,k1⟩
