/- Joined: UB. What is proved of the functions beneath BtreeEnds,BtreeFull,BtreeShape,BtreePlays. Conditions: those that each row names. -/
import Derived.Test.YtncfpjccfmolgaaGreatDoorZbk
namespace Go.Proofs.YtncfpjccfmolgaaGreatDoor.T
open Go.ChangeShapes Go.WideShapes Go.ChangeAt Go.RowKit
open N (Kept C4)
set_option maxRecDepth 100000 in
set_option maxHeartbeats 1000000 in
theorem key_walk {w:World} (a wd:Int) (k v:ByteArray) :
  Calls Tryz.prog 10 #[.agg #[.int .i64 a,.string k,.string v,.int .i64 wd]] w fun e w'=>∃ s:ByteArray,e=.returned (.string s)∧s.size≤64∧Kept w w':=by
 have K0:Kept w (w.alloc (.cells #[.int .i64 a,.string k,.string v,.int .i64 wd] 31)):=(Kept.refl w).alloc _
 have X0:=C4.alloc w 31 (.int .i64 a) (.string k) (.string v) (.int .i64 wd)
 obtain⟨b0,b1,b2,b3⟩:=X0.cs
 go_enter Tryz.func10,Tryz.ntmps10
 go_wp2
 go_loopg [3,4] 64 (fun gg sv iv wx=>∃ (i:Nat) (s:ByteArray),sv=.string s∧iv=.int .i64 (i:Nat)∧Hid (64-s.size≤gg)∧i≤s.size∧s.size≤64∧C4 wx w.heap.size 31 (.int .i64 a) (.string k) (.string v) (.int .i64 wd)∧Kept w wx)
 case atStart=>exact⟨0,_,rfl,rfl,Nat.sub_le _ _,Nat.zero_le _,by rw[ByteArray.size_extract];omega,X0,K0⟩
 case round=>
  obtain⟨i,s,rfl,rfl,hg,hi,hs,X,K⟩:=hrel
  obtain⟨c0,c1,c2,c3⟩:=X.cs
  clear X0 K0 b0 b1 b2 b3
  by_cases h1:(i:Int)<bits .and .i64 wd 63
  ·by_cases h2:(s.size:Int)<64
   ·have e1:(s++(⟨#[46]⟩:ByteArray)).size=s.size+1:=by rw[ByteArray.size_append];rfl
    have hg':64-s.size≤gk:=hg
    go_wp2
    go_roundg (64-(s.size+1))
    case measure=>omega
    case rel=>exact⟨i+1,_,rfl,by go_num,by show _≤_;rw[e1];exact Nat.le_refl _,by omega,by omega,X,K⟩
   ·go_wp2
    go_ret
    exact⟨s,rfl,hs,K⟩
  ·go_wp2
   go_ret
   exact⟨s,rfl,hs,K⟩
end Go.Proofs.YtncfpjccfmolgaaGreatDoor.T