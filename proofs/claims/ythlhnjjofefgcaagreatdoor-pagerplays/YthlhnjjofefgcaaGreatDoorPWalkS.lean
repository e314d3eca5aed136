/- The walks of super.Choose and of awake. Conditions: what Get answers of both sectors is given. -/
import Derived.Test.YthlhnjjofefgcaaGreatDoorPWalkQ
namespace Go.Proofs.YthlhnjjofefgcaaGreatDoor.P
open Go.ChangeShapes Go.WideShapes Go.ChangeAt Go.RowKit
attribute [local go_sem ↓] Go.wp_at_zero Go.wp_at_succ

set_option maxRecDepth 100000 in
set_option maxHeartbeats 1000000 in
theorem choose_odd (A B : ByteArray) (g1 g2 : Nat) (r1 r2 : Int) (b1 : Bool) (hg : g1 < g2)
    (f1 : ∀ W, Calls Tryz.prog 75 #[.string A, .int .i64 0] W fun e w' => e = .returned (.tuple #[.agg #[.int .u64 (g1 : Nat), .int .i64 r1], .bool b1]) ∧ Kept W w')
    (f2 : ∀ W, Calls Tryz.prog 75 #[.string B, .int .i64 1] W fun e w' => e = .returned (.tuple #[.agg #[.int .u64 (g2 : Nat), .int .i64 r2], .bool true]) ∧ Kept W w') (w : World) :
    Calls Tryz.prog 55 #[.string A, .string B] w fun e w' => e = .returned (.tuple #[.agg #[.int .u64 (g2 : Nat), .int .i64 r2], .bool true]) ∧ Kept w w' := by
  have hg' : (g1 : Int) < (g2 : Int) := by omega
  go_enter Tryz.func55, Tryz.ntmps55
  go_wp2_with (first
    | (go_at_call 75; (with_reducible refine (f1 _).mono ?_); rintro e v1 ⟨rfl, q1⟩; have Z1 := ((Kept.refl v1).alloc (.cells #[.int .u64 (g1 : Nat), .int .i64 r1] 52)).sp (q1.sp (Sp.alloc w 0 0)); have Y1 := Sp.alloc v1 g1 r1)
    | (go_at_call 75; (with_reducible refine (f2 _).mono ?_); rintro e v2 ⟨rfl, q2⟩; have k2 : Kept v2 (v2.alloc (.cells #[.int .u64 (g2 : Nat), .int .i64 r2] 52)) := (Kept.refl v2).alloc _; have Z2 := k2.sp (q2.sp Z1); have Y2 := k2.sp (q2.sp Y1); obtain ⟨y0, y1⟩ := Y2.cs; obtain ⟨⟨z0, h0⟩, z1, h1⟩ := Z2.ready (g2 : Nat)))
  refine bodyPost_ret (v := .tuple #[.agg #[.int .u64 (g2 : Nat), .int .i64 r2], .bool true]) ?_ rfl ⟨rfl, ?_⟩
  · exact results_two (p := 4) (u := 5) (ty := 52) rfl _ _ w.heap.size 52 _ (0, 0) _ rfl (Z2.fill g2 r2).out Tryz.underlying52 rfl size52
  · exact ((((((((Kept.refl w).alloc _).trans q1).alloc _).trans q2).alloc _).set (Nat.le_refl _) _).set (Nat.le_refl _) _)

set_option maxRecDepth 100000 in
set_option maxHeartbeats 1000000 in
theorem choose_none (A B : ByteArray) (g1 g2 : Nat) (r1 r2 : Int) (b1 : Bool)
    (f1 : ∀ W, Calls Tryz.prog 75 #[.string A, .int .i64 0] W fun e w' => e = .returned (.tuple #[.agg #[.int .u64 (g1 : Nat), .int .i64 r1], .bool b1]) ∧ Kept W w')
    (f2 : ∀ W, Calls Tryz.prog 75 #[.string B, .int .i64 1] W fun e w' => e = .returned (.tuple #[.agg #[.int .u64 (g2 : Nat), .int .i64 r2], .bool false]) ∧ Kept W w') (w : World) :
    Calls Tryz.prog 55 #[.string A, .string B] w fun e w' => e = .returned (.tuple #[.agg #[.int .u64 (g1 : Nat), .int .i64 r1], .bool b1]) ∧ Kept w w' := by
  go_enter Tryz.func55, Tryz.ntmps55
  go_wp2_with (first
    | (go_at_call 75; (with_reducible refine (f1 _).mono ?_); rintro e v1 ⟨rfl, q1⟩; have Z1 := ((Kept.refl v1).alloc (.cells #[.int .u64 (g1 : Nat), .int .i64 r1] 52)).sp (q1.sp (Sp.alloc w 0 0)); have Y1 := Sp.alloc v1 g1 r1)
    | (go_at_call 75; (with_reducible refine (f2 _).mono ?_); rintro e v2 ⟨rfl, q2⟩; have k2 : Kept v2 (v2.alloc (.cells #[.int .u64 (g2 : Nat), .int .i64 r2] 52)) := (Kept.refl v2).alloc _; have Z2 := k2.sp (q2.sp Z1); have Y2 := k2.sp (q2.sp Y1); obtain ⟨y0, y1⟩ := Y2.cs; obtain ⟨⟨z0, h0⟩, z1, h1⟩ := Z2.ready (g1 : Nat)))
  refine bodyPost_ret (v := .tuple #[.agg #[.int .u64 (g1 : Nat), .int .i64 r1], .bool b1]) ?_ rfl ⟨rfl, ?_⟩
  · exact results_two (p := 4) (u := 5) (ty := 52) rfl _ _ w.heap.size 52 _ (0, 0) _ rfl (Z2.fill g1 r1).out Tryz.underlying52 rfl size52
  · exact ((((((((Kept.refl w).alloc _).trans q1).alloc _).trans q2).alloc _).set (Nat.le_refl _) _).set (Nat.le_refl _) _)

set_option maxRecDepth 100000 in
set_option maxHeartbeats 1000000 in
theorem choose_even (A B : ByteArray) (g1 g2 : Nat) (r1 r2 : Int) (b1 : Bool) (hg : ¬ g1 < g2)
    (f1 : ∀ W, Calls Tryz.prog 75 #[.string A, .int .i64 0] W fun e w' => e = .returned (.tuple #[.agg #[.int .u64 (g1 : Nat), .int .i64 r1], .bool b1]) ∧ Kept W w')
    (f2 : ∀ W, Calls Tryz.prog 75 #[.string B, .int .i64 1] W fun e w' => e = .returned (.tuple #[.agg #[.int .u64 (g2 : Nat), .int .i64 r2], .bool true]) ∧ Kept W w') (w : World) :
    Calls Tryz.prog 55 #[.string A, .string B] w fun e w' => e = .returned (.tuple #[.agg #[.int .u64 (g1 : Nat), .int .i64 r1], .bool b1]) ∧ Kept w w' := by
  have hg' : ¬ (g1 : Int) < (g2 : Int) := by omega
  go_enter Tryz.func55, Tryz.ntmps55
  go_wp2_with (first
    | (go_at_call 75; (with_reducible refine (f1 _).mono ?_); rintro e v1 ⟨rfl, q1⟩; have Z1 := ((Kept.refl v1).alloc (.cells #[.int .u64 (g1 : Nat), .int .i64 r1] 52)).sp (q1.sp (Sp.alloc w 0 0)); have Y1 := Sp.alloc v1 g1 r1)
    | (go_at_call 75; (with_reducible refine (f2 _).mono ?_); rintro e v2 ⟨rfl, q2⟩; have k2 : Kept v2 (v2.alloc (.cells #[.int .u64 (g2 : Nat), .int .i64 r2] 52)) := (Kept.refl v2).alloc _; have Z2 := k2.sp (q2.sp Z1); have Y2 := k2.sp (q2.sp Y1); obtain ⟨y0, y1⟩ := Y2.cs; obtain ⟨⟨z0, h0⟩, z1, h1⟩ := Z2.ready (g1 : Nat)))
  refine bodyPost_ret (v := .tuple #[.agg #[.int .u64 (g1 : Nat), .int .i64 r1], .bool b1]) ?_ rfl ⟨rfl, ?_⟩
  · exact results_two (p := 4) (u := 5) (ty := 52) rfl _ _ w.heap.size 52 _ (0, 0) _ rfl (Z2.fill g1 r1).out Tryz.underlying52 rfl size52
  · exact ((((((((Kept.refl w).alloc _).trans q1).alloc _).trans q2).alloc _).set (Nat.le_refl _) _).set (Nat.le_refl _) _)

end Go.Proofs.YthlhnjjofefgcaaGreatDoor.P
