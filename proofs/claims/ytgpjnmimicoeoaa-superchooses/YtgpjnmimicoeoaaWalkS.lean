/- The walks of super.Choose and of awake. Conditions: what Get answers of both sectors is given. -/
import Derived.Test.YtgpjnmimicoeoaaWalkR
namespace Go.Proofs.Ytgpjnmimicoeoaa
open Go.ChangeShapes Go.WideShapes Go.ChangeAt Go.RowKit
attribute [local go_sem ↓] Go.wp_at_zero Go.wp_at_succ

set_option maxRecDepth 100000 in
set_option maxHeartbeats 1000000 in
theorem choose_odd (A B : ByteArray) (g1 g2 : Nat) (r1 r2 : Int) (b1 : Bool) (hg : g1 < g2)
    (f1 : ∀ W, Calls Try.prog 8 #[.string A, .int .i64 0] W fun e w' => e = .returned (.tuple #[.agg #[.int .u64 (g1 : Nat), .int .i64 r1], .bool b1]) ∧ Kept W w')
    (f2 : ∀ W, Calls Try.prog 8 #[.string B, .int .i64 1] W fun e w' => e = .returned (.tuple #[.agg #[.int .u64 (g2 : Nat), .int .i64 r2], .bool true]) ∧ Kept W w') (w : World) :
    Calls Try.prog 14 #[.string A, .string B] w fun e w' => e = .returned (.tuple #[.agg #[.int .u64 (g2 : Nat), .int .i64 r2], .bool true]) ∧ Kept w w' := by
  have hg' : (g1 : Int) < (g2 : Int) := by omega
  go_enter Try.func14, Try.ntmps14
  go_wp2_with (first
    | (go_at_call 8; (with_reducible refine (f1 _).mono ?_); rintro e v1 ⟨rfl, q1⟩; have Z1 := ((Kept.refl v1).alloc (.cells #[.int .u64 (g1 : Nat), .int .i64 r1] 24)).sp (q1.sp (Sp.alloc w 0 0)); have Y1 := Sp.alloc v1 g1 r1)
    | (go_at_call 8; (with_reducible refine (f2 _).mono ?_); rintro e v2 ⟨rfl, q2⟩; have k2 : Kept v2 (v2.alloc (.cells #[.int .u64 (g2 : Nat), .int .i64 r2] 24)) := (Kept.refl v2).alloc _; have Z2 := k2.sp (q2.sp Z1); have Y2 := k2.sp (q2.sp Y1); obtain ⟨y0, y1⟩ := Y2.cs; obtain ⟨⟨z0, h0⟩, z1, h1⟩ := Z2.ready (g2 : Nat)))
  refine bodyPost_ret (v := .tuple #[.agg #[.int .u64 (g2 : Nat), .int .i64 r2], .bool true]) ?_ rfl ⟨rfl, ?_⟩
  · exact results_two (p := 4) (u := 5) (ty := 24) rfl _ _ w.heap.size 24 _ (0, 0) _ rfl (Z2.fill g2 r2).out Try.underlying24 rfl size24
  · exact ((((((((Kept.refl w).alloc _).trans q1).alloc _).trans q2).alloc _).set (Nat.le_refl _) _).set (Nat.le_refl _) _)

set_option maxRecDepth 100000 in
set_option maxHeartbeats 1000000 in
theorem choose_none (A B : ByteArray) (g1 g2 : Nat) (r1 r2 : Int) (b1 : Bool)
    (f1 : ∀ W, Calls Try.prog 8 #[.string A, .int .i64 0] W fun e w' => e = .returned (.tuple #[.agg #[.int .u64 (g1 : Nat), .int .i64 r1], .bool b1]) ∧ Kept W w')
    (f2 : ∀ W, Calls Try.prog 8 #[.string B, .int .i64 1] W fun e w' => e = .returned (.tuple #[.agg #[.int .u64 (g2 : Nat), .int .i64 r2], .bool false]) ∧ Kept W w') (w : World) :
    Calls Try.prog 14 #[.string A, .string B] w fun e w' => e = .returned (.tuple #[.agg #[.int .u64 (g1 : Nat), .int .i64 r1], .bool b1]) ∧ Kept w w' := by
  go_enter Try.func14, Try.ntmps14
  go_wp2_with (first
    | (go_at_call 8; (with_reducible refine (f1 _).mono ?_); rintro e v1 ⟨rfl, q1⟩; have Z1 := ((Kept.refl v1).alloc (.cells #[.int .u64 (g1 : Nat), .int .i64 r1] 24)).sp (q1.sp (Sp.alloc w 0 0)); have Y1 := Sp.alloc v1 g1 r1)
    | (go_at_call 8; (with_reducible refine (f2 _).mono ?_); rintro e v2 ⟨rfl, q2⟩; have k2 : Kept v2 (v2.alloc (.cells #[.int .u64 (g2 : Nat), .int .i64 r2] 24)) := (Kept.refl v2).alloc _; have Z2 := k2.sp (q2.sp Z1); have Y2 := k2.sp (q2.sp Y1); obtain ⟨y0, y1⟩ := Y2.cs; obtain ⟨⟨z0, h0⟩, z1, h1⟩ := Z2.ready (g1 : Nat)))
  refine bodyPost_ret (v := .tuple #[.agg #[.int .u64 (g1 : Nat), .int .i64 r1], .bool b1]) ?_ rfl ⟨rfl, ?_⟩
  · exact results_two (p := 4) (u := 5) (ty := 24) rfl _ _ w.heap.size 24 _ (0, 0) _ rfl (Z2.fill g1 r1).out Try.underlying24 rfl size24
  · exact ((((((((Kept.refl w).alloc _).trans q1).alloc _).trans q2).alloc _).set (Nat.le_refl _) _).set (Nat.le_refl _) _)

set_option maxRecDepth 100000 in
set_option maxHeartbeats 1000000 in
theorem choose_even (A B : ByteArray) (g1 g2 : Nat) (r1 r2 : Int) (b1 : Bool) (hg : ¬ g1 < g2)
    (f1 : ∀ W, Calls Try.prog 8 #[.string A, .int .i64 0] W fun e w' => e = .returned (.tuple #[.agg #[.int .u64 (g1 : Nat), .int .i64 r1], .bool b1]) ∧ Kept W w')
    (f2 : ∀ W, Calls Try.prog 8 #[.string B, .int .i64 1] W fun e w' => e = .returned (.tuple #[.agg #[.int .u64 (g2 : Nat), .int .i64 r2], .bool true]) ∧ Kept W w') (w : World) :
    Calls Try.prog 14 #[.string A, .string B] w fun e w' => e = .returned (.tuple #[.agg #[.int .u64 (g1 : Nat), .int .i64 r1], .bool b1]) ∧ Kept w w' := by
  have hg' : ¬ (g1 : Int) < (g2 : Int) := by omega
  go_enter Try.func14, Try.ntmps14
  go_wp2_with (first
    | (go_at_call 8; (with_reducible refine (f1 _).mono ?_); rintro e v1 ⟨rfl, q1⟩; have Z1 := ((Kept.refl v1).alloc (.cells #[.int .u64 (g1 : Nat), .int .i64 r1] 24)).sp (q1.sp (Sp.alloc w 0 0)); have Y1 := Sp.alloc v1 g1 r1)
    | (go_at_call 8; (with_reducible refine (f2 _).mono ?_); rintro e v2 ⟨rfl, q2⟩; have k2 : Kept v2 (v2.alloc (.cells #[.int .u64 (g2 : Nat), .int .i64 r2] 24)) := (Kept.refl v2).alloc _; have Z2 := k2.sp (q2.sp Z1); have Y2 := k2.sp (q2.sp Y1); obtain ⟨y0, y1⟩ := Y2.cs; obtain ⟨⟨z0, h0⟩, z1, h1⟩ := Z2.ready (g1 : Nat)))
  refine bodyPost_ret (v := .tuple #[.agg #[.int .u64 (g1 : Nat), .int .i64 r1], .bool b1]) ?_ rfl ⟨rfl, ?_⟩
  · exact results_two (p := 4) (u := 5) (ty := 24) rfl _ _ w.heap.size 24 _ (0, 0) _ rfl (Z2.fill g1 r1).out Try.underlying24 rfl size24
  · exact ((((((((Kept.refl w).alloc _).trans q1).alloc _).trans q2).alloc _).set (Nat.le_refl _) _).set (Nat.le_refl _) _)

set_option maxRecDepth 100000 in
set_option maxHeartbeats 1000000 in
theorem awake_walk (w : World) : Calls Try.prog 9 #[] w fun e w' => e = .returned (.bool true) ∧ Kept w w' := by
  have h4 : Sup 4 7 := ⟨by decide, by decide, by decide, by decide⟩
  have h5 : Sup 5 9 := ⟨by decide, by decide, by decide, by decide⟩
  have a1 : ∀ w, Calls Try.prog 6 #[.agg #[.int .u64 4, .int .i64 7]] w fun e w' => e = .returned (.string (bs (supP 4 7))) ∧ Kept w w' := sput_yes 4 7 h4
  have a2 : ∀ w, Calls Try.prog 6 #[.agg #[.int .u64 5, .int .i64 9]] w fun e w' => e = .returned (.string (bs (supP 5 9))) ∧ Kept w w' := sput_yes 5 9 h5
  have a3 : ∀ w, Calls Try.prog 14 #[.string (bs (supP 4 7)), .string (bs (supP 5 9))] w fun e w' => e = .returned (.tuple #[.agg #[.int .u64 5, .int .i64 9], .bool true]) ∧ Kept w w' := choose_odd (bs (supP 4 7)) (bs (supP 5 9)) 4 5 7 9 true (by omega) (fun W => sget_yes h4 (by decide) W) (fun W => sget_yes h5 (by decide) W)
  generalize bs (supP 4 7) = A at *
  generalize bs (supP 5 9) = B at *
  go_enter Try.func9, Try.ntmps9
  go_wp2_with (first
    | (go_at_call 6; (with_reducible refine (a1 _).mono ?_); rintro e v1 ⟨rfl, q1⟩)
    | (go_at_call 6; (with_reducible refine (a2 _).mono ?_); rintro e v2 ⟨rfl, q2⟩)
    | (go_at_call 14; (with_reducible refine (a3 _).mono ?_); rintro e v3 ⟨rfl, q3⟩))
  go_ret
  exact ⟨rfl, ((q1.trans q2).trans q3).alloc _⟩
end Go.Proofs.Ytgpjnmimicoeoaa
