/- The walk of the law on a state's sector. Conditions: numbers are within their kinds. -/
import Derived.Test.YtgpjnmimicoeoaaWalkS
namespace Go.Proofs.Ytgpjnmimicoeoaa
open Go.ChangeShapes Go.WideShapes Go.ChangeAt Go.RowKit
attribute [local go_sem ↓] Go.wp_at_zero Go.wp_at_succ

set_option maxRecDepth 100000 in
set_option maxHeartbeats 2000000 in
theorem puts_A (g : Nat) (r t : Int) (P : ByteArray) (he : P.toList.isEmpty = false) (ht : (g : Int) % 2 = t)
    (f6 : ∀ W, Calls Try.prog 6 #[.agg #[.int .u64 (g : Nat), .int .i64 r]] W fun e w' => e = .returned (.string P) ∧ Kept W w')
    (f7 : ∀ W, Calls Try.prog 7 #[.int .u64 (g : Nat)] W fun e w' => e = .returned (.int .i64 t) ∧ Kept W w')
    (f8 : ∀ W, Calls Try.prog 8 #[.string P, .int .i64 t] W fun e w' => e = .returned (.tuple #[.agg #[.int .u64 (g : Nat), .int .i64 r], .bool true]) ∧ Kept W w')
    (f8' : ∀ W, Calls Try.prog 8 #[.string P, .int .i64 (1 - t)] W fun e w' => e = .returned (.tuple #[.agg #[.int .u64 0, .int .i64 0], .bool false]) ∧ Kept W w')
    (f10 : ∀ W, Calls Try.prog 10 #[.agg #[.int .u64 (g : Nat), .int .i64 r]] W fun e w' => e = .returned (.string P) ∧ Kept W w')
    (f11 : ∀ W, Calls Try.prog 11 #[.agg #[.int .u64 (g : Nat), .int .i64 r]] W fun e w' => e = .returned (.bool true) ∧ Kept W w') (w : World) :
    Calls Try.prog 3 #[.agg #[.int .u64 (g : Nat), .int .i64 r]] w fun e w' => e = .returned (.bool true) ∧ Kept w w' := by
  go_enter Try.func3, Try.ntmps3
  go_wp2_with (first
    | (go_at_call 6; (with_reducible refine (f6 _).mono ?_); rintro e v1 ⟨rfl, q1⟩; have P1 := q1.sp (Sp.alloc w g r); obtain ⟨c10, c11⟩ := P1.cs)
    | (go_at_call 7; (with_reducible refine (f7 _).mono ?_); rintro e v2 ⟨rfl, q2⟩; have P2 := q2.sp P1; obtain ⟨c20, c21⟩ := P2.cs)
    | (go_at_call 8; (with_reducible refine (f8 _).mono ?_); rintro e v3 ⟨rfl, q3⟩; have P3 := ((Kept.refl v3).alloc (.cells #[.int .u64 (g : Nat), .int .i64 r] 24)).sp (q3.sp P2); have Y3 := Sp.alloc v3 g r; clear f8)
    | (go_at_call 8; (with_reducible refine (f8' _).mono ?_); rintro e v4 ⟨rfl, q4⟩; have k4 : Kept v4 (v4.alloc (.cells #[.int .u64 0, .int .i64 0] 24)) := (Kept.refl v4).alloc _; have P4 := k4.sp (q4.sp P3); have Y4 := k4.sp (q4.sp Y3); obtain ⟨c40, c41⟩ := P4.cs; obtain ⟨d40, d41⟩ := Y4.cs)
    | (go_at_call 9; (with_reducible refine (awake_walk _).mono ?_); rintro e v5 ⟨rfl, q5⟩; have P5 := q5.sp P4; have Y5 := q5.sp Y4; obtain ⟨c50, c51⟩ := P5.cs)
    | (go_at_call 10; (with_reducible refine (f10 _).mono ?_); rintro e v6 ⟨rfl, q6⟩; have P6 := q6.sp P5; have Y6 := q6.sp Y5; obtain ⟨c60, c61⟩ := P6.cs)
    | (go_at_call 11; (with_reducible refine (f11 _).mono ?_); rintro e v7 ⟨rfl, q7⟩; have P7 := q7.sp P6; have Y7 := q7.sp Y6; obtain ⟨c70, c71⟩ := P7.cs; obtain ⟨d70, d71⟩ := Y7.cs))
  go_ret
  exact ⟨rfl, ((((((((((Kept.refl w).alloc _).trans q1).trans q2).trans q3).alloc _).trans q4).alloc _).trans q5).trans q6).trans q7⟩

set_option maxRecDepth 100000 in
set_option maxHeartbeats 2000000 in
theorem puts_B (g : Nat) (r t : Int) (ht : (g : Int) % 2 = t)
    (f6 : ∀ W, Calls Try.prog 6 #[.agg #[.int .u64 (g : Nat), .int .i64 r]] W fun e w' => e = .returned (.string ⟨#[]⟩) ∧ Kept W w')
    (f7 : ∀ W, Calls Try.prog 7 #[.int .u64 (g : Nat)] W fun e w' => e = .returned (.int .i64 t) ∧ Kept W w')
    (f8 : ∀ a W, Calls Try.prog 8 #[.string ⟨#[]⟩, .int .i64 a] W fun e w' => e = .returned (.tuple #[.agg #[.int .u64 0, .int .i64 0], .bool false]) ∧ Kept W w')
    (f10 : ∀ W, Calls Try.prog 10 #[.agg #[.int .u64 (g : Nat), .int .i64 r]] W fun e w' => e = .returned (.string ⟨#[]⟩) ∧ Kept W w')
    (f11 : ∀ W, Calls Try.prog 11 #[.agg #[.int .u64 (g : Nat), .int .i64 r]] W fun e w' => e = .returned (.bool false) ∧ Kept W w') (w : World) :
    Calls Try.prog 3 #[.agg #[.int .u64 (g : Nat), .int .i64 r]] w fun e w' => e = .returned (.bool true) ∧ Kept w w' := by
  have f8a := f8 t
  have f8b := f8 (1 - t)
  clear f8
  go_enter Try.func3, Try.ntmps3
  go_wp2_with (first
    | (go_at_call 6; (with_reducible refine (f6 _).mono ?_); rintro e v1 ⟨rfl, q1⟩; have P1 := q1.sp (Sp.alloc w g r); obtain ⟨c10, c11⟩ := P1.cs)
    | (go_at_call 7; (with_reducible refine (f7 _).mono ?_); rintro e v2 ⟨rfl, q2⟩; have P2 := q2.sp P1; obtain ⟨c20, c21⟩ := P2.cs)
    | (go_at_call 8; (with_reducible refine (f8a _).mono ?_); rintro e v3 ⟨rfl, q3⟩; have P3 := ((Kept.refl v3).alloc (.cells #[.int .u64 0, .int .i64 0] 24)).sp (q3.sp P2); have Y3 := Sp.alloc v3 0 0; clear f8a)
    | (go_at_call 8; (with_reducible refine (f8b _).mono ?_); rintro e v4 ⟨rfl, q4⟩; have k4 : Kept v4 (v4.alloc (.cells #[.int .u64 0, .int .i64 0] 24)) := (Kept.refl v4).alloc _; have P4 := k4.sp (q4.sp P3); have Y4 := k4.sp (q4.sp Y3); obtain ⟨c40, c41⟩ := P4.cs; obtain ⟨d40, d41⟩ := Y4.cs)
    | (go_at_call 9; (with_reducible refine (awake_walk _).mono ?_); rintro e v5 ⟨rfl, q5⟩; have P5 := q5.sp P4; have Y5 := q5.sp Y4; obtain ⟨c50, c51⟩ := P5.cs)
    | (go_at_call 10; (with_reducible refine (f10 _).mono ?_); rintro e v6 ⟨rfl, q6⟩; have P6 := q6.sp P5; have Y6 := q6.sp Y5; obtain ⟨c60, c61⟩ := P6.cs)
    | (go_at_call 11; (with_reducible refine (f11 _).mono ?_); rintro e v7 ⟨rfl, q7⟩; have P7 := q7.sp P6; have Y7 := q7.sp Y6; obtain ⟨c70, c71⟩ := P7.cs; obtain ⟨d70, d71⟩ := Y7.cs))
  go_ret
  exact ⟨rfl, ((((((((((Kept.refl w).alloc _).trans q1).trans q2).trans q3).alloc _).trans q4).alloc _).trans q5).trans q6).trans q7⟩

theorem supP_some {g : Nat} {r : Int} (h : Sup g r) : (bs (supP g r)).toList.isEmpty = false := by
  have hl := supP_length h
  rw [bs_toList]
  cases hp : supP g r with
  | nil => rw [hp] at hl; cases hl
  | cons x t => rfl

theorem puts_walk (g : Nat) (r : Int) (w : World) :
    Calls Try.prog 3 #[.agg #[.int .u64 (g : Nat), .int .i64 r]] w fun e w' => e = .returned (.bool true) ∧ Kept w w' := by
  by_cases h : Sup g r
  · exact puts_A g r ((g % 2 : Nat) : Int) (bs (supP g r)) (supP_some h) (by omega) (sput_yes g r h) (where_kept g) (fun W => sget_yes h rfl W) (fun W => sget_other h (by omega) W) (lput_yes g r h) (smay_yes g r h) w
  · exact puts_B g r ((g % 2 : Nat) : Int) (by omega) (sput_no g r h) (where_kept g) sget_empty (lput_no g r h) (smay_no g r h) w
end Go.Proofs.Ytgpjnmimicoeoaa
