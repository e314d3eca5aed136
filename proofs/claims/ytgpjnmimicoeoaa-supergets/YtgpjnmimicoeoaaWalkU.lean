/- The walk of the law on what a page says. Conditions: numbers are within their kinds, a string's size is within Go's bound. -/
import Derived.Test.YtgpjnmimicoeoaaWalkT
import Derived.Deep.CutRange
namespace Go.Proofs.Ytgpjnmimicoeoaa
open Go.ChangeShapes Go.WideShapes Go.ChangeAt Go.RowKit
attribute [local go_sem ↓] Go.wp_at_zero Go.wp_at_succ

set_option maxRecDepth 100000 in
set_option maxHeartbeats 4000000 in
theorem gets_A (kd nm a t : Int) (g : Nat) (s D P : ByteArray) (hD : s.extract 0 (min (s.size : Int) 20).toNat = D) (hT : bits .and .i64 a 1 = t)
    (f12 : ∀ W, Calls Try.prog 12 #[.agg #[.int .i64 (bits .and .i64 kd 3), .int .i64 (bits .and .i64 nm 3), .int .u64 (g : Nat), .string D]] W fun e w' => e = .returned (.string P) ∧ Kept W w')
    (X Y : Int) (b : Bool)
    (f8 : ∀ W, Calls Try.prog 8 #[.string P, .int .i64 t] W fun e w' => e = .returned (.tuple #[.agg #[.int .u64 X, .int .i64 Y], .bool b]) ∧ Kept W w')
    (f13 : ∀ W, Calls Try.prog 13 #[.string P, .int .i64 t] W fun e w' => e = .returned (.tuple #[.agg #[.int .u64 X, .int .i64 Y], .bool b]) ∧ Kept W w') (w : World) :
    Calls Try.prog 4 #[.agg #[.int .i64 kd, .int .i64 nm, .int .u64 (g : Nat), .string s], .int .i64 a] w fun e w' => e = .returned (.bool true) ∧ Kept w w' := by
  have m1 : (0 : Int) ≤ min (s.size : Int) 20 := by omega
  have m2 : min (s.size : Int) 20 ≤ (s.size : Int) := by omega
  have P0 := Pg.alloc (w.alloc (.cells #[.int .i64 kd, .int .i64 nm, .int .u64 (g : Nat), .string s] 32)) (bits .and .i64 kd 3) (bits .and .i64 nm 3) g D 32
  rw [show (w.alloc (.cells #[.int .i64 kd, .int .i64 nm, .int .u64 (g : Nat), .string s] 32)).heap.size = w.heap.size + 1 by simp] at P0
  have P0 := ((Kept.refl _).drew).pg P0
  obtain ⟨k1, hk1⟩ : ∃ k1, bits .and .i64 kd 3 = k1 := ⟨_, rfl⟩
  obtain ⟨n1, hn1⟩ : ∃ n1, bits .and .i64 nm 3 = n1 := ⟨_, rfl⟩
  rw [hk1, hn1] at f12 P0
  go_enter Try.func4, Try.ntmps4
  go_upto_region 2 with fail
  go_cut [] from 12 to 27 (fun wx => wx = ((w.alloc (.cells #[.int .i64 kd, .int .i64 nm, .int .u64 (g : Nat), .string s] 32)).alloc (.cells #[.int .i64 k1, .int .i64 n1, .int .u64 (g : Nat), .string D] 32)).drew)
  case first =>
    go_region_held3 (fun W => W.cell? ⟨w.heap.size, 0, none⟩ = some (.int .i64 kd) ∧ W.cell? ⟨w.heap.size, 1, none⟩ = some (.int .i64 nm) ∧ W.cell? ⟨w.heap.size, 3, none⟩ = some (.string s)) (go_keep) (fail)
    all_goals go_wp2_with fail
    all_goals go_meet
    all_goals rfl
  case rest =>
    obtain rfl := hcut
    obtain ⟨p0, p1, p2, p3⟩ := P0.cs
    have K0 : Hid (Kept w ((w.alloc (.cells #[.int .i64 kd, .int .i64 nm, .int .u64 (g : Nat), .string s] 32)).alloc (.cells #[.int .i64 k1, .int .i64 n1, .int .u64 (g : Nat), .string D] 32)).drew) := (((Kept.refl w).alloc _).alloc _).drew
    go_wp2_with (first
      | (go_at_call 12; (with_reducible refine (f12 _).mono ?_); rintro e v1 ⟨rfl, q1⟩)
      | (go_at_call 8; (with_reducible refine (f8 _).mono ?_); rintro e v2 ⟨rfl, q2⟩; have Y2 := Sp.alloc v2 X Y)
      | (go_at_call 13; (with_reducible refine (f13 _).mono ?_); rintro e v3 ⟨rfl, q3⟩; have Y3 := (q3.alloc (.cells #[.int .u64 X, .int .i64 Y] 24)).sp Y2; have Z3 := Sp.alloc v3 X Y)
      | (go_at_call 9; (with_reducible refine (awake_walk _).mono ?_); rintro e v5 ⟨rfl, q5⟩; have Y5 := q5.sp Y3; have Z5 := q5.sp Z3; obtain ⟨y0, y1⟩ := Y5.cs; obtain ⟨z0, z1⟩ := Z5.cs))
    go_ret
    exact ⟨rfl, (((((K0.out.trans q1).trans q2).alloc _).trans q3).alloc _).trans q5⟩

/-- Both answer the same. -/
theorem gets_same (s : List Nat) (hs : Small s) (a : Int) : ∃ (X Y : Int) (b : Bool),
    (∀ W, Calls Try.prog 8 #[.string (bs s), .int .i64 a] W fun e w' => e = .returned (.tuple #[.agg #[.int .u64 X, .int .i64 Y], .bool b]) ∧ Kept W w') ∧
    (∀ W, Calls Try.prog 13 #[.string (bs s), .int .i64 a] W fun e w' => e = .returned (.tuple #[.agg #[.int .u64 X, .int .i64 Y], .bool b]) ∧ Kept W w') := by
  by_cases h : ∃ (g : Nat) (r : Int), Sup g r ∧ s = supP g r ∧ a = ((g % 2 : Nat) : Int)
  · obtain ⟨g, r, h1, h2, h3⟩ := h
    exact ⟨g, r, true, fun W => (sget_walk s hs a W).mono (fun _ _ ⟨e, k⟩ => ⟨e.yes g r h1 h2 h3, k⟩), fun W => (lget_walk s hs a W).mono (fun _ _ ⟨e, k⟩ => ⟨e.yes g r h1 h2 h3, k⟩)⟩
  · have hn : ∀ g r, Sup g r → s = supP g r → a ≠ ((g % 2 : Nat) : Int) := fun g r h1 h2 h3 => h ⟨g, r, h1, h2, h3⟩
    exact ⟨0, 0, false, fun W => (sget_walk s hs a W).mono (fun _ _ ⟨e, k⟩ => ⟨e.no hn, k⟩), fun W => (lget_walk s hs a W).mono (fun _ _ ⟨e, k⟩ => ⟨e.no hn, k⟩)⟩

theorem gets_walk (kd nm : Int) (g : Nat) (hg : g < 18446744073709551616) (s : ByteArray) (a : Int) (w : World) :
    Calls Try.prog 4 #[.agg #[.int .i64 kd, .int .i64 nm, .int .u64 (g : Nat), .string s], .int .i64 a] w fun e w' => e = .returned (.bool true) ∧ Kept w w' := by
  obtain ⟨D, hD⟩ : ∃ D, s.extract 0 (min (s.size : Int) 20).toNat = D := ⟨_, rfl⟩
  have f12 := rput_walk (bits .and .i64 kd 3) (bits .and .i64 nm 3) g hg (un D)
  rw [bs_un] at f12
  obtain ⟨X, Y, b, f8, f13⟩ := gets_same (putL (bits .and .i64 kd 3) (bits .and .i64 nm 3) g (un D)) (putL_small _ _ _ (un_small D)) (bits .and .i64 a 1)
  exact gets_A kd nm a _ g s D _ hD rfl f12 X Y b f8 f13 w
end Go.Proofs.Ytgpjnmimicoeoaa
