/- The walks of awake and of the law on pages there and back. Conditions: numbers are within their kinds, a string's size is within Go's bound. -/
import Derived.Test.YtkllkdmmncegfaaWalkK
namespace Go.Proofs.Ytkllkdmmncegfaa
open Go.ChangeShapes Go.WideShapes Go.ChangeAt Go.RowKit
attribute [local go_sem ↓] Go.wp_at_zero Go.wp_at_succ

theorem get_back (kd nm : Int) (g : Nat) (hg : g < 18446744073709551616) (l : List Nat) (hl : Small l) (hm : May kd nm l) (w : World) :
    Calls Try.prog 10 #[.string (bs (putL kd nm g l))] w fun e w' => e = .returned (.tuple #[.agg #[.int .i64 kd, .int .i64 nm, .int .u64 (g : Nat), .string (bs l)], .int .i64 0]) ∧ Kept w w' := by
  obtain ⟨ho, h1, h2, h3, h4⟩ := page_okk kd nm g l hm hg
  have := get_yes _ (putL_small kd nm g hl) ho w
  rwa [h1, h2, h3, h4] at this

set_option maxRecDepth 100000 in
theorem awake_walk (w : World) : Calls Try.prog 8 #[] w fun e w' => e = .returned (.bool true) ∧ Kept w w' := by
  have a1 := put_walk 2 3 4 (by omega) [120]
  have hm : May 2 3 [120] := by unfold May; decide
  have a2 := get_back 2 3 4 (by omega) [120] (by intro x hx; simp at hx; omega) hm
  rw [show bs [120] = ⟨#[120]⟩ from rfl] at a1 a2
  generalize bs (putL 2 3 4 [120]) = P at *
  go_enter Try.func8, Try.ntmps8
  go_wp2_with (first
    | (go_at_call 6; refine (a1 _).mono ?_; rintro e w1 ⟨rfl, q1⟩)
    | (go_at_call 10; refine (a2 _).mono ?_; rintro e w2 ⟨rfl, q2⟩))
  go_ret
  exact ⟨rfl, (q1.trans q2).alloc _⟩

set_option maxRecDepth 100000 in
set_option maxHeartbeats 4000000 in
theorem puts_A (kd nm : Int) (g : Nat) (s D P : ByteArray) (hD : s.extract 0 (min (s.size : Int) 300).toNat = D) (he : P.toList.isEmpty = false)
    (f6 : ∀ W, Calls Try.prog 6 #[.agg #[.int .i64 kd, .int .i64 nm, .int .u64 (g : Nat), .string D]] W fun e w' => e = .returned (.string P) ∧ Kept W w')
    (f7 : ∀ W, Calls Try.prog 7 #[.agg #[.int .i64 kd, .int .i64 nm, .int .u64 (g : Nat), .string D]] W fun e w' => e = .returned (.string P) ∧ Kept W w')
    (f9 : ∀ W, Calls Try.prog 9 #[.agg #[.int .i64 kd, .int .i64 nm, .int .u64 (g : Nat), .string D]] W fun e w' => e = .returned (.bool true) ∧ Kept W w')
    (f10 : ∀ W, Calls Try.prog 10 #[.string P] W fun e w' => e = .returned (.tuple #[.agg #[.int .i64 kd, .int .i64 nm, .int .u64 (g : Nat), .string D], .int .i64 0]) ∧ Kept W w') (w : World) :
    Calls Try.prog 3 #[.agg #[.int .i64 kd, .int .i64 nm, .int .u64 (g : Nat), .string s]] w fun e w' => e = .returned (.bool true) ∧ Kept w w' := by
  go_enter Try.func3, Try.ntmps3
  go_wp2
  have P0 := Pg.alloc (w.alloc (.cells #[.int .i64 kd, .int .i64 nm, .int .u64 (g : Nat), .string s] 24)) kd nm g D 24
  rw [show (w.alloc (.cells #[.int .i64 kd, .int .i64 nm, .int .u64 (g : Nat), .string s] 24)).heap.size = w.heap.size + 1 by simp] at P0
  have P0 := ((Kept.refl _).drew).pg P0
  obtain ⟨p0, p1, p2, p3⟩ := P0.cs
  go_region_held3 (fun W => W.cell? ⟨w.heap.size + 1, 0, none⟩ = some (.int .i64 kd) ∧ W.cell? ⟨w.heap.size + 1, 1, none⟩ = some (.int .i64 nm) ∧ W.cell? ⟨w.heap.size + 1, 2, none⟩ = some (.int .u64 (g : Nat)) ∧ W.cell? ⟨w.heap.size + 1, 3, none⟩ = some (.string D)) (go_keep) (first
    | (go_at_call 6; with_reducible refine (f6 _).mono ?_; rintro e v1 ⟨rfl, q1⟩; have P1 := q1.pg P0; obtain ⟨p10, p11, p12, p13⟩ := P1.cs)
    | (go_at_call 7; with_reducible refine (f7 _).mono ?_; rintro e v2 ⟨rfl, q2⟩; have P2 := q2.pg P1; obtain ⟨p20, p21, p22, p23⟩ := P2.cs))
  go_wp2_with (first
    | (go_at_call 8; with_reducible refine (awake_walk _).mono ?_; rintro e v3 ⟨rfl, q3⟩; have P3 := q3.pg P2; obtain ⟨p30, p31, p32, p33⟩ := P3.cs)
    | (go_at_call 9; with_reducible refine (f9 _).mono ?_; rintro e v4 ⟨rfl, q4⟩; have P4 := q4.pg P3)
    | (go_at_call 10; with_reducible refine (f10 _).mono ?_; rintro e v5 ⟨rfl, q5⟩; have P5 := ((q5.alloc (.cells #[.int .i64 kd, .int .i64 nm, .int .u64 (g : Nat), .string D] 24)).pg P4); have Y5 := Pg.alloc v5 kd nm g D 24; obtain ⟨y0, y1, y2, y3⟩ := Y5.cs; obtain ⟨p50, p51, p52, p53⟩ := P5.cs))
  go_ret
  exact ⟨rfl, ((((((((Kept.refl w).alloc _).alloc _).drew.trans q1).trans q2).trans q3).trans q4).trans q5).alloc _⟩

set_option maxRecDepth 100000 in
set_option maxHeartbeats 4000000 in
theorem puts_B (kd nm : Int) (g : Nat) (s D : ByteArray) (hD : s.extract 0 (min (s.size : Int) 300).toNat = D)
    (f6 : ∀ W, Calls Try.prog 6 #[.agg #[.int .i64 kd, .int .i64 nm, .int .u64 (g : Nat), .string D]] W fun e w' => e = .returned (.string ⟨#[]⟩) ∧ Kept W w')
    (f7 : ∀ W, Calls Try.prog 7 #[.agg #[.int .i64 kd, .int .i64 nm, .int .u64 (g : Nat), .string D]] W fun e w' => e = .returned (.string ⟨#[]⟩) ∧ Kept W w')
    (f9 : ∀ W, Calls Try.prog 9 #[.agg #[.int .i64 kd, .int .i64 nm, .int .u64 (g : Nat), .string D]] W fun e w' => e = .returned (.bool false) ∧ Kept W w')
    (f10 : ∀ W, Calls Try.prog 10 #[.string ⟨#[]⟩] W fun e w' => e = .returned (.tuple #[.agg #[.int .i64 0, .int .i64 0, .int .u64 0, .string ⟨#[]⟩], .int .i64 3]) ∧ Kept W w') (w : World) :
    Calls Try.prog 3 #[.agg #[.int .i64 kd, .int .i64 nm, .int .u64 (g : Nat), .string s]] w fun e w' => e = .returned (.bool true) ∧ Kept w w' := by
  go_enter Try.func3, Try.ntmps3
  go_wp2
  have P0 := Pg.alloc (w.alloc (.cells #[.int .i64 kd, .int .i64 nm, .int .u64 (g : Nat), .string s] 24)) kd nm g D 24
  rw [show (w.alloc (.cells #[.int .i64 kd, .int .i64 nm, .int .u64 (g : Nat), .string s] 24)).heap.size = w.heap.size + 1 by simp] at P0
  have P0 := ((Kept.refl _).drew).pg P0
  obtain ⟨p0, p1, p2, p3⟩ := P0.cs
  go_region_held3 (fun W => W.cell? ⟨w.heap.size + 1, 0, none⟩ = some (.int .i64 kd) ∧ W.cell? ⟨w.heap.size + 1, 1, none⟩ = some (.int .i64 nm) ∧ W.cell? ⟨w.heap.size + 1, 2, none⟩ = some (.int .u64 (g : Nat)) ∧ W.cell? ⟨w.heap.size + 1, 3, none⟩ = some (.string D)) (go_keep) (first
    | (go_at_call 6; with_reducible refine (f6 _).mono ?_; rintro e v1 ⟨rfl, q1⟩; have P1 := q1.pg P0; obtain ⟨p10, p11, p12, p13⟩ := P1.cs)
    | (go_at_call 7; with_reducible refine (f7 _).mono ?_; rintro e v2 ⟨rfl, q2⟩; have P2 := q2.pg P1; obtain ⟨p20, p21, p22, p23⟩ := P2.cs))
  go_wp2_with (first
    | (go_at_call 8; with_reducible refine (awake_walk _).mono ?_; rintro e v3 ⟨rfl, q3⟩; have P3 := q3.pg P2; obtain ⟨p30, p31, p32, p33⟩ := P3.cs)
    | (go_at_call 9; with_reducible refine (f9 _).mono ?_; rintro e v4 ⟨rfl, q4⟩; have P4 := q4.pg P3)
    | (go_at_call 10; with_reducible refine (f10 _).mono ?_; rintro e v5 ⟨rfl, q5⟩; have P5 := ((q5.alloc (.cells #[.int .i64 0, .int .i64 0, .int .u64 0, .string ⟨#[]⟩] 24)).pg P4); have Y5 := Pg.alloc v5 0 0 0 ⟨#[]⟩ 24; obtain ⟨y0, y1, y2, y3⟩ := Y5.cs; obtain ⟨p50, p51, p52, p53⟩ := P5.cs))
  go_ret
  exact ⟨rfl, ((((((((Kept.refl w).alloc _).alloc _).drew.trans q1).trans q2).trans q3).trans q4).trans q5).alloc _⟩

theorem puts_walk (kd nm : Int) (g : Nat) (hg : g < 18446744073709551616) (s : ByteArray) (w : World) :
    Calls Try.prog 3 #[.agg #[.int .i64 kd, .int .i64 nm, .int .u64 (g : Nat), .string s]] w fun e w' => e = .returned (.bool true) ∧ Kept w w' := by
  obtain ⟨D, hD⟩ : ∃ D, s.extract 0 (min (s.size : Int) 300).toNat = D := ⟨_, rfl⟩
  have f6 := put_walk kd nm g hg (un D)
  have f7 := rput_walk kd nm g hg (un D)
  rw [bs_un] at f6 f7
  by_cases hm : May kd nm (un D)
  · have f10 := get_back kd nm g hg (un D) (un_small D) hm
    rw [bs_un] at f10
    have hl := pageL_length kd.toNat nm.toNat g (un D) hm.2.2.2.2
    have he : (bs (putL kd nm g (un D))).toList.isEmpty = false := by
      rw [bs_toList, putL_may hm]
      cases hp : pageL kd.toNat nm.toNat g (un D) with
      | nil => rw [hp] at hl; cases hl
      | cons x t => rfl
    obtain ⟨h1, h2, h3, h4, h5⟩ := hm
    rw [un_length] at h5
    exact puts_A kd nm g s D _ hD he f6 f7 (may_yes kd nm g D h1 h2 h3 h4 h5) f10 w
  · rw [putL_not hm] at f6 f7
    have f10 := get_no [] (fun x hx => by cases hx) empty_not
    refine puts_B kd nm g s D hD f6 f7 (may_no kd nm g D ?_) f10 w
    rw [← un_length]
    exact hm
end Go.Proofs.Ytkllkdmmncegfaa
