/- The walk of the law on a record's bytes. Conditions: steps and commits are numbers of 64 bits. -/
import Derived.Test.YtpefmoddglpbfaaFD
import Derived.Test.YtpefmoddglpbfaaLW
namespace Go.Proofs.Ytpefmoddglpbfaa.Ph
open Go.ChangeShapes Go.WideShapes Go.ChangeAt Go.RowKit
open N (bs numL Small Kept bs_append)

theorem not_okr {a : Int} {s c : Nat} (h : ¬ Okr a s c) : ¬ (0 ≤ a) ∨ ((0 ≤ a) ∧ ¬ (a ≤ 7)) ∨ (0 ≤ a ∧ a ≤ 7 ∧ ¬ ((s : Int) < 4611686018427387904)) ∨ (0 ≤ a ∧ a ≤ 7 ∧ (s : Int) < 4611686018427387904 ∧ ¬ ((c : Int) < 4611686018427387904)) := by
  unfold Okr at h; omega

set_option maxRecDepth 100000 in
set_option maxHeartbeats 1000000 in
theorem texts_no {a : Int} {s c : Nat} (h : ¬ Okr a s c) (w : World) :
    Calls Try.prog 3 #[.agg #[.int .i64 a, .int .u64 (s : Nat), .int .u64 (c : Nat)]] w fun e w' => e = .returned (.bool true) ∧ Kept w w' := by
  have kA : Kept w (w.alloc (.cells #[.int .i64 a, .int .u64 (s : Nat), .int .u64 (c : Nat)] 24)) := (Kept.refl w).alloc _
  have hL := L3.made w a s c
  have HSA : Hid (∀ W, Kept (w.alloc (.cells #[.int .i64 a, .int .u64 (s : Nat), .int .u64 (c : Nat)] 24)) W → W.cell? ⟨w.heap.size, 0, none⟩ = some (.int .i64 a) ∧ W.cell? ⟨w.heap.size, 1, none⟩ = some (.int .u64 (s : Nat)) ∧ W.cell? ⟨w.heap.size, 2, none⟩ = some (.int .u64 (c : Nat))) := fun W k => (hL.kept k).cs
  obtain ⟨c0, c1, c2⟩ := hL.cs
  have f1 := fun W => text_no h W
  have f2 : ∀ W, Calls Try.prog 7 #[.string ⟨#[]⟩] W fun e w' => e = .returned (.tuple #[.agg #[.int .i64 0, .int .u64 0, .int .u64 0], .int .i64 2]) ∧ Kept W w' := fun W => by
    have := of_walk [] (fun x hx => by cases hx) (by decide) W
    rw [rec_nil] at this
    exact this
  have f3 := fun W => awake_walk W
  have f4 := fun W => may_walk a s c W
  rw [decide_eq_false h] at f4
  have hc := not_okr h
  clear h hL
  rcases hc with h0 | ⟨h0, h1⟩ | ⟨h0, h1, h2⟩ | ⟨h0, h1, h2, h3⟩
  all_goals
    generalize hW0 : w.alloc (.cells #[.int .i64 a, .int .u64 (s : Nat), .int .u64 (c : Nat)] 24) = W0 at *
    go_enter Try.func3, Try.ntmps3
    go_wp2_with (first
      | (go_at_call 6; (with_reducible refine (f1 _).mono ?_); rintro e w1 ⟨rfl, k1⟩; have K1 : Hid (Kept W0 w1) := k1; clear k1 f1)
      | (go_at_call 7; (with_reducible refine (f2 _).mono ?_); rintro e w2 ⟨rfl, k2⟩; have K2 : Hid (Kept W0 w2) := K1.out.trans k2; clear k2 f2)
      | (go_at_call 8; (with_reducible refine (f3 _).mono ?_); rintro e w3 ⟨rfl, k3⟩; have K3 : Hid (Kept W0 w3) := (K2.out.alloc _).trans k3; obtain ⟨d0, d1, d2⟩ := HSA.out _ K3.out; clear k3 f3)
      | (go_at_call 9; (with_reducible refine (f4 _).mono ?_); rintro e w4 ⟨rfl, k4⟩; have K4 : Hid (Kept W0 w4) := K3.out.trans k4; clear k4 f4))
    go_ret
    exact ⟨rfl, kA.trans K4.out⟩

set_option maxRecDepth 100000 in
set_option maxHeartbeats 2000000 in
theorem texts_yes {a s c : Nat} (h : Okr a s c) (w : World) :
    Calls Try.prog 3 #[.agg #[.int .i64 (a : Nat), .int .u64 (s : Nat), .int .u64 (c : Nat)]] w fun e w' => e = .returned (.bool true) ∧ Kept w w' := by
  have kA : Kept w (w.alloc (.cells #[.int .i64 (a : Nat), .int .u64 (s : Nat), .int .u64 (c : Nat)] 24)) := (Kept.refl w).alloc _
  have hL := L3.made w a s c
  have HSA : Hid (∀ W, Kept (w.alloc (.cells #[.int .i64 (a : Nat), .int .u64 (s : Nat), .int .u64 (c : Nat)] 24)) W → W.cell? ⟨w.heap.size, 0, none⟩ = some (.int .i64 (a : Nat)) ∧ W.cell? ⟨w.heap.size, 1, none⟩ = some (.int .u64 (s : Nat)) ∧ W.cell? ⟨w.heap.size, 2, none⟩ = some (.int .u64 (c : Nat))) := fun W k => (hL.kept k).cs
  obtain ⟨c0, c1, c2⟩ := hL.cs
  have f1 := fun W => text_yes h W
  have f2 : ∀ W, Calls Try.prog 7 #[.string (bs (numL a ++ (numL s ++ numL c)))] W fun e w' => e = .returned (.tuple #[.agg #[.int .i64 (a : Nat), .int .u64 (s : Nat), .int .u64 (c : Nat)], .int .i64 0]) ∧ Kept W w' := fun W => by
    have ht := txt_len a s c
    have hs := txt_small a s c
    have hr := rec_txt h
    unfold txt at ht hs hr
    rw [if_pos h, Int.toNat_natCast] at ht hs hr
    have := of_walk (numL a ++ (numL s ++ numL c)) hs (Nat.le_trans ht (by decide)) W
    rw [hr] at this
    exact this
  have f3 := fun W => awake_walk W
  have f4 := fun W => may_walk a s c W
  rw [decide_eq_true h] at f4
  obtain ⟨_, ha, hs, hc⟩ := h
  have hs' : (s : Int) < 4611686018427387904 := by omega
  have hc' : (c : Int) < 4611686018427387904 := by omega
  have wr : IntKind.u64.wrap (a : Int) = (a : Int) := by rw [IntKind.wrap_u64]; omega
  have n1 := fun W => N.refnum_walk a (by omega) W
  have n2 := fun W => N.refnum_walk s (by omega) W
  have n3 := fun W => N.refnum_walk c (by omega) W
  have j1 := bs_append (numL a) (numL s)
  have j2 := bs_append (numL a ++ numL s) (numL c)
  rw [List.append_assoc] at j2
  have sz := N.bs_size
  have za := N.numL_ten a (by omega)
  have zs := N.numL_ten s (by omega)
  have zc := N.numL_ten c (by omega)
  have y1 : ¬ 9223372036854775807 < (bs (numL a)).size + (bs (numL s)).size := by rw [sz, sz]; omega
  have y2 : ¬ 9223372036854775807 < (bs (numL a ++ numL s)).size + (bs (numL c)).size := by rw [sz, sz, List.length_append]; omega
  clear hL za zs zc sz
  generalize bs (numL a ++ (numL s ++ numL c)) = T at *
  generalize bs (numL a ++ numL s) = U at *
  generalize bs (numL a) = X at *
  generalize bs (numL s) = Y at *
  generalize bs (numL c) = Z at *
  generalize hW0 : w.alloc (.cells #[.int .i64 (a : Nat), .int .u64 (s : Nat), .int .u64 (c : Nat)] 24) = W0 at *
  go_enter Try.func3, Try.ntmps3
  go_wp2_with (first
    | (go_at_call 6; (with_reducible refine (f1 _).mono ?_); rintro e w1 ⟨rfl, k1⟩; have K1 : Hid (Kept W0 w1) := k1; clear k1 f1)
    | (go_at_call 7; (with_reducible refine (f2 _).mono ?_); rintro e w2 ⟨rfl, k2⟩; have K2 : Hid (Kept W0 w2) := K1.out.trans k2; clear k2 f2))
  have hq := L3.made w2 a s c
  have k3 : Kept W0 (w2.alloc (.cells #[.int .i64 (a : Nat), .int .u64 (s : Nat), .int .u64 (c : Nat)] 24)) := K2.out.alloc _
  have K3 : Hid (Kept W0 (w2.alloc (.cells #[.int .i64 (a : Nat), .int .u64 (s : Nat), .int .u64 (c : Nat)] 24))) := k3
  have HSB : Hid (∀ W, Kept (w2.alloc (.cells #[.int .i64 (a : Nat), .int .u64 (s : Nat), .int .u64 (c : Nat)] 24)) W → W.cell? ⟨w.heap.size, 0, none⟩ = some (.int .i64 (a : Nat)) ∧ W.cell? ⟨w.heap.size, 1, none⟩ = some (.int .u64 (s : Nat)) ∧ W.cell? ⟨w.heap.size, 2, none⟩ = some (.int .u64 (c : Nat)) ∧ W.cell? ⟨w2.heap.size, 0, none⟩ = some (.int .i64 (a : Nat)) ∧ W.cell? ⟨w2.heap.size, 1, none⟩ = some (.int .u64 (s : Nat)) ∧ W.cell? ⟨w2.heap.size, 2, none⟩ = some (.int .u64 (c : Nat))) := fun W k => by
    obtain ⟨x0, x1, x2⟩ := HSA.out W (K3.out.trans k)
    exact ⟨x0, x1, x2, (hq.kept k).cs⟩
  clear hq k3
  generalize hW1 : w2.alloc (.cells #[.int .i64 (a : Nat), .int .u64 (s : Nat), .int .u64 (c : Nat)] 24) = W1 at *
  have K0 : Kept W1 W1 := Kept.refl _
  have d0 := HSB.out _ K0
  go_region_held3 (fun W => W.cell? ⟨w.heap.size, 0, none⟩ = some (.int .i64 (a : Nat)) ∧ W.cell? ⟨w.heap.size, 1, none⟩ = some (.int .u64 (s : Nat)) ∧ W.cell? ⟨w.heap.size, 2, none⟩ = some (.int .u64 (c : Nat)) ∧ W.cell? ⟨w2.heap.size, 0, none⟩ = some (.int .i64 (a : Nat)) ∧ W.cell? ⟨w2.heap.size, 1, none⟩ = some (.int .u64 (s : Nat)) ∧ W.cell? ⟨w2.heap.size, 2, none⟩ = some (.int .u64 (c : Nat))) (exact HSB.out _ (by (repeat (first | assumption | apply Kept.drew)))) (first
    | (go_at_call 8; (with_reducible refine (f3 _).mono ?_); rintro e v2 ⟨rfl, k2⟩; have K2 : Kept W1 v2 := (by refine Kept.trans ?_ k2; (repeat (first | assumption | apply Kept.drew))); clear k2)
    | (go_at_call 9; (with_reducible refine (f4 _).mono ?_); rintro e v2 ⟨rfl, k2⟩; have K2 : Kept W1 v2 := (by refine Kept.trans ?_ k2; (repeat (first | assumption | apply Kept.drew))); clear k2)
    | (go_at_call 10; (with_reducible refine (n1 _).mono ?_); rintro e v2 ⟨rfl, k2⟩; have K2 : Kept W1 v2 := (by refine Kept.trans ?_ k2; (repeat (first | assumption | apply Kept.drew))); clear k2)
    | (go_at_call 10; (with_reducible refine (n2 _).mono ?_); rintro e v2 ⟨rfl, k2⟩; have K2 : Kept W1 v2 := (by refine Kept.trans ?_ k2; (repeat (first | assumption | apply Kept.drew))); clear k2)
    | (go_at_call 10; (with_reducible refine (n3 _).mono ?_); rintro e v2 ⟨rfl, k2⟩; have K2 : Kept W1 v2 := (by refine Kept.trans ?_ k2; (repeat (first | assumption | apply Kept.drew))); clear k2))
  all_goals go_wp2
  all_goals go_ret
  all_goals exact ⟨rfl, kA.trans (K3.out.trans (by assumption))⟩

theorem texts_law (a : Int) (s c : Nat) (w : World) :
    Calls Try.prog 3 #[.agg #[.int .i64 a, .int .u64 (s : Nat), .int .u64 (c : Nat)]] w fun e w' => e = .returned (.bool true) ∧ Kept w w' := by
  by_cases h : Okr a s c
  · obtain ⟨n, rfl⟩ : ∃ n : Nat, a = n := ⟨a.toNat, by have := h.1; omega⟩
    exact texts_yes h w
  · exact texts_no h w
end Go.Proofs.Ytpefmoddglpbfaa.Ph
