/- The walk of the law on whatever bytes. Conditions: a text's size is one of Go's. -/
import Derived.Test.YtpefmoddglpbfaaFD
import Derived.Test.YtpefmoddglpbfaaFE
namespace Go.Proofs.Ytpefmoddglpbfaa.Ph
open Go.ChangeShapes Go.WideShapes Go.ChangeAt Go.RowKit
open N (bs un bs_un un_small un_length bs_extract numL Small Kept)

theorem cut_at (s : ByteArray) : ∃ l, Small l ∧ l.length ≤ 40 ∧ (((s.size : Int) ≤ 40 ∧ bs l = s) ∨ (40 < (s.size : Int) ∧ s.extract 0 40 = bs l)) := by
  by_cases hz : s.size ≤ 40
  · exact ⟨un s, un_small s, by rw [un_length]; exact hz, Or.inl ⟨by omega, bs_un s⟩⟩
  · refine ⟨(un s).take 40, (un_small s).take _, by rw [List.length_take]; omega, Or.inr ⟨by omega, ?_⟩⟩
    have h := bs_extract (un s) 0 40
    rw [bs_un, List.drop_zero] at h
    exact h

set_option maxRecDepth 100000 in
set_option maxHeartbeats 2000000 in
theorem reads_law (s : ByteArray) (hs : s.size ≤ maxLen) (w : World) :
    Calls Try.prog 4 #[.string s] w fun e w' => e = .returned (.bool true) ∧ Kept w w' := by
  unfold maxLen at hs
  obtain ⟨l, hl, ht, hcut⟩ := cut_at s
  rcases h1 : pass 7 l 0 with ⟨l1, x1, n1⟩
  rcases h2 : pass 4611686018427387903 l1 x1 with ⟨l2, x2, n2⟩
  rcases h3 : pass 4611686018427387903 l2 x2 with ⟨l3, x3, n3⟩
  have e1 : x1 ≠ 0 → l1 = [] := by have := pass_none 7 (l := l) (x := 0) (fun h => absurd rfl h); rw [h1] at this; exact this
  have e2 : x2 ≠ 0 → l2 = [] := by have := pass_none 4611686018427387903 e1; rw [h2] at this; exact this
  have e3 : x3 ≠ 0 → l3 = [] := by have := pass_none 4611686018427387903 e2; rw [h3] at this; exact this
  have sl1 : Small l1 := by have := pass_small 7 hl 0; rwa [h1] at this
  have sl2 : Small l2 := by have := pass_small 4611686018427387903 sl1 x1; rwa [h2] at this
  have ln1 : l1.length ≤ 100000 := by have := pass_len 7 l 0; rw [h1] at this; simp only at this; omega
  have ln2 : l2.length ≤ 100000 := by have := pass_len 4611686018427387903 l1 x1; rw [h2] at this; simp only at this; omega
  have hm1 : n1 ≤ 7 := by have := pass_most 7 l 0; rw [h1] at this; exact this
  have f1 := fun W => of_any l l1 l2 l3 x1 x2 x3 n1 n2 n3 hl (by omega) h1 h2 h3 W
  have g1 : ∀ W, Calls Try.prog 11 #[.agg #[.string (bs l), .int .i64 0], .int .u64 7] W fun e w' => (∃ S, e = .returned (.tuple #[.agg #[.string S, .int .i64 x1], .int .u64 (n1 : Nat)]) ∧ (x1 = 0 → S = bs l1)) ∧ Kept W w' := fun W => by
    have := rnum_pass (bs l) l 0 (fun _ => rfl) hl (by omega) 7 W
    rw [h1] at this; exact this
  have HG2 : Hid (∀ S, (x1 = 0 → S = bs l1) → ∀ W, Calls Try.prog 11 #[.agg #[.string S, .int .i64 x1], .int .u64 4611686018427387903] W fun e w' => (∃ S, e = .returned (.tuple #[.agg #[.string S, .int .i64 x2], .int .u64 (n2 : Nat)]) ∧ (x2 = 0 → S = bs l2)) ∧ Kept W w') := fun S hS W => by
    have := rnum_pass S l1 x1 hS sl1 ln1 4611686018427387903 W
    rw [h2] at this; exact this
  have HG3 : Hid (∀ S, (x2 = 0 → S = bs l2) → ∀ W, Calls Try.prog 11 #[.agg #[.string S, .int .i64 x2], .int .u64 4611686018427387903] W fun e w' => (∃ S, e = .returned (.tuple #[.agg #[.string S, .int .i64 x3], .int .u64 (n3 : Nat)]) ∧ (x3 = 0 → S = bs l3)) ∧ Kept W w') := fun S hS W => by
    have := rnum_pass S l2 x2 hS sl2 ln2 4611686018427387903 W
    rw [h3] at this; exact this
  have HG4 : Hid (∀ S, (x3 = 0 → S = bs l3) → ∀ W, Calls Try.prog 12 #[.agg #[.string S, .int .i64 x3]] W fun e w' => e = .returned (.int .i64 (fin l3 x3)) ∧ Kept W w') := fun S hS W => rend_walk S l3 x3 hS e3 W
  have f3 := fun W => awake_walk W
  have wr : IntKind.i64.wrap (n1 : Int) = (n1 : Int) := by rw [IntKind.wrap_i64]; omega
  clear h1 h2 h3 e1 e2 e3 sl1 sl2 ln1 ln2 hl ht
  generalize fin l3 x3 = y at *
  generalize bs l = t0 at *
  generalize bs l1 = t1 at *
  generalize bs l2 = t2 at *
  generalize bs l3 = t3 at *
  rcases hcut with ⟨hz, rfl⟩ | ⟨hz, hcut⟩
  all_goals
    by_cases hy : y = 0
    · subst hy
      have f2 : ∀ W, Calls Try.prog 7 #[.string t0] W fun e w' => e = .returned (.tuple #[.agg #[.int .i64 (n1 : Nat), .int .u64 (n2 : Nat), .int .u64 (n3 : Nat)], .int .i64 0]) ∧ Kept W w' := fun W => (f1 W).mono fun e w' h => ⟨h.2.1 rfl, h.2.2⟩
      clear f1
      go_enter Try.func4, Try.ntmps4
      go_wp2_with (first
        | (go_at_call 7; (with_reducible refine (f2 _).mono ?_); rintro e w1 ⟨rfl, k1⟩; have K1 : Hid (Kept w w1) := k1; have Q1 : Hid (L3 (w1.alloc (.cells #[.int .i64 (n1 : Nat), .int .u64 (n2 : Nat), .int .u64 (n3 : Nat)] 24)) w1.heap.size n1 n2 n3) := L3.made w1 n1 n2 n3; clear k1 f2)
        | (go_at_call 11; (with_reducible refine (g1 _).mono ?_); rintro e w2 ⟨⟨S1, rfl, hS1⟩, k2⟩; have g2 := HG2.out S1 hS1; have K2 : Hid (Kept (w1.alloc (.cells #[.int .i64 (n1 : Nat), .int .u64 (n2 : Nat), .int .u64 (n3 : Nat)] 24)) w2) := k2; have R2 : Hid (Rr (w2.alloc (.cells #[.string S1, .int .i64 x1] 33)) w2.heap.size S1 x1) := Rr.made w2 S1 x1; obtain ⟨c0, c1⟩ := R2.out.cs; clear k2 g1 hS1)
        | (go_at_call 11; (with_reducible refine (g2 _).mono ?_); rintro e w3 ⟨⟨S2, rfl, hS2⟩, k3⟩; have g3 := HG3.out S2 hS2; have R3 : Hid (Rr w3 w2.heap.size S1 x1) := R2.out.kept k3; obtain ⟨⟨d0, d1⟩, d2, d3⟩ := R3.out.ready S2; obtain ⟨d4, d5⟩ := (R3.out.fill S2 x2).cs; have K3 : Hid (Kept (w1.alloc (.cells #[.int .i64 (n1 : Nat), .int .u64 (n2 : Nat), .int .u64 (n3 : Nat)] 24)) (stR w3 w2.heap.size S2 x2)) := kept_sr ((K2.out.alloc _).trans k3) K2.out.size _ _; have R4 : Hid (Rr (stR w3 w2.heap.size S2 x2) w2.heap.size S2 x2) := R3.out.fill S2 x2; unfold stR at d4 d5; clear k3 g2 hS2)
        | (go_at_call 11; (with_reducible refine (g3 _).mono ?_); rintro e w4 ⟨⟨S3, rfl, hS3⟩, k4⟩; have g4 := HG4.out S3 hS3; have R5 : Hid (Rr w4 w2.heap.size S2 x2) := R4.out.kept k4; obtain ⟨⟨d0, d1⟩, d2, d3⟩ := R5.out.ready S3; obtain ⟨d4, d5⟩ := (R5.out.fill S3 x3).cs; have K4 : Hid (Kept (w1.alloc (.cells #[.int .i64 (n1 : Nat), .int .u64 (n2 : Nat), .int .u64 (n3 : Nat)] 24)) (stR w4 w2.heap.size S3 x3)) := kept_sr (K3.out.trans k4) K2.out.size _ _; unfold stR at d4 d5; clear k4 g3 hS3)
        | (go_at_call 12; (with_reducible refine (g4 _).mono ?_); rintro e w5 ⟨rfl, k5⟩; have K5 : Hid (Kept (w1.alloc (.cells #[.int .i64 (n1 : Nat), .int .u64 (n2 : Nat), .int .u64 (n3 : Nat)] 24)) w5) := K4.out.trans k5; clear k5 g4)
        | (go_at_call 8; (with_reducible refine (f3 _).mono ?_); rintro e w6 ⟨rfl, k6⟩; have K6 : Hid (Kept (w1.alloc (.cells #[.int .i64 (n1 : Nat), .int .u64 (n2 : Nat), .int .u64 (n3 : Nat)] 24)) w6) := K5.out.trans k6; obtain ⟨b0, b1, b2⟩ := (Q1.out.kept K6.out).cs; clear k6 f3))
      go_ret
      exact ⟨rfl, (K1.out.alloc _).trans K6.out⟩
    · have ty : (y == 0) = false := by simp [hy]
      have f2 : ∀ W, Calls Try.prog 7 #[.string t0] W fun e w' => e = .returned (.tuple #[.agg #[.int .i64 0, .int .u64 0, .int .u64 0], .int .i64 y]) ∧ Kept W w' := fun W => (f1 W).mono fun e w' h => ⟨h.1 hy, h.2.2⟩
      clear f1
      go_enter Try.func4, Try.ntmps4
      go_wp2_with (first
        | (go_at_call 7; (with_reducible refine (f2 _).mono ?_); rintro e w1 ⟨rfl, k1⟩; have K1 : Hid (Kept w w1) := k1; have Q1 : Hid (L3 (w1.alloc (.cells #[.int .i64 0, .int .u64 0, .int .u64 0] 24)) w1.heap.size 0 0 0) := L3.made w1 0 0 0; clear k1 f2)
        | (go_at_call 11; (with_reducible refine (g1 _).mono ?_); rintro e w2 ⟨⟨S1, rfl, hS1⟩, k2⟩; have g2 := HG2.out S1 hS1; have K2 : Hid (Kept (w1.alloc (.cells #[.int .i64 0, .int .u64 0, .int .u64 0] 24)) w2) := k2; have R2 : Hid (Rr (w2.alloc (.cells #[.string S1, .int .i64 x1] 33)) w2.heap.size S1 x1) := Rr.made w2 S1 x1; obtain ⟨c0, c1⟩ := R2.out.cs; clear k2 g1 hS1)
        | (go_at_call 11; (with_reducible refine (g2 _).mono ?_); rintro e w3 ⟨⟨S2, rfl, hS2⟩, k3⟩; have g3 := HG3.out S2 hS2; have R3 : Hid (Rr w3 w2.heap.size S1 x1) := R2.out.kept k3; obtain ⟨⟨d0, d1⟩, d2, d3⟩ := R3.out.ready S2; obtain ⟨d4, d5⟩ := (R3.out.fill S2 x2).cs; have K3 : Hid (Kept (w1.alloc (.cells #[.int .i64 0, .int .u64 0, .int .u64 0] 24)) (stR w3 w2.heap.size S2 x2)) := kept_sr ((K2.out.alloc _).trans k3) K2.out.size _ _; have R4 : Hid (Rr (stR w3 w2.heap.size S2 x2) w2.heap.size S2 x2) := R3.out.fill S2 x2; unfold stR at d4 d5; clear k3 g2 hS2)
        | (go_at_call 11; (with_reducible refine (g3 _).mono ?_); rintro e w4 ⟨⟨S3, rfl, hS3⟩, k4⟩; have g4 := HG4.out S3 hS3; have R5 : Hid (Rr w4 w2.heap.size S2 x2) := R4.out.kept k4; obtain ⟨⟨d0, d1⟩, d2, d3⟩ := R5.out.ready S3; obtain ⟨d4, d5⟩ := (R5.out.fill S3 x3).cs; have K4 : Hid (Kept (w1.alloc (.cells #[.int .i64 0, .int .u64 0, .int .u64 0] 24)) (stR w4 w2.heap.size S3 x3)) := kept_sr (K3.out.trans k4) K2.out.size _ _; unfold stR at d4 d5; clear k4 g3 hS3)
        | (go_at_call 12; (with_reducible refine (g4 _).mono ?_); rintro e w5 ⟨rfl, k5⟩; have K5 : Hid (Kept (w1.alloc (.cells #[.int .i64 0, .int .u64 0, .int .u64 0] 24)) w5) := K4.out.trans k5; clear k5 g4)
        | (go_at_call 8; (with_reducible refine (f3 _).mono ?_); rintro e w6 ⟨rfl, k6⟩; have K6 : Hid (Kept (w1.alloc (.cells #[.int .i64 0, .int .u64 0, .int .u64 0] 24)) w6) := K5.out.trans k6; obtain ⟨b0, b1, b2⟩ := (Q1.out.kept K6.out).cs; clear k6 f3))
      go_ret
      exact ⟨rfl, (K1.out.alloc _).trans K6.out⟩
end Go.Proofs.Ytpefmoddglpbfaa.Ph
