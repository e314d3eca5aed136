/- The laws on names and on words. Conditions: a text is no longer than a text may be. -/
import Derived.Test.YtgjhonphnecdhaaML
namespace Go.Proofs.Ytgjhonphnecdhaa.Lx
open Go.ChangeShapes Go.WideShapes Go.ChangeAt Go.RowKit

theorem cut_few (s : ByteArray) : (s.extract 0 (min s.size 2000)).size ≤ 2000 := by rw [size_extract]; omega

set_option maxRecDepth 100000 in
set_option maxHeartbeats 1000000 in
theorem names_law (s : ByteArray) (hs : s.size ≤ maxLen) (w : World) :
    Calls Try.prog 4 #[.string s] w fun e w' => e = .returned (.bool true) ∧ Kept w w' := by
  have hc := cut_few s
  have f1 := fun W => few_walk s hs W
  have f2 := fun W => awake_walk W
  have f3 := fun W => kept_walk (s.extract 0 (min s.size 2000)) W
  have f4 := fun W => rkept_walk (s.extract 0 (min s.size 2000)) W
  have f5 := fun W => name_walk (s.extract 0 (min s.size 2000)) (by omega) W
  have f6 := fun W => rname_walk (s.extract 0 (min s.size 2000)) (by omega) W
  have f7 := fun W => kept_walk ⟨#[115, 112, 97, 119, 110]⟩ W
  have f8 := fun W => name_walk ⟨#[115, 112, 97, 119, 110, 115]⟩ (by decide) W
  rw [show kept ⟨#[115, 112, 97, 119, 110]⟩ = true by kernel_rfl] at f7
  rw [show nam ⟨#[115, 112, 97, 119, 110, 115]⟩ = true by kernel_rfl] at f8
  generalize kept (s.extract 0 (min s.size 2000)) = b1 at *
  generalize nam (s.extract 0 (min s.size 2000)) = b2 at *
  generalize s.extract 0 (min s.size 2000) = t at *
  clear hc hs
  go_enter Try.func4, Try.ntmps4
  go_wp2_with (first
    | (go_at_call 8; (with_reducible refine (f1 _).mono ?_); rintro e w1 ⟨rfl, hw1⟩; rw [hw1]; clear hw1)
    | (go_at_call 10; (with_reducible refine (f2 _).mono ?_); rintro e w2 ⟨rfl, k2⟩; have K2 : Hid (Kept w w2) := k2; clear k2)
    | (go_at_call 12; (with_reducible refine (f3 _).mono ?_); rintro e w1 ⟨rfl, hw1⟩; rw [hw1]; clear hw1)
    | (go_at_call 13; (with_reducible refine (f4 _).mono ?_); rintro e w4 ⟨rfl, k4⟩; have K4 : Hid (Kept w w4) := K2.out.trans k4; clear k4)
    | (go_at_call 14; (with_reducible refine (f5 _).mono ?_); rintro e w1 ⟨rfl, hw1⟩; rw [hw1]; clear hw1)
    | (go_at_call 15; (with_reducible refine (f6 _).mono ?_); rintro e w6 ⟨rfl, k6⟩; have K6 : Hid (Kept w w6) := K4.out.trans k6; clear k6)
    | (go_at_call 12; (with_reducible refine (f7 _).mono ?_); rintro e w1 ⟨rfl, hw1⟩; rw [hw1]; clear hw1)
    | (go_at_call 14; (with_reducible refine (f8 _).mono ?_); rintro e w1 ⟨rfl, hw1⟩; rw [hw1]; clear hw1))
  go_ret
  exact ⟨rfl, K6.out⟩

/-- What Lex says, whichever: words in memory, and a flaw. -/
theorem says (s : ByteArray) : ∃ (n : Nat) (l : List Tok) (c a : Int), ∀ e w', Ls s e w' → ∃ p q, e = .returned (.tuple #[.slice p n q, .agg #[.int .i64 c, .int .i64 a]]) ∧ Tw w' p n q l := by
  cases h : words s with
  | error a =>
    refine ⟨0, [], 180, (a : Nat), fun e w' hl => ?_⟩
    unfold Ls at hl
    rw [h] at hl
    exact ⟨none, 0, hl, tw_nil _⟩
  | ok l =>
    refine ⟨l.length, l, 0, 0, fun e w' hl => ?_⟩
    unfold Ls at hl
    rw [h] at hl
    exact hl

set_option maxRecDepth 100000 in
set_option maxHeartbeats 1000000 in
theorem words_law (s : ByteArray) (hs : s.size ≤ maxLen) (w : World) :
    Calls Try.prog 3 #[.string s] w fun e w' => e = .returned (.bool true) ∧ Kept w w' := by
  have hc := cut_few s
  have f1 := fun W => few_walk s hs W
  have f2 := fun W => awake_walk W
  generalize s.extract 0 (min s.size 2000) = t at *
  obtain ⟨n, l, c, a, hsay⟩ := says t
  have f3 : ∀ W, Calls Try.prog 7 #[.string t] W fun e w' => (∃ p q, e = .returned (.tuple #[.slice p n q, .agg #[.int .i64 c, .int .i64 a]]) ∧ Tw w' p n q l) ∧ Kept W w' := fun W => (lex_walk t (by omega) W).mono fun e w' h => ⟨hsay e w' h.1, h.2⟩
  have f4 : ∀ W, Calls Try.prog 9 #[.string t] W fun e w' => (∃ p q, e = .returned (.tuple #[.slice p n q, .agg #[.int .i64 c, .int .i64 a]]) ∧ Tw w' p n q l) ∧ Kept W w' := fun W => (rlex_walk t (by omega) W).mono fun e w' h => ⟨hsay e w' h.1, h.2⟩
  clear hc hs hsay
  go_enter Try.func3, Try.ntmps3
  go_wp2_with (first
    | (go_at_call 8; (with_reducible refine (f1 _).mono ?_); rintro e w1 ⟨rfl, hw1⟩; rw [hw1]; clear hw1)
    | (go_at_call 7; (with_reducible refine (f3 _).mono ?_); rintro e w3 ⟨⟨p3, q3, rfl, T3⟩, k3⟩; have Z3 : Hid (F2 (w3.alloc (.cells #[.int .i64 c, .int .i64 a] 25)) w3.heap.size c a ∧ Tw (w3.alloc (.cells #[.int .i64 c, .int .i64 a] 25)) p3 n q3 l ∧ Kept w (w3.alloc (.cells #[.int .i64 c, .int .i64 a] 25))) := ⟨F2.made w3 c a, T3.kept ((Kept.refl _).alloc _), k3.alloc _⟩; clear T3 k3)
    | (go_at_call 9; (with_reducible refine (f4 _).mono ?_); rintro e w4 ⟨⟨p4, q4, rfl, T4'⟩, k4⟩; have Z4 : Hid (F2 (w4.alloc (.cells #[.int .i64 c, .int .i64 a] 25)) w4.heap.size c a ∧ Tw (w4.alloc (.cells #[.int .i64 c, .int .i64 a] 25)) p4 n q4 l ∧ (F2 (w4.alloc (.cells #[.int .i64 c, .int .i64 a] 25)) w3.heap.size c a ∧ Tw (w4.alloc (.cells #[.int .i64 c, .int .i64 a] 25)) p3 n q3 l) ∧ Kept w (w4.alloc (.cells #[.int .i64 c, .int .i64 a] 25))) := ⟨F2.made w4 c a, T4'.kept ((Kept.refl _).alloc _), ⟨(Z3.out.1.kept k4).kept ((Kept.refl _).alloc _), (Z3.out.2.1.kept k4).kept ((Kept.refl _).alloc _)⟩, (Z3.out.2.2.trans k4).alloc _⟩; clear T4' k4)
    | (go_at_call 10; (with_reducible refine (f2 _).mono ?_); rintro e w5 ⟨rfl, k5⟩; obtain ⟨a0, a1⟩ := (Z4.out.1.kept k5).cs; obtain ⟨b0, b1⟩ := (Z4.out.2.2.1.1.kept k5).cs; have f6 := same_walk (Z4.out.2.2.1.2.kept k5) (Z4.out.2.1.kept k5); have K5 : Hid (Kept w w5) := Z4.out.2.2.2.trans k5; clear k5)
    | (go_at_call 11; (with_reducible refine f6.mono ?_); rintro e w6 ⟨rfl, k6⟩; have K6 : Hid (Kept w w6) := K5.out.trans k6; clear k6))
  go_ret
  exact ⟨rfl, K6.out⟩
end Go.Proofs.Ytgjhonphnecdhaa.Lx
