/- The walks of a reader's Num, Take, Fixed and Text, and of wire.within: what is read, and what is left. Conditions: the reader is nil, or holds the bytes that are named, without an error; a number is one of 64 bits; sizes are within Go's bound. -/
import Derived.Test.YtpefmoddglpbfaaNWWalkE
namespace Go.Proofs.Ytpefmoddglpbfaa.N
open Go.ChangeShapes Go.WideShapes Go.ChangeAt Go.RowKit

theorem num_nil (q : Int) (w : World) : Calls Try.prog 17 #[.pointer none, .int .u64 q] w fun e w' => e = .returned (.int .u64 0) ∧ w' = w := by
  go_enter Try.func17, Try.ntmps17
  go_wp2_with (go_at_call 20; refine (err_nil _).mono ?_; rintro e w' ⟨rfl, rfl⟩)
  go_ret
  exact ⟨rfl, rfl⟩

theorem bs_rest (l t : List Nat) : (bs (l ++ t)).extract l.length (bs (l ++ t)).size = bs t := by
  rw [bs_extract, bs_size, List.drop_left, List.length_append, Nat.add_sub_cancel_left, List.take_of_length_le (Nat.le_refl _)]

set_option maxRecDepth 100000 in
theorem rnum_walk (n : Nat) (hn : n < 18446744073709551616) (t : List Nat) (ht : t.length ≤ 100000) (most : Nat) (hm : n ≤ most) {b : Nat} {w : World} (k : Rd w b (bs (numL n ++ t)) 0) :
    Calls Try.prog 17 #[.pointer (some ⟨b, 0, none⟩), .int .u64 (most : Nat)] w fun e w' => e = .returned (.int .u64 (n : Nat)) ∧ Rd w' b (bs t) 0 ∧ On b w w' := by
  have h10 := numL_ten n hn
  have c0 := k.c0
  have f0 := k.f0 0
  have e13 := err_walk k
  have e33 := first_walk n hn t ht w
  have hx := bs_rest (numL n) t
  have hsz : (bs (numL n ++ t)).size = (numL n).length + t.length := by rw [bs_size]; simp
  have k2 := k.set0 (bs t)
  have o2 : On b w (w.setCell ⟨b, 0, none⟩ (.string (bs t))) := ⟨(Below.refl b w).setCell (Nat.le_refl _) _⟩
  have K2 : Hid (Rd (w.setCell ⟨b, 0, none⟩ (.string (bs t))) b (bs t) 0) := k2
  generalize bs (numL n ++ t) = s at *
  generalize (numL n).length = L at *
  have hls : L ≤ s.size := by omega
  clear k2 hsz k
  go_enter Try.func17, Try.ntmps17
  go_wp2_with (first
    | (go_at_call 20; refine e13.mono ?_; rintro e w' ⟨rfl, rfl⟩)
    | (go_at_call 21; refine e33.mono ?_; rintro e w' ⟨rfl, rfl⟩))
  go_ret
  exact ⟨rfl, K2.out, o2⟩

set_option maxRecDepth 100000 in
theorem rnum_over (n : Nat) (hn : n < 18446744073709551616) (t : List Nat) (ht : t.length ≤ 100000) (most : Nat) (hm : most < n) {b : Nat} {w : World} (k : Rd w b (bs (numL n ++ t)) 0) :
    Calls Try.prog 17 #[.pointer (some ⟨b, 0, none⟩), .int .u64 (most : Nat)] w fun e w' => e = .returned (.int .u64 0) ∧ Rd w' b ⟨#[]⟩ 4 ∧ On b w w' := by
  have h10 := numL_ten n hn
  have c0 := k.c0
  have e13 := err_walk k
  have e33 := first_walk n hn t ht w
  have e32 := fail_first 4 rfl k
  generalize bs (numL n ++ t) = s at *
  generalize (numL n).length = L at *
  clear k
  go_enter Try.func17, Try.ntmps17
  go_wp2_with (first
    | (go_at_call 20; refine e13.mono ?_; rintro e w' ⟨rfl, rfl⟩)
    | (go_at_call 21; refine e33.mono ?_; rintro e w' ⟨rfl, rfl⟩)
    | (go_at_call 22; refine e32.mono ?_; rintro e w1 ⟨rfl, k1, o1⟩))
  go_ret
  exact ⟨rfl, k1, o1⟩
end Go.Proofs.Ytpefmoddglpbfaa.N
