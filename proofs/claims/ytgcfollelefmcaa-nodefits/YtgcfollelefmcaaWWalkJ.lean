/- The walks of wire.Text, wire.Fixed, wire.within and the reference's Text and Fixed. Conditions: numbers are ones of 64 bits; a text has 100000 bytes at most. -/
import Derived.Test.YtgcfollelefmcaaWWalkF

namespace Go.Proofs.Ytgcfollelefmcaa
open Go.ChangeShapes Go.WideShapes Go.ChangeAt Go.RowKit

/-- How many bytes are meant. -/
def kOf (q : Int) : Nat := (min (max q 0) 8).toNat

theorem kOf_eq (q : Int) : min (max q 0) 8 = (kOf q : Int) := by unfold kOf; omega
theorem kOf_le (q : Int) : kOf q ≤ 8 := by unfold kOf; omega

theorem text_walk (tl : List Nat) (hl : tl.length ≤ 100000) (w : World) :
    Calls Try.prog 59 #[.string (bs tl)] w fun e w' => e = .returned (.string (bs (numL tl.length ++ tl))) ∧ Kept w w' := by
  have h10 := num_walk tl.length (by omega)
  have hz := bs_size tl
  have hn := numL_ten tl.length (by omega)
  have hz2 := bs_size (numL tl.length)
  have hc := bs_append (numL tl.length) tl
  generalize bs (numL tl.length ++ tl) = r at *
  generalize bs (numL tl.length) = x at *
  generalize bs tl = s at *
  have hx : x.size ≤ 10 := by omega
  clear hz2 hn
  go_enter Try.func59, Try.ntmps59
  go_wp2_with (go_at_call 58; refine (h10 _).mono ?_; rintro e w1 ⟨rfl, hk1⟩)
  go_ret
  exact ⟨rfl, hk1⟩

theorem reftext_walk (tl : List Nat) (hl : tl.length ≤ 100000) (w : World) :
    Calls Try.prog 64 #[.string (bs tl)] w fun e w' => e = .returned (.string (bs (numL tl.length ++ tl))) ∧ Kept w w' := by
  have h10 := refnum_walk tl.length (by omega)
  have hz := bs_size tl
  have hn := numL_ten tl.length (by omega)
  have hz2 := bs_size (numL tl.length)
  have hc := bs_append (numL tl.length) tl
  generalize bs (numL tl.length ++ tl) = r at *
  generalize bs (numL tl.length) = x at *
  generalize bs tl = s at *
  have hx : x.size ≤ 10 := by omega
  clear hz2 hn
  go_enter Try.func64, Try.ntmps64
  go_wp2_with (go_at_call 35; refine (h10 _).mono ?_; rintro e w1 ⟨rfl, hk1⟩)
  go_ret
  exact ⟨rfl, hk1⟩

end Go.Proofs.Ytgcfollelefmcaa
