/- The walks of a reader's Take, Fixed and Text: what is read, and what is left. Conditions: the reader is nil, or holds the bytes that are named, without an error; numbers are ones of 64 bits; a text has 100000 bytes at most. -/
import Derived.Test.YtanccfbbaeocaaaNWWalkJ
import Derived.Laws.IdiomStrings
namespace Go.Proofs.Ytanccfbbaeocaaa.N
open Go.ChangeShapes Go.WideShapes Go.ChangeAt Go.RowKit

theorem take_nil (q : Int) (w : World) : Calls Try.prog 42 #[.pointer none, .int .i64 q] w fun e w' => e = .returned (.string ⟨#[]⟩) ∧ w' = w := by
  go_enter Try.func42, Try.ntmps42
  go_wp2_with (go_at_call 29; refine (fail_nil 2 rfl _).mono ?_; rintro e w' ⟨rfl, rfl⟩)
  go_ret
  exact ⟨rfl, rfl⟩

theorem bs_front (l t : List Nat) : (bs (l ++ t)).extract 0 l.length = bs l := by
  rw [bs_extract]; simp

set_option maxRecDepth 100000 in
theorem take_walk (l t : List Nat) (x : Int) {b : Nat} {w : World} (k : Rd w b (bs (l ++ t)) x) :
    Calls Try.prog 42 #[.pointer (some ⟨b, 0, none⟩), .int .i64 (l.length : Nat)] w fun e w' => e = .returned (.string (bs l)) ∧ Rd w' b (bs t) x ∧ On b w w' := by
  have c0 := k.c0
  have f0 := k.f0 0
  have h1 := bs_front l t
  have hx := bs_rest l t
  have hsz : (bs (l ++ t)).size = l.length + t.length := by rw [bs_size]; simp
  have k2 := k.set0 (bs t)
  have o2 : On b w (w.setCell ⟨b, 0, none⟩ (.string (bs t))) := ⟨(Below.refl b w).setCell (Nat.le_refl _) _⟩
  have K2 : Hid (Rd (w.setCell ⟨b, 0, none⟩ (.string (bs t))) b (bs t) x) := k2
  generalize bs (l ++ t) = s at *
  have hls : l.length ≤ s.size := by omega
  clear k2 k hsz
  generalize l.length = L at *
  go_enter Try.func42, Try.ntmps42
  go_wp2
  go_ret
  exact ⟨rfl, K2.out, o2⟩

end Go.Proofs.Ytanccfbbaeocaaa.N
