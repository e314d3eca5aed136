/- The walks of a reader's Take, Fixed and Text: what is read, and what is left. Conditions: the reader is nil, or holds the bytes that are named, without an error; numbers are ones of 64 bits; a text has 100000 bytes at most. -/
import Derived.Test.YtgcfollelefmcaaWWalkJ
import Derived.Laws.IdiomStrings
namespace Go.Proofs.Ytgcfollelefmcaa
open Go.ChangeShapes Go.WideShapes Go.ChangeAt Go.RowKit

theorem take_nil (q : Int) (w : World) : Calls Try.prog 78 #[.pointer none, .int .i64 q] w fun e w' => e = .returned (.string ⟨#[]⟩) ∧ w' = w := by
  go_enter Try.func78, Try.ntmps78
  go_wp2_with (go_at_call 77; refine (fail_nil 2 rfl _).mono ?_; rintro e w' ⟨rfl, rfl⟩)
  go_ret
  exact ⟨rfl, rfl⟩

theorem bs_front (l t : List Nat) : (bs (l ++ t)).extract 0 l.length = bs l := by
  rw [bs_extract]; simp

set_option maxRecDepth 100000 in
theorem take_walk (l t : List Nat) (x : Int) {b : Nat} {w : World} (k : Rd w b (bs (l ++ t)) x) :
    Calls Try.prog 78 #[.pointer (some ⟨b, 0, none⟩), .int .i64 (l.length : Nat)] w fun e w' => e = .returned (.string (bs l)) ∧ Rd w' b (bs t) x ∧ On b w w' := by
  have c0 := k.c0
  have f0 := k.f0 0
  have h1 := bs_front l t
  have hx := bs_rest l t
  have hsz : (bs (l ++ t)).size = l.length + t.length := by rw [bs_size]; simp
  have k2 := k.set0 (bs t)
  have o2 : On b w (w.setCell ⟨b, 0, none⟩ (.string (bs t))) := ⟨(Below.refl b w).setCell (Nat.le_refl _) _⟩
  have K2 : Hid (Rd (w.setCell ⟨b, 0, none⟩ (.string (bs t))) b (bs t) x) := k2
  generalize bs (l ++ t) = s at *
  have hls : l.length ≤ s.size := by omega
  clear k2 k hsz
  generalize l.length = L at *
  go_enter Try.func78, Try.ntmps78
  go_wp2
  go_ret
  exact ⟨rfl, K2.out, o2⟩

set_option maxRecDepth 100000 in
theorem rtext64 (l t : List Nat) (hl : l.length ≤ 64) (ht : t.length ≤ 10000) {b : Nat} {w : World} (k : Rd w b (bs (numL l.length ++ (l ++ t))) 0) :
    Calls Try.prog 61 #[.pointer (some ⟨b, 0, none⟩), .int .i64 64] w fun e w' => e = .returned (.string (bs l)) ∧ Rd w' b (bs t) 0 ∧ On b w w' := by
  have h11 := rnum_walk l.length (by omega) (l ++ t) (by simp; omega) 64 hl k
  have h21 := @take_walk l t 0 b
  generalize bs (l ++ t) = s2 at *
  generalize l.length = L at *
  go_enter Try.func61, Try.ntmps61
  go_wp2_with (first
    | (go_at_call 60; refine h11.mono ?_; rintro e w1 ⟨rfl, k1, o1⟩)
    | (go_at_call 78; refine (h21 k1).mono ?_; rintro e w2 ⟨rfl, k2, o2⟩))
  go_ret
  exact ⟨rfl, k2, o1.trans o2⟩

set_option maxRecDepth 100000 in
theorem rtext48 (l t : List Nat) (hl : l.length ≤ 48) (ht : t.length ≤ 10000) {b : Nat} {w : World} (k : Rd w b (bs (numL l.length ++ (l ++ t))) 0) :
    Calls Try.prog 61 #[.pointer (some ⟨b, 0, none⟩), .int .i64 48] w fun e w' => e = .returned (.string (bs l)) ∧ Rd w' b (bs t) 0 ∧ On b w w' := by
  have h11 := rnum_walk l.length (by omega) (l ++ t) (by simp; omega) 48 hl k
  have h21 := @take_walk l t 0 b
  generalize bs (l ++ t) = s2 at *
  generalize l.length = L at *
  go_enter Try.func61, Try.ntmps61
  go_wp2_with (first
    | (go_at_call 60; refine h11.mono ?_; rintro e w1 ⟨rfl, k1, o1⟩)
    | (go_at_call 78; refine (h21 k1).mono ?_; rintro e w2 ⟨rfl, k2, o2⟩))
  go_ret
  exact ⟨rfl, k2, o1.trans o2⟩

end Go.Proofs.Ytgcfollelefmcaa
