/- The walk of a reader's Num over whatever bytes, up to 16384: what it answers is a number up to that; over the bytes of such a number alone it is that. Conditions: the reader is a block that holds its bytes, without an error; all bytes are below 256; there are 100000 at most. -/
import Derived.Test.YthlhnjjofefgcaaGreatDoorPWalkM
namespace Go.Proofs.YthlhnjjofefgcaaGreatDoor.P
open Go.ChangeShapes Go.WideShapes Go.ChangeAt Go.RowKit

set_option maxRecDepth 100000 in
set_option maxHeartbeats 1000000 in
theorem rnum_any (l : List Nat) (hl : Small l) (ht : l.length ≤ 100000) {b : Nat} {w : World} (k : Rd w b (bs l) 0) :
    Calls Tryz.prog 95 #[.pointer (some ⟨b, 0, none⟩), .int .u64 16384] w fun e w' => On b w w' ∧ ∃ x : Nat, e = .returned (.int .u64 (x : Nat)) ∧ x ≤ 16384 ∧ ∀ m, m ≤ 16384 → l = numL m → x = m := by
  have c0 := k.c0
  have f0 := k.f0 0
  have e13 := err_walk k
  have e33 := first_any l hl ht w
  have HF : Hid (∀ x : Int, (x == 0) = false → Calls Tryz.prog 96 #[.pointer (some ⟨b, 0, none⟩), .int .i64 x] w fun e w' => e = .returned (.tuple #[]) ∧ Rd w' b ⟨#[]⟩ x ∧ On b w w') := fun x hx => fail_first x hx k
  have HO : Hid (∀ t, On b w (w.setCell ⟨b, 0, none⟩ (.string t))) := fun t => (On.refl b w).set 0 _
  have HZ : Hid ((bs l).size = l.length) := bs_size l
  generalize bs l = s at *
  clear k
  go_enter Tryz.func95, Tryz.ntmps95
  go_wp2_with (first
    | (go_at_call 79; refine e13.mono ?_; rintro e w' ⟨rfl, rfl⟩)
    | (go_at_call 113; refine e33.mono ?_; rintro e w' ⟨rfl, n, kk, x, rfl, hF⟩; have hks : kk ≤ s.size := (by have := hF.within; have := HZ.out; omega); have HFI : Hid (FirstIs l n kk x) := hF; have hn := hF.fits; clear e13 e33; rcases hF.kind with hx | hx | hx <;> (clear hF; subst hx))
    | (go_at_call 96; refine (HF.out _ rfl).mono ?_; rintro e w1 ⟨rfl, k1, o1⟩))
  all_goals go_ret
  · exact ⟨o1, 0, rfl, by omega, fun m h1 h2 => by have := HFI.out.own m h1 h2; omega⟩
  · exact ⟨HO.out _, n, rfl, by omega, fun m h1 h2 => (HFI.out.own m h1 h2).2.1⟩
  · exact ⟨o1, 0, rfl, by omega, fun m h1 h2 => by have := (HFI.out.own m h1 h2).1; cases this⟩
  · exact ⟨o1, 0, rfl, by omega, fun m h1 h2 => by have := (HFI.out.own m h1 h2).1; cases this⟩
end Go.Proofs.YthlhnjjofefgcaaGreatDoor.P
