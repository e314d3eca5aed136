/- The walks of the statements on no places and on copies. Conditions: the library's table is laid. -/
import Derived.Test.YticfelpghchnpaaDoorWalkE
namespace Go.Proofs.YticfelpghchnpaaDoor
open Go.ChangeShapes Go.WideShapes Go.ChangeAt Go.RowKit

theorem low (k m : Nat) (hk : k ≤ 10) (h1 : (BitVec.ofInt 64 (m : Int)).toNat = 2 ^ k - 1) (a : Int) : ∃ x : Nat, x < 2 ^ k ∧ bits .and .i64 a m = (x : Int) := by
  have key : (BitVec.ofInt 64 a &&& BitVec.ofInt 64 m).toNat = (a % ((2 ^ 64 : Nat) : Int)).toNat % 2 ^ k := by
    rw [BitVec.toNat_and, BitVec.toNat_ofInt, h1, Nat.and_two_pow_sub_one_eq_mod]
  have hp : 2 ^ k ≤ 2 ^ 10 := Nat.pow_le_pow_right (by decide) hk
  have hl := Nat.mod_lt (a % ((2 ^ 64 : Nat) : Int)).toNat (Nat.two_pow_pos k)
  refine ⟨(a % ((2 ^ 64 : Nat) : Int)).toNat % 2 ^ k, hl, ?_⟩
  show IntKind.i64.wrap ((BitVec.ofInt 64 a &&& BitVec.ofInt 64 m).toNat : Nat) = _
  rw [key, IntKind.wrap_i64]
  omega

theorem first_of_none {k : Nat} {r : Int} {u : Nat → Bool} (h : IsFirst u 0 k r) : r = -1 := h.unique (.inr ⟨rfl, fun _ _ h => by omega⟩)

set_option maxHeartbeats 2000000 in
theorem none_walk (n : Int) (hn : n < 9223372036854775808) (w : World) (hL : Lds w) : Calls Tryd.prog 5 #[.int .i64 n] w fun e w' => e = .returned (.bool true) ∧ Kept w w' := by
  obtain ⟨x, hx, ex⟩ := low 10 1023 (by omega) (by decide) n
  have ex' : bits .and .i64 n 1023 = (x : Int) := ex
  clear ex
  have hx' : x < 1024 := hx
  clear hx
  go_enter Tryd.func5, Tryd.ntmps5
  go_wp2_with (first
    | (go_at_call 6; (with_reducible refine (new_neg _ (by omega) w).mono ?_); rintro e w1 ⟨b, rfl, hs1, hk1⟩)
    | (go_at_call 7; (with_reducible refine (awake_walk w1 (hL.kept hk1)).mono ?_); rintro e w2 ⟨rfl, hk2⟩; have hs2 := hs1.kept hk2; have hk3 := hk1.trans hk2; have hm : Calls Tryd.prog 8 #[.pointer (some ⟨b, 0, none⟩)] w2 fun e w' => e = .returned (.int .i64 0) ∧ w' = w2 := many_walk hs2; have hf := first_at hs2 (hL.kept hk3) n hn; clear hs1 hs2 hk1 hk2)
    | (go_at_call 8; (with_reducible refine (many_nil).mono ?_); rintro e w' ⟨rfl, hw'⟩; rw [hw']; clear hw')
    | (go_at_call 8; (with_reducible refine hm.mono ?_); rintro e w' ⟨rfl, hw'⟩; rw [hw']; clear hw')
    | (go_at_call 11; (with_reducible refine (used_nil n).mono ?_); rintro e w' ⟨rfl, hw'⟩; rw [hw']; clear hw')
    | (go_at_call 9; (with_reducible refine (use_nil n).mono ?_); rintro e w' ⟨rfl, hw'⟩; rw [hw']; clear hw')
    | (go_at_call 10; (with_reducible refine (free_nil n).mono ?_); rintro e w' ⟨rfl, hw'⟩; rw [hw']; clear hw')
    | (go_at_call 14; (with_reducible refine (left_nil).mono ?_); rintro e w' ⟨rfl, hw'⟩; rw [hw']; clear hw')
    | (go_at_call 12; (with_reducible refine (first_nil n).mono ?_); rintro e w' ⟨rfl, hw'⟩; rw [hw']; clear hw')
    | (go_at_call 12; (with_reducible refine hf.mono ?_); rintro e w' ⟨r, rfl, hr, hw'⟩; rw [hw']; clear hw'; obtain rfl := first_of_none hr)
    | (go_at_call 15; (with_reducible refine (copy_nil).mono ?_); rintro e w' ⟨rfl, hw'⟩; rw [hw']; clear hw'))
  go_ret
  exact ⟨rfl, hk3⟩

theorem into (a : Int) (n : Nat) (h : 0 < n) : ∃ x : Nat, x < n ∧ (a.tmod n + n).tmod n = (x : Int) ∧ -(n : Int) < a.tmod n ∧ a.tmod n < n := by
  have h1 : a.tmod n < n := Int.tmod_lt_of_pos a (by omega)
  have h2 : -(n : Int) < a.tmod n := by
    have := Int.tmod_lt_of_pos (-a) (b := (n : Int)) (by omega)
    rw [Int.neg_tmod] at this
    omega
  refine ⟨((a.tmod n + n).tmod n).toNat, ?_, ?_, h2, h1⟩
  · have := Int.tmod_lt_of_pos (a.tmod n + n) (b := (n : Int)) (by omega)
    omega
  · have := Int.tmod_nonneg (n : Int) (a := a.tmod n + n) (by omega)
    omega

set_option maxHeartbeats 2000000 in
set_option maxRecDepth 100000 in
theorem copies_walk (a0 a1 a2 : Int) (w : World) (hL : Lds w) : Calls Tryd.prog 4 #[.int .i64 a0, .int .i64 a1, .int .i64 a2] w fun e w' => e = .returned (.bool true) ∧ Kept w w' := by
  obtain ⟨q, hq, eq⟩ := low 7 127 (by omega) (by decide) a0
  have eq' : bits .and .i64 a0 127 = (q : Int) := eq
  have hq' : q < 128 := hq
  clear eq hq
  obtain ⟨x, hx, ex, x1, x2⟩ := into a1 (q + 1) (by omega)
  obtain ⟨y, hy, ey, y1, y2⟩ := into a2 (q + 1) (by omega)
  have hnw : Calls Tryd.prog 6 #[.int .i64 ((q : Int) + 1)] w fun e w' => ∃ b, e = .returned (.pointer (some ⟨b, 0, none⟩)) ∧ SAt w.heap.size w' b (q + 1) (q + 1) (fun _ => false) ∧ Kept w w' := new_walk (q + 1) (by omega) w
  have ez : ((q + 1 : Nat) : Int) = (q : Int) + 1 := by omega
  rw [ez] at ex ey x1 x2 y1 y2
  go_enter Tryd.func4, Tryd.ntmps4
  go_wp2_with (go_at_call 6; refine hnw.mono ?_; rintro e w1 ⟨b, rfl, hs1, hk1⟩)
  go_region
  have hk1' : Kept w w1.drew := hk1.drew
  have hs1' : SAt w.heap.size w1.drew b (q + 1) (q + 1) (fun _ => false) := hs1.kept (Kept.refl w1).drew
  clear hs1 hk1 hnw ex ey x1 x2 y1 y2 ez
  generalize w1.drew = W1 at hs1' hk1' ⊢
  have f9 := use_new hs1' hk1'.size x hx rfl (by omega)
  go_wp2_with (first
    | (go_at_call 9; (with_reducible refine f9.mono ?_); rintro e W2 ⟨rfl, hs2, ho2⟩; clear f9; have f15 := copy_walk hs2; have hk2 : Kept w W2 := ⟨hk1'.out.trans ho2.below⟩)
    | (go_at_call 15; (with_reducible refine f15.mono ?_); rintro e W3 ⟨b', rfl, ht3, hk3⟩; clear f15; have f10 := free_old ht3 hk3.size x hx (by simp [useAt]) (by omega))
    | (go_at_call 10; (with_reducible refine f10.mono ?_); rintro e W4 ⟨rfl, ht4, ho4⟩; clear f10; have hk24 : Kept W2 W4 := ⟨hk3.out.trans ho4.below⟩; have hs4 := hs2.kept hk24; have f11 := used_in hs4 y hy; have f9' := use_new ht4 hk24.size y hy (by simp [useAt, freeAt]) (by omega))
    | (go_at_call 11; (with_reducible refine f11.mono ?_); rintro e W5 ⟨rfl, hW5⟩; rw [hW5]; clear f11 hW5)
    | (go_at_call 9; (with_reducible refine f9'.mono ?_); rintro e W6 ⟨rfl, ht6, ho6⟩; clear f9'; have hk26 : Kept W2 W6 := ⟨hk24.out.trans ho6.below⟩; have hk6 := hk2.trans hk26; have f7 := awake_walk W6 (hL.kept hk6))
    | (go_at_call 7; (with_reducible refine f7.mono ?_); rintro e W7 ⟨rfl, hk67⟩; clear f7; have hk7 := hk6.trans hk67; have hs7 := hs2.kept (hk26.trans hk67); have ht7 := ht6.kept hk67; have f11a := used_in hs7 x hx; have f11b := used_in hs7 y hy; have f11c := used_in ht7 y hy; have f8 := many_walk ht7; rw [show useAt (fun _ => false) x x = true by simp [useAt]] at f11a; rw [show useAt (freeAt (useAt (fun _ => false) x) x) y y = true by simp [useAt]] at f11c)
    | (go_at_call 11; (with_reducible refine f11a.mono ?_); rintro e W8 ⟨rfl, hW8⟩; rw [hW8]; clear f11a hW8)
    | (go_at_call 11; (with_reducible refine f11b.mono ?_); rintro e W8 ⟨rfl, hW8⟩; rw [hW8]; clear f11b hW8)
    | (go_at_call 11; (with_reducible refine f11c.mono ?_); rintro e W8 ⟨rfl, hW8⟩; rw [hW8]; clear f11c hW8)
    | (go_at_call 8; (with_reducible refine f8.mono ?_); rintro e W8 ⟨rfl, hW8⟩; rw [hW8]; clear f8 hW8))
  go_ret
  exact ⟨rfl, hk7⟩
end Go.Proofs.YticfelpghchnpaaDoor
