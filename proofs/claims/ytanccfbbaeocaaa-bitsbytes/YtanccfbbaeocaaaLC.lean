/- The walks of mayBe, place, what is taken of two words, and of counting bits. Conditions: those that each row names. -/
import Derived.Laws.BitsAllLaws
import Derived.Test.YtanccfbbaeocaaaLB
namespace Go.Proofs.Ytanccfbbaeocaaa.Bt
open Go.ChangeShapes Go.WideShapes Go.ChangeAt Go.RowKit

/-- May a number be in a set? -/
def may (n : Int) : Bool := decide (0 ≤ n ∧ n < 1048576)
set_option maxHeartbeats 400000 in
theorem may_walk (n : Int) (w : World) : Calls Try.prog 34 #[.int .i64 n] w fun e w' => e = .returned (.bool (may n)) ∧ w' = w := by
  by_cases h1 : 0 ≤ n
  · by_cases h2 : n < 1048576
    · rw [show may n = true from decide_eq_true ⟨h1, h2⟩]
      go_enter Try.func34, Try.ntmps34
      go_wp2
      go_ret
      exact ⟨rfl, rfl⟩
    · rw [show may n = false from decide_eq_false fun h => h2 h.2]
      go_enter Try.func34, Try.ntmps34
      go_wp2
      go_ret
      exact ⟨rfl, rfl⟩
  · rw [show may n = false from decide_eq_false fun h => h1 h.1]
    go_enter Try.func34, Try.ntmps34
    go_wp2
    go_ret
    exact ⟨rfl, rfl⟩

set_option maxHeartbeats 400000 in
theorem place_walk {w : World} {p : Option Addr} {n c : Nat} {P : List Pt} (h : St w p n c P) (i : Nat) (hi : i ≤ n) :
    Calls Try.prog 59 #[.agg #[.slice p n c], .int .i64 (i : Nat)] w fun e w' => e = .returned (.int .i64 (pl (P.drop i) : Nat)) ∧ w' = w.alloc (.cells #[.slice p n c] 25) := by
  have hf := h.few
  have hl := h.len
  by_cases hlt : i < n
  · obtain ⟨x, hx⟩ : ∃ x, P[i]? = some x := ⟨_, List.getElem?_eq_getElem (by omega)⟩
    obtain ⟨b, o, rfl, c1, _⟩ := h.at hx
    have e : P.drop i = x :: P.drop (i + 1) := by
      obtain ⟨hi2, rfl⟩ := List.getElem?_eq_some_iff.1 hx
      rw [List.drop_eq_getElem_cons hi2]
    rw [e]
    show Calls _ _ _ _ fun e w' => e = .returned (.int .i64 (x.1 : Nat)) ∧ _
    generalize x.1 = a at c1
    clear e hx h hl
    have d1 : (w.alloc (.cells #[.slice (some ⟨b, o, none⟩) n c] 25)).cell? ⟨b, o + i * 2, none⟩ = some (.int .i64 (a : Nat)) := ((Kept.refl w).alloc _).cell c1
    go_enter Try.func59, Try.ntmps59
    go_wp2
    go_ret
    exact ⟨rfl, rfl⟩
  · obtain rfl : i = n := by omega
    rw [List.drop_of_length_le (by omega)]
    show Calls _ _ _ _ fun e w' => e = .returned (.int .i64 16384) ∧ _
    clear h hl
    go_enter Try.func59, Try.ntmps59
    go_wp2
    go_ret
    exact ⟨rfl, rfl⟩

theorem orf_bits (a b : Nat) (ha : a < 18446744073709551616) (hb : b < 18446744073709551616) : bits .or .u64 (a : Int) (b : Int) = ((orf a b : Nat) : Int) := u64_or_nat a b ha hb
theorem anf_bits (a b : Nat) (ha : a < 18446744073709551616) (hb : b < 18446744073709551616) : bits .and .u64 (a : Int) (b : Int) = ((anf a b : Nat) : Int) := u64_and_nat a b ha hb
theorem lef_bits (a b : Nat) (ha : a < 18446744073709551616) (hb : b < 18446744073709551616) : bits .andNot .u64 (a : Int) (b : Int) = ((lef a b : Nat) : Int) := u64_andNot_nat a b ha hb
set_option maxHeartbeats 400000 in
theorem orf_walk (a b : Nat) (ha : a < 18446744073709551616) (hb : b < 18446744073709551616) (w : World) : Calls Try.prog 40 #[.int .u64 (a : Nat), .int .u64 (b : Nat)] w fun e w' => e = .returned (.int .u64 (orf a b : Nat)) ∧ w' = w := by
  have h := orf_bits a b ha hb
  go_enter Try.func40, Try.ntmps40
  go_wp2
  go_ret
  exact ⟨rfl, rfl⟩
theorem low7 (v : Nat) (h : v ≤ 9223372036854775807) : bits .and .i64 (v : Int) 127 = ((v % 128 : Nat) : Int) := by
  have key : (BitVec.ofInt 64 (v : Int) &&& BitVec.ofInt 64 127).toNat = v % 128 := by
    rw [BitVec.toNat_and, BitVec.ofInt_natCast, BitVec.toNat_ofNat, Nat.mod_eq_of_lt (by omega), show (BitVec.ofInt 64 127).toNat = 2 ^ 7 - 1 by decide, Nat.and_two_pow_sub_one_eq_mod]
  show IntKind.i64.wrap ((BitVec.ofInt 64 (v : Int) &&& BitVec.ofInt 64 127).toNat : Nat) = _
  rw [key, IntKind.wrap_i64]
  omega
theorem and_le_mask (a m : Nat) : a &&& m ≤ m := Nat.and_le_right
set_option maxHeartbeats 1000000 in
theorem ones_walk (x : Nat) (hx : x < 18446744073709551616) (w : World) : Calls Try.prog 38 #[.int .u64 (x : Nat)] w fun e w' => e = .returned (.int .i64 (cnt x 64 : Nat)) ∧ w' = w := by
  obtain ⟨y1, hy1⟩ : ∃ y, y = s1 6148914691236517205 x := ⟨_, rfl⟩
  obtain ⟨y2, hy2⟩ : ∃ y, y = s2 3689348814741910323 y1 := ⟨_, rfl⟩
  obtain ⟨y, hy⟩ : ∃ y, y = s3 1085102592571150095 y2 := ⟨_, rfl⟩
  obtain ⟨z, hz⟩ : ∃ z, z = y + y / 256 := ⟨_, rfl⟩
  obtain ⟨u, hu⟩ : ∃ u, u = z + z / 65536 := ⟨_, rfl⟩
  obtain ⟨v, hv⟩ : ∃ v, v = u + u / 4294967296 := ⟨_, rfl⟩
  obtain ⟨o1, o2, o3, o4, o5⟩ := ones_all x y z u hx (by rw [hy, hy2, hy1]) hz hu
  have q1 : y1 ≤ 12297829382473034410 := by
    rw [hy1]; unfold s1
    have := and_le_mask (x / 2) 6148914691236517205
    have := and_le_mask x 6148914691236517205
    omega
  have q2 : y2 ≤ 7378697629483820646 := by
    rw [hy2]; unfold s2
    have := and_le_mask (y1 / 4) 3689348814741910323
    have := and_le_mask y1 3689348814741910323
    omega
  have e1 : IntKind.u64.wrap (bits .and .u64 ((x : Int) / 2) 6148914691236517205 + bits .and .u64 (x : Int) 6148914691236517205) = (y1 : Int) := by
    have a := u64_and_nat (x / 2) 6148914691236517205 (by omega) (by omega)
    have b := u64_and_nat x 6148914691236517205 hx (by omega)
    have h2 : ((x : Int) / 2) = ((x / 2 : Nat) : Int) := by omega
    rw [h2]
    rw [show ((6148914691236517205 : Nat) : Int) = 6148914691236517205 from rfl] at a b
    rw [a, b, IntKind.wrap_u64]
    unfold s1 at hy1
    omega
  have e2 : IntKind.u64.wrap (bits .and .u64 ((y1 : Int) / 4) 3689348814741910323 + bits .and .u64 (y1 : Int) 3689348814741910323) = (y2 : Int) := by
    have a := u64_and_nat (y1 / 4) 3689348814741910323 (by omega) (by omega)
    have b := u64_and_nat y1 3689348814741910323 (by omega) (by omega)
    have h2 : ((y1 : Int) / 4) = ((y1 / 4 : Nat) : Int) := by omega
    rw [h2]
    rw [show ((3689348814741910323 : Nat) : Int) = 3689348814741910323 from rfl] at a b
    rw [a, b, IntKind.wrap_u64]
    unfold s2 at hy2
    omega
  have e3 : bits .and .u64 (IntKind.u64.wrap ((y2 : Int) / 16 + (y2 : Int))) 1085102592571150095 = (y : Int) := by
    have a := u64_and_nat (y2 / 16 + y2) 1085102592571150095 (by omega) (by omega)
    rw [show ((1085102592571150095 : Nat) : Int) = 1085102592571150095 from rfl] at a
    have h2 : IntKind.u64.wrap ((y2 : Int) / 16 + (y2 : Int)) = ((y2 / 16 + y2 : Nat) : Int) := by rw [IntKind.wrap_u64]; omega
    rw [h2, a, hy]; rfl
  have e4 : IntKind.u64.wrap ((y : Int) + (y : Int) / 256) = (z : Int) := by rw [IntKind.wrap_u64]; omega
  have e5 : IntKind.u64.wrap ((z : Int) + (z : Int) / 65536) = (u : Int) := by rw [IntKind.wrap_u64]; omega
  have e6 : IntKind.u64.wrap ((u : Int) + (u : Int) / 4294967296) = (v : Int) := by rw [IntKind.wrap_u64]; omega
  have e7 : IntKind.i64.wrap (v : Int) = (v : Int) := by rw [IntKind.wrap_i64]; omega
  have e8 : bits .and .i64 (v : Int) 127 = ((cnt x 64 : Nat) : Int) := by rw [low7 v (by omega), hv, o5]
  generalize cnt x 64 = cx at e8 ⊢
  clear o1 o2 o3 o4 o5 q1 q2 hy1 hy2 hy hz hu hv hx
  go_enter Try.func38, Try.ntmps38
  go_wp2
  go_ret
  exact ⟨rfl, rfl⟩
end Go.Proofs.Ytanccfbbaeocaaa.Bt
