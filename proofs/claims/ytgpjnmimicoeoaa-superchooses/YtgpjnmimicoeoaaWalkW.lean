/- The law on which of two states is told, whole. Conditions: numbers are within their kinds. -/
import Derived.Test.YtgpjnmimicoeoaaWalkV
namespace Go.Proofs.Ytgpjnmimicoeoaa
open Go.ChangeShapes Go.WideShapes Go.ChangeAt Go.RowKit

theorem and1023 (g : Nat) (hg : g < 18446744073709551616) : bits .and .u64 (g : Int) 1023 = ((g % 1024 : Nat) : Int) := by
  have h := bits_and_u64_nat g 1023 hg (by decide)
  have e : g &&& 1023 = g % 1024 := Nat.and_two_pow_sub_one_eq_mod g 10
  rw [e] at h
  exact h

/-- What is handed to Choose of one state. -/
def side (b : Bool) (X : Nat) (r : Int) : ByteArray := if b = true then ⟨#[]⟩ else bs (supL X r)

theorem empty_is : (⟨#[]⟩ : ByteArray).toList.isEmpty = true := by rw [ByteArray.toList_mk]; decide

theorem side_is (b : Bool) (X : Nat) (r a : Int) (ha : a = ((X % 2 : Nat) : Int)) :
    ((side b X r).toList.isEmpty = false ∧ ∀ W, Calls Try.prog 8 #[.string (side b X r), .int .i64 a] W fun e w' => e = .returned (.tuple #[.agg #[.int .u64 (X : Nat), .int .i64 r], .bool true]) ∧ Kept W w') ∨
    ((side b X r).toList.isEmpty = true ∧ ∀ W, Calls Try.prog 8 #[.string (side b X r), .int .i64 a] W fun e w' => e = .returned (.tuple #[.agg #[.int .u64 ((0 : Nat) : Int), .int .i64 0], .bool false]) ∧ Kept W w') := by
  cases b with
  | true => exact .inr ⟨empty_is, sget_empty a⟩
  | false =>
    by_cases h : Sup X r
    · have e : side false X r = bs (supP X r) := by unfold side; rw [supL_yes h]; rfl
      rw [e]
      exact .inl ⟨supP_some h, fun W => sget_yes h ha W⟩
    · have e : side false X r = ⟨#[]⟩ := by unfold side; rw [supL_no h]; rfl
      rw [e]
      exact .inr ⟨empty_is, sget_empty a⟩

theorem chooses_walk (g1 g2 : Nat) (h1 : g1 < 18446744073709551616) (h2 : g2 < 18446744073709551616) (r1 r2 t : Int) (w : World) :
    Calls Try.prog 5 #[.agg #[.int .u64 (g1 : Nat), .int .i64 r1], .agg #[.int .u64 (g2 : Nat), .int .i64 r2], .int .i64 t] w fun e w' => e = .returned (.bool true) ∧ Kept w w' := by
  have e1 := and1023 g1 h1
  have e2 := and1023 g2 h2
  have l1 : g1 % 1024 < 1024 := Nat.mod_lt _ (by decide)
  have l2 : g2 % 1024 < 1024 := Nat.mod_lt _ (by decide)
  generalize g1 % 1024 = A1 at *
  generalize g2 % 1024 = A2 at *
  have u1 : IntKind.u64.wrap ((A1 : Int) * 2) = ((A1 * 2 : Nat) : Int) := by rw [IntKind.wrap_u64]; omega
  have u2 : IntKind.u64.wrap ((A2 : Int) * 2) = ((A2 * 2 : Nat) : Int) := by rw [IntKind.wrap_u64]; omega
  have u3 : IntKind.u64.wrap (((A2 * 2 : Nat) : Int) + 1) = ((A2 * 2 + 1 : Nat) : Int) := by rw [IntKind.wrap_u64]; omega
  have fx := lput_walk (A1 * 2) r1
  have fy := lput_walk (A2 * 2 + 1) r2
  have k := fun p q o ok hp hq ho C R hok hC hR f14 => chooses_A g1 g2 A1 A2 (A2 * 2) (A1 * 2) (A2 * 2 + 1) r1 r2 t _ _ e1 e2 u1 u2 u3 rfl rfl _ _ (side (bits .and .i64 t 1 == 1) (A1 * 2) r1) (side (bits .and .i64 t 2 == 2) (A2 * 2 + 1) r2) _ _ p q o ok rfl rfl rfl rfl hp hq ho C R hok hC hR fx fy f14 w
  have s1 := side_is (bits .and .i64 t 1 == 1) (A1 * 2) r1 0 (by omega)
  have s2 := side_is (bits .and .i64 t 2 == 2) (A2 * 2 + 1) r2 1 (by omega)
  rcases s1 with ⟨p1, f1⟩ | ⟨p1, f1⟩
  · rcases s2 with ⟨p2, f2⟩ | ⟨p2, f2⟩
    · by_cases h : A1 * 2 < A2 * 2 + 1
      · exact k false false false true p1 p2 (decide_eq_false (by omega)) _ _ rfl (by simp) (by simp) (fun W => choose_odd _ _ _ _ _ _ _ h f1 f2 W)
      · exact k false false true true p1 p2 (decide_eq_true (by omega)) _ _ rfl (by simp) (by simp) (fun W => choose_even _ _ _ _ _ _ _ h f1 f2 W)
    · exact k false true _ true p1 p2 rfl _ _ rfl (by simp) (by simp) (fun W => choose_none _ _ _ _ _ _ _ f1 f2 W)
  · rcases s2 with ⟨p2, f2⟩ | ⟨p2, f2⟩
    · exact k true false _ true p1 p2 rfl _ _ rfl (by simp) (by simp) (fun W => choose_odd _ _ _ _ _ _ _ (by omega) f1 f2 W)
    · exact k true true _ false p1 p2 rfl _ _ rfl (by simp) (by simp) (fun W => choose_none _ _ _ _ _ _ _ f1 f2 W)
end Go.Proofs.Ytgpjnmimicoeoaa
