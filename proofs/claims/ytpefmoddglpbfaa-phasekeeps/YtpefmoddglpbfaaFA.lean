/- Plain numbers: what any bytes say as a number by sevens, up to a limit; that a number's own bytes say it. No condition but those that each row names. -/
import Derived.Test.YtpefmoddglpbfaaNWPure
namespace Go.Proofs.Ytpefmoddglpbfaa.Ph
open N (bs numL numL_last numL_more numL_ten Small)

/-- What stands behind k bytes of a number that say A: an error, the number, how many bytes it has in all. -/
def scan : Nat → Nat → List Nat → Int × Nat × Nat
  | _, _, [] => (2, 0, 0)
  | k, A, y :: t => if (k = 9 ∧ 1 < y) ∨ (0 < k ∧ y = 0) then (3, 0, 0) else if y < 128 then (0, A + y % 128 * 128 ^ k, k + 1) else scan (k + 1) (A + y % 128 * 128 ^ k) t

theorem scan_nil (k A : Nat) : scan k A [] = (2, 0, 0) := by rw [scan]
theorem scan_form {k A y : Nat} {t : List Nat} (h : (k = 9 ∧ 1 < y) ∨ (0 < k ∧ y = 0)) : scan k A (y :: t) = (3, 0, 0) := by rw [scan, if_pos h]
theorem scan_last {k A y : Nat} {t : List Nat} (h : ¬ ((k = 9 ∧ 1 < y) ∨ (0 < k ∧ y = 0))) (h1 : y < 128) : scan k A (y :: t) = (0, A + y * 128 ^ k, k + 1) := by
  rw [scan, if_neg h, if_pos h1, Nat.mod_eq_of_lt h1]
theorem scan_more {k A y : Nat} {t : List Nat} (h : ¬ ((k = 9 ∧ 1 < y) ∨ (0 < k ∧ y = 0))) (h1 : ¬ y < 128) : scan k A (y :: t) = scan (k + 1) (A + y % 128 * 128 ^ k) t := by
  rw [scan, if_neg h, if_neg h1]

/-- A number's own bytes say it. -/
theorem scan_num (m : Nat) : ∀ (k A : Nat) (t : List Nat), k ≤ 9 → m * 128 ^ k < 18446744073709551616 → (k = 0 ∨ m ≠ 0) → scan k A (numL m ++ t) = (0, A + m * 128 ^ k, k + (numL m).length) := by
  induction m using Nat.strongRecOn with
  | _ m ih =>
    intro k A t hk hm hz
    have h9 : k = 9 → m < 2 := by intro e; subst e; omega
    by_cases h : m < 128
    · rw [numL_last h]
      exact scan_last (by omega) h
    · rw [numL_more h, List.cons_append, scan_more (by omega) (by omega)]
      have e : m / 128 * 128 ^ (k + 1) + m % 128 * 128 ^ k = m * 128 ^ k := by
        rw [Nat.pow_succ, Nat.mul_comm (128 ^ k) 128, ← Nat.mul_assoc, ← Nat.add_mul]
        congr 1; omega
      have hk8 : k ≤ 8 := by
        rcases Nat.lt_or_ge 8 k with h8 | h8
        · have := h9 (by omega); omega
        · exact h8
      rw [ih (m / 128) (by omega) (k + 1) _ t (by omega) (by omega) (Or.inr (by omega)), List.length_cons]
      rw [show (128 + m % 128) % 128 = m % 128 by omega]
      congr 2 <;> omega

theorem scan_own (m : Nat) (hm : m < 18446744073709551616) (t : List Nat) : scan 0 0 (numL m ++ t) = (0, m, (numL m).length) := by
  have := scan_num m 0 0 t (by omega) (by omega) (Or.inl rfl)
  rw [this]; simp

/-- How many bytes it has: not more than there are. -/
theorem scan_within : ∀ (l : List Nat) (k A : Nat), (scan k A l).1 = 0 → (scan k A l).2.2 ≤ k + l.length
  | [], k, A, h => by rw [scan_nil] at h; exact absurd h (by decide)
  | y :: t, k, A, h => by
    by_cases h1 : (k = 9 ∧ 1 < y) ∨ (0 < k ∧ y = 0)
    · rw [scan_form h1] at h; exact absurd h (by decide)
    · by_cases h2 : y < 128
      · rw [scan_last h1 h2, List.length_cons]; show k + 1 ≤ _; omega
      · rw [scan_more h1 h2] at h ⊢
        have := scan_within t (k + 1) _ h
        rw [List.length_cons]; omega

/-- What is left, the error and the number, behind a number up to a limit. -/
def pass (M : Nat) (l : List Nat) (x : Int) : List Nat × Int × Nat :=
  if x ≠ 0 then (l, x, 0) else
  if (scan 0 0 l).1 ≠ 0 then ([], (scan 0 0 l).1, 0) else
  if M < (scan 0 0 l).2.1 then ([], 4, 0) else (l.drop (scan 0 0 l).2.2, 0, (scan 0 0 l).2.1)

theorem pass_err {M : Nat} {l : List Nat} {x : Int} (h : x ≠ 0) : pass M l x = (l, x, 0) := if_pos h
theorem pass_wrong {M : Nat} {l : List Nat} {x : Int} {n k : Nat} (h : scan 0 0 l = (x, n, k)) (hx : x ≠ 0) : pass M l 0 = ([], x, 0) := by
  unfold pass; rw [h, if_neg (by decide), if_pos hx]
theorem pass_over {M : Nat} {l : List Nat} {n k : Nat} (h : scan 0 0 l = (0, n, k)) (hn : M < n) : pass M l 0 = ([], 4, 0) := by
  unfold pass; rw [h, if_neg (by decide), if_neg (show ¬ (0 : Int) ≠ 0 by decide), if_pos hn]
theorem pass_in {M : Nat} {l : List Nat} {n k : Nat} (h : scan 0 0 l = (0, n, k)) (hn : n ≤ M) : pass M l 0 = (l.drop k, 0, n) := by
  unfold pass; rw [h, if_neg (by decide), if_neg (show ¬ (0 : Int) ≠ 0 by decide), if_neg (by show ¬ M < n; omega)]
theorem pass_own {M m : Nat} (hm : m ≤ M) (hM : M < 18446744073709551616) (t : List Nat) : pass M (numL m ++ t) 0 = (t, 0, m) := by
  rw [pass_in (scan_own m (by omega) t) hm, List.drop_left]
theorem pass_last {M m : Nat} (hm : m ≤ M) (hM : M < 18446744073709551616) : pass M (numL m) 0 = ([], 0, m) := by
  have := pass_own hm hM []
  rwa [List.append_nil] at this

theorem pass_small (M : Nat) {l : List Nat} (h : Small l) (x : Int) : Small (pass M l x).1 := by
  unfold pass
  split
  · exact h
  · split
    · exact fun x hx => by cases hx
    · split
      · exact fun x hx => by cases hx
      · exact h.drop _
theorem pass_len (M : Nat) (l : List Nat) (x : Int) : (pass M l x).1.length ≤ l.length := by
  unfold pass
  split
  · exact Nat.le_refl _
  · split
    · exact Nat.zero_le _
    · split
      · exact Nat.zero_le _
      · show (l.drop _).length ≤ _; rw [List.length_drop]; omega
theorem pass_most (M : Nat) (l : List Nat) (x : Int) : (pass M l x).2.2 ≤ M := by
  unfold pass
  split
  · exact Nat.zero_le _
  · split
    · exact Nat.zero_le _
    · split
      · exact Nat.zero_le _
      · show (scan 0 0 l).2.1 ≤ M; omega
/-- Behind an error nothing is left. -/
theorem pass_none (M : Nat) {l : List Nat} {x : Int} (h : x ≠ 0 → l = []) : (pass M l x).2.1 ≠ 0 → (pass M l x).1 = [] := by
  unfold pass
  split
  · exact h
  · split
    · exact fun _ => rfl
    · split
      · exact fun _ => rfl
      · exact fun k => absurd rfl k

/-- What bytes say as a record: an error, the phase, steps, commits. -/
def rec (l : List Nat) : Int × Nat × Nat × Nat :=
  if (pass 4611686018427387903 (pass 4611686018427387903 (pass 7 l 0).1 (pass 7 l 0).2.1).1 (pass 4611686018427387903 (pass 7 l 0).1 (pass 7 l 0).2.1).2.1).2.1 ≠ 0 then
    ((pass 4611686018427387903 (pass 4611686018427387903 (pass 7 l 0).1 (pass 7 l 0).2.1).1 (pass 4611686018427387903 (pass 7 l 0).1 (pass 7 l 0).2.1).2.1).2.1, 0, 0, 0) else
  if (pass 4611686018427387903 (pass 4611686018427387903 (pass 7 l 0).1 (pass 7 l 0).2.1).1 (pass 4611686018427387903 (pass 7 l 0).1 (pass 7 l 0).2.1).2.1).1 ≠ [] then (5, 0, 0, 0) else
  (0, (pass 7 l 0).2.2, (pass 4611686018427387903 (pass 7 l 0).1 (pass 7 l 0).2.1).2.2, (pass 4611686018427387903 (pass 4611686018427387903 (pass 7 l 0).1 (pass 7 l 0).2.1).1 (pass 4611686018427387903 (pass 7 l 0).1 (pass 7 l 0).2.1).2.1).2.2)

theorem rec_wrong {l l1 l2 l3 : List Nat} {x1 x2 x3 : Int} {n1 n2 n3 : Nat} (h1 : pass 7 l 0 = (l1, x1, n1)) (h2 : pass 4611686018427387903 l1 x1 = (l2, x2, n2)) (h3 : pass 4611686018427387903 l2 x2 = (l3, x3, n3)) (h : x3 ≠ 0) : rec l = (x3, 0, 0, 0) := by
  unfold rec; simp only [h1, h2, h3]; rw [if_pos h]
theorem rec_more {l l1 l2 l3 : List Nat} {x1 x2 x3 : Int} {n1 n2 n3 : Nat} (h1 : pass 7 l 0 = (l1, x1, n1)) (h2 : pass 4611686018427387903 l1 x1 = (l2, x2, n2)) (h3 : pass 4611686018427387903 l2 x2 = (l3, x3, n3)) (h : x3 = 0) (hl : l3 ≠ []) : rec l = (5, 0, 0, 0) := by
  unfold rec; simp only [h1, h2, h3]; rw [if_neg (by simp [h]), if_pos hl]
theorem rec_in {l l1 l2 l3 : List Nat} {x1 x2 x3 : Int} {n1 n2 n3 : Nat} (h1 : pass 7 l 0 = (l1, x1, n1)) (h2 : pass 4611686018427387903 l1 x1 = (l2, x2, n2)) (h3 : pass 4611686018427387903 l2 x2 = (l3, x3, n3)) (h : x3 = 0) (hl : l3 = []) : rec l = (0, n1, n2, n3) := by
  unfold rec; simp only [h1, h2, h3]; rw [if_neg (by simp [h]), if_neg (by simp [hl])]

/-- A record's own bytes say it; no bytes are too short. -/
theorem rec_own {a s c : Nat} (ha : a ≤ 7) (hs : s ≤ 4611686018427387903) (hc : c ≤ 4611686018427387903) : rec (numL a ++ (numL s ++ numL c)) = (0, a, s, c) :=
  rec_in (pass_own ha (by decide) _) (pass_own hs (by decide) _) (pass_last hc (by decide)) rfl rfl
theorem rec_nil : rec [] = (2, 0, 0, 0) :=
  rec_wrong (pass_wrong (scan_nil 0 0) (by decide)) (pass_err (by decide)) (pass_err (by decide)) (by decide)
end Go.Proofs.Ytpefmoddglpbfaa.Ph
