/- Plain numbers and lists: the bytes of a number by sevens, what each of them says, and a state's sector: whose it is. No condition but those that each row names. -/
import Derived.Test.YthlhnjjofefgcaaGreatDoorPSector
namespace Go.Proofs.YthlhnjjofefgcaaGreatDoor.P

/-- A number's bytes, by sevens; so many at most. -/
def numF : Nat → Nat → List Nat
  | 0, _ => []
  | f + 1, n => if n < 128 then [n] else (128 + n % 128) :: numF f (n / 128)

theorem numF_same : ∀ (f g n : Nat), n < f → n < g → numF f n = numF g n := by
  intro f
  induction f with
  | zero => intro g n h; omega
  | succ f ih =>
    intro g n h1 h2
    cases g with
    | zero => omega
    | succ g =>
      rw [numF, numF]
      by_cases h : n < 128
      · rw [if_pos h, if_pos h]
      · rw [if_neg h, if_neg h, ih g (n / 128) (by omega) (by omega)]

/-- A number's bytes, by sevens. -/
def numL (n : Nat) : List Nat := numF (n + 1) n

theorem numL_last {n : Nat} (h : n < 128) : numL n = [n] := by rw [numL, numF, if_pos h]
theorem numL_more {n : Nat} (h : ¬ n < 128) : numL n = (128 + n % 128) :: numL (n / 128) := by
  rw [numL, numF, if_neg h, numL, numF_same n (n / 128 + 1) (n / 128) (by omega) (by omega)]

theorem numL_small (n : Nat) : Small (numL n) := by
  induction n using Nat.strongRecOn with
  | _ n ih =>
    by_cases h : n < 128
    · rw [numL_last h]; intro x hx; simp at hx; omega
    · rw [numL_more h]; intro x hx
      rcases List.mem_cons.1 hx with rfl | hx
      · omega
      · exact ih (n / 128) (by omega) x hx

theorem numL_length (k : Nat) : ∀ n, n < 128 ^ (k + 1) → (numL n).length ≤ k + 1 := by
  induction k with
  | zero => intro n h; rw [numL_last (by simpa using h)]; simp
  | succ k ih =>
    intro n h
    by_cases h1 : n < 128
    · rw [numL_last h1]; simp
    · rw [numL_more h1]
      have := ih (n / 128) (by rw [Nat.pow_succ] at h; omega)
      simp; omega

theorem numL_ten (n : Nat) (h : n < 18446744073709551616) : (numL n).length ≤ 10 := numL_length 9 n (by omega)

theorem numL_ne (n : Nat) : numL n ≠ [] := by
  by_cases h : n < 128
  · rw [numL_last h]; simp
  · rw [numL_more h]; simp


theorem numL_mod (m i c : Nat) (h : m / 128 % 128 ^ (i + 1) = m / 128 % 128 ^ i + c * 128 ^ i) : m % 128 ^ (i + 2) = m % 128 ^ (i + 1) + c * 128 ^ (i + 1) := by
  have e : ∀ k, m % 128 ^ (k + 1) = m % 128 + 128 * (m / 128 % 128 ^ k) := fun k => by
    rw [Nat.pow_succ, Nat.mul_comm (128 ^ k) 128, Nat.mod_mul]
  rw [show i + 2 = (i + 1) + 1 from rfl, e (i + 1), e i, h, Nat.pow_succ, Nat.mul_add, ← Nat.add_assoc]
  congr 1
  rw [Nat.mul_comm (128 ^ i) 128, Nat.mul_left_comm]

/-- What each byte of a number says. -/
theorem num_step (i : Nat) : ∀ m, i < (numL m).length →
    m % 128 ^ (i + 1) = m % 128 ^ i + (numL m).getD i 0 % 128 * 128 ^ i ∧
    ((numL m).getD i 0 < 128 → i + 1 = (numL m).length ∧ m % 128 ^ (i + 1) = m ∧ (i = 0 ∨ (numL m).getD i 0 ≠ 0)) ∧
    (¬ (numL m).getD i 0 < 128 → i + 1 < (numL m).length) := by
  induction i with
  | zero =>
    intro m _
    by_cases h : m < 128
    · rw [numL_last h]
      simp [Nat.mod_one]
      omega
    · rw [numL_more h]
      have := numL_ne (m / 128)
      have hl : 0 < (numL (m / 128)).length := by cases hq : numL (m / 128) with
        | nil => exact absurd hq this
        | cons _ _ => simp
      simp [Nat.mod_one]
      omega
  | succ i ih =>
    intro m hi
    by_cases h : m < 128
    · rw [numL_last h] at hi; simp at hi
    · rw [numL_more h] at hi ⊢
      simp only [List.length_cons] at hi ⊢
      obtain ⟨a, b, c⟩ := ih (m / 128) (by omega)
      have e : ((128 + m % 128) :: numL (m / 128)).getD (i + 1) 0 = (numL (m / 128)).getD i 0 := by simp [List.getD]
      rw [e]
      refine ⟨numL_mod m i _ a, fun hc => ?_, fun hc => by have := c hc; omega⟩
      obtain ⟨b1, b2, b3⟩ := b hc
      refine ⟨by omega, ?_, Or.inr ?_⟩
      · rw [show i + 1 + 1 = (i + 1) + 1 from rfl, Nat.pow_succ, Nat.mul_comm (128 ^ (i + 1)) 128, Nat.mod_mul, b2]; omega
      · rcases b3 with rfl | b3
        · intro h0
          have : m / 128 < 128 := by
            by_cases h2 : m / 128 < 128
            · exact h2
            · rw [numL_more h2] at h0; simp at h0
          rw [numL_last this] at h0
          simp at h0; omega
        · exact b3

theorem num_val {a b : Nat} (h : numL a = numL b) : a = b := by
  have key : ∀ a, a % 128 ^ (numL a).length = a := by
    intro a
    induction a using Nat.strongRecOn with
    | _ a ih =>
      by_cases h : a < 128
      · rw [numL_last h]; simp; omega
      · rw [numL_more h, List.length_cons, Nat.pow_succ, Nat.mul_comm _ 128, Nat.mod_mul, ih (a / 128) (by omega)]; omega
  have pre : ∀ i, i ≤ (numL a).length → a % 128 ^ i = b % 128 ^ i := by
    intro i
    induction i with
    | zero => intro _; simp [Nat.mod_one]
    | succ i ih =>
      intro hi
      rw [(num_step i a (by omega)).1, (num_step i b (by rw [← h]; omega)).1, ih (by omega), h]
  have := pre _ (Nat.le_refl _)
  rwa [key a, h, key b] at this

theorem numL_three {m : Nat} (h : m ≤ 16384) : (numL m).length ≤ 3 := numL_length 2 m (by omega)

/-- May a state be? -/
def Sup (g : Nat) (r : Int) : Prop := 1 ≤ g ∧ g < 4611686018427387904 ∧ -1 ≤ r ∧ r < 16384

/-- A state's sector. -/
def supP (g : Nat) (r : Int) : List Nat := pageL 1 (g % 2) g (numL (r + 1).toNat)

theorem supP_len {g : Nat} {r : Int} (h : Sup g r) : (numL (r + 1).toNat).length ≤ 237 := by
  obtain ⟨_, _, h3, h4⟩ := h
  have := numL_three (m := (r + 1).toNat) (by omega)
  omega

theorem supP_put {g : Nat} {r : Int} (h : Sup g r) : putL 1 ((g % 2 : Nat) : Int) g (numL (r + 1).toNat) = supP g r := by
  have := supP_len h
  rw [putL_may ⟨by omega, by omega, by omega, by omega, this⟩]
  rfl

theorem supP_small (g : Nat) (r : Int) : Small (supP g r) := pageL_small _ _ _ (numL_small _)
theorem supP_length {g : Nat} {r : Int} (h : Sup g r) : (supP g r).length = 256 := pageL_length _ _ _ _ (supP_len h)

theorem supP_okk {g : Nat} {r : Int} (h : Sup g r) : Okk (supP g r) ∧ fK (supP g r) = 1 ∧ fG (supP g r) = g ∧ fD (supP g r) = numL (r + 1).toNat := by
  have hl := supP_len h
  have hg : g < 18446744073709551616 := by have := h.2.1; omega
  obtain ⟨a, b, c, d, f⟩ := page_okk 1 ((g % 2 : Nat) : Int) g (numL (r + 1).toNat) ⟨by omega, by omega, by omega, by omega, hl⟩ hg
  rw [supP_put h] at a b c d f
  exact ⟨a, by omega, d, f⟩

/-- A sector says one state at most. -/
theorem supP_inj {g k : Nat} {r t : Int} (h : Sup g r) (h2 : Sup k t) (e : supP g r = supP k t) : g = k ∧ r = t := by
  obtain ⟨_, _, a, b⟩ := supP_okk h
  obtain ⟨_, _, c, d⟩ := supP_okk h2
  rw [e] at a b
  refine ⟨by rw [← a, c], ?_⟩
  have := num_val (b.symm.trans d)
  have h3 := h.2.2.1
  have h4 := h2.2.2.1
  omega
end Go.Proofs.YthlhnjjofefgcaaGreatDoor.P
