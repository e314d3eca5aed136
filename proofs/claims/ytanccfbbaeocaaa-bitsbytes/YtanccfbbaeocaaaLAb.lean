/- Two sets beside one another, and what is taken of both, in plain words. No condition but those that each row names. -/
import Derived.Test.YtanccfbbaeocaaaLA
namespace Go.Proofs.Ytanccfbbaeocaaa.Bt

/-- Which part is the first one. -/
def pl : List Pt → Nat
  | [] => 16384
  | p :: _ => p.1
/-- The first part's bits, if it is that one. -/
def fw : List Pt → Nat → Nat
  | [], _ => 0
  | p :: _, k => if p.1 = k then p.2 else 0
/-- What is left behind it. -/
def tl : List Pt → Nat → List Pt
  | [], _ => []
  | p :: r, k => if p.1 = k then r else p :: r
theorem tl_len (P : List Pt) (k : Nat) : (tl P k).length ≤ P.length := by
  cases P with
  | nil => exact Nat.le_refl _
  | cons p r => rw [tl]; split <;> simp
theorem Okp.tl {P : List Pt} (h : Okp P) (k : Nat) : Okp (tl P k) := by
  cases P with
  | nil => exact h
  | cons p r =>
    rw [Bt.tl]; split
    · exact h.tail
    · exact h
abbrev Pr := Nat × Nat × Nat
/-- The parts of two sets, rising. -/
def bsd : Nat → List Pt → List Pt → List Pr
  | 0, _, _ => []
  | n + 1, P, Q => if P.length + Q.length = 0 then [] else (min (pl P) (pl Q), fw P (min (pl P) (pl Q)), fw Q (min (pl P) (pl Q))) :: bsd n (tl P (min (pl P) (pl Q))) (tl Q (min (pl P) (pl Q)))
theorem fw_eq {P : List Pt} (h : Okp P) {k : Nat} (hk : k ≤ pl P) : fw P k = wd P k := by
  cases P with
  | nil => rfl
  | cons p r =>
    rw [fw, wd]
    split
    · rfl
    · rename_i e
      rw [wd_none]
      intro q hq
      have := (List.pairwise_cons.1 h.up).1 q hq
      have : k ≤ p.1 := hk
      omega
theorem wd_tl {P : List Pt} (h : Okp P) {k j : Nat} (hk : k ≤ pl P) (hj : k < j) : wd (tl P k) j = wd P j := by
  cases P with
  | nil => rfl
  | cons p r =>
    rw [tl]
    split
    · rename_i e; rw [wd, if_neg (by omega)]
    · rfl
theorem pl_tl {P : List Pt} (h : Okp P) {k : Nat} (hk : k ≤ pl P) (hl : k < 16384) : k < pl (tl P k) := by
  cases P with
  | nil => exact hl
  | cons p r =>
    rw [tl]
    split
    · rename_i e
      cases r with
      | nil => exact hl
      | cons q s => have := (List.pairwise_cons.1 h.up).1 q List.mem_cons_self; show k < q.1; omega
    · rename_i e
      have : k ≤ p.1 := hk
      show k < p.1; omega
theorem pl_lt {P : List Pt} (h : Okp P) (hl : P.length ≠ 0) : pl P < 16384 := by
  cases P with
  | nil => simp at hl
  | cons p r => exact (h.may p List.mem_cons_self).1
theorem pl_le {P : List Pt} (h : Okp P) : pl P ≤ 16384 := by
  cases P with
  | nil => exact Nat.le_refl _
  | cons p r => exact Nat.le_of_lt (h.may p List.mem_cons_self).1
theorem min_lt {P Q : List Pt} (hP : Okp P) (hQ : Okp Q) (h : P.length + Q.length ≠ 0) : min (pl P) (pl Q) < 16384 := by
  rcases Nat.eq_zero_or_pos P.length with e | e
  · have := pl_lt hQ (by omega); omega
  · have := pl_lt hP (by omega); omega
theorem tl_less {P Q : List Pt} (h : P.length + Q.length ≠ 0) (hP : Okp P) (hQ : Okp Q) : (tl P (min (pl P) (pl Q))).length + (tl Q (min (pl P) (pl Q))).length < P.length + Q.length := by
  have a := tl_len P (min (pl P) (pl Q))
  have b := tl_len Q (min (pl P) (pl Q))
  have hm := min_lt hP hQ h
  rcases Nat.le_total (pl P) (pl Q) with e | e
  · have e2 : min (pl P) (pl Q) = pl P := by omega
    have : (tl P (min (pl P) (pl Q))).length < P.length := by
      rw [e2] at hm ⊢
      cases P with
      | nil => simp [pl] at hm
      | cons p r => rw [tl, if_pos (show p.1 = pl (p :: r) from rfl)]; simp
    omega
  · have e2 : min (pl P) (pl Q) = pl Q := by omega
    have : (tl Q (min (pl P) (pl Q))).length < Q.length := by
      rw [e2] at hm ⊢
      cases Q with
      | nil => simp [pl] at hm
      | cons p r => rw [tl, if_pos (show p.1 = pl (p :: r) from rfl)]; simp
    omega
/-- What the parts of two sets are. -/
theorem bsd_spec : ∀ (n : Nat) (P Q : List Pt), Okp P → Okp Q → P.length + Q.length ≤ n →
    (bsd n P Q).Pairwise (fun a b => a.1 < b.1) ∧ (∀ x ∈ bsd n P Q, min (pl P) (pl Q) ≤ x.1 ∧ x.1 < 16384 ∧ x.2.1 = wd P x.1 ∧ x.2.2 = wd Q x.1) ∧ (∀ k, min (pl P) (pl Q) ≤ k → (wd P k ≠ 0 ∨ wd Q k ≠ 0) → ∃ x ∈ bsd n P Q, x.1 = k)
  | 0, P, Q, hP, hQ, hn => by
    have e1 : P = [] := List.length_eq_zero_iff.1 (by omega)
    have e2 : Q = [] := List.length_eq_zero_iff.1 (by omega)
    subst e1 e2
    exact ⟨List.Pairwise.nil, fun _ h => (by cases h), fun k _ h => by simp [wd] at h⟩
  | n + 1, P, Q, hP, hQ, hn => by
    by_cases h0 : P.length + Q.length = 0
    · have e1 : P = [] := List.length_eq_zero_iff.1 (by omega)
      have e2 : Q = [] := List.length_eq_zero_iff.1 (by omega)
      subst e1 e2
      rw [bsd, if_pos h0]
      exact ⟨List.Pairwise.nil, fun _ h => (by cases h), fun k _ h => by simp [wd] at h⟩
    · have hm := min_lt hP hQ h0
      have hl := tl_less h0 hP hQ
      obtain ⟨i1, i2, i3⟩ := bsd_spec n (tl P (min (pl P) (pl Q))) (tl Q (min (pl P) (pl Q))) (hP.tl _) (hQ.tl _) (by omega)
      have t1 := pl_tl hP (k := min (pl P) (pl Q)) (by omega) hm
      have t2 := pl_tl hQ (k := min (pl P) (pl Q)) (by omega) hm
      have w1 := fw_eq hP (k := min (pl P) (pl Q)) (by omega)
      have w2 := fw_eq hQ (k := min (pl P) (pl Q)) (by omega)
      have u1 := fun j => wd_tl hP (k := min (pl P) (pl Q)) (j := j) (by omega)
      have u2 := fun j => wd_tl hQ (k := min (pl P) (pl Q)) (j := j) (by omega)
      rw [bsd, if_neg h0, w1, w2]
      generalize min (pl P) (pl Q) = m at *
      refine ⟨List.pairwise_cons.2 ⟨fun x hx => ?_, i1⟩, fun x hx => ?_, fun k hk hw => ?_⟩
      · have := (i2 x hx).1
        show m < x.1; omega
      · rcases List.mem_cons.1 hx with rfl | hx
        · exact ⟨Nat.le_refl _, hm, rfl, rfl⟩
        · obtain ⟨a, b, c, d⟩ := i2 x hx
          exact ⟨by omega, b, by rw [c, u1 _ (by omega)], by rw [d, u2 _ (by omega)]⟩
      · by_cases e : k = m
        · exact ⟨_, List.mem_cons_self, e.symm⟩
        · obtain ⟨x, hx, e2⟩ := i3 k (by
            have h1 : wd (tl P m) k ≠ 0 ∨ wd (tl Q m) k ≠ 0 := by rw [u1 k (by omega), u2 k (by omega)]; exact hw
            have pk : ∀ {R : List Pt}, Okp R → wd R k ≠ 0 → pl R ≤ k := by
              intro R hR hne
              have hmem := mem_of_wd hne
              cases R with
              | nil => simp [wd] at hne
              | cons r0 rs =>
                rcases List.mem_cons.1 hmem with e | h
                · have : k = r0.1 := by rw [← e]
                  show r0.1 ≤ k; omega
                · have := (List.pairwise_cons.1 hR.up).1 _ h
                  show r0.1 ≤ k; simp only at this; omega
            rcases h1 with h1 | h1
            · have := pk (hP.tl m) h1; omega
            · have := pk (hQ.tl m) h1; omega) (by rw [u1 k (by omega), u2 k (by omega)]; exact hw)
          exact ⟨x, List.mem_cons_of_mem _ hx, e2⟩
/-- The parts of two sets. -/
def bes (P Q : List Pt) : List Pr := bsd (P.length + Q.length) P Q
/-- What is taken of a part of two sets. -/
def tk (f : Nat → Nat → Nat) (x : Pr) : List Pt := if f x.2.1 x.2.2 = 0 then [] else [(x.1, f x.2.1 x.2.2)]
/-- What is taken of two sets. -/
def mrg (f : Nat → Nat → Nat) (P Q : List Pt) : List Pt := (bes P Q).flatMap (tk f)
theorem mem_tk {f : Nat → Nat → Nat} {x : Pr} {p : Pt} : p ∈ tk f x ↔ p.1 = x.1 ∧ p.2 = f x.2.1 x.2.2 ∧ p.2 ≠ 0 := by
  unfold tk
  split
  · rename_i e
    constructor
    · intro h; cases h
    · rintro ⟨_, h1, h2⟩; exact absurd (h1.trans e) h2
  · rename_i e
    rw [List.mem_singleton]
    constructor
    · rintro rfl; exact ⟨rfl, rfl, e⟩
    · rintro ⟨h1, h2, _⟩; exact Prod.ext h1 h2
theorem flat_up {f : Nat → Nat → Nat} : ∀ {B : List Pr}, B.Pairwise (fun a b => a.1 < b.1) → (B.flatMap (tk f)).Pairwise fun a b => a.1 < b.1
  | [], _ => by simp
  | x :: r, h => by
    obtain ⟨h1, h2⟩ := List.pairwise_cons.1 h
    rw [List.flatMap_cons, List.pairwise_append]
    refine ⟨?_, flat_up h2, fun a ha b hb => ?_⟩
    · unfold tk; split <;> simp
    · obtain ⟨y, hy, hb2⟩ := List.mem_flatMap.1 hb
      rw [(mem_tk.1 ha).1, (mem_tk.1 hb2).1]
      exact h1 y hy
theorem mrg_ok {f : Nat → Nat → Nat} (hf : ∀ a b, a < 18446744073709551616 → b < 18446744073709551616 → f a b < 18446744073709551616) {P Q : List Pt} (hP : Okp P) (hQ : Okp Q) : Okp (mrg f P Q) := by
  obtain ⟨i1, i2, _⟩ := bsd_spec _ P Q hP hQ (Nat.le_refl _)
  refine ⟨flat_up i1, fun p hp => ?_⟩
  obtain ⟨x, hx, hp2⟩ := List.mem_flatMap.1 hp
  obtain ⟨a, b, c⟩ := mem_tk.1 hp2
  obtain ⟨_, d, e1, e2⟩ := i2 x hx
  rw [a, b, e1, e2]
  rw [b, e1, e2] at c
  exact ⟨d, by omega, hf _ _ (wd_lt hP _) (wd_lt hQ _)⟩
theorem wd_mrg {f : Nat → Nat → Nat} (hf : ∀ a b, a < 18446744073709551616 → b < 18446744073709551616 → f a b < 18446744073709551616) (h0 : f 0 0 = 0) {P Q : List Pt} (hP : Okp P) (hQ : Okp Q) (k : Nat) : wd (mrg f P Q) k = f (wd P k) (wd Q k) := by
  have hok := mrg_ok hf hP hQ
  obtain ⟨i1, i2, i3⟩ := bsd_spec _ P Q hP hQ (Nat.le_refl _)
  by_cases hz : f (wd P k) (wd Q k) = 0
  · rw [hz]
    refine wd_none fun p hp e => ?_
    obtain ⟨x, hx, hp2⟩ := List.mem_flatMap.1 hp
    obtain ⟨a, b, c⟩ := mem_tk.1 hp2
    obtain ⟨_, _, e1, e2⟩ := i2 x hx
    rw [b, e1, e2, ← a, e] at c
    exact c hz
  · have hne : wd P k ≠ 0 ∨ wd Q k ≠ 0 := by
      rcases Nat.eq_zero_or_pos (wd P k) with e | e
      · rcases Nat.eq_zero_or_pos (wd Q k) with e2 | e2
        · rw [e, e2] at hz; exact absurd h0 hz
        · exact .inr (by omega)
      · exact .inl (by omega)
    have hmn : min (pl P) (pl Q) ≤ k := by
      have pk : ∀ {R : List Pt}, Okp R → wd R k ≠ 0 → pl R ≤ k := by
        intro R hR hne
        have hmem := mem_of_wd hne
        cases R with
        | nil => simp [wd] at hne
        | cons r0 rs =>
          rcases List.mem_cons.1 hmem with e | h
          · have : k = r0.1 := by rw [← e]
            show r0.1 ≤ k; omega
          · have := (List.pairwise_cons.1 hR.up).1 _ h
            show r0.1 ≤ k; simp only at this; omega
      rcases hne with h | h
      · have := pk hP h; omega
      · have := pk hQ h; omega
    obtain ⟨x, hx, e⟩ := i3 k hmn hne
    obtain ⟨_, _, e1, e2⟩ := i2 x hx
    have hm : (k, f (wd P k) (wd Q k)) ∈ mrg f P Q := List.mem_flatMap.2 ⟨x, hx, mem_tk.2 ⟨e.symm, by rw [e1, e2, e], hz⟩⟩
    exact wd_of_mem hok hm
/-- What is said of a set that is taken of two others. -/
theorem mem_mrg {f : Nat → Nat → Nat} (hf : ∀ a b, a < 18446744073709551616 → b < 18446744073709551616 → f a b < 18446744073709551616) (h0 : f 0 0 = 0) {P Q : List Pt} (hP : Okp P) (hQ : Okp Q) {g : Bool → Bool → Bool} (hg : ∀ a b i, a < 18446744073709551616 → b < 18446744073709551616 → i < 64 → (f a b).testBit i = g (a.testBit i) (b.testBit i)) (n : Nat) :
    n ∈ nm (mrg f P Q) ↔ g ((wd P (n / 64)).testBit (n % 64)) ((wd Q (n / 64)).testBit (n % 64)) = true := by
  rw [mem_nm (mrg_ok hf hP hQ), wd_mrg hf h0 hP hQ, hg _ _ _ (wd_lt hP _) (wd_lt hQ _) (by omega)]
def orf (a b : Nat) : Nat := a ||| b
def anf (a b : Nat) : Nat := a &&& b
def lef (a b : Nat) : Nat := a &&& (18446744073709551615 - b)
theorem orf_lt (a b : Nat) (ha : a < 18446744073709551616) (hb : b < 18446744073709551616) : orf a b < 18446744073709551616 := Nat.or_lt_two_pow (n := 64) ha hb
theorem anf_lt (a b : Nat) (ha : a < 18446744073709551616) (_ : b < 18446744073709551616) : anf a b < 18446744073709551616 := Nat.lt_of_le_of_lt Nat.and_le_left ha
theorem lef_lt (a b : Nat) (ha : a < 18446744073709551616) (_ : b < 18446744073709551616) : lef a b < 18446744073709551616 := Nat.lt_of_le_of_lt Nat.and_le_left ha
theorem lef_bit (a b i : Nat) (_ : a < 18446744073709551616) (hb : b < 18446744073709551616) (hi : i < 64) : (lef a b).testBit i = (a.testBit i && !b.testBit i) := by
  unfold lef
  rw [Nat.testBit_and, show 18446744073709551615 - b = 2 ^ 64 - (b + 1) by omega, Nat.testBit_two_pow_sub_succ (by omega)]
  simp [hi]
theorem mem_or {P Q : List Pt} (hP : Okp P) (hQ : Okp Q) (n : Nat) : n ∈ nm (mrg orf P Q) ↔ n ∈ nm P ∨ n ∈ nm Q := by
  rw [mem_mrg orf_lt rfl hP hQ (g := or) (fun a b i _ _ _ => Nat.testBit_or a b i), mem_nm hP, mem_nm hQ]; simp
theorem mem_and {P Q : List Pt} (hP : Okp P) (hQ : Okp Q) (n : Nat) : n ∈ nm (mrg anf P Q) ↔ n ∈ nm P ∧ n ∈ nm Q := by
  rw [mem_mrg anf_lt rfl hP hQ (g := and) (fun a b i _ _ _ => Nat.testBit_and a b i), mem_nm hP, mem_nm hQ]; simp
theorem mem_less {P Q : List Pt} (hP : Okp P) (hQ : Okp Q) (n : Nat) : n ∈ nm (mrg lef P Q) ↔ n ∈ nm P ∧ ¬ n ∈ nm Q := by
  rw [mem_mrg lef_lt rfl hP hQ (g := fun a b => a && !b) lef_bit, mem_nm hP, mem_nm hQ]; simp
theorem or_ok {P Q : List Pt} (hP : Okp P) (hQ : Okp Q) : Okp (mrg orf P Q) := mrg_ok orf_lt hP hQ
theorem and_ok {P Q : List Pt} (hP : Okp P) (hQ : Okp Q) : Okp (mrg anf P Q) := mrg_ok anf_lt hP hQ
theorem less_ok {P Q : List Pt} (hP : Okp P) (hQ : Okp Q) : Okp (mrg lef P Q) := mrg_ok lef_lt hP hQ
end Go.Proofs.Ytanccfbbaeocaaa.Bt
