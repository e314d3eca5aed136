/- The bits of a word one by one, the lowest first; the parts of a list that rises; where a part stands. No condition but those that each row names. -/
import Derived.Test.YtanccfbbaeocaaaLAc
namespace Go.Proofs.Ytanccfbbaeocaaa.Bt

theorem up_extN : ∀ {a b : List Nat}, a.Pairwise (· < ·) → b.Pairwise (· < ·) → (∀ x, x ∈ a ↔ x ∈ b) → a = b
  | [], [], _, _, _ => rfl
  | [], y :: s, _, _, h => absurd ((h y).2 List.mem_cons_self) List.not_mem_nil
  | x :: r, [], _, _, h => absurd ((h x).1 List.mem_cons_self) List.not_mem_nil
  | x :: r, y :: s, ha, hb, h => by
    obtain ⟨a1, a2⟩ := List.pairwise_cons.1 ha
    obtain ⟨b1, b2⟩ := List.pairwise_cons.1 hb
    have e : x = y := by
      rcases List.mem_cons.1 ((h x).1 List.mem_cons_self) with e | h1
      · exact e
      · rcases List.mem_cons.1 ((h y).2 List.mem_cons_self) with e | h2
        · exact e.symm
        · have := a1 y h2; have := b1 x h1; omega
    subst e
    congr 1
    refine up_extN a2 b2 fun z => ⟨fun hz => ?_, fun hz => ?_⟩
    · rcases List.mem_cons.1 ((h z).1 (List.mem_cons_of_mem _ hz)) with e | h1
      · have := a1 z hz; omega
      · exact h1
    · rcases List.mem_cons.1 ((h z).2 (List.mem_cons_of_mem _ hz)) with e | h1
      · have := b1 z hz; omega
      · exact h1
theorem bsw_zero : bsw 0 = [] := by simp [bsw]
/-- A word without its lowest bit. -/
theorem low_off {w t : Nat} (ht : w.testBit t = true) (hl : ∀ i, i < t → w.testBit i = false) (i : Nat) : (w &&& (w - 1)).testBit i = (w.testBit i && !decide (i = t)) := by
  have hm : w % 2 ^ t = 0 := by
    refine Nat.eq_of_testBit_eq fun i => ?_
    rw [Nat.testBit_mod_two_pow, Nat.zero_testBit]
    by_cases h : i < t
    · rw [hl i h]; simp
    · simp [h]
  have ho : (w / 2 ^ t) % 2 = 1 := by
    have h := ht
    rw [show t = 0 + t by omega, ← Nat.testBit_div_two_pow, Nat.testBit_zero] at h
    simpa using h
  obtain ⟨q, hq⟩ : ∃ q, w = 2 ^ t * (2 * q + 1) := ⟨w / 2 ^ t / 2, by
    have h1 := Nat.div_add_mod w (2 ^ t)
    have h2 : 2 * (w / 2 ^ t / 2) + 1 = w / 2 ^ t := by omega
    rw [h2]; omega⟩
  have hp : 0 < 2 ^ t := Nat.two_pow_pos t
  have h1 : w - 1 = 2 ^ t * (2 * q) + (2 ^ t - 1) := by
    rw [hq, Nat.mul_add, Nat.mul_one]; omega
  have b1 : (w - 1).testBit i = if i < t then (2 ^ t - 1).testBit i else (2 * q).testBit (i - t) := by
    rw [h1]; exact Nat.testBit_two_pow_mul_add (2 * q) (by omega) i
  have b2 : w.testBit i = if i < t then false else (2 * q + 1).testBit (i - t) := by
    have := Nat.testBit_two_pow_mul_add (2 * q + 1) (b := 0) (i := t) hp i
    rw [Nat.add_zero, ← hq] at this
    rw [this]; simp
  rw [Nat.testBit_and, b1, b2]
  by_cases h : i < t
  · simp [h]
  · rw [if_neg h, if_neg h]
    by_cases e : i = t
    · subst e
      rw [Nat.sub_self, Nat.testBit_zero, Nat.testBit_zero]; simp
    · obtain ⟨j, hj⟩ : ∃ j, i - t = j + 1 := ⟨i - t - 1, by omega⟩
      rw [hj, Nat.testBit_succ, Nat.testBit_succ, show (2 * q + 1) / 2 = q by omega, show 2 * q / 2 = q by omega]
      simp [e]
theorem off_lt {w : Nat} (hw : w < 18446744073709551616) : w &&& (w - 1) < 18446744073709551616 := Nat.lt_of_le_of_lt Nat.and_le_left hw
/-- The lowest bit, and the others. -/
theorem bsw_low {w t : Nat} (h64 : t < 64) (ht : w.testBit t = true) (hl : ∀ i, i < t → w.testBit i = false) : bsw w = t :: bsw (w &&& (w - 1)) := by
  refine up_extN (bsw_up w) (List.pairwise_cons.2 ⟨fun i hi => ?_, bsw_up _⟩) fun i => ?_
  · obtain ⟨_, h2⟩ := mem_bsw.1 hi
    rw [low_off ht hl] at h2
    simp at h2
    rcases Nat.lt_trichotomy t i with h | h | h
    · exact h
    · exact absurd h.symm h2.2
    · rw [hl i h] at h2; exact absurd h2.1 (by decide)
  · rw [List.mem_cons, mem_bsw, mem_bsw, low_off ht hl]
    constructor
    · rintro ⟨h1, h2⟩
      by_cases e : i = t
      · exact .inl e
      · exact .inr ⟨h1, by simp [h2, e]⟩
    · rintro (rfl | ⟨h1, h2⟩)
      · exact ⟨h64, ht⟩
      · simp at h2; exact ⟨h1, h2.1⟩
theorem bsw_len_le (w : Nat) : (bsw w).length ≤ 64 := by
  unfold bsw
  exact Nat.le_trans (List.length_filter_le _ _) (by simp)
theorem cnt_le (x : Nat) : cnt x 64 ≤ 64 := by rw [← bsw_len]; exact bsw_len_le x
/-- How many numbers a set has, part by part. -/
def many (P : List Pt) : Nat := (P.map fun p => cnt p.2 64).foldl (· + ·) 0
theorem nm_len : ∀ P : List Pt, (nm P).length = (P.map fun p => cnt p.2 64).sum
  | [] => by simp [nm]
  | p :: r => by rw [nm_cons, List.length_append, List.length_map, bsw_len, nm_len r]; simp
theorem nm_take_succ (P : List Pt) (i : Nat) (x : Pt) (h : P[i]? = some x) : (nm (P.take (i + 1))).length = (nm (P.take i)).length + cnt x.2 64 := by
  rw [List.take_add_one, h, nm_append, List.length_append]
  simp [nm_len]
theorem nm_len_le (P : List Pt) : (nm P).length ≤ P.length * 64 := by
  induction P with
  | nil => simp [nm]
  | cons p r ih => rw [nm_cons, List.length_append, List.length_map, List.length_cons]; have := bsw_len_le p.2; omega
theorem wd_found {P : List Pt} (h : Okp P) {i k : Nat} {x : Pt} (hx : P[i]? = some x) (e : x.1 = k) : wd P k = x.2 := by
  subst e; exact wd_of_mem h (List.mem_of_getElem? hx)
theorem wd_missed {P : List Pt} (h : Okp P) {i k : Nat} (ha : ∀ t x, P[t]? = some x → t < i → x.1 < k) (hb : ∀ t x, P[t]? = some x → i ≤ t → k ≤ x.1) (hn : ∀ x, P[i]? = some x → x.1 ≠ k) : wd P k = 0 := by
  refine wd_none fun p hp => ?_
  obtain ⟨t, ht⟩ := List.getElem?_of_mem hp
  rcases Nat.lt_trichotomy t i with h1 | rfl | h1
  · have := ha t p ht h1; omega
  · exact hn p ht
  · have hl := (List.getElem?_eq_some_iff.1 ht).1
    have hi : P[i]? = some P[i] := List.getElem?_eq_getElem (by omega)
    have a := hb i _ hi (Nat.le_refl _)
    have b := List.pairwise_iff_getElem.1 h.up i t (by omega) hl h1
    rw [(List.getElem?_eq_some_iff.1 ht).2] at b
    omega
theorem okp_lt {P : List Pt} (h : Okp P) {i j : Nat} {x y : Pt} (hx : P[i]? = some x) (hy : P[j]? = some y) (hij : i < j) : x.1 < y.1 := by
  obtain ⟨h1, rfl⟩ := List.getElem?_eq_some_iff.1 hx
  obtain ⟨h2, rfl⟩ := List.getElem?_eq_some_iff.1 hy
  exact List.pairwise_iff_getElem.1 h.up i j h1 h2 hij
theorem has_bit {P : List Pt} (h : Okp P) (n : Nat) : decide ((n : Int) ∈ ni P) = (wd P (n / 64)).testBit (n % 64) := by
  rcases hb : (wd P (n / 64)).testBit (n % 64) with _ | _
  · exact decide_eq_false fun hm => by have := (mem_nm h).1 (nm_of_ni hm); rw [hb] at this; cases this
  · exact decide_eq_true (mem_ni.2 ⟨n, (mem_nm h).2 hb, rfl⟩)
/-- The sum of a word's bits. -/
theorem bits_sum (x : Nat) : ∀ k, (((List.range k).filter fun i => x.testBit i).map fun i => 2 ^ i).sum = x % 2 ^ k
  | 0 => by simp [Nat.mod_one]
  | k + 1 => by
    rw [List.range_succ, List.filter_append, List.map_append, List.sum_append, bits_sum x k, Nat.pow_succ, Nat.mod_mul]
    congr 1
    have h2 := Nat.testBit_div_two_pow (n := k) x 0
    rw [Nat.zero_add, Nat.testBit_zero] at h2
    rw [List.filter_cons]
    rcases h : x.testBit k with _ | _
    · rw [h] at h2; simp at h2; simp [h2]
    · rw [h] at h2; simp at h2; simp [h2]
theorem bsw_sum {x : Nat} (h : x < 18446744073709551616) : ((bsw x).map fun i => 2 ^ i).sum = x := by
  have := bits_sum x 64
  rw [Nat.mod_eq_of_lt h] at this
  exact this
/-- How the reference makes parts of numbers: one number more. -/
def gp (G : List Pt) (n : Nat) : List Pt :=
  match G.getLast? with
  | some p => if p.1 = n / 64 then G.dropLast ++ [(p.1, p.2 + 2 ^ (n % 64))] else G ++ [(n / 64, 2 ^ (n % 64))]
  | none => [(n / 64, 2 ^ (n % 64))]
theorem gp_new {G : List Pt} {n : Nat} (h : ∀ p ∈ G, p.1 ≠ n / 64) : gp G n = G ++ [(n / 64, 2 ^ (n % 64))] := by
  unfold gp
  split
  · rename_i p hp
    rw [if_neg (h p (List.mem_of_getLast? hp))]
  · rename_i hp
    rw [List.getLast?_eq_none_iff.1 hp]; rfl
theorem gp_old (G : List Pt) (k w i : Nat) (hi : i < 64) : gp (G ++ [(k, w)]) (k * 64 + i) = G ++ [(k, w + 2 ^ i)] := by
  unfold gp
  rw [List.getLast?_concat]
  simp only
  rw [if_pos (by omega), List.dropLast_concat, show (k * 64 + i) % 64 = i by omega]
theorem gp_more (G : List Pt) (k : Nat) : ∀ (l : List Nat) (w : Nat), (∀ i ∈ l, i < 64) → (l.map fun i => k * 64 + i).foldl gp (G ++ [(k, w)]) = G ++ [(k, w + (l.map fun i => 2 ^ i).sum)]
  | [], w, _ => by simp
  | i :: r, w, h => by
    rw [List.map_cons, List.foldl_cons, gp_old G k w i (h i List.mem_cons_self), gp_more G k r _ (fun j hj => h j (List.mem_cons_of_mem _ hj)), List.map_cons, List.sum_cons, Nat.add_assoc]
theorem gp_all : ∀ (P : List Pt) (G : List Pt), Okp P → (∀ g ∈ G, ∀ p ∈ P, g.1 < p.1) → (nm P).foldl gp G = G ++ P
  | [], G, _, _ => by simp [nm]
  | p :: r, G, h, hG => by
    obtain ⟨_, h0, h1⟩ := h.may p List.mem_cons_self
    obtain ⟨a, l, hal⟩ : ∃ a l, bsw p.2 = a :: l := by
      cases hb : bsw p.2 with
      | nil => have := bsw_sum h1; rw [hb] at this; simp at this; omega
      | cons a l => exact ⟨a, l, rfl⟩
    have hs := bsw_sum h1
    have h64 : ∀ i ∈ bsw p.2, i < 64 := fun i hi => (mem_bsw.1 hi).1
    rw [nm_cons, List.foldl_append, hal, List.map_cons, List.foldl_cons]
    rw [hal] at hs h64
    rw [gp_new (fun g hg => by have := hG g hg p List.mem_cons_self; have := h64 a List.mem_cons_self; omega)]
    rw [show (p.1 * 64 + a) / 64 = p.1 by have := h64 a List.mem_cons_self; omega, show (p.1 * 64 + a) % 64 = a by have := h64 a List.mem_cons_self; omega]
    rw [gp_more G p.1 l _ (fun j hj => h64 j (List.mem_cons_of_mem _ hj))]
    rw [List.map_cons, List.sum_cons] at hs
    rw [hs, gp_all r _ h.tail (fun g hg q hq => by
      rcases List.mem_append.1 hg with hg | hg
      · exact hG g hg q (List.mem_cons_of_mem _ hq)
      · rw [List.mem_singleton] at hg; subst hg
        exact (List.pairwise_cons.1 h.up).1 q hq), List.append_assoc]
    rfl
theorem gp_parts {P : List Pt} (h : Okp P) : (nm P).foldl gp [] = P := by
  have := gp_all P [] h (fun g hg => by cases hg)
  simpa using this
end Go.Proofs.Ytanccfbbaeocaaa.Bt
