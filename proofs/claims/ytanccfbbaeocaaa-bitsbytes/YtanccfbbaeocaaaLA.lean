/- Sets of numbers in plain words: parts of 64 numbers, the numbers that they say, what two sets together say, and lists that rise. No condition but those that each row names. -/
namespace Go.Proofs.Ytanccfbbaeocaaa.Bt

/-- A part: which one, and its bits. -/
abbrev Pt := Nat × Nat
/-- The bits of a word, rising. -/
def bsw (w : Nat) : List Nat := (List.range 64).filter fun i => w.testBit i
/-- The numbers that parts say. -/
def nm (P : List Pt) : List Nat := P.flatMap fun p => (bsw p.2).map fun i => p.1 * 64 + i
structure Okp (P : List Pt) : Prop where
  up : P.Pairwise fun a b => a.1 < b.1
  may : ∀ p ∈ P, p.1 < 16384 ∧ 0 < p.2 ∧ p.2 < 18446744073709551616
theorem Okp.nil : Okp [] := ⟨List.Pairwise.nil, fun _ h => by cases h⟩
theorem Okp.tail {p : Pt} {r : List Pt} (h : Okp (p :: r)) : Okp r := ⟨(List.pairwise_cons.1 h.up).2, fun q hq => h.may q (List.mem_cons_of_mem _ hq)⟩

/-- The word of a part. -/
def wd : List Pt → Nat → Nat
  | [], _ => 0
  | p :: r, k => if p.1 = k then p.2 else wd r k
theorem wd_none : ∀ {P : List Pt} {k : Nat}, (∀ p ∈ P, p.1 ≠ k) → wd P k = 0
  | [], _, _ => rfl
  | p :: r, k, h => by rw [wd, if_neg (h p List.mem_cons_self), wd_none fun q hq => h q (List.mem_cons_of_mem _ hq)]
theorem wd_of_mem : ∀ {P : List Pt}, Okp P → ∀ {p : Pt}, p ∈ P → wd P p.1 = p.2
  | [], _, _, h => by cases h
  | a :: r, h, p, hp => by
    rcases List.mem_cons.1 hp with rfl | h1
    · rw [wd, if_pos rfl]
    · have := (List.pairwise_cons.1 h.up).1 p h1
      rw [wd, if_neg (by omega), wd_of_mem h.tail h1]
theorem mem_of_wd : ∀ {P : List Pt} {k : Nat}, wd P k ≠ 0 → (k, wd P k) ∈ P
  | [], _, h => absurd rfl h
  | p :: r, k, h => by
    rw [wd] at h ⊢
    split at h
    · rename_i e; rw [if_pos e]; subst e; exact List.mem_cons_self
    · rename_i e; rw [if_neg e]; exact List.mem_cons_of_mem _ (mem_of_wd h)
theorem wd_lt {P : List Pt} (h : Okp P) (k : Nat) : wd P k < 18446744073709551616 := by
  by_cases e : wd P k = 0
  · omega
  · exact (h.may _ (mem_of_wd e)).2.2
theorem wd_key {P : List Pt} (h : Okp P) {k : Nat} (e : wd P k ≠ 0) : k < 16384 := (h.may _ (mem_of_wd e)).1

theorem mem_bsw {w i : Nat} : i ∈ bsw w ↔ i < 64 ∧ w.testBit i = true := by simp [bsw]
theorem bit_lt {w i : Nat} (hw : w < 18446744073709551616) (h : w.testBit i = true) : i < 64 := by
  rcases Nat.lt_or_ge i 64 with h1 | h1
  · exact h1
  · have h2 : w < 2 ^ i := Nat.lt_of_lt_of_le hw (show 2 ^ 64 ≤ 2 ^ i from Nat.pow_le_pow_right (by omega) h1)
    rw [Nat.testBit_lt_two_pow h2] at h
    cases h
theorem mem_nm {P : List Pt} (h : Okp P) {n : Nat} : n ∈ nm P ↔ (wd P (n / 64)).testBit (n % 64) = true := by
  unfold nm
  rw [List.mem_flatMap]
  constructor
  · rintro ⟨p, hp, hn⟩
    obtain ⟨i, hi, rfl⟩ := List.mem_map.1 hn
    obtain ⟨h1, h2⟩ := mem_bsw.1 hi
    rw [show (p.1 * 64 + i) / 64 = p.1 by omega, show (p.1 * 64 + i) % 64 = i by omega, wd_of_mem h hp]
    exact h2
  · intro hb
    have h0 : wd P (n / 64) ≠ 0 := by intro e; rw [e, Nat.zero_testBit] at hb; cases hb
    exact ⟨_, mem_of_wd h0, List.mem_map.2 ⟨n % 64, mem_bsw.2 ⟨by omega, hb⟩, by show n / 64 * 64 + n % 64 = n; omega⟩⟩
theorem nm_lt {P : List Pt} (h : Okp P) {n : Nat} (hn : n ∈ nm P) : n < 1048576 := by
  have hb := (mem_nm h).1 hn
  have h0 : wd P (n / 64) ≠ 0 := by intro e; rw [e, Nat.zero_testBit] at hb; cases hb
  have := wd_key h h0
  omega
theorem nm_cons (p : Pt) (r : List Pt) : nm (p :: r) = ((bsw p.2).map fun i => p.1 * 64 + i) ++ nm r := by simp [nm]
theorem nm_append (P Q : List Pt) : nm (P ++ Q) = nm P ++ nm Q := by simp [nm]
theorem bsw_up (w : Nat) : (bsw w).Pairwise (· < ·) := List.Pairwise.filter _ List.pairwise_lt_range
theorem nm_up : ∀ {P : List Pt}, Okp P → (nm P).Pairwise (· < ·)
  | [], _ => by simp [nm]
  | p :: r, h => by
    rw [nm_cons, List.pairwise_append]
    refine ⟨?_, nm_up h.tail, ?_⟩
    · rw [List.pairwise_map]
      exact (bsw_up p.2).imp fun hab => by omega
    · intro a ha b hb
      obtain ⟨i, hi, rfl⟩ := List.mem_map.1 ha
      have hi2 := (mem_bsw.1 hi).1
      unfold nm at hb
      obtain ⟨q, hq, hb2⟩ := List.mem_flatMap.1 hb
      obtain ⟨j, _, rfl⟩ := List.mem_map.1 hb2
      have := (List.pairwise_cons.1 h.up).1 q hq
      omega

/-- Two lists that rise, with the same members. -/
theorem up_ext : ∀ {a b : List Int}, a.Pairwise (· < ·) → b.Pairwise (· < ·) → (∀ x, x ∈ a ↔ x ∈ b) → a = b
  | [], [], _, _, _ => rfl
  | [], y :: s, _, _, h => absurd ((h y).2 List.mem_cons_self) List.not_mem_nil
  | x :: r, [], _, _, h => absurd ((h x).1 List.mem_cons_self) List.not_mem_nil
  | x :: r, y :: s, ha, hb, h => by
    obtain ⟨a1, a2⟩ := List.pairwise_cons.1 ha
    obtain ⟨b1, b2⟩ := List.pairwise_cons.1 hb
    have e : x = y := by
      rcases List.mem_cons.1 ((h x).1 List.mem_cons_self) with e | h1
      · exact e
      · rcases List.mem_cons.1 ((h y).2 List.mem_cons_self) with e | h2
        · exact e.symm
        · have := a1 y h2; have := b1 x h1; omega
    subst e
    congr 1
    refine up_ext a2 b2 fun z => ⟨fun hz => ?_, fun hz => ?_⟩
    · rcases List.mem_cons.1 ((h z).1 (List.mem_cons_of_mem _ hz)) with e | h1
      · have := a1 z hz; omega
      · exact h1
    · rcases List.mem_cons.1 ((h z).2 (List.mem_cons_of_mem _ hz)) with e | h1
      · have := b1 z hz; omega
      · exact h1

/-- The numbers, as they stand in memory. -/
def ni (P : List Pt) : List Int := (nm P).map fun n : Nat => (n : Int)
theorem ni_up {P : List Pt} (h : Okp P) : (ni P).Pairwise (· < ·) := by
  unfold ni
  rw [List.pairwise_map]
  exact (nm_up h).imp fun hab => by omega
theorem mem_ni {P : List Pt} {x : Int} : x ∈ ni P ↔ ∃ n : Nat, n ∈ nm P ∧ x = n := by
  unfold ni
  rw [List.mem_map]
  exact ⟨fun ⟨n, h, e⟩ => ⟨n, h, e.symm⟩, fun ⟨n, h, e⟩ => ⟨n, h, e.symm⟩⟩
theorem ni_range {P : List Pt} (h : Okp P) {x : Int} (hx : x ∈ ni P) : 0 ≤ x ∧ x < 1048576 := by
  obtain ⟨n, hn, rfl⟩ := mem_ni.1 hx
  have := nm_lt h hn
  omega
theorem ni_length (P : List Pt) : (ni P).length = (nm P).length := by simp [ni]

theorem okp_ext : ∀ {P Q : List Pt}, Okp P → Okp Q → (∀ k, wd P k = wd Q k) → P = Q
  | [], [], _, _, _ => rfl
  | [], q :: s, _, hQ, h => by
    have := h q.1
    rw [wd_of_mem hQ List.mem_cons_self, wd] at this
    have := (hQ.may q List.mem_cons_self).2.1
    omega
  | p :: r, [], hP, _, h => by
    have := h p.1
    rw [wd_of_mem hP List.mem_cons_self, wd] at this
    have := (hP.may p List.mem_cons_self).2.1
    omega
  | p :: r, q :: s, hP, hQ, h => by
    obtain ⟨p1, p2⟩ := List.pairwise_cons.1 hP.up
    obtain ⟨q1, q2⟩ := List.pairwise_cons.1 hQ.up
    have hp0 := (hP.may p List.mem_cons_self).2.1
    have hq0 := (hQ.may q List.mem_cons_self).2.1
    have e : p.1 = q.1 := by
      have h1 := h p.1
      have h2 := h q.1
      rw [wd_of_mem hP List.mem_cons_self] at h1
      rw [wd_of_mem hQ List.mem_cons_self] at h2
      have m1 := mem_of_wd (P := q :: s) (k := p.1) (by omega)
      have m2 := mem_of_wd (P := p :: r) (k := q.1) (by omega)
      rcases List.mem_cons.1 m1 with e | h3
      · rw [← e]
      · rcases List.mem_cons.1 m2 with e | h4
        · rw [← e]
        · have a := p1 _ h4; have b := q1 _ h3; simp only at a b; omega
    have e2 : p.2 = q.2 := by
      have h1 := h p.1
      rw [wd_of_mem hP List.mem_cons_self, e, wd_of_mem hQ List.mem_cons_self] at h1
      exact h1
    have e3 : p = q := Prod.ext e e2
    subst e3
    congr 1
    refine okp_ext hP.tail hQ.tail fun k => ?_
    by_cases hk : p.1 = k
    · rw [wd_none fun x hx => by have := p1 x hx; omega, wd_none fun x hx => by have := q1 x hx; omega]
    · have := h k
      rwa [wd, if_neg hk, wd, if_neg hk] at this
theorem nm_inj {P Q : List Pt} (hP : Okp P) (hQ : Okp Q) (h : ni P = ni Q) : P = Q := by
  refine okp_ext hP hQ fun k => Nat.eq_of_testBit_eq fun i => ?_
  by_cases hi : i < 64
  · have hm : k * 64 + i ∈ nm P ↔ k * 64 + i ∈ nm Q := by
      have a : ((k * 64 + i : Nat) : Int) ∈ ni P ↔ ((k * 64 + i : Nat) : Int) ∈ ni Q := by rw [h]
      rw [mem_ni, mem_ni] at a
      constructor
      · intro hx
        obtain ⟨n, h1, h2⟩ := a.1 ⟨_, hx, rfl⟩
        rwa [show k * 64 + i = n by omega]
      · intro hx
        obtain ⟨n, h1, h2⟩ := a.2 ⟨_, hx, rfl⟩
        rwa [show k * 64 + i = n by omega]
    rw [mem_nm hP, mem_nm hQ, show (k * 64 + i) / 64 = k by omega, show (k * 64 + i) % 64 = i by omega] at hm
    rcases ha : (wd P k).testBit i with _ | _ <;> rcases hb : (wd Q k).testBit i with _ | _ <;> simp_all
  · rcases ha : (wd P k).testBit i with _ | _ <;> rcases hb : (wd Q k).testBit i with _ | _
    · rfl
    · exact absurd (bit_lt (wd_lt hQ k) hb) hi
    · exact absurd (bit_lt (wd_lt hP k) ha) hi
    · rfl
theorem ni_inj {P Q : List Pt} (hP : Okp P) (hQ : Okp Q) : ni P = ni Q ↔ P = Q := ⟨nm_inj hP hQ, fun h => by rw [h]⟩
theorem low_bit {x : Nat} (h : x ≠ 0) : ∃ i, x.testBit i = true := Nat.exists_testBit_of_ne_zero h
theorem ni_nil {P : List Pt} (hP : Okp P) : ni P = [] ↔ P = [] := by
  have := ni_inj hP Okp.nil
  simpa [ni, nm] using this
theorem okp_len : ∀ {P : List Pt} (b : Nat), P.Pairwise (fun a b => a.1 < b.1) → (∀ p ∈ P, b ≤ p.1 ∧ p.1 < 16384) → b ≤ 16384 → P.length + b ≤ 16384
  | [], b, _, _, h => by simpa using h
  | p :: r, b, hu, h, _ => by
    have hp := h p List.mem_cons_self
    have := okp_len (p.1 + 1) (List.pairwise_cons.1 hu).2 (fun q hq => ⟨(List.pairwise_cons.1 hu).1 q hq, (h q (List.mem_cons_of_mem _ hq)).2⟩) (by omega)
    simp; omega
theorem Okp.len {P : List Pt} (h : Okp P) : P.length ≤ 16384 := by
  have := okp_len 0 h.up (fun p hp => ⟨Nat.zero_le _, (h.may p hp).1⟩) (by omega)
  omega
end Go.Proofs.Ytanccfbbaeocaaa.Bt
