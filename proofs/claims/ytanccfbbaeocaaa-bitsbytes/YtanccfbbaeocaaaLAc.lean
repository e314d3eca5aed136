/- Lists that rise, as the document's reference has them, and that sets say the same. No condition but those that each row names. -/
import Derived.Test.YtanccfbbaeocaaaLAb
namespace Go.Proofs.Ytanccfbbaeocaaa.Bt

/-- A number put into a list that rises. -/
def ins (n : Int) : List Int → List Int
  | [] => [n]
  | x :: r => if n < x then n :: x :: r else x :: ins n r
theorem ins_len (n : Int) : ∀ l : List Int, (ins n l).length = l.length + 1
  | [] => rfl
  | x :: r => by rw [ins]; split <;> simp [ins_len n r]
theorem mem_ins {n x : Int} : ∀ {l : List Int}, x ∈ ins n l ↔ x = n ∨ x ∈ l
  | [] => by simp [ins]
  | y :: r => by
    rw [ins]; split
    · simp
    · rw [List.mem_cons, mem_ins, List.mem_cons]
      constructor
      · rintro (h | h | h)
        · exact .inr (.inl h)
        · exact .inl h
        · exact .inr (.inr h)
      · rintro (h | h | h)
        · exact .inr (.inl h)
        · exact .inl h
        · exact .inr (.inr h)
theorem ins_up {n : Int} : ∀ {l : List Int}, l.Pairwise (· < ·) → ¬ n ∈ l → (ins n l).Pairwise (· < ·)
  | [], _, _ => by simp [ins]
  | y :: r, h, hn => by
    obtain ⟨h1, h2⟩ := List.pairwise_cons.1 h
    rw [ins]; split
    · rename_i e
      exact List.pairwise_cons.2 ⟨fun z hz => by rcases List.mem_cons.1 hz with rfl | hz; exact e; have := h1 z hz; omega, h⟩
    · rename_i e
      have hy : n ≠ y := fun e2 => hn (by rw [e2]; exact List.mem_cons_self)
      exact List.pairwise_cons.2 ⟨fun z hz => by rcases mem_ins.1 hz with rfl | hz; omega; exact h1 z hz, ins_up h2 fun h3 => hn (List.mem_cons_of_mem _ h3)⟩
/-- The reference's With. -/
def rwt (l : List Int) (n : Int) : List Int := if 0 ≤ n ∧ n < 1048576 ∧ ¬ n ∈ l then ins n l else l
theorem rwt_up {l : List Int} (h : l.Pairwise (· < ·)) (n : Int) : (rwt l n).Pairwise (· < ·) := by
  unfold rwt; split
  · rename_i e; exact ins_up h e.2.2
  · exact h
theorem mem_rwt {l : List Int} {n x : Int} : x ∈ rwt l n ↔ x ∈ l ∨ (x = n ∧ 0 ≤ n ∧ n < 1048576) := by
  unfold rwt; split
  · rename_i e
    rw [mem_ins]
    constructor
    · rintro (h | h)
      · exact .inr ⟨h, e.1, e.2.1⟩
      · exact .inl h
    · rintro (h | h)
      · exact .inr h
      · exact .inl h.1
  · rename_i e
    constructor
    · exact .inl
    · rintro (h | ⟨rfl, h1, h2⟩)
      · exact h
      · exact Classical.byContradiction fun h3 => e ⟨h1, h2, h3⟩
theorem rwt_len (l : List Int) (n : Int) : (rwt l n).length ≤ l.length + 1 := by
  unfold rwt; split
  · rw [ins_len]; omega
  · omega
/-- The reference's Of and Or. -/
def ror (a b : List Int) : List Int := b.foldl rwt a
theorem ror_up : ∀ {b a : List Int}, a.Pairwise (· < ·) → (ror a b).Pairwise (· < ·)
  | [], _, h => h
  | y :: r, a, h => ror_up (b := r) (a := rwt a y) (rwt_up h y)
theorem mem_ror {x : Int} : ∀ {b a : List Int}, x ∈ ror a b ↔ x ∈ a ∨ (x ∈ b ∧ 0 ≤ x ∧ x < 1048576)
  | [], a => by simp [ror]
  | y :: r, a => by
    show x ∈ ror (rwt a y) r ↔ _
    rw [mem_ror, mem_rwt]
    constructor
    · rintro ((h | ⟨rfl, h⟩) | h)
      · exact .inl h
      · exact .inr ⟨List.mem_cons_self, h⟩
      · exact .inr ⟨List.mem_cons_of_mem _ h.1, h.2⟩
    · rintro (h | ⟨h, h2⟩)
      · exact .inl (.inl h)
      · rcases List.mem_cons.1 h with rfl | h
        · exact .inl (.inr ⟨rfl, h2⟩)
        · exact .inr ⟨h, h2⟩
theorem ror_len : ∀ {b a : List Int}, (ror a b).length ≤ a.length + b.length
  | [], _ => Nat.le_refl _
  | y :: r, a => by
    have := ror_len (b := r) (a := rwt a y)
    have := rwt_len a y
    show (ror (rwt a y) r).length ≤ _
    simp; omega
theorem ror_snoc (a b : List Int) (x : Int) : ror a (b ++ [x]) = rwt (ror a b) x := by simp [ror]

/-- A set of one number. -/
def one (n : Int) : List Pt := if 0 ≤ n ∧ n < 1048576 then [((n / 64).toNat, 2 ^ (n % 64).toNat)] else []
theorem one_ok (n : Int) : Okp (one n) := by
  unfold one; split
  · rename_i e
    refine ⟨List.pairwise_singleton _ _, fun p hp => ?_⟩
    rw [List.mem_singleton] at hp
    subst hp
    have h1 : (n % 64).toNat < 64 := by omega
    exact ⟨by show (n / 64).toNat < 16384; omega, Nat.two_pow_pos _, show 2 ^ (n % 64).toNat < 2 ^ 64 from Nat.pow_lt_pow_right (by omega) h1⟩
  · exact Okp.nil
theorem mem_one {n : Int} {m : Nat} : m ∈ nm (one n) ↔ (m : Int) = n ∧ 0 ≤ n ∧ n < 1048576 := by
  rw [mem_nm (one_ok n)]
  unfold one; split
  · rename_i e
    rw [wd]; split
    · rename_i e2
      rw [Nat.testBit_two_pow]
      constructor
      · intro h; simp at h; omega
      · rintro ⟨h, _⟩; simp; omega
    · rename_i e2
      simp only [wd, Nat.zero_testBit, Bool.false_eq_true, false_iff]
      rintro ⟨h, _⟩
      simp only at e2; omega
  · rename_i e
    simp only [wd, Nat.zero_testBit, Bool.false_eq_true, false_iff]
    rintro ⟨_, h⟩; exact e h
theorem ni_ext {P : List Pt} (hP : Okp P) {l : List Int} (hl : l.Pairwise (· < ·)) (h : ∀ x : Int, (∃ n : Nat, n ∈ nm P ∧ x = n) ↔ x ∈ l) : ni P = l :=
  up_ext (ni_up hP) hl fun x => mem_ni.trans (h x)
theorem with_eq {P : List Pt} (hP : Okp P) (n : Int) : ni (mrg orf P (one n)) = rwt (ni P) n := by
  refine ni_ext (or_ok hP (one_ok n)) (rwt_up (ni_up hP) n) fun x => ?_
  rw [mem_rwt, mem_ni]
  constructor
  · rintro ⟨m, h, rfl⟩
    rcases (mem_or hP (one_ok n) m).1 h with h | h
    · exact .inl ⟨m, h, rfl⟩
    · exact .inr (mem_one.1 h)
  · rintro (⟨m, h, rfl⟩ | ⟨rfl, h1, h2⟩)
    · exact ⟨m, (mem_or hP (one_ok n) m).2 (.inl h), rfl⟩
    · exact ⟨x.toNat, (mem_or hP (one_ok x) _).2 (.inr (mem_one.2 ⟨by omega, h1, h2⟩)), by omega⟩
theorem or_eq {P Q : List Pt} (hP : Okp P) (hQ : Okp Q) : ni (mrg orf P Q) = ror (ni P) (ni Q) := by
  refine ni_ext (or_ok hP hQ) (ror_up (ni_up hP)) fun x => ?_
  rw [mem_ror, mem_ni, mem_ni]
  constructor
  · rintro ⟨m, h, rfl⟩
    rcases (mem_or hP hQ m).1 h with h | h
    · exact .inl ⟨m, h, rfl⟩
    · have := nm_lt hQ h
      exact .inr ⟨⟨m, h, rfl⟩, by omega, by omega⟩
  · rintro (⟨m, h, rfl⟩ | ⟨⟨m, h, rfl⟩, _⟩)
    · exact ⟨m, (mem_or hP hQ m).2 (.inl h), rfl⟩
    · exact ⟨m, (mem_or hP hQ m).2 (.inr h), rfl⟩
/-- The reference's And and Less. -/
def ran (a b : List Int) : List Int := a.filter fun x => decide (x ∈ b)
def rle (a b : List Int) : List Int := a.filter fun x => !decide (x ∈ b)
theorem nm_of_ni {P : List Pt} {m : Nat} (h : (m : Int) ∈ ni P) : m ∈ nm P := by
  obtain ⟨n, h1, h2⟩ := mem_ni.1 h
  rwa [show m = n by omega]
theorem and_eq {P Q : List Pt} (hP : Okp P) (hQ : Okp Q) : ni (mrg anf P Q) = ran (ni P) (ni Q) := by
  refine ni_ext (and_ok hP hQ) ((ni_up hP).filter _) fun x => ?_
  unfold ran
  rw [List.mem_filter, mem_ni]
  constructor
  · rintro ⟨m, h, rfl⟩
    have h2 := (mem_and hP hQ m).1 h
    exact ⟨⟨m, h2.1, rfl⟩, decide_eq_true (mem_ni.2 ⟨m, h2.2, rfl⟩)⟩
  · rintro ⟨⟨m, h, rfl⟩, h2⟩
    exact ⟨m, (mem_and hP hQ m).2 ⟨h, nm_of_ni (of_decide_eq_true h2)⟩, rfl⟩
theorem less_eq {P Q : List Pt} (hP : Okp P) (hQ : Okp Q) : ni (mrg lef P Q) = rle (ni P) (ni Q) := by
  refine ni_ext (less_ok hP hQ) ((ni_up hP).filter _) fun x => ?_
  unfold rle
  rw [List.mem_filter, mem_ni]
  constructor
  · rintro ⟨m, h, rfl⟩
    have h2 := (mem_less hP hQ m).1 h
    exact ⟨⟨m, h2.1, rfl⟩, by simpa using fun h3 => h2.2 (nm_of_ni h3)⟩
  · rintro ⟨⟨m, h, rfl⟩, h2⟩
    exact ⟨m, (mem_less hP hQ m).2 ⟨h, fun h3 => by simp at h2; exact h2 (mem_ni.2 ⟨m, h3, rfl⟩)⟩, rfl⟩
/-- The set that is made of numbers, one by one. -/
def pset (zs : List Int) : List Pt := zs.foldl (fun P n => mrg orf P (one n)) []
theorem pset_snoc (zs : List Int) (x : Int) : pset (zs ++ [x]) = mrg orf (pset zs) (one x) := by simp [pset]
theorem pset_go : ∀ (zs : List Int) (P : List Pt), Okp P → Okp (zs.foldl (fun P n => mrg orf P (one n)) P) ∧ ni (zs.foldl (fun P n => mrg orf P (one n)) P) = ror (ni P) zs
  | [], P, h => ⟨h, rfl⟩
  | x :: r, P, h => by
    obtain ⟨a, b⟩ := pset_go r (mrg orf P (one x)) (or_ok h (one_ok x))
    refine ⟨a, ?_⟩
    show ni (r.foldl (fun P n => mrg orf P (one n)) (mrg orf P (one x))) = _
    rw [b, with_eq h]; rfl
theorem pset_ok (zs : List Int) : Okp (pset zs) := (pset_go zs [] Okp.nil).1
theorem pset_eq (zs : List Int) : ni (pset zs) = ror [] zs := (pset_go zs [] Okp.nil).2
theorem ni_len_le {zs : List Int} : (ni (pset zs)).length ≤ zs.length := by rw [pset_eq]; have := ror_len (b := zs) (a := []); simpa using this

/-- How many bits below a place. -/
def cnt : Nat → Nat → Nat
  | _, 0 => 0
  | x, k + 1 => cnt x k + if x.testBit k then 1 else 0
theorem cnt_bsw (x : Nat) : ∀ k, ((List.range k).filter fun i => x.testBit i).length = cnt x k
  | 0 => rfl
  | k + 1 => by
    rw [List.range_succ, List.filter_append, List.length_append, cnt_bsw x k, cnt]
    congr 1
    rw [List.filter_cons]; split <;> simp_all
theorem bsw_len (x : Nat) : (bsw x).length = cnt x 64 := cnt_bsw x 64
theorem byte_bit (a h i : Nat) (ha : a < 256) : (a + 256 * h).testBit i = if i < 8 then a.testBit i else h.testBit (i - 8) := by
  have := Nat.testBit_two_pow_mul_add h (b := a) (i := 8) (by simpa using ha) i
  rw [show 2 ^ 8 * h + a = a + 256 * h by omega] at this
  exact this
theorem cnt_low (a h : Nat) (ha : a < 256) : ∀ k, k ≤ 8 → cnt (a + 256 * h) k = cnt a k
  | 0, _ => rfl
  | k + 1, hk => by
    have hb := byte_bit a h k ha
    rw [if_pos (by omega)] at hb
    rw [cnt, cnt, cnt_low a h ha k (by omega), hb]
theorem cnt_step (a h : Nat) (ha : a < 256) : ∀ k, cnt (a + 256 * h) (8 + k) = cnt a 8 + cnt h k
  | 0 => cnt_low a h ha 8 (by omega)
  | k + 1 => by
    have hb := byte_bit a h (8 + k) ha
    rw [if_neg (by omega), show 8 + k - 8 = k by omega] at hb
    have e : cnt h (k + 1) = cnt h k + if h.testBit k then 1 else 0 := rfl
    have e2 : cnt (a + 256 * h) (8 + (k + 1)) = cnt (a + 256 * h) (8 + k) + if (a + 256 * h).testBit (8 + k) then 1 else 0 := rfl
    rw [e2, cnt_step a h ha k, hb, e, Nat.add_assoc]
theorem and_byte (a h m M : Nat) (ha : a < 256) (hm : m < 256) : (a + 256 * h) &&& (m + 256 * M) = (a &&& m) + 256 * (h &&& M) := by
  have hl : a &&& m < 256 := Nat.lt_of_le_of_lt Nat.and_le_left ha
  refine Nat.eq_of_testBit_eq fun i => ?_
  rw [Nat.testBit_and, byte_bit a h i ha, byte_bit m M i hm, byte_bit _ _ i hl, Nat.testBit_and, Nat.testBit_and]
  split <;> rfl
/-- The steps of counting bits. -/
def s1 (M x : Nat) : Nat := (x / 2 &&& M) + (x &&& M)
def s2 (M x : Nat) : Nat := (x / 4 &&& M) + (x &&& M)
def s3 (M x : Nat) : Nat := (x / 16 + x) &&& M
def c1 (a : Nat) : Nat := (a / 2 &&& 85) + (a &&& 85)
def c2 (a : Nat) : Nat := (a / 4 &&& 51) + (a &&& 51)
def c3 (a : Nat) : Nat := (a / 16 + a) &&& 15
theorem a85 : ∀ (r : Fin 2) (a : Fin 256), (a.val / 2 + 128 * r.val) &&& 85 = a.val / 2 &&& 85 := by decide +kernel
theorem a51 : ∀ (r : Fin 4) (a : Fin 256), (a.val / 4 + 64 * r.val) &&& 51 = a.val / 4 &&& 51 := by decide +kernel
theorem c_all : ∀ a : Fin 256, c1 a.val < 256 ∧ c1 a.val / 16 ≤ 10 ∧ c2 (c1 a.val) / 16 ≤ 4 ∧ c2 (c1 a.val) % 16 ≤ 4 ∧ c2 (c1 a.val) < 256 ∧ c3 (c2 (c1 a.val)) = cnt a.val 8 ∧ cnt a.val 8 ≤ 8 := by decide +kernel
theorem s1_step (a h M : Nat) (ha : a < 256) : s1 (85 + 256 * M) (a + 256 * h) = c1 a + 256 * s1 M h := by
  unfold s1 c1
  rw [show (a + 256 * h) / 2 = (a / 2 + 128 * (h % 2)) + 256 * (h / 2) by omega, and_byte _ _ _ _ (by omega) (by omega), and_byte _ _ _ _ ha (by omega)]
  have := a85 ⟨h % 2, by omega⟩ ⟨a, ha⟩
  simp only at this
  rw [this]; omega
theorem s2_step (a h M : Nat) (ha : a < 256) : s2 (51 + 256 * M) (a + 256 * h) = c2 a + 256 * s2 M h := by
  unfold s2 c2
  rw [show (a + 256 * h) / 4 = (a / 4 + 64 * (h % 4)) + 256 * (h / 4) by omega, and_byte _ _ _ _ (by omega) (by omega), and_byte _ _ _ _ ha (by omega)]
  have := a51 ⟨h % 4, by omega⟩ ⟨a, ha⟩
  simp only at this
  rw [this]; omega
theorem s3_step (a h M : Nat) (ha : a / 16 ≤ 4) (hl : a % 16 ≤ 4) (hh : h % 16 ≤ 4) : s3 (15 + 256 * M) (a + 256 * h) = c3 a + 256 * s3 M h := by
  unfold s3 c3
  rw [show (a + 256 * h) / 16 + (a + 256 * h) = (a / 16 + 16 * (h % 16) + a) + 256 * (h / 16 + h) by omega, and_byte _ _ _ _ (by omega) (by omega)]
  congr 1
  rw [show (15 : Nat) = 2 ^ 4 - 1 from rfl, Nat.and_two_pow_sub_one_eq_mod, Nat.and_two_pow_sub_one_eq_mod]
  omega
def m0 : Nat → Nat | 0 => 0 | k + 1 => 85 + 256 * m0 k
def m1 : Nat → Nat | 0 => 0 | k + 1 => 51 + 256 * m1 k
def m2 : Nat → Nat | 0 => 0 | k + 1 => 15 + 256 * m2 k
/-- How many bits each byte has. -/
def byt : Nat → Nat → List Nat
  | _, 0 => []
  | x, k + 1 => cnt (x % 256) 8 :: byt (x / 256) k
def num : List Nat → Nat | [] => 0 | c :: r => c + 256 * num r
theorem zs1 : s1 0 0 = 0 := rfl
theorem steps : ∀ (k x : Nat), x < 256 ^ k → s2 (m1 k) (s1 (m0 k) x) % 16 ≤ 4 ∧ s3 (m2 k) (s2 (m1 k) (s1 (m0 k) x)) = num (byt x k)
  | 0, x, h => by
    have e : x = 0 := by simpa using h
    subst e
    exact ⟨by decide, rfl⟩
  | k + 1, x, h => by
    have hx : x = x % 256 + 256 * (x / 256) := by omega
    have hl : x / 256 < 256 ^ k := by rw [Nat.pow_succ] at h; exact Nat.div_lt_of_lt_mul (by rw [Nat.mul_comm]; exact h)
    obtain ⟨i1, i2⟩ := steps k (x / 256) hl
    obtain ⟨q1, q2, q3, q4, q5, q6, q7⟩ := c_all ⟨x % 256, Nat.mod_lt _ (by omega)⟩
    simp only at q1 q2 q3 q4 q5 q6 q7
    have e1 : s1 (m0 (k + 1)) x = c1 (x % 256) + 256 * s1 (m0 k) (x / 256) := by
      conv => lhs; rw [hx]
      exact s1_step _ _ _ (Nat.mod_lt _ (by omega))
    have e2 : s2 (m1 (k + 1)) (s1 (m0 (k + 1)) x) = c2 (c1 (x % 256)) + 256 * s2 (m1 k) (s1 (m0 k) (x / 256)) := by
      rw [e1]; exact s2_step _ _ _ q1
    refine ⟨by rw [e2]; omega, ?_⟩
    rw [e2]
    show s3 (15 + 256 * m2 k) _ = _
    rw [s3_step _ _ _ q3 q4 i1, i2, q6]
    rfl
theorem byt_all (x : Nat) : ∃ b0 b1 b2 b3 b4 b5 b6 b7 : Nat, byt x 8 = [b0, b1, b2, b3, b4, b5, b6, b7] ∧ (b0 ≤ 8 ∧ b1 ≤ 8 ∧ b2 ≤ 8 ∧ b3 ≤ 8 ∧ b4 ≤ 8 ∧ b5 ≤ 8 ∧ b6 ≤ 8 ∧ b7 ≤ 8) ∧ cnt x 64 = b0 + b1 + b2 + b3 + b4 + b5 + b6 + b7 := by
  have hb : ∀ y : Nat, cnt (y % 256) 8 ≤ 8 := fun y => by
    have := (c_all ⟨y % 256, Nat.mod_lt _ (by omega)⟩).2.2.2.2.2.2
    exact this
  have st : ∀ (y k : Nat), cnt y (8 + k) = cnt (y % 256) 8 + cnt (y / 256) k := fun y k => by
    have := cnt_step (y % 256) (y / 256) (Nat.mod_lt _ (by omega)) k
    rwa [show y % 256 + 256 * (y / 256) = y by omega] at this
  refine ⟨_, _, _, _, _, _, _, _, rfl, ⟨hb _, hb _, hb _, hb _, hb _, hb _, hb _, hb _⟩, ?_⟩
  have e0 : cnt x 64 = _ := st x 56
  have e1 : cnt (x / 256) 56 = _ := st (x / 256) 48
  have e2 : cnt (x / 256 / 256) 48 = _ := st (x / 256 / 256) 40
  have e3 : cnt (x / 256 / 256 / 256) 40 = _ := st (x / 256 / 256 / 256) 32
  have e4 : cnt (x / 256 / 256 / 256 / 256) 32 = _ := st (x / 256 / 256 / 256 / 256) 24
  have e5 : cnt (x / 256 / 256 / 256 / 256 / 256) 24 = _ := st (x / 256 / 256 / 256 / 256 / 256) 16
  have e6 : cnt (x / 256 / 256 / 256 / 256 / 256 / 256) 16 = _ := st (x / 256 / 256 / 256 / 256 / 256 / 256) 8
  have e7 : cnt (x / 256 / 256 / 256 / 256 / 256 / 256 / 256) 8 = _ := st (x / 256 / 256 / 256 / 256 / 256 / 256 / 256) 0
  rw [e0, e1, e2, e3, e4, e5, e6, e7, cnt]
  simp only [Nat.add_zero, Nat.add_assoc]
theorem fold_all (b0 b1 b2 b3 b4 b5 b6 b7 y z u : Nat) (h0 : b0 ≤ 8) (h1 : b1 ≤ 8) (h2 : b2 ≤ 8) (h3 : b3 ≤ 8) (h4 : b4 ≤ 8) (h5 : b5 ≤ 8) (h6 : b6 ≤ 8) (h7 : b7 ≤ 8)
    (hy : y = b0 + 256 * (b1 + 256 * (b2 + 256 * (b3 + 256 * (b4 + 256 * (b5 + 256 * (b6 + 256 * b7))))))) (hz : z = y + y / 256) (hu : u = z + z / 65536) :
    y ≤ 9 * 72057594037927936 ∧ z ≤ 9223372036854775807 ∧ u ≤ 9223372036854775807 ∧ u + u / 4294967296 ≤ 9223372036854775807 ∧ (u + u / 4294967296) % 128 = b0 + b1 + b2 + b3 + b4 + b5 + b6 + b7 := by
  have d1 : y / 256 = b1 + 256 * (b2 + 256 * (b3 + 256 * (b4 + 256 * (b5 + 256 * (b6 + 256 * b7))))) := by omega
  have ez : z = (b0 + b1) + 256 * ((b1 + b2) + 256 * ((b2 + b3) + 256 * ((b3 + b4) + 256 * ((b4 + b5) + 256 * ((b5 + b6) + 256 * ((b6 + b7) + 256 * b7)))))) := by omega
  have hyb : y ≤ 9 * 72057594037927936 := by omega
  clear hz d1 hy
  have d2 : z / 65536 = (b2 + b3) + 256 * ((b3 + b4) + 256 * ((b4 + b5) + 256 * ((b5 + b6) + 256 * ((b6 + b7) + 256 * b7)))) := by omega
  have eu : u = (b0 + b1 + b2 + b3) + 256 * ((b1 + b2 + b3 + b4) + 256 * ((b2 + b3 + b4 + b5) + 256 * ((b3 + b4 + b5 + b6) + 256 * ((b4 + b5 + b6 + b7) + 256 * ((b5 + b6 + b7) + 256 * ((b6 + b7) + 256 * b7)))))) := by omega
  have hzb : z ≤ 9223372036854775807 := by omega
  clear hu d2 ez
  have d3 : u / 4294967296 = (b4 + b5 + b6 + b7) + 256 * ((b5 + b6 + b7) + 256 * ((b6 + b7) + 256 * b7)) := by omega
  rw [d3]
  exact ⟨hyb, hzb, by omega, by omega, by omega⟩
/-- Bits are counted. -/
theorem ones_all (x y z u : Nat) (hx : x < 18446744073709551616) (hy : y = s3 1085102592571150095 (s2 3689348814741910323 (s1 6148914691236517205 x))) (hz : z = y + y / 256) (hu : u = z + z / 65536) :
    y ≤ 9 * 72057594037927936 ∧ z ≤ 9223372036854775807 ∧ u ≤ 9223372036854775807 ∧ u + u / 4294967296 ≤ 9223372036854775807 ∧ (u + u / 4294967296) % 128 = cnt x 64 := by
  obtain ⟨b0, b1, b2, b3, b4, b5, b6, b7, e, ⟨h0, h1, h2, h3, h4, h5, h6, h7⟩, hc⟩ := byt_all x
  have hs := (steps 8 x (by simpa using hx)).2
  rw [e, show m0 8 = 6148914691236517205 by decide +kernel, show m1 8 = 3689348814741910323 by decide +kernel, show m2 8 = 1085102592571150095 by decide +kernel, ← hy] at hs
  have hn : num [b0, b1, b2, b3, b4, b5, b6, b7] = b0 + 256 * (b1 + 256 * (b2 + 256 * (b3 + 256 * (b4 + 256 * (b5 + 256 * (b6 + 256 * b7)))))) := by simp [num]
  rw [hn] at hs
  rw [hc]
  exact fold_all b0 b1 b2 b3 b4 b5 b6 b7 y z u h0 h1 h2 h3 h4 h5 h6 h7 hs hz hu
end Go.Proofs.Ytanccfbbaeocaaa.Bt
