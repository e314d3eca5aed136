/- Plain facts on numbers: one step of the check is linear over xor and loses nothing; eight steps at once go by a table; a check of bytes behind others is moved on by as many steps. No condition beyond those that each theorem names. -/
namespace Go.Proofs.YthlhnjjofefgcaaGreatDoor.P.Chk

/-- One step: by x, within the polynomial. -/
def S (c : Nat) : Nat := if c % 2 = 1 then (c / 2) ^^^ 3988292384 else c / 2

/-- So many steps. -/
def It : Nat → Nat → Nat
  | 0, c => c
  | n + 1, c => It n (S c)

/-- What a byte does. -/
def F (c b : Nat) : Nat := It 8 (c ^^^ b)

/-- What the first k bytes do. -/
def run (g : Nat → Nat) (c : Nat) : Nat → Nat
  | 0 => c
  | k + 1 => F (run g c k) (g k)

theorem xor_swap (a b c d : Nat) : (a ^^^ b) ^^^ (c ^^^ d) = (a ^^^ c) ^^^ (b ^^^ d) := by
  apply Nat.eq_of_testBit_eq; intro i; simp [Nat.testBit_xor]
  cases a.testBit i <;> cases b.testBit i <;> cases c.testBit i <;> cases d.testBit i <;> rfl

theorem xor_can (a b : Nat) : (a ^^^ b) ^^^ b = a := by rw [Nat.xor_assoc, Nat.xor_self, Nat.xor_zero]
theorem xor_can' (a b : Nat) : b ^^^ (b ^^^ a) = a := by rw [← Nat.xor_assoc, Nat.xor_self, Nat.zero_xor]

theorem xor_eq_zero {a b : Nat} (h : a ^^^ b = 0) : a = b := by
  have := congrArg (· ^^^ b) h
  simpa [xor_can] using this

theorem mod2 (a b : Nat) : (a ^^^ b) % 2 = (a % 2) ^^^ (b % 2) := by
  have := @Nat.xor_mod_two_pow a b 1; simpa using this

theorem S_zero : S 0 = 0 := by decide

theorem S_xor (a b : Nat) : S (a ^^^ b) = S a ^^^ S b := by
  unfold S
  rw [mod2, Nat.xor_div_two]
  rcases Nat.mod_two_eq_zero_or_one a with ha | ha <;> rcases Nat.mod_two_eq_zero_or_one b with hb | hb <;> simp [ha, hb]
  · rw [Nat.xor_assoc]
  · rw [Nat.xor_assoc, Nat.xor_comm (b / 2), ← Nat.xor_assoc]
  · rw [xor_swap, Nat.xor_self, Nat.xor_zero]

theorem S_lt {a : Nat} (h : a < 4294967296) : S a < 4294967296 := by
  unfold S
  split
  · exact Nat.xor_lt_two_pow (n := 32) (by omega) (by omega)
  · omega

/-- Nothing but nothing comes to nothing. -/
theorem S_eq_zero {a : Nat} (h : a < 4294967296) (e : S a = 0) : a = 0 := by
  unfold S at e
  split at e
  · have := xor_eq_zero e; omega
  · omega

theorem It_zero (n : Nat) : It n 0 = 0 := by
  induction n with
  | zero => rfl
  | succ n ih => rw [It, S_zero, ih]

theorem It_xor (n a b : Nat) : It n (a ^^^ b) = It n a ^^^ It n b := by
  induction n generalizing a b with
  | zero => rfl
  | succ n ih => simp only [It]; rw [S_xor, ih]

theorem It_lt (n : Nat) {a : Nat} (h : a < 4294967296) : It n a < 4294967296 := by
  induction n generalizing a with
  | zero => exact h
  | succ n ih => exact ih (S_lt h)

theorem It_eq_zero (n : Nat) {a : Nat} (h : a < 4294967296) (e : It n a = 0) : a = 0 := by
  induction n generalizing a with
  | zero => exact e
  | succ n ih => exact S_eq_zero h (ih (S_lt h) e)

theorem It_add (m n a : Nat) : It (m + n) a = It n (It m a) := by
  induction m generalizing a with
  | zero => simp [It]
  | succ m ih => rw [Nat.succ_add]; simp only [It]; rw [ih]

theorem S_It (n a : Nat) : S (It n a) = It (n + 1) a := by rw [It_add]; rfl

theorem It_swap (m n a : Nat) : It m (It n a) = It n (It m a) := by rw [← It_add, ← It_add, Nat.add_comm]

/-- Where the low bits are nothing, steps are a mere shift. -/
theorem It_mul (k y : Nat) : It k (y * 2 ^ k) = y := by
  induction k generalizing y with
  | zero => simp [It]
  | succ k ih =>
    have e : y * 2 ^ (k + 1) = 2 * (y * 2 ^ k) := by rw [Nat.pow_succ, ← Nat.mul_assoc, Nat.mul_comm]
    have h : S (y * 2 ^ (k + 1)) = y * 2 ^ k := by
      rw [e]; unfold S; rw [if_neg (by omega)]; omega
    rw [It, h, ih]

theorem split8 (x : Nat) : x = (x % 256) ^^^ (x / 256 * 256) := by
  apply Nat.eq_of_testBit_eq; intro i
  rw [Nat.testBit_xor]
  have h1 : (x % 256).testBit i = (decide (i < 8) && x.testBit i) := Nat.testBit_mod_two_pow x 8 i
  have h2 : (x / 256 * 256).testBit i = (decide (8 ≤ i) && x.testBit i) := by
    rw [show (256 : Nat) = 2 ^ 8 from rfl, Nat.testBit_mul_two_pow, Nat.testBit_div_two_pow]
    by_cases h : 8 ≤ i
    · simp [h]
    · simp [h]
  rw [h1, h2]
  by_cases h : i < 8
  · have : ¬ 8 ≤ i := by omega
    simp [h, this]
  · have : 8 ≤ i := by omega
    simp [h, this]

theorem It8 (x : Nat) : It 8 x = It 8 (x % 256) ^^^ (x / 256) := by
  have h := It_xor 8 (x % 256) (x / 256 * 256)
  rw [← split8, It_mul 8 (x / 256)] at h
  exact h

/-- A byte's work by the table's entry. -/
theorem F_table (c b : Nat) (hb : b < 256) : F c b = It 8 ((c % 256) ^^^ b) ^^^ (c / 256) := by
  unfold F
  rw [It8]
  have h1 : (c ^^^ b) % 256 = (c % 256) ^^^ b := by
    have := @Nat.xor_mod_two_pow c b 8
    simp only [Nat.reducePow] at this
    rw [this, Nat.mod_eq_of_lt hb]
  have h2 : (c ^^^ b) / 256 = c / 256 := by
    have := @Nat.xor_div_two_pow c b 8
    simp only [Nat.reducePow] at this
    rw [this, Nat.div_eq_of_lt hb, Nat.xor_zero]
  rw [h1, h2]

theorem F_lt {c b : Nat} (hc : c < 4294967296) (hb : b < 256) : F c b < 4294967296 :=
  It_lt 8 (Nat.xor_lt_two_pow (n := 32) hc (by omega))

theorem F_xor (c d a b : Nat) : F (c ^^^ d) (a ^^^ b) = F c a ^^^ F d b := by
  unfold F; rw [xor_swap, It_xor]

theorem run_lt {g : Nat → Nat} (hg : ∀ k, g k < 256) {c : Nat} (hc : c < 4294967296) (n : Nat) : run g c n < 4294967296 := by
  induction n with
  | zero => exact hc
  | succ n ih => exact F_lt ih (hg n)

theorem run_congr {g h : Nat → Nat} (c n : Nat) (e : ∀ k, k < n → g k = h k) : run g c n = run h c n := by
  induction n with
  | zero => rfl
  | succ n ih => simp only [run]; rw [ih (fun k hk => e k (by omega)), e n (by omega)]

theorem run_add (g : Nat → Nat) (c m n : Nat) : run g c (m + n) = run (fun k => g (m + k)) (run g c m) n := by
  induction n with
  | zero => rfl
  | succ n ih => rw [← Nat.add_assoc]; simp only [run]; rw [ih]

/-- Two starts, two texts: what comes is the sum. -/
theorem run_xor (g h : Nat → Nat) (c d n : Nat) : run (fun k => g k ^^^ h k) (c ^^^ d) n = run g c n ^^^ run h d n := by
  induction n with
  | zero => rfl
  | succ n ih => simp only [run]; rw [ih, F_xor]

theorem run_zero (c n : Nat) : run (fun _ => 0) c n = It (8 * n) c := by
  induction n with
  | zero => rfl
  | succ n ih => simp only [run, F, Nat.xor_zero]; rw [ih, ← It_add]; rfl

/-- Another start moves the end on by so many bytes. -/
theorem run_moved (g : Nat → Nat) (c d n : Nat) : run g (c ^^^ d) n = It (8 * n) d ^^^ run g c n := by
  have h := run_xor g (fun _ => 0) c d n
  simp only [Nat.xor_zero] at h
  rw [h, run_zero, Nat.xor_comm]

/-- The check. -/
def check (g : Nat → Nat) (n : Nat) : Nat := run g 4294967295 n ^^^ 4294967295

theorem check_lt {g : Nat → Nat} (hg : ∀ k, g k < 256) (n : Nat) : check g n < 4294967296 :=
  Nat.xor_lt_two_pow (n := 32) (run_lt hg (by omega) n) (by omega)

/-- Of two checks, moved on by n bytes: the check of both. -/
theorem check_join (g h : Nat → Nat) (m n : Nat) :
    It (8 * n) (check g m) ^^^ check h n = run h (run g 4294967295 m) n ^^^ 4294967295 := by
  have e : run g 4294967295 m = 4294967295 ^^^ check g m := by
    unfold check; rw [Nat.xor_comm (run g 4294967295 m), xor_can']
  rw [e, run_moved, Nat.xor_assoc]
  rfl

/-! ### Products -/

/-- Of the first k bits of a (from the highest on): the sum of b by x to as many. -/
def mul (a b : Nat) : Nat → Nat
  | 0 => 0
  | k + 1 => mul a b k ^^^ (if a / 2 ^ (31 - k) % 2 = 1 then It k b else 0)

theorem mul_S (a b k : Nat) : mul a (S b) k = S (mul a b k) := by
  induction k with
  | zero => simp only [mul]; rw [S_zero]
  | succ k ih =>
    simp only [mul]; rw [S_xor, ih]
    congr 1
    split
    · rw [S_It]; rfl
    · rw [S_zero]

theorem mul_It (a b n k : Nat) : mul a (It n b) k = It n (mul a b k) := by
  induction n generalizing b with
  | zero => rfl
  | succ n ih => simp only [It]; rw [ih, mul_S]

theorem mul_lt (a : Nat) {b : Nat} (hb : b < 4294967296) (k : Nat) : mul a b k < 4294967296 := by
  induction k with
  | zero => simp [mul]
  | succ k ih =>
    simp only [mul]
    refine Nat.xor_lt_two_pow (n := 32) ih ?_
    split
    · exact It_lt k hb
    · omega

theorem It_one {k : Nat} (hk : k ≤ 31) : It k 2147483648 = 2 ^ (31 - k) := by
  have h := It_mul k (2 ^ (31 - k))
  rw [← Nat.pow_add, show 31 - k + k = 31 by omega] at h
  exact h

/-- By one: the bits themselves. -/
theorem mul_one_bits (a : Nat) {k : Nat} (hk : k ≤ 32) (i : Nat) : (mul a 2147483648 k).testBit i = (decide (32 - k ≤ i ∧ i ≤ 31) && a.testBit i) := by
  induction k with
  | zero =>
    have : ¬ (32 - 0 ≤ i ∧ i ≤ 31) := by omega
    simp only [mul, Nat.zero_testBit, this, decide_false, Bool.false_and]
  | succ k ih =>
    simp only [mul]
    rw [Nat.testBit_xor, ih (by omega), It_one (by omega)]
    by_cases hi : i = 31 - k
    · subst hi
      have h1 : ¬ (32 - k ≤ 31 - k ∧ 31 - k ≤ 31) := by omega
      have h2 : 32 - (k + 1) ≤ 31 - k ∧ 31 - k ≤ 31 := by omega
      rw [decide_eq_false h1, decide_eq_true h2, Bool.false_and, Bool.false_xor, Bool.true_and]
      have h3 : a.testBit (31 - k) = decide (a / 2 ^ (31 - k) % 2 = 1) := Nat.testBit_eq_decide_div_mod_eq
      rw [h3]
      split
      · next h => rw [Nat.testBit_two_pow_self, decide_eq_true h]
      · next h => rw [Nat.zero_testBit, decide_eq_false h]
    · have h4 : (if a / 2 ^ (31 - k) % 2 = 1 then 2 ^ (31 - k) else 0).testBit i = false := by
        split
        · rw [Nat.testBit_two_pow_of_ne (by omega)]
        · rw [Nat.zero_testBit]
      rw [h4, Bool.xor_false]
      have h5 : (32 - k ≤ i ∧ i ≤ 31) ↔ (32 - (k + 1) ≤ i ∧ i ≤ 31) := by omega
      rw [decide_eq_decide.mpr h5]

theorem mul_one {a : Nat} (ha : a < 4294967296) : mul a 2147483648 32 = a := by
  apply Nat.eq_of_testBit_eq; intro i
  rw [mul_one_bits a (by omega)]
  by_cases h : i ≤ 31
  · have : 32 - 32 ≤ i ∧ i ≤ 31 := by omega
    rw [decide_eq_true this, Bool.true_and]
  · have h1 : ¬ (32 - 32 ≤ i ∧ i ≤ 31) := by omega
    rw [decide_eq_false h1, Bool.false_and]
    symm
    apply Nat.testBit_lt_two_pow
    exact Nat.lt_of_lt_of_le ha (by
      have : (2 : Nat) ^ 32 ≤ 2 ^ i := Nat.pow_le_pow_right (by omega) (by omega)
      simpa using this)

/-- By a power of x: so many steps. -/
theorem mul_pow {a : Nat} (ha : a < 4294967296) (n : Nat) : mul a (It n 2147483648) 32 = It n a := by
  rw [mul_It, mul_one ha]

/-! ### Bytes that differ within four -/

theorem F_xor_zero (c a b : Nat) : F c (a ^^^ b) = F c a ^^^ It 8 b := by
  have := F_xor c 0 a b
  simp only [Nat.xor_zero] at this
  rw [this]; unfold F; rw [Nat.zero_xor]

theorem xor_high (x y : Nat) (k : Nat) (hx : x < 2 ^ k) : x ^^^ (y * 2 ^ k) = x + y * 2 ^ k := by
  have h := Nat.two_pow_add_eq_or_of_lt hx y
  rw [Nat.add_comm, Nat.mul_comm, h]
  apply Nat.eq_of_testBit_eq; intro i
  rw [Nat.testBit_xor, Nat.testBit_or, Nat.mul_comm, Nat.testBit_mul_two_pow]
  by_cases hi : k ≤ i
  · have : x.testBit i = false := Nat.testBit_lt_two_pow (Nat.lt_of_lt_of_le hx (Nat.pow_le_pow_right (by omega) hi))
    simp [this]
  · simp [hi]

/-- What r bytes (four at most) that are nothing but for the difference make of nothing: a number that is nothing only if they are. -/
theorem run_bytes (d : Nat → Nat) (hd : ∀ k, d k < 256) (r : Nat) (hr : r ≤ 4) :
    ∃ D, D < 2 ^ (8 * r) ∧ run d 0 r = It (8 * r) D ∧ (D = 0 → ∀ k, k < r → d k = 0) := by
  induction r with
  | zero => exact ⟨0, by simp, rfl, fun _ k hk => by omega⟩
  | succ r ih =>
    obtain ⟨D, hD, hrun, hz⟩ := ih (by omega)
    refine ⟨D ^^^ (d r * 2 ^ (8 * r)), ?_, ?_, ?_⟩
    · refine Nat.xor_lt_two_pow (Nat.lt_of_lt_of_le hD (Nat.pow_le_pow_right (by omega) (by omega))) ?_
      have h1 := hd r
      have h2 : d r * 2 ^ (8 * r) < 256 * 2 ^ (8 * r) := Nat.mul_lt_mul_of_pos_right h1 (Nat.pow_pos (by omega))
      have h3 : (2 : Nat) ^ (8 * (r + 1)) = 256 * 2 ^ (8 * r) := by rw [Nat.mul_add, Nat.pow_add, Nat.mul_comm]
      omega
    · simp only [run]; rw [hrun]
      unfold F
      rw [show 8 * (r + 1) = 8 * r + 8 by omega, It_add, It_xor (8 * r), It_mul]
    · intro h0 k hk
      have h1 := xor_eq_zero h0
      have h2 : D = 0 := by
        rcases Nat.eq_zero_or_pos (d r) with h | h
        · rw [h1, h, Nat.zero_mul]
        · have : 1 * 2 ^ (8 * r) ≤ d r * 2 ^ (8 * r) := Nat.mul_le_mul_right _ h
          omega
      by_cases hkr : k < r
      · exact hz h2 k hkr
      · have hkr' : k = r := by omega
        subst hkr'
        rw [h2] at h1
        rcases Nat.eq_zero_or_pos (d k) with h | h
        · exact h
        · have h3 : 1 * 2 ^ (8 * k) ≤ d k * 2 ^ (8 * k) := Nat.mul_le_mul_right _ h
          have h4 : 0 < 2 ^ (8 * k) := Nat.pow_pos (by omega)
          omega

/-- Texts that differ just within r bytes (four at most) from k on have unlike checks. -/
theorem burst (g h : Nat → Nat) (hg : ∀ k, g k < 256) (hh : ∀ k, h k < 256) (k r m : Nat) (hr : r ≤ 4)
    (low : ∀ i, i < k → g i = h i) (high : ∀ i, k + r ≤ i → i < k + r + m → g i = h i)
    (e : check g (k + r + m) = check h (k + r + m)) : ∀ i, i < k + r + m → g i = h i := by
  have e1 : run g 4294967295 (k + r + m) = run h 4294967295 (k + r + m) := by
    have := congrArg (· ^^^ 4294967295) e
    simpa only [check, xor_can] using this
  have hd : ∀ i, (fun i => g i ^^^ h i) i < 256 := fun i => Nat.xor_lt_two_pow (n := 8) (hg i) (hh i)
  have e2 : run (fun i => g i ^^^ h i) 0 (k + r + m) = 0 := by
    have := run_xor g h 4294967295 4294967295 (k + r + m)
    rw [Nat.xor_self, e1, Nat.xor_self] at this
    exact this
  rw [run_add, run_add] at e2
  have e3 : run (fun i => g i ^^^ h i) 0 k = 0 := by
    rw [run_congr (h := fun _ => 0) 0 k (fun i hi => by simp [low i hi]), run_zero, It_zero]
  rw [e3] at e2
  obtain ⟨D, hD, hrun, hz⟩ := run_bytes (fun i => g (k + i) ^^^ h (k + i)) (fun i => hd (k + i)) r hr
  rw [hrun] at e2
  rw [run_congr (h := fun _ => 0) _ m (fun i hi => by simp [high (k + r + i) (by omega) (by omega)]), run_zero, ← It_add] at e2
  have hD' : D < 4294967296 := Nat.lt_of_lt_of_le hD (by
    have : (2 : Nat) ^ (8 * r) ≤ 2 ^ 32 := Nat.pow_le_pow_right (by omega) (by omega)
    simpa using this)
  have h0 := hz (It_eq_zero _ hD' e2)
  intro i hi
  by_cases h1 : i < k
  · exact low i h1
  by_cases h2 : i < k + r
  · have := h0 (i - k) (by omega)
    simp only [show k + (i - k) = i by omega] at this
    exact xor_eq_zero this
  · exact high i (by omega) (by omega)

end Go.Proofs.YthlhnjjofefgcaaGreatDoor.P.Chk
