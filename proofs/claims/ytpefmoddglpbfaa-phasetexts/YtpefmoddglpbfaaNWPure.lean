/- Plain numbers and lists: the bytes of a number by sevens, of a key, of so many bytes; that they are read again; that keys stand in order. No condition but those that each row names. -/
import Derived.Test.YtpefmoddglpbfaaRows
import Derived.WalkKit
import Derived.ProofKit
import Derived.Laws.BitsAllLaws
import Derived.Laws.MathBits
import Derived.Laws.BytesArg
namespace Go.Proofs.Ytpefmoddglpbfaa.N

/-- A text of such bytes. -/
def bs (l : List Nat) : ByteArray := ⟨(l.map UInt8.ofNat).toArray⟩

theorem bs_size (l : List Nat) : (bs l).size = l.length := by simp [bs, ByteArray.size]
theorem bs_append (a b : List Nat) : bs a ++ bs b = bs (a ++ b) := by
  unfold bs; rw [ByteArray.mk_append_mk]; simp
theorem bs_extract (l : List Nat) (a b : Nat) : (bs l).extract a b = bs ((l.drop a).take (b - a)) := by
  unfold bs; rw [ByteArray.extract_mk]; simp [List.map_drop, List.map_take]
theorem bs_toList (l : List Nat) : (bs l).toList = l.map UInt8.ofNat := by
  unfold bs; exact ByteArray.toList_mk _
theorem bs_get (l : List Nat) (k : Nat) (h : k < (bs l).size) : (bs l)[k].toNat = (l.getD k 0) % 256 := by
  have h' : k < l.length := by rw [bs_size] at h; exact h
  have : (bs l)[k] = UInt8.ofNat l[k] := by
    show (bs l).data[k]'h = _
    simp [bs]
  rw [this]
  simp [List.getD, List.getElem?_eq_getElem h']

/-- A text's bytes as numbers. -/
def un (s : ByteArray) : List Nat := s.data.toList.map UInt8.toNat

theorem bs_un (s : ByteArray) : bs (un s) = s := by
  unfold bs un
  simp [List.map_map, Function.comp_def]

theorem un_length (s : ByteArray) : (un s).length = s.size := by unfold un ByteArray.size; rw [List.length_map, Array.length_toList]

/-- All below 256. -/
def Small (l : List Nat) : Prop := ∀ x ∈ l, x < 256

theorem un_small (s : ByteArray) : Small (un s) := by
  intro x hx
  simp [un] at hx
  obtain ⟨a, _, rfl⟩ := hx
  exact UInt8.toNat_lt a

theorem Small.take {l : List Nat} (h : Small l) (k : Nat) : Small (l.take k) := fun x hx => h x (List.mem_of_mem_take hx)
theorem Small.drop {l : List Nat} (h : Small l) (k : Nat) : Small (l.drop k) := fun x hx => h x (List.mem_of_mem_drop hx)
theorem Small.append {a b : List Nat} (h : Small a) (k : Small b) : Small (a ++ b) := by
  intro x hx
  rcases List.mem_append.1 hx with hx | hx
  · exact h x hx
  · exact k x hx
theorem Small.getD {l : List Nat} (h : Small l) (k : Nat) : l.getD k 0 < 256 := by
  rcases Nat.lt_or_ge k l.length with hk | hk
  · simp [List.getD, List.getElem?_eq_getElem hk]; exact h _ (List.getElem_mem hk)
  · simp [List.getD, List.getElem?_eq_none hk]

/-- A number's bytes, by sevens; so many at most. -/
def numF : Nat → Nat → List Nat
  | 0, _ => []
  | f + 1, n => if n < 128 then [n] else (128 + n % 128) :: numF f (n / 128)

theorem numF_same : ∀ (f g n : Nat), n < f → n < g → numF f n = numF g n := by
  intro f
  induction f with
  | zero => intro g n h; omega
  | succ f ih =>
    intro g n h1 h2
    cases g with
    | zero => omega
    | succ g =>
      rw [numF, numF]
      by_cases h : n < 128
      · rw [if_pos h, if_pos h]
      · rw [if_neg h, if_neg h, ih g (n / 128) (by omega) (by omega)]

/-- A number's bytes, by sevens. -/
def numL (n : Nat) : List Nat := numF (n + 1) n

theorem numL_last {n : Nat} (h : n < 128) : numL n = [n] := by rw [numL, numF, if_pos h]
theorem numL_more {n : Nat} (h : ¬ n < 128) : numL n = (128 + n % 128) :: numL (n / 128) := by
  rw [numL, numF, if_neg h, numL, numF_same n (n / 128 + 1) (n / 128) (by omega) (by omega)]

theorem numL_small (n : Nat) : Small (numL n) := by
  induction n using Nat.strongRecOn with
  | _ n ih =>
    by_cases h : n < 128
    · rw [numL_last h]; intro x hx; simp at hx; omega
    · rw [numL_more h]; intro x hx
      rcases List.mem_cons.1 hx with rfl | hx
      · omega
      · exact ih (n / 128) (by omega) x hx

theorem numL_length (k : Nat) : ∀ n, n < 128 ^ (k + 1) → (numL n).length ≤ k + 1 := by
  induction k with
  | zero => intro n h; rw [numL_last (by simpa using h)]; simp
  | succ k ih =>
    intro n h
    by_cases h1 : n < 128
    · rw [numL_last h1]; simp
    · rw [numL_more h1]
      have := ih (n / 128) (by rw [Nat.pow_succ] at h; omega)
      simp; omega

theorem numL_ten (n : Nat) (h : n < 18446744073709551616) : (numL n).length ≤ 10 := numL_length 9 n (by omega)

theorem numL_ne (n : Nat) : numL n ≠ [] := by
  by_cases h : n < 128
  · rw [numL_last h]; simp
  · rw [numL_more h]; simp

/-- A number's bytes, the lowest first, no 0 at the end; so many at most. -/
def lowF : Nat → Nat → List Nat
  | 0, _ => []
  | f + 1, n => if n = 0 then [] else (n % 256) :: lowF f (n / 256)

theorem lowF_same : ∀ (f g n : Nat), n < f → n < g → lowF f n = lowF g n := by
  intro f
  induction f with
  | zero => intro g n h; omega
  | succ f ih =>
    intro g n h1 h2
    cases g with
    | zero => omega
    | succ g =>
      rw [lowF, lowF]
      by_cases h : n = 0
      · rw [if_pos h, if_pos h]
      · rw [if_neg h, if_neg h, ih g (n / 256) (by omega) (by omega)]

/-- A number's bytes, the lowest first, no 0 at the end. -/
def lowL (n : Nat) : List Nat := lowF (n + 1) n

theorem lowL_zero : lowL 0 = [] := by rw [lowL, lowF, if_pos rfl]
theorem lowL_more {n : Nat} (h : n ≠ 0) : lowL n = (n % 256) :: lowL (n / 256) := by
  rw [lowL, lowF, if_neg h, lowL, lowF_same n (n / 256 + 1) (n / 256) (by omega) (by omega)]

theorem lowL_small (n : Nat) : Small (lowL n) := by
  induction n using Nat.strongRecOn with
  | _ n ih =>
    by_cases h : n = 0
    · subst h; rw [lowL_zero]; intro x hx; simp at hx
    · rw [lowL_more h]; intro x hx
      rcases List.mem_cons.1 hx with rfl | hx
      · omega
      · exact ih (n / 256) (by omega) x hx

theorem lowL_lt (n : Nat) : n < 256 ^ (lowL n).length := by
  induction n using Nat.strongRecOn with
  | _ n ih =>
    by_cases h : n = 0
    · subst h; rw [lowL_zero]; simp
    · rw [lowL_more h]
      have := ih (n / 256) (by omega)
      rw [List.length_cons, Nat.pow_succ]; omega

theorem lowL_ge (n : Nat) (h0 : n ≠ 0) : 256 ^ ((lowL n).length - 1) ≤ n := by
  induction n using Nat.strongRecOn with
  | _ n ih =>
    rw [lowL_more h0]
    by_cases h : n / 256 = 0
    · rw [h, lowL_zero]; simp; omega
    · have := ih (n / 256) (by omega) h
      have hl : (lowL (n / 256)).length = ((lowL (n / 256)).length - 1) + 1 := by
        rw [lowL_more h]; simp
      simp only [List.length_cons, Nat.add_sub_cancel]
      rw [hl, Nat.pow_succ]; omega

theorem lowL_eight (n : Nat) (h : n < 18446744073709551616) : (lowL n).length ≤ 8 := by
  by_cases h0 : n = 0
  · subst h0; rw [lowL_zero]; simp
  · have h1 := lowL_ge n h0
    rcases Nat.lt_or_ge 8 (lowL n).length with hl | hl
    · have : 256 ^ 8 ≤ 256 ^ ((lowL n).length - 1) := Nat.pow_le_pow_right (by omega) (by omega)
      omega
    · exact hl

/-- How many bytes: from the bits' number. -/
theorem lowL_count (n : Nat) : (bitLen n + 7) / 8 = (lowL n).length := by
  by_cases h0 : n = 0
  · subst h0; rw [lowL_zero]; rfl
  · have h1 := lowL_ge n h0
    have h2 := lowL_lt n
    obtain ⟨h3, h4⟩ := bitLen_spec n
    have h4 := h4 h0
    have hl : 1 ≤ (lowL n).length := by rw [lowL_more h0]; simp
    generalize (lowL n).length = L at *
    generalize bitLen n = B at *
    have e1 : (256 : Nat) ^ L = 2 ^ (8 * L) := by rw [Nat.pow_mul]
    have e2 : (256 : Nat) ^ (L - 1) = 2 ^ (8 * (L - 1)) := by rw [Nat.pow_mul]
    rw [e1] at h2; rw [e2] at h1
    have a1 : B - 1 < 8 * L := (Nat.pow_lt_pow_iff_right (by omega : 1 < 2)).1 (Nat.lt_of_le_of_lt h4 h2)
    have a2 : 8 * (L - 1) < B := (Nat.pow_lt_pow_iff_right (by omega : 1 < 2)).1 (Nat.lt_of_le_of_lt h1 h3)
    omega

theorem lowL_at (n k : Nat) : (lowL n).getD k 0 = n / 256 ^ k % 256 := by
  induction k generalizing n with
  | zero =>
    by_cases h : n = 0
    · subst h; rw [lowL_zero]; simp
    · rw [lowL_more h]; simp
  | succ k ih =>
    by_cases h : n = 0
    · subst h; rw [lowL_zero]; simp
    · rw [lowL_more h, List.getD_cons_succ, ih, Nat.div_div_eq_div_mul, Nat.pow_succ, Nat.mul_comm]

/-- The highest first. -/
def bigV (l : List Nat) : Nat := l.foldl (fun a b => a * 256 + b) 0

theorem bigV_push (l : List Nat) (x : Nat) : bigV (l ++ [x]) = bigV l * 256 + x := by simp [bigV]
theorem bigV_nil : bigV [] = 0 := rfl

theorem bigV_lowL (n : Nat) : bigV (lowL n).reverse = n := by
  induction n using Nat.strongRecOn with
  | _ n ih =>
    by_cases h : n = 0
    · subst h; rw [lowL_zero]; rfl
    · rw [lowL_more h, List.reverse_cons, bigV_push, ih (n / 256) (by omega)]; omega

theorem bigV_lt {l : List Nat} (hs : Small l) : bigV l < 256 ^ l.length := by
  have : ∀ m : List Nat, Small m → bigV m.reverse < 256 ^ m.length := by
    intro m
    induction m with
    | nil => intro _; simp [bigV]
    | cons x m ih =>
      intro h
      rw [List.reverse_cons, bigV_push, List.length_cons, Nat.pow_succ]
      have h1 := ih (fun y hy => h y (by simp [hy]))
      have h2 := h x (by simp)
      omega
  have h := this l.reverse (fun x hx => hs x (by simpa using hx))
  simpa using h

/-- Bytes, the highest first and not 0, are those of their number. -/
theorem lowL_bigV : ∀ m : List Nat, Small m → (∀ x, m.getLast? = some x → x ≠ 0) → lowL (bigV m.reverse) = m := by
  intro m
  induction m with
  | nil => intro _ _; simp [bigV, lowL_zero]
  | cons x m ih =>
    intro h hl
    have h2 := h x (by simp)
    rw [List.reverse_cons, bigV_push]
    cases m with
    | nil =>
      have hx := hl x (by simp)
      simp only [List.reverse_nil, bigV_nil]
      rw [lowL_more (by omega), show (0 * 256 + x) / 256 = 0 by omega, lowL_zero]
      congr 1; omega
    | cons y m =>
      have h1 := ih (fun z hz => h z (by simp [hz])) (fun z hz => hl z (by simpa using hz))
      have hne : bigV (y :: m).reverse ≠ 0 := by
        intro e; rw [e, lowL_zero] at h1; simp at h1
      rw [lowL_more (by omega), show (bigV (y :: m).reverse * 256 + x) / 256 = bigV (y :: m).reverse by omega, h1]
      congr 1; omega

theorem lowL_last (n x : Nat) (h : (lowL n).getLast? = some x) : x ≠ 0 := by
  induction n using Nat.strongRecOn with
  | _ n ih =>
    by_cases h0 : n = 0
    · subst h0; rw [lowL_zero] at h; simp at h
    · rw [lowL_more h0] at h
      by_cases h1 : n / 256 = 0
      · rw [h1, lowL_zero] at h; simp at h; omega
      · apply ih (n / 256) (by omega)
        rw [lowL_more h1] at h ⊢
        simpa using h

/-- A key's bytes. -/
def keyL (n : Nat) : List Nat := (lowL n).length :: (lowL n).reverse

theorem keyL_length (n : Nat) : (keyL n).length = (lowL n).length + 1 := by simp [keyL]

theorem keyL_small (n : Nat) (h : n < 18446744073709551616) : Small (keyL n) := by
  intro x hx
  rcases List.mem_cons.1 hx with rfl | hx
  · have := lowL_eight n h; omega
  · exact lowL_small n x (by simpa using hx)

theorem keyL_inj {a b : Nat} (h : keyL a = keyL b) : a = b := by
  simp only [keyL, List.cons.injEq] at h
  rw [← bigV_lowL a, ← bigV_lowL b, h.2]

theorem map_inj : ∀ {a b : List Nat}, Small a → Small b → a.map UInt8.ofNat = b.map UInt8.ofNat → a = b := by
  intro a
  induction a with
  | nil => intro b _ _ h; cases b with
    | nil => rfl
    | cons y b => simp at h
  | cons x a ih =>
    intro b ha hb h
    cases b with
    | nil => simp at h
    | cons y b =>
      simp only [List.map_cons, List.cons.injEq] at h
      have hx := ha x (by simp)
      have hy := hb y (by simp)
      have : x = y := by
        have := congrArg UInt8.toNat h.1
        simp at this
        omega
      rw [this, ih (fun z hz => ha z (by simp [hz])) (fun z hz => hb z (by simp [hz])) h.2]

theorem bs_eq {a b : List Nat} (ha : Small a) (hb : Small b) : ((bs a).toList == (bs b).toList) = decide (a = b) := by
  rw [bs_toList, bs_toList]
  by_cases h : a = b
  · subst h; simp
  · have : a.map UInt8.ofNat ≠ b.map UInt8.ofNat := fun e => h (map_inj ha hb e)
    simp [h, this]

theorem foldl_from (l : List Nat) (a : Nat) : l.foldl (fun a b => a * 256 + b) a = a * 256 ^ l.length + bigV l := by
  induction l generalizing a with
  | nil => simp [bigV]
  | cons x l ih =>
    unfold bigV
    rw [List.foldl_cons, List.foldl_cons, ih, ih, List.length_cons, Nat.pow_succ]
    have : a * 256 * 256 ^ l.length = a * (256 ^ l.length * 256) := by rw [Nat.mul_assoc, Nat.mul_comm 256]
    rw [Nat.add_mul, this, Nat.zero_mul, Nat.zero_add, Nat.add_assoc]

theorem bigV_cons (x : Nat) (l : List Nat) : bigV (x :: l) = x * 256 ^ l.length + bigV l := by
  have := foldl_from l x
  unfold bigV at this ⊢
  simpa using this

theorem less_same : ∀ {a b : List Nat}, a.length = b.length → Small a → Small b → Op.bytesLess (a.map UInt8.ofNat) (b.map UInt8.ofNat) = decide (bigV a < bigV b) := by
  intro a
  induction a with
  | nil => intro b h _ _; cases b with
    | nil => simp [Op.bytesLess, bigV]
    | cons y b => simp at h
  | cons x a ih =>
    intro b h ha hb
    cases b with
    | nil => simp at h
    | cons y b =>
      have hl : a.length = b.length := by simpa using h
      have hx := ha x (by simp)
      have hy := hb y (by simp)
      have sa : Small a := fun z hz => ha z (by simp [hz])
      have sb : Small b := fun z hz => hb z (by simp [hz])
      have ta := bigV_lt sa
      have tb := bigV_lt sb
      rw [List.map_cons, List.map_cons, Op.bytesLess, ih hl sa sb, bigV_cons, bigV_cons, hl]
      rw [hl] at ta
      generalize bigV a = A at *
      generalize bigV b = B at *
      generalize 256 ^ b.length = p at *
      have e1 : (UInt8.ofNat x < UInt8.ofNat y) ↔ x < y := by
        rw [UInt8.lt_iff_toNat_lt]
        simp
        rw [Nat.mod_eq_of_lt hx, Nat.mod_eq_of_lt hy]
      have e2 : (UInt8.ofNat x = UInt8.ofNat y) ↔ x = y := by
        rw [← UInt8.toNat_inj]
        simp
        rw [Nat.mod_eq_of_lt hx, Nat.mod_eq_of_lt hy]
      rcases Nat.lt_trichotomy x y with hxy | hxy | hxy
      · have m : (x + 1) * p ≤ y * p := Nat.mul_le_mul_right p hxy
        rw [Nat.add_mul] at m
        have : x * p + A < y * p + B := by omega
        simp [e1.2 hxy, this]
      · subst hxy
        simp
      · have m : (y + 1) * p ≤ x * p := Nat.mul_le_mul_right p hxy
        rw [Nat.add_mul] at m
        have h1 : ¬ x * p + A < y * p + B := by omega
        have h2 : ¬ UInt8.ofNat x < UInt8.ofNat y := by rw [e1]; omega
        have h3 : ¬ UInt8.ofNat x = UInt8.ofNat y := by rw [e2]; omega
        simp [h1, h2, h3]

/-- Keys stand in order as numbers do. -/
theorem keys_less (a b : Nat) (ha : a < 18446744073709551616) (hb : b < 18446744073709551616) : Op.bytesLess (bs (keyL a)).toList (bs (keyL b)).toList = decide (a < b) := by
  rw [bs_toList, bs_toList]
  have la := lowL_eight a ha
  have lb := lowL_eight b hb
  unfold keyL
  rw [List.map_cons, List.map_cons, Op.bytesLess]
  have e1 : (UInt8.ofNat (lowL a).length < UInt8.ofNat (lowL b).length) ↔ (lowL a).length < (lowL b).length := by
    rw [UInt8.lt_iff_toNat_lt]; simp; omega
  have e2 : (UInt8.ofNat (lowL a).length = UInt8.ofNat (lowL b).length) ↔ (lowL a).length = (lowL b).length := by
    rw [← UInt8.toNat_inj]; simp; omega
  have up : ∀ x y : Nat, (lowL x).length < (lowL y).length → x < y := by
    intro x y h
    have h1 := lowL_lt x
    have hy : y ≠ 0 := by intro e; subst e; rw [lowL_zero] at h; simp at h
    have h2 := lowL_ge y hy
    have h3 : 256 ^ (lowL x).length ≤ 256 ^ ((lowL y).length - 1) := Nat.pow_le_pow_right (by omega) (by omega)
    omega
  rcases Nat.lt_trichotomy (lowL a).length (lowL b).length with h | h | h
  · have := up a b h
    simp [e1.2 h, this]
  · have := less_same (a := (lowL a).reverse) (b := (lowL b).reverse) (by simp [h]) (fun x hx => lowL_small a x (by simpa using hx)) (fun x hx => lowL_small b x (by simpa using hx))
    rw [bigV_lowL, bigV_lowL] at this
    rw [this, h]
    simp
  · have := up b a h
    have h1 : ¬ a < b := by omega
    have h2 : ¬ UInt8.ofNat (lowL a).length < UInt8.ofNat (lowL b).length := by rw [e1]; omega
    have h3 : ¬ UInt8.ofNat (lowL a).length = UInt8.ofNat (lowL b).length := by rw [e2]; omega
    simp [h1, h2, h3]

theorem keys_eq (a b : Nat) (ha : a < 18446744073709551616) (hb : b < 18446744073709551616) : ((bs (keyL a)).toList == (bs (keyL b)).toList) = decide (a = b) := by
  rw [bs_eq (keyL_small a ha) (keyL_small b hb)]
  by_cases h : a = b
  · subst h; simp
  · have : keyL a ≠ keyL b := fun e => h (keyL_inj e)
    simp [h, this]

/-- So many bytes, the lowest first. -/
def fixL (n : Nat) : Nat → List Nat
  | 0 => []
  | k + 1 => (n % 256) :: fixL (n / 256) k

theorem fixL_length (k : Nat) : ∀ n, (fixL n k).length = k := by
  induction k with
  | zero => intro n; rfl
  | succ k ih => intro n; simp [fixL, ih]

theorem fixL_at (k : Nat) : ∀ n i, i < k → (fixL n k).getD i 0 = n / 256 ^ i % 256 := by
  induction k with
  | zero => intro n i h; omega
  | succ k ih =>
    intro n i h
    cases i with
    | zero => simp [fixL]
    | succ i => rw [fixL, List.getD_cons_succ, ih _ i (by omega), Nat.div_div_eq_div_mul, Nat.pow_succ, Nat.mul_comm]

theorem fixL_small (n k : Nat) : Small (fixL n k) := by
  induction k generalizing n with
  | zero => intro x hx; simp [fixL] at hx
  | succ k ih =>
    intro x hx
    rcases List.mem_cons.1 hx with rfl | hx
    · omega
    · exact ih _ x hx

/-- One part more of a number, from below. -/
theorem mod_step (n p b : Nat) : n % (p * b) = n % p + n / p % b * p := by
  rw [Nat.mod_mul, Nat.mul_comm p]

theorem or_add (a x i : Nat) (h : a < 2 ^ i) : a ||| x * 2 ^ i = a + x * 2 ^ i := by
  have := Nat.shiftLeft_add_eq_or_of_lt h x
  rw [Nat.shiftLeft_eq] at this
  rw [Nat.or_comm, ← this, Nat.add_comm]
end Go.Proofs.Ytpefmoddglpbfaa.N
