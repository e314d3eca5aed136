/- Plain words: bytes of a text, how far bytes of a sort go, what stands between words, what a word is, the words of a text, or the first flaw. No condition but those that each row names. -/
import Derived.Test.YtgjhonphnecdhaaRows
import Derived.WalkKit
import Derived.ProofKit
namespace Go.Proofs.Ytgjhonphnecdhaa.Lx

/-- A text's byte; 0 behind its end. -/
def bt (s : ByteArray) (k : Nat) : Nat := (s.data[k]?.getD 0).toNat
theorem bt_lt (s : ByteArray) (k : Nat) : bt s k < 256 := UInt8.toNat_lt _
theorem bt_get (s : ByteArray) (k : Nat) (h : k < s.size) : s[k].toNat = bt s k := by
  have h' : k < s.data.size := h
  unfold bt
  rw [Array.getElem?_eq_getElem h']
  rfl
theorem bt_out {s : ByteArray} {k : Nat} (h : s.size ≤ k) : bt s k = 0 := by
  have h' : s.data.size ≤ k := h
  unfold bt
  rw [Array.getElem?_eq_none h']
  rfl
theorem bt_in {s : ByteArray} {k : Nat} (h : bt s k ≠ 0) : k < s.size := by
  rcases Nat.lt_or_ge k s.size with g | g
  · exact g
  · exact absurd (bt_out g) h
theorem bt_append (s t : ByteArray) (k : Nat) : bt (s ++ t) k = if k < s.size then bt s k else bt t (k - s.size) := by
  unfold bt
  rw [ByteArray.data_append, Array.getElem?_append]
  have e : s.data.size = s.size := rfl
  rw [e]
  split <;> rfl
theorem bt_extract (s : ByteArray) (i j k : Nat) : bt (s.extract i j) k = if i + k < j then bt s (i + k) else 0 := by
  unfold bt
  rw [ByteArray.data_extract, Array.getElem?_extract]
  have e : s.data.size = s.size := rfl
  rw [e]
  by_cases h : k < min j s.size - i
  · rw [if_pos h, if_pos (by omega)]
  · rw [if_neg h]
    by_cases h2 : i + k < j
    · rw [if_pos h2, Array.getElem?_eq_none (by rw [e]; omega)]
    · rw [if_neg h2]; rfl
theorem size_extract (s : ByteArray) (i j : Nat) : (s.extract i j).size = min j s.size - i := by simp
theorem size_append (s t : ByteArray) : (s ++ t).size = s.size + t.size := by simp
theorem ext_bt {s t : ByteArray} (hs : s.size = t.size) (h : ∀ k, k < s.size → bt s k = bt t k) : s = t := by
  apply ByteArray.ext
  apply Array.ext
  · exact hs
  · intro i h1 h2
    have := h i h1
    rw [← bt_get s i h1, ← bt_get t i h2] at this
    exact UInt8.toNat_inj.1 this

/-- How far bytes of a sort go. -/
def runF (p : Nat → Bool) (s : ByteArray) : Nat → Nat → Nat
  | 0, i => i
  | n + 1, i => if p (bt s i) = true then runF p s n (i + 1) else i
def run (p : Nat → Bool) (s : ByteArray) (i : Nat) : Nat := runF p s (s.size - i) i
theorem run_go {p : Nat → Bool} {s : ByteArray} {i : Nat} (h : i < s.size) (hp : p (bt s i) = true) : run p s i = run p s (i + 1) := by
  unfold run
  rw [show s.size - i = (s.size - (i + 1)) + 1 by omega, runF, if_pos hp]
theorem run_stop {p : Nat → Bool} {s : ByteArray} {i : Nat} (hp : p (bt s i) = false) : run p s i = i := by
  unfold run
  cases s.size - i with
  | zero => rfl
  | succ n => rw [runF, if_neg (by rw [hp]; simp)]
theorem run_end {p : Nat → Bool} {s : ByteArray} {i : Nat} (h : s.size ≤ i) : run p s i = i := by
  unfold run
  rw [show s.size - i = 0 by omega]; rfl
theorem run_is {p : Nat → Bool} {s : ByteArray} {e : Nat} (he : e ≤ s.size) (hz : e < s.size → p (bt s e) = false) : ∀ (n i : Nat), n + i = e → (∀ k, i ≤ k → k < e → p (bt s k) = true) → run p s i = e
  | 0, i, hn, _ => by
    obtain rfl : i = e := by omega
    rcases Nat.lt_or_ge i s.size with g | g
    · exact run_stop (hz g)
    · exact run_end g
  | n + 1, i, hn, ha => by
    rw [run_go (by omega) (ha i (Nat.le_refl _) (by omega))]
    exact run_is he hz n (i + 1) (by omega) fun k h1 h2 => ha k (by omega) h2
theorem run_facts (p : Nat → Bool) (s : ByteArray) : ∀ (n i : Nat), n = s.size - i → i ≤ run p s i ∧ (i ≤ s.size → run p s i ≤ s.size) ∧ (∀ k, i ≤ k → k < run p s i → p (bt s k) = true) ∧ (run p s i < s.size → p (bt s (run p s i)) = false)
  | 0, i, hn => by
    rw [run_end (by omega)]
    exact ⟨Nat.le_refl _, id, fun k h1 h2 => by omega, fun h => by omega⟩
  | n + 1, i, hn => by
    cases hp : p (bt s i) with
    | false =>
      rw [run_stop hp]
      exact ⟨Nat.le_refl _, id, fun k h1 h2 => by omega, fun _ => hp⟩
    | true =>
      rw [run_go (by omega) hp]
      obtain ⟨h1, h2, h3, h4⟩ := run_facts p s n (i + 1) (by omega)
      refine ⟨by omega, fun _ => h2 (by omega), fun k h5 h6 => ?_, h4⟩
      rcases Nat.eq_or_lt_of_le h5 with rfl | h7
      · exact hp
      · exact h3 k h7 h6
theorem run_ge (p : Nat → Bool) (s : ByteArray) (i : Nat) : i ≤ run p s i := (run_facts p s _ i rfl).1
theorem run_le {p : Nat → Bool} {s : ByteArray} {i : Nat} (h : i ≤ s.size) : run p s i ≤ s.size := (run_facts p s _ i rfl).2.1 h
theorem run_all {p : Nat → Bool} {s : ByteArray} {i k : Nat} (h1 : i ≤ k) (h2 : k < run p s i) : p (bt s k) = true := (run_facts p s _ i rfl).2.2.1 k h1 h2
theorem run_after {p : Nat → Bool} {s : ByteArray} {i : Nat} (h : run p s i < s.size) : p (bt s (run p s i)) = false := (run_facts p s _ i rfl).2.2.2 h

/-- What stands between words; b: within a note. -/
def gpF (s : ByteArray) : Nat → Bool → Nat → Nat
  | 0, _, i => i
  | n + 1, b, i => if bt s i = 10 then gpF s n false (i + 1) else if b = true ∨ bt s i = 32 ∨ bt s i = 9 ∨ bt s i = 13 then gpF s n b (i + 1) else if bt s i = 35 then gpF s n true (i + 1) else i
def gp (b : Bool) (s : ByteArray) (i : Nat) : Nat := gpF s (s.size - i) b i
theorem gp_end {b : Bool} {s : ByteArray} {i : Nat} (h : s.size ≤ i) : gp b s i = i := by
  unfold gp; rw [show s.size - i = 0 by omega]; rfl
theorem gp_lf {b : Bool} {s : ByteArray} {i : Nat} (h : i < s.size) (h0 : bt s i = 10) : gp b s i = gp false s (i + 1) := by
  unfold gp; rw [show s.size - i = (s.size - (i + 1)) + 1 by omega, gpF, if_pos h0]
theorem gp_sp {b : Bool} {s : ByteArray} {i : Nat} (h : i < s.size) (h0 : bt s i ≠ 10) (h1 : b = true ∨ bt s i = 32 ∨ bt s i = 9 ∨ bt s i = 13) : gp b s i = gp b s (i + 1) := by
  unfold gp; rw [show s.size - i = (s.size - (i + 1)) + 1 by omega, gpF, if_neg h0, if_pos h1]
theorem gp_note {s : ByteArray} {i : Nat} (h : i < s.size) (h0 : bt s i = 35) : gp false s i = gp true s (i + 1) := by
  unfold gp; rw [show s.size - i = (s.size - (i + 1)) + 1 by omega, gpF, if_neg (by omega), if_neg (by simp; omega), if_pos h0]
theorem gp_stop {s : ByteArray} {i : Nat} (h1 : ¬ (bt s i = 10 ∨ bt s i = 32 ∨ bt s i = 9 ∨ bt s i = 13 ∨ bt s i = 35)) : gp false s i = i := by
  unfold gp
  cases s.size - i with
  | zero => rfl
  | succ n => rw [gpF, if_neg (by omega), if_neg (by simp; omega), if_neg (by omega)]
theorem gp_facts (s : ByteArray) : ∀ (n : Nat) (b : Bool) (i : Nat), n = s.size - i → i ≤ gp b s i ∧ (i ≤ s.size → gp b s i ≤ s.size)
  | 0, b, i, hn => by
    rw [gp_end (by omega)]; exact ⟨Nat.le_refl _, id⟩
  | n + 1, b, i, hn => by
    by_cases h0 : bt s i = 10
    · rw [gp_lf (by omega) h0]
      obtain ⟨h1, h2⟩ := gp_facts s n false (i + 1) (by omega)
      exact ⟨by omega, fun _ => h2 (by omega)⟩
    · by_cases h1 : b = true ∨ bt s i = 32 ∨ bt s i = 9 ∨ bt s i = 13
      · rw [gp_sp (by omega) h0 h1]
        obtain ⟨h1, h2⟩ := gp_facts s n b (i + 1) (by omega)
        exact ⟨by omega, fun _ => h2 (by omega)⟩
      · obtain rfl : b = false := by cases b <;> simp_all
        by_cases h2 : bt s i = 35
        · rw [gp_note (by omega) h2]
          obtain ⟨h1, h2⟩ := gp_facts s n true (i + 1) (by omega)
          exact ⟨by omega, fun _ => h2 (by omega)⟩
        · rw [gp_stop (by simp at h1; omega)]
          exact ⟨Nat.le_refl _, id⟩
theorem gp_ge (b : Bool) (s : ByteArray) (i : Nat) : i ≤ gp b s i := (gp_facts s _ b i rfl).1
theorem gp_le {b : Bool} {s : ByteArray} {i : Nat} (h : i ≤ s.size) : gp b s i ≤ s.size := (gp_facts s _ b i rfl).2 h
/-- A byte of a note. -/
def isT (y : Nat) : Bool := decide (y ≠ 10)
theorem gp_run (s : ByteArray) : ∀ (n i : Nat), n = s.size - i → gp true s i = gp false s (run isT s i)
  | 0, i, hn => by rw [run_end (by omega), gp_end (by omega), gp_end (by omega)]
  | n + 1, i, hn => by
    by_cases h0 : bt s i = 10
    · rw [run_stop (by simp [isT, h0]), gp_lf (by omega) h0, gp_lf (by omega) h0]
    · rw [run_go (by omega) (by simp [isT, h0]), gp_sp (by omega) h0 (.inl rfl)]
      exact gp_run s n (i + 1) (by omega)
/-- A note is passed over. -/
theorem gp_past {s : ByteArray} {i : Nat} (h : i < s.size) (h0 : bt s i = 35) : gp false s i = gp false s (run isT s i) := by
  rw [gp_note h h0, gp_run s _ _ rfl, run_go h (by simp [isT, h0])]

/-- What a byte is. -/
def knd (y : Nat) : Nat :=
  if y = 32 ∨ y = 9 ∨ y = 10 ∨ y = 13 then 1 else if y = 35 then 2 else if y = 95 then 3
  else if y = 123 ∨ y = 125 ∨ y = 40 ∨ y = 41 ∨ y = 59 ∨ y = 58 ∨ y = 44 ∨ y = 61 ∨ y = 46 ∨ y = 64 ∨ y = 38 ∨ y = 42 ∨ y = 60 ∨ y = 43 ∨ y = 45 then 5
  else if (97 ≤ y ∧ y ≤ 122) ∨ (65 ≤ y ∧ y ≤ 90) then 3 else if 48 ≤ y ∧ y ≤ 57 then 4 else 0
def isN (y : Nat) : Bool := decide (knd y = 3 ∨ knd y = 4)
def isD (y : Nat) : Bool := decide (knd y = 4)
/-- The reference's word for it: a letter 1, a digit 2. -/
def lt (y : Nat) : Nat := if (97 ≤ y ∧ y ≤ 122) ∨ (65 ≤ y ∧ y ≤ 90) ∨ y = 95 then 1 else if 48 ≤ y ∧ y ≤ 57 then 2 else 0
theorem lt_1 {y : Nat} : lt y = 1 ↔ knd y = 3 := by
  unfold lt knd
  constructor
  · intro h
    have g : (97 ≤ y ∧ y ≤ 122) ∨ (65 ≤ y ∧ y ≤ 90) ∨ y = 95 := by
      by_cases g : (97 ≤ y ∧ y ≤ 122) ∨ (65 ≤ y ∧ y ≤ 90) ∨ y = 95
      · exact g
      · rw [if_neg g] at h; split at h <;> omega
    rw [if_neg (by omega), if_neg (by omega)]
    by_cases e : y = 95
    · rw [if_pos e]
    · rw [if_neg e, if_neg (by omega), if_pos (by omega)]
  · intro h
    by_cases g : (97 ≤ y ∧ y ≤ 122) ∨ (65 ≤ y ∧ y ≤ 90) ∨ y = 95
    · rw [if_pos g]
    · exfalso
      revert h
      (repeat' split) <;> intro h <;> omega
theorem lt_2 {y : Nat} : lt y = 2 ↔ knd y = 4 := by
  unfold lt knd
  constructor
  · intro h
    have g : 48 ≤ y ∧ y ≤ 57 := by
      revert h
      (repeat' split) <;> intro h <;> omega
    rw [if_neg (by omega), if_neg (by omega), if_neg (by omega), if_neg (by omega), if_neg (by omega), if_pos g]
  · intro h
    by_cases g : 48 ≤ y ∧ y ≤ 57
    · rw [if_neg (by omega), if_pos g]
    · exfalso
      revert h
      (repeat' split) <;> intro h <;> omega
theorem lt_le (y : Nat) : lt y ≤ 2 := by unfold lt; (repeat' split) <;> omega
theorem isN_lt (y : Nat) : isN y = decide (0 < lt y) := by
  unfold isN
  rw [decide_eq_decide, ← lt_1, ← lt_2]
  have := lt_le y
  omega
theorem isD_lt (y : Nat) : isD y = decide (lt y = 2) := by unfold isD; rw [decide_eq_decide, ← lt_2]
theorem knd_dig {y : Nat} : knd y = 4 ↔ 48 ≤ y ∧ y ≤ 57 := by
  rw [← lt_2]
  unfold lt
  constructor
  · intro h
    revert h
    (repeat' split) <;> intro h <;> omega
  · intro h
    rw [if_neg (by omega), if_pos h]
theorem knd_gap {y : Nat} : (y = 10 ∨ y = 32 ∨ y = 9 ∨ y = 13) ↔ knd y = 1 := by
  unfold knd
  constructor
  · intro h; rw [if_pos (by omega)]
  · intro h
    by_cases g : y = 32 ∨ y = 9 ∨ y = 10 ∨ y = 13
    · omega
    · exfalso
      revert h
      (repeat' split) <;> intro h <;> omega
theorem knd_note {y : Nat} : y = 35 ↔ knd y = 2 := by
  unfold knd
  constructor
  · intro h; rw [if_neg (by omega), if_pos h]
  · intro h
    by_cases g : y = 35
    · exact g
    · exfalso
      revert h
      (repeat' split) <;> intro h <;> omega
theorem knd_le (y : Nat) : knd y ≤ 5 := by unfold knd; (repeat' split) <;> omega
theorem knd_zero : knd 0 = 0 := by decide

/-- What digits say. -/
def vl (s : ByteArray) (i : Nat) : Nat → Nat
  | 0 => 0
  | m + 1 => vl s i m * 10 + (bt s (i + m) - 48)
theorem vl_mono (s : ByteArray) (i : Nat) {m m' : Nat} (h : m ≤ m') : vl s i m ≤ vl s i m' := by
  induction h with
  | refl => exact Nat.le_refl _
  | step _ ih => exact Nat.le_trans ih (by rw [vl]; omega)
theorem vl_cong {s t : ByteArray} {i j : Nat} : ∀ (m : Nat), (∀ k, k < m → bt s (i + k) = bt t (j + k)) → vl s i m = vl t j m
  | 0, _ => rfl
  | m + 1, h => by rw [vl, vl, vl_cong m fun k hk => h k (by omega), h m (Nat.lt_succ_self _)]
theorem vl_part (s : ByteArray) (i j m : Nat) (h : i + m ≤ j) : vl (s.extract i j) 0 m = vl s i m :=
  vl_cong m fun k hk => by rw [bt_extract, Nat.zero_add, if_pos (by omega)]

/-- The kept names. -/
def kws : List ByteArray := [⟨#[103, 108, 111, 98, 97, 108]⟩, ⟨#[102, 105, 101, 108, 100]⟩, ⟨#[102, 110]⟩, ⟨#[118, 97, 114]⟩, ⟨#[105, 110, 116]⟩, ⟨#[114, 101, 102]⟩, ⟨#[102, 117, 110]⟩, ⟨#[105, 102]⟩, ⟨#[101, 108, 115, 101]⟩, ⟨#[119, 104, 105, 108, 101]⟩, ⟨#[108, 111, 99, 107]⟩, ⟨#[117, 110, 108, 111, 99, 107]⟩, ⟨#[115, 112, 97, 119, 110]⟩, ⟨#[114, 101, 116, 117, 114, 110]⟩, ⟨#[115, 107, 105, 112]⟩, ⟨#[110, 101, 119]⟩, ⟨#[110, 117, 108, 108]⟩]
def kept (t : ByteArray) : Bool := kws.any fun x => t.data.toList == x.data.toList
theorem toList_data (a : ByteArray) : a.toList = a.data.toList := by
  have h1 := ByteArray.toList_mk a.data.toList
  simp only [Array.toArray_toList] at h1
  exact h1
theorem seq_data (a b : ByteArray) : (a.toList == b.toList) = (a.data.toList == b.data.toList) := by rw [toList_data, toList_data]
theorem seq_eq {a b : ByteArray} : (a.toList == b.toList) = true ↔ a = b := by
  rw [seq_data, beq_iff_eq]
  constructor
  · intro h
    exact ByteArray.ext (Array.toList_inj.1 h)
  · intro h; rw [h]

/-- A word. -/
structure Tok where
  k : Nat
  a : Nat
  n : Nat
  t : ByteArray
/-- How many bytes a sign has. -/
def sl (s : ByteArray) (i : Nat) : Nat := if bt s i = 61 ∧ bt s (i + 1) = 61 then 2 else 1
/-- The word that stands there, if one does. -/
def wd (s : ByteArray) (i : Nat) : Option Tok :=
  if knd (bt s i) = 3 then some ⟨if kept (s.extract i (run isN s i)) = true then 3 else 1, i, 0, s.extract i (run isN s i)⟩
  else if knd (bt s i) = 4 then (if vl s i (run isD s i - i) ≤ 2147483648 then some ⟨2, i, vl s i (run isD s i - i), s.extract i (run isD s i)⟩ else none)
  else if knd (bt s i) = 5 then some ⟨4, i, 0, s.extract i (i + sl s i)⟩ else none
theorem wd_name {s : ByteArray} {i : Nat} (h : knd (bt s i) = 3) : wd s i = some ⟨if kept (s.extract i (run isN s i)) = true then 3 else 1, i, 0, s.extract i (run isN s i)⟩ := by
  rw [wd, if_pos h]
theorem wd_num {s : ByteArray} {i : Nat} (h : knd (bt s i) = 4) (hv : vl s i (run isD s i - i) ≤ 2147483648) : wd s i = some ⟨2, i, vl s i (run isD s i - i), s.extract i (run isD s i)⟩ := by
  rw [wd, if_neg (by omega), if_pos h, if_pos hv]
theorem wd_great {s : ByteArray} {i : Nat} (h : knd (bt s i) = 4) (hv : ¬ vl s i (run isD s i - i) ≤ 2147483648) : wd s i = none := by
  rw [wd, if_neg (by omega), if_pos h, if_neg hv]
theorem wd_sign {s : ByteArray} {i : Nat} (h : knd (bt s i) = 5) : wd s i = some ⟨4, i, 0, s.extract i (i + sl s i)⟩ := by
  rw [wd, if_neg (by omega), if_neg (by omega), if_pos h]
theorem wd_none {s : ByteArray} {i : Nat} (h : knd (bt s i) ≠ 3) (h1 : knd (bt s i) ≠ 4) (h2 : knd (bt s i) ≠ 5) : wd s i = none := by
  rw [wd, if_neg h, if_neg h1, if_neg h2]
theorem sl_in {s : ByteArray} {i : Nat} (h : i < s.size) : i + sl s i ≤ s.size ∧ 1 ≤ sl s i ∧ sl s i ≤ 2 := by
  unfold sl
  split
  · rename_i g
    have := bt_in (s := s) (k := i + 1) (by omega)
    omega
  · omega
/-- A word's place, its text, and that it has bytes. -/
theorem wd_facts {s : ByteArray} {i : Nat} {x : Tok} (h : i < s.size) (hx : wd s i = some x) : x.a = i ∧ 1 ≤ x.t.size ∧ i + x.t.size ≤ s.size ∧ s.extract i (i + x.t.size) = x.t ∧ 1 ≤ x.k ∧ x.k ≤ 4 ∧ x.n ≤ 2147483648 := by
  have key : ∀ e, i + 1 ≤ e → e ≤ s.size → (s.extract i e).size = e - i := fun e h1 h2 => by rw [size_extract]; omega
  by_cases h3 : knd (bt s i) = 3
  · rw [wd_name h3] at hx
    cases hx
    have hp : isN (bt s i) = true := by simp [isN, h3]
    have h1 : i + 1 ≤ run isN s i := by rw [run_go h hp]; exact run_ge _ _ _
    have h2 := run_le (p := isN) (Nat.le_of_lt h)
    have e := key _ h1 h2
    refine ⟨rfl, ?_, ?_, ?_, ?_, ?_, by simp⟩
    · show 1 ≤ (s.extract i (run isN s i)).size; omega
    · show i + (s.extract i (run isN s i)).size ≤ s.size; omega
    · show s.extract i (i + (s.extract i (run isN s i)).size) = s.extract i (run isN s i)
      rw [e, show i + (run isN s i - i) = run isN s i by omega]
    · show 1 ≤ (if kept (s.extract i (run isN s i)) = true then 3 else 1); split <;> omega
    · show (if kept (s.extract i (run isN s i)) = true then 3 else 1) ≤ 4; split <;> omega
  · by_cases h4 : knd (bt s i) = 4
    · by_cases hv : vl s i (run isD s i - i) ≤ 2147483648
      · rw [wd_num h4 hv] at hx
        cases hx
        have hp : isD (bt s i) = true := by simp [isD, h4]
        have h1 : i + 1 ≤ run isD s i := by rw [run_go h hp]; exact run_ge _ _ _
        have h2 := run_le (p := isD) (Nat.le_of_lt h)
        have e := key _ h1 h2
        refine ⟨rfl, ?_, ?_, ?_, by simp, by simp, hv⟩
        · show 1 ≤ (s.extract i (run isD s i)).size; omega
        · show i + (s.extract i (run isD s i)).size ≤ s.size; omega
        · show s.extract i (i + (s.extract i (run isD s i)).size) = s.extract i (run isD s i)
          rw [e, show i + (run isD s i - i) = run isD s i by omega]
      · rw [wd_great h4 hv] at hx; cases hx
    · by_cases h5 : knd (bt s i) = 5
      · rw [wd_sign h5] at hx
        cases hx
        obtain ⟨h1, h2, _⟩ := sl_in h
        have e := key _ (show i + 1 ≤ i + sl s i by omega) h1
        refine ⟨rfl, ?_, ?_, ?_, by simp, by simp, by simp⟩
        · show 1 ≤ (s.extract i (i + sl s i)).size; omega
        · show i + (s.extract i (i + sl s i)).size ≤ s.size; omega
        · show s.extract i (i + (s.extract i (i + sl s i)).size) = s.extract i (i + sl s i)
          rw [e, show i + (i + sl s i - i) = i + sl s i by omega]
      · rw [wd_none h3 h4 h5] at hx; cases hx

/-- The end, as a word. -/
def fin (s : ByteArray) : Tok := ⟨0, s.size, 0, ⟨#[]⟩⟩
/-- Words ahead of others. -/
def pre (l : List Tok) : Except Nat (List Tok) → Except Nat (List Tok)
  | .ok r => .ok (l ++ r)
  | .error e => .error e
theorem pre_pre (a b : List Tok) (r : Except Nat (List Tok)) : pre a (pre b r) = pre (a ++ b) r := by cases r <;> simp [pre]
theorem pre_nil (r : Except Nat (List Tok)) : pre [] r = r := by cases r <;> simp [pre]
/-- The words from there on, or the place of the first flaw. -/
def lxF (s : ByteArray) : Nat → Nat → Except Nat (List Tok)
  | 0, _ => .ok [fin s]
  | n + 1, i => if i < s.size then (match wd s i with | none => .error i | some x => pre [x] (lxF s n (gp false s (i + x.t.size)))) else .ok [fin s]
theorem lxF_same (s : ByteArray) : ∀ (n m i : Nat), s.size - i ≤ n → s.size - i ≤ m → lxF s n i = lxF s m i
  | 0, 0, _, _, _ => rfl
  | 0, m + 1, i, h, _ => by rw [lxF, lxF, if_neg (by omega)]
  | n + 1, 0, i, _, h => by rw [lxF, lxF, if_neg (by omega)]
  | n + 1, m + 1, i, h, g => by
    rw [lxF, lxF]
    by_cases hi : i < s.size
    · rw [if_pos hi, if_pos hi]
      cases hx : wd s i with
      | none => rfl
      | some x =>
        have h1 := (wd_facts hi hx).2.1
        have h2 := gp_ge false s (i + x.t.size)
        show pre [x] _ = pre [x] _
        rw [lxF_same s n m _ (by omega) (by omega)]
    · rw [if_neg hi, if_neg hi]
def lx (s : ByteArray) (i : Nat) : Except Nat (List Tok) := lxF s (s.size - i) i
theorem lx_end {s : ByteArray} {i : Nat} (h : s.size ≤ i) : lx s i = .ok [fin s] := by
  unfold lx; rw [show s.size - i = 0 by omega]; rfl
theorem lx_bad {s : ByteArray} {i : Nat} (h : i < s.size) (hx : wd s i = none) : lx s i = .error i := by
  unfold lx; rw [show s.size - i = (s.size - (i + 1)) + 1 by omega, lxF, if_pos h, hx]
theorem lx_word {s : ByteArray} {i : Nat} {x : Tok} (h : i < s.size) (hx : wd s i = some x) : lx s i = pre [x] (lx s (gp false s (i + x.t.size))) := by
  have h1 := (wd_facts h hx).2.1
  have h2 := gp_ge false s (i + x.t.size)
  unfold lx
  rw [show s.size - i = (s.size - (i + 1)) + 1 by omega, lxF, if_pos h, hx]
  show pre [x] _ = pre [x] _
  rw [lxF_same s (s.size - (i + 1)) (s.size - gp false s (i + x.t.size)) _ (by omega) (Nat.le_refl _)]
/-- The words of a text. -/
def words (s : ByteArray) : Except Nat (List Tok) := lx s (gp false s 0)
end Go.Proofs.Ytgjhonphnecdhaa.Lx
