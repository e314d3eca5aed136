/- Plain numbers and lists: the bytes of a number by sevens, of a key, of so many bytes; that they are read again; that keys stand in order. No condition but those that each row names. -/
import Derived.Test.YthlhnjjofefgcaaGreatDoorRows
import Derived.WalkKit
import Derived.ProofKit
import Derived.Laws.BitsAllLaws
import Derived.Laws.MathBits
import Derived.Laws.BytesArg
namespace Go.Proofs.YthlhnjjofefgcaaGreatDoor.P

/-- A text of such bytes. -/
def bs (l : List Nat) : ByteArray := ⟨(l.map UInt8.ofNat).toArray⟩

theorem bs_size (l : List Nat) : (bs l).size = l.length := by simp [bs, ByteArray.size]
theorem bs_append (a b : List Nat) : bs a ++ bs b = bs (a ++ b) := by
  unfold bs; rw [ByteArray.mk_append_mk]; simp
theorem bs_extract (l : List Nat) (a b : Nat) : (bs l).extract a b = bs ((l.drop a).take (b - a)) := by
  unfold bs; rw [ByteArray.extract_mk]; simp [List.map_drop, List.map_take]
theorem bs_toList (l : List Nat) : (bs l).toList = l.map UInt8.ofNat := by
  unfold bs; exact ByteArray.toList_mk _
theorem bs_get (l : List Nat) (k : Nat) (h : k < (bs l).size) : (bs l)[k].toNat = (l.getD k 0) % 256 := by
  have h' : k < l.length := by rw [bs_size] at h; exact h
  have : (bs l)[k] = UInt8.ofNat l[k] := by
    show (bs l).data[k]'h = _
    simp [bs]
  rw [this]
  simp [List.getD, List.getElem?_eq_getElem h']

/-- A text's bytes as numbers. -/
def un (s : ByteArray) : List Nat := s.data.toList.map UInt8.toNat

theorem bs_un (s : ByteArray) : bs (un s) = s := by
  unfold bs un
  simp [List.map_map, Function.comp_def]

theorem un_length (s : ByteArray) : (un s).length = s.size := by unfold un ByteArray.size; rw [List.length_map, Array.length_toList]

/-- All below 256. -/
def Small (l : List Nat) : Prop := ∀ x ∈ l, x < 256

theorem un_small (s : ByteArray) : Small (un s) := by
  intro x hx
  simp [un] at hx
  obtain ⟨a, _, rfl⟩ := hx
  exact UInt8.toNat_lt a

theorem Small.take {l : List Nat} (h : Small l) (k : Nat) : Small (l.take k) := fun x hx => h x (List.mem_of_mem_take hx)
theorem Small.drop {l : List Nat} (h : Small l) (k : Nat) : Small (l.drop k) := fun x hx => h x (List.mem_of_mem_drop hx)
theorem Small.append {a b : List Nat} (h : Small a) (k : Small b) : Small (a ++ b) := by
  intro x hx
  rcases List.mem_append.1 hx with hx | hx
  · exact h x hx
  · exact k x hx
theorem Small.getD {l : List Nat} (h : Small l) (k : Nat) : l.getD k 0 < 256 := by
  rcases Nat.lt_or_ge k l.length with hk | hk
  · simp [List.getD, List.getElem?_eq_getElem hk]; exact h _ (List.getElem_mem hk)
  · simp [List.getD, List.getElem?_eq_none hk]

theorem map_inj : ∀ {a b : List Nat}, Small a → Small b → a.map UInt8.ofNat = b.map UInt8.ofNat → a = b := by
  intro a
  induction a with
  | nil => intro b _ _ h; cases b with
    | nil => rfl
    | cons y b => simp at h
  | cons x a ih =>
    intro b ha hb h
    cases b with
    | nil => simp at h
    | cons y b =>
      simp only [List.map_cons, List.cons.injEq] at h
      have hx := ha x (by simp)
      have hy := hb y (by simp)
      have : x = y := by
        have := congrArg UInt8.toNat h.1
        simp at this
        omega
      rw [this, ih (fun z hz => ha z (by simp [hz])) (fun z hz => hb z (by simp [hz])) h.2]

theorem bs_eq {a b : List Nat} (ha : Small a) (hb : Small b) : ((bs a).toList == (bs b).toList) = decide (a = b) := by
  rw [bs_toList, bs_toList]
  by_cases h : a = b
  · subst h; simp
  · have : a.map UInt8.ofNat ≠ b.map UInt8.ofNat := fun e => h (map_inj ha hb e)
    simp [h, this]


/-- So many bytes, the lowest first. -/
def fixL (n : Nat) : Nat → List Nat
  | 0 => []
  | k + 1 => (n % 256) :: fixL (n / 256) k

theorem fixL_length (k : Nat) : ∀ n, (fixL n k).length = k := by
  induction k with
  | zero => intro n; rfl
  | succ k ih => intro n; simp [fixL, ih]

theorem fixL_at (k : Nat) : ∀ n i, i < k → (fixL n k).getD i 0 = n / 256 ^ i % 256 := by
  induction k with
  | zero => intro n i h; omega
  | succ k ih =>
    intro n i h
    cases i with
    | zero => simp [fixL]
    | succ i => rw [fixL, List.getD_cons_succ, ih _ i (by omega), Nat.div_div_eq_div_mul, Nat.pow_succ, Nat.mul_comm]

theorem fixL_small (n k : Nat) : Small (fixL n k) := by
  induction k generalizing n with
  | zero => intro x hx; simp [fixL] at hx
  | succ k ih =>
    intro x hx
    rcases List.mem_cons.1 hx with rfl | hx
    · omega
    · exact ih _ x hx

/-- One part more of a number, from below. -/
theorem mod_step (n p b : Nat) : n % (p * b) = n % p + n / p % b * p := by
  rw [Nat.mod_mul, Nat.mul_comm p]

theorem or_add (a x i : Nat) (h : a < 2 ^ i) : a ||| x * 2 ^ i = a + x * 2 ^ i := by
  have := Nat.shiftLeft_add_eq_or_of_lt h x
  rw [Nat.shiftLeft_eq] at this
  rw [Nat.or_comm, ← this, Nat.add_comm]
end Go.Proofs.YthlhnjjofefgcaaGreatDoor.P
