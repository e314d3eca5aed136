/- Leaves in plain words: keys in order, the first place of one not below a key, what is set and taken away; how lists of texts, of values and of numbers lie in cells. No condition but those that each row names. -/
import Derived.Test.YtgcfollelefmcaaNB
namespace Go.Proofs.Ytgcfollelefmcaa
open Go.ChangeShapes Go.WideShapes Go.ChangeAt Go.RowKit

theorem less_irrefl : ∀ a : List UInt8, Op.bytesLess a a = false
  | [] => rfl
  | x :: r => by simp [Op.bytesLess, less_irrefl r]
theorem less_trans : ∀ a b c : List UInt8, Op.bytesLess a b = true → Op.bytesLess b c = true → Op.bytesLess a c = true
  | _, [], _, h, _ => by simp [Op.bytesLess] at h
  | _, _ :: _, [], _, h => by simp [Op.bytesLess] at h
  | [], _ :: _, _ :: _, _, _ => rfl
  | x :: a, y :: b, z :: c, h, k => by
    simp only [Op.bytesLess, Bool.or_eq_true, decide_eq_true_eq, Bool.and_eq_true, beq_iff_eq] at h k ⊢
    rcases h with h | ⟨rfl, h⟩
    · rcases k with k | ⟨rfl, k⟩
      · exact .inl (by rw [UInt8.lt_iff_toNat_lt] at *; omega)
      · exact .inl h
    · rcases k with k | ⟨rfl, k⟩
      · exact .inl k
      · exact .inr ⟨rfl, less_trans a b c h k⟩
theorem less_total : ∀ a b : List UInt8, Op.bytesLess a b = false → a ≠ b → Op.bytesLess b a = true
  | [], [], _, h => absurd rfl h
  | [], _ :: _, h, _ => by simp [Op.bytesLess] at h
  | _ :: _, [], _, _ => rfl
  | x :: a, y :: b, h, k => by
    simp only [Op.bytesLess, Bool.or_eq_false_iff, decide_eq_false_iff_not, Bool.and_eq_false_iff, beq_eq_false_iff_ne, Bool.or_eq_true, decide_eq_true_eq, Bool.and_eq_true, beq_iff_eq] at h ⊢
    obtain ⟨h1, h2⟩ := h
    by_cases e : x = y
    · subst e
      refine .inr ⟨rfl, less_total a b (h2.resolve_left (fun q => q rfl)) (fun q => k (by rw [q]))⟩
    · refine .inl ?_
      rw [UInt8.lt_iff_toNat_lt] at *
      have : x.toNat ≠ y.toNat := fun q => e (UInt8.toNat_inj.1 q)
      omega

/-- One text stands ahead of another one. -/
def sl (a b : ByteArray) : Bool := Op.bytesLess a.toList b.toList

theorem toList_eq (s : ByteArray) : s.toList = s.data.toList := by
  have := bs_toList (un s)
  rw [bs_un] at this
  rw [this]
  unfold un
  simp [List.map_map, Function.comp_def]
theorem toList_inj {a b : ByteArray} (h : a.toList = b.toList) : a = b := by
  rw [toList_eq, toList_eq] at h
  cases a; cases b
  simp at h
  subst h
  rfl
theorem seq_iff (a b : ByteArray) : (a.toList == b.toList) = decide (a = b) := by
  by_cases h : a = b
  · subst h; simp
  · have : a.toList ≠ b.toList := fun e => h (toList_inj e)
    simp [h, this]
theorem sl_irrefl (a : ByteArray) : sl a a = false := less_irrefl _
theorem sl_trans {a b c : ByteArray} (h : sl a b = true) (k : sl b c = true) : sl a c = true := less_trans _ _ _ h k
theorem sl_total {a b : ByteArray} (h : sl a b = false) (k : a ≠ b) : sl b a = true := less_total _ _ h (fun e => k (toList_inj e))

/-- Keys that rise. -/
def Up (ks : List ByteArray) : Prop := ks.Pairwise fun a b => sl a b = true

/-- The first place of one that is not below. -/
def fnd (key : ByteArray) : List ByteArray → Nat
  | [] => 0
  | k :: r => if sl k key = true then fnd key r + 1 else 0

theorem fnd_le (key : ByteArray) : ∀ ks, fnd key ks ≤ ks.length
  | [] => Nat.le_refl _
  | k :: r => by unfold fnd; have := fnd_le key r; split <;> simp <;> omega
theorem fnd_below (key : ByteArray) : ∀ (ks : List ByteArray) (j : Nat) (k : ByteArray), j < fnd key ks → ks[j]? = some k → sl k key = true
  | [], j, k, h, _ => by simp [fnd] at h
  | x :: r, j, k, h, e => by
    unfold fnd at h
    split at h
    · cases j with
      | zero => simp at e; subst e; assumption
      | succ j => exact fnd_below key r j k (by omega) (by simpa using e)
    · omega
theorem fnd_at (key : ByteArray) : ∀ (ks : List ByteArray) (k : ByteArray), ks[fnd key ks]? = some k → sl k key = false
  | [], k, e => by simp at e
  | x :: r, k, e => by
    unfold fnd at e
    split at e
    · exact fnd_at key r k (by simpa using e)
    · rename_i h
      simp at e
      subst e
      simpa using h
theorem fnd_eq (key : ByteArray) {ks : List ByteArray} {i : Nat} (h : ∀ j, j < i → ∀ k, ks[j]? = some k → sl k key = true) (hi : i ≤ ks.length) (hk : ∀ k, ks[i]? = some k → sl k key = false) : fnd key ks = i := by
  have h1 := fnd_le key ks
  rcases Nat.lt_trichotomy (fnd key ks) i with q | q | q
  · have hl : fnd key ks < ks.length := by omega
    have a := fnd_at key ks _ (List.getElem?_eq_getElem hl)
    have b := h _ q _ (List.getElem?_eq_getElem hl)
    rw [a] at b; cases b
  · exact q
  · have hl : i < ks.length := by omega
    have a := fnd_below key ks i _ q (List.getElem?_eq_getElem hl)
    have b := hk _ (List.getElem?_eq_getElem hl)
    rw [a] at b; cases b

/-- Is it there? -/
def isk (key : ByteArray) (ks : List ByteArray) : Bool := decide (ks[fnd key ks]? = some key)

/-- What a key has. -/
structure Vl where
  d : ByteArray
  p : Int
  l : Int

def Vl.cells (v : Vl) : List Value := [.string v.d, .int .i64 v.p, .int .i64 v.l]
def kcl (ks : List ByteArray) : List Value := ks.map .string
def icl (is : List Int) : List Value := is.map (.int .i64)
def vcl (vs : List Vl) : List Value := vs.flatMap Vl.cells

theorem kcl_one (ks : List ByteArray) : ∀ u ∈ kcl ks, u.oneCell' = true := by
  intro u hu; unfold kcl at hu; obtain ⟨x, _, rfl⟩ := List.mem_map.1 hu; rfl
theorem icl_one (is : List Int) : ∀ u ∈ icl is, u.oneCell' = true := by
  intro u hu; unfold icl at hu; obtain ⟨x, _, rfl⟩ := List.mem_map.1 hu; rfl
theorem Vl.one (v : Vl) : ∀ u ∈ v.cells, u.oneCell' = true := by
  intro u hu; simp [Vl.cells] at hu; rcases hu with rfl | rfl | rfl <;> rfl
theorem vcl_one (vs : List Vl) : ∀ u ∈ vcl vs, u.oneCell' = true := by
  intro u hu; unfold vcl at hu; obtain ⟨x, _, h⟩ := List.mem_flatMap.1 hu; exact x.one u h
theorem vcl_cons (v : Vl) (r : List Vl) : vcl (v :: r) = v.cells ++ vcl r := by simp [vcl]
theorem vcl_append (a b : List Vl) : vcl (a ++ b) = vcl a ++ vcl b := by simp [vcl]
theorem kcl_append (a b : List ByteArray) : kcl (a ++ b) = kcl a ++ kcl b := by simp [kcl]
theorem kcl_length (ks : List ByteArray) : (kcl ks).length = ks.length := by simp [kcl]
theorem icl_length (ks : List Int) : (icl ks).length = ks.length := by simp [icl]
theorem vcl_length : ∀ vs : List Vl, (vcl vs).length = vs.length * 3
  | [] => rfl
  | v :: r => by rw [vcl_cons, List.length_append, vcl_length r]; simp [Vl.cells]; omega
theorem vcl_take : ∀ (i : Nat) (vs : List Vl), (vcl vs).take (i * 3) = vcl (vs.take i)
  | 0, vs => by simp [vcl]
  | i + 1, [] => by simp [vcl]
  | i + 1, v :: r => by
    rw [List.take_succ_cons, vcl_cons, vcl_cons, ← vcl_take i r, Nat.add_mul, Nat.one_mul, Nat.add_comm (i * 3) 3]
    simp [Vl.cells]
    rw [show 3 + i * 3 = i * 3 + 1 + 1 + 1 by omega]
    simp
theorem vcl_drop : ∀ (i : Nat) (vs : List Vl), (vcl vs).drop (i * 3) = vcl (vs.drop i)
  | 0, vs => by simp
  | i + 1, [] => by simp [vcl]
  | i + 1, v :: r => by
    rw [List.drop_succ_cons, vcl_cons, ← vcl_drop i r, show (i + 1) * 3 = i * 3 + 1 + 1 + 1 by omega]
    simp [Vl.cells]
theorem vcl_at {vs : List Vl} {i : Nat} {v : Vl} (h : vs[i]? = some v) : (vcl vs)[i * 3]? = some (.string v.d) ∧ (vcl vs)[i * 3 + 1]? = some (.int .i64 v.p) ∧ (vcl vs)[i * 3 + 2]? = some (.int .i64 v.l) := by
  have hl := (List.getElem?_eq_some_iff.1 h).1
  have e : vcl vs = vcl (vs.take i) ++ (v.cells ++ vcl (vs.drop (i + 1))) := by
    have := List.getElem_cons_drop hl
    rw [(List.getElem?_eq_some_iff.1 h).2] at this
    rw [← vcl_cons, this, ← vcl_append, List.take_append_drop]
  have hn : (vcl (vs.take i)).length = i * 3 := by rw [vcl_length, List.length_take]; omega
  rw [e]
  refine ⟨?_, ?_, ?_⟩
  · rw [List.getElem?_append_right (by omega), hn]; simp [Vl.cells]
  · rw [List.getElem?_append_right (by omega), hn, show i * 3 + 1 - i * 3 = 1 by omega]; simp [Vl.cells]
  · rw [List.getElem?_append_right (by omega), hn, show i * 3 + 2 - i * 3 = 2 by omega]; simp [Vl.cells]
theorem kcl_at {ks : List ByteArray} {i : Nat} {k : ByteArray} (h : ks[i]? = some k) : (kcl ks)[i]? = some (.string k) := by simp [kcl, h]
theorem icl_at {ks : List Int} {i : Nat} {k : Int} (h : ks[i]? = some k) : (icl ks)[i]? = some (.int .i64 k) := by simp [icl, h]

/-- A list with one more. -/
def ins {α : Type} (l : List α) (i : Nat) (x : α) : List α := l.take i ++ x :: l.drop i
/-- A list without one. -/
def del {α : Type} (l : List α) (i : Nat) : List α := l.take i ++ l.drop (i + 1)

theorem ins_length {α : Type} (l : List α) (i : Nat) (x : α) (h : i ≤ l.length) : (ins l i x).length = l.length + 1 := by simp [ins]; omega
theorem del_length {α : Type} (l : List α) (i : Nat) (h : i < l.length) : (del l i).length = l.length - 1 := by simp [del]; omega

def setK (ks : List ByteArray) (key : ByteArray) : List ByteArray := if isk key ks = true then ks else ins ks (fnd key ks) key
def setV (ks : List ByteArray) (vs : List Vl) (key : ByteArray) (v : Vl) : List Vl := if isk key ks = true then vs.set (fnd key ks) v else ins vs (fnd key ks) v

theorem isk_at {key : ByteArray} {ks : List ByteArray} (h : isk key ks = true) : ks[fnd key ks]? = some key := by simpa [isk] using h

theorem isk_lt {key : ByteArray} {ks : List ByteArray} (h : isk key ks = true) : fnd key ks < ks.length := (List.getElem?_eq_some_iff.1 (isk_at h)).1
theorem ins_up {ks : List ByteArray} (hu : Up ks) (key : ByteArray) (h : isk key ks = false) : Up (ins ks (fnd key ks) key) := by
  unfold Up ins at *
  have hs := hu
  rw [← List.take_append_drop (fnd key ks) ks, List.pairwise_append] at hs
  obtain ⟨h1, h2, h3⟩ := hs
  have lo : ∀ a ∈ ks.take (fnd key ks), sl a key = true := by
    intro a ha
    obtain ⟨j, hj, rfl⟩ := List.mem_iff_getElem.1 ha
    have hj' : j < fnd key ks := by have := hj; simp at this; omega
    exact fnd_below key ks j _ hj' (by rw [List.getElem_take]; exact List.getElem?_eq_getElem _)
  have hi : ∀ a ∈ ks.drop (fnd key ks), sl key a = true := by
    intro a ha
    cases hd : ks.drop (fnd key ks) with
    | nil => rw [hd] at ha; cases ha
    | cons b r =>
      have hb : ks[fnd key ks]? = some b := by
        have : (ks.drop (fnd key ks))[0]? = some b := by rw [hd]; rfl
        simpa using this
      have hb1 := fnd_at key ks b hb
      have hbk : b ≠ key := fun e => by rw [e] at hb; simp [isk, hb] at h
      have hkb := sl_total hb1 hbk
      rw [hd] at ha h2
      rcases List.mem_cons.1 ha with rfl | ha
      · exact hkb
      · exact sl_trans hkb ((List.pairwise_cons.1 h2).1 a ha)
  rw [List.pairwise_append]
  refine ⟨h1, List.pairwise_cons.2 ⟨hi, h2⟩, fun a ha b hb => ?_⟩
  rcases List.mem_cons.1 hb with rfl | hb
  · exact lo a ha
  · exact h3 a ha b hb
theorem setK_up {ks : List ByteArray} (hu : Up ks) (key : ByteArray) : Up (setK ks key) := by
  unfold setK
  split
  · exact hu
  · rename_i h
    exact ins_up hu key (by simpa using h)
theorem setK_length (ks : List ByteArray) (key : ByteArray) : (setK ks key).length = if isk key ks = true then ks.length else ks.length + 1 := by
  unfold setK
  split
  · rfl
  · exact ins_length _ _ _ (fnd_le _ _)
theorem setV_length (ks : List ByteArray) (vs : List Vl) (key : ByteArray) (v : Vl) (h : vs.length = ks.length) : (setV ks vs key v).length = (setK ks key).length := by
  rw [setK_length]
  unfold setV
  split
  · simp [h]
  · rw [ins_length _ _ _ (by rw [h]; exact fnd_le _ _), h]
end Go.Proofs.Ytgcfollelefmcaa
