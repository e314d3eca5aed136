/- What the law on Set and Unset asks, in plain words: a key that was set is there, with what it was given; one that was taken away is not; the others have what they had. No condition but that keys rise. -/
import Derived.Test.YtgcfollelefmcaaNP
namespace Go.Proofs.Ytgcfollelefmcaa
open Go.ChangeShapes Go.WideShapes Go.ChangeAt Go.RowKit

theorem up_at {ks : List ByteArray} (hu : Up ks) {i j : Nat} {a b : ByteArray} (h : i < j) (ha : ks[i]? = some a) (hb : ks[j]? = some b) : sl a b = true := by
  obtain ⟨h1, rfl⟩ := List.getElem?_eq_some_iff.1 ha
  obtain ⟨h2, rfl⟩ := List.getElem?_eq_some_iff.1 hb
  exact List.pairwise_iff_getElem.1 hu i j h1 h2 h
theorem fnd_self {ks : List ByteArray} (hu : Up ks) {j : Nat} {k : ByteArray} (h : ks[j]? = some k) : fnd k ks = j ∧ isk k ks = true := by
  have e : fnd k ks = j := by
    refine fnd_eq k (fun i hi a ha => up_at hu hi ha h) (Nat.le_of_lt (List.getElem?_eq_some_iff.1 h).1) (fun a ha => ?_)
    rw [h] at ha; cases ha; exact sl_irrefl k
  exact ⟨e, by unfold isk; rw [e, h]; simp⟩
theorem ins_at {α : Type} (l : List α) (i : Nat) (x : α) (h : i ≤ l.length) : (ins l i x)[i]? = some x := by
  unfold ins
  rw [List.getElem?_append_right (by simp; omega)]
  simp [Nat.min_eq_left h]
theorem ins_lt {α : Type} (l : List α) (i j : Nat) (x : α) (h : i ≤ l.length) (hj : j < i) : (ins l i x)[j]? = l[j]? := by
  unfold ins
  rw [List.getElem?_append_left (by simp; omega), List.getElem?_take, if_pos hj]
theorem del_ins {α : Type} (l : List α) (i : Nat) (x : α) (h : i ≤ l.length) : del (ins l i x) i = l := by
  unfold del ins
  have e : (l.take i).length = i := by simp [h]
  rw [List.take_left' e, show i + 1 = (l.take i ++ [x]).length by simp [e], show l.take i ++ x :: l.drop i = (l.take i ++ [x]) ++ l.drop i by simp, List.drop_left, List.take_append_drop]
theorem del_lt {α : Type} (l : List α) (i j : Nat) (hi : i < l.length) (h : j < i) : (del l i)[j]? = l[j]? := by
  unfold del
  rw [List.getElem?_append_left (by simp; omega), List.getElem?_take, if_pos h]
theorem del_ge {α : Type} (l : List α) (i j : Nat) (hi : i < l.length) (h : i ≤ j) : (del l i)[j]? = l[j + 1]? := by
  unfold del
  rw [List.getElem?_append_right (by simp; omega), List.getElem?_drop]
  congr 1
  simp
  omega
theorem del_set {α : Type} (l : List α) (i : Nat) (x : α) : del (l.set i x) i = del l i := by
  unfold del
  rw [List.take_set_of_le (Nat.le_refl _), List.drop_set_of_lt (Nat.lt_succ_self _)]

/-- The place and the key behind Set. -/
theorem set_fnd {ks : List ByteArray} (hu : Up ks) (key : ByteArray) : fnd key (setK ks key) = fnd key ks ∧ isk key (setK ks key) = true := by
  have hle := fnd_le key ks
  have h : (setK ks key)[fnd key ks]? = some key := by
    unfold setK
    split
    · exact isk_at ‹_›
    · exact ins_at _ _ _ hle
  exact fnd_self (setK_up hu key) h
theorem set_val {ks : List ByteArray} {vs : List Vl} (hl : vs.length = ks.length) (key : ByteArray) (v : Vl) : (setV ks vs key v)[fnd key ks]? = some v := by
  have hle := fnd_le key ks
  unfold setV
  split
  · rename_i h
    have := isk_lt h
    simp [hl, this]
  · exact ins_at _ _ _ (by omega)

/-- What is left when the key is taken away again. -/
structure Rest (ks : List ByteArray) (vs : List Vl) (key : ByteArray) (k2 : List ByteArray) (v2 : List Vl) : Prop where
  len : v2.length = k2.length
  each : ∀ (j : Nat) (k : ByteArray), k2[j]? = some k → k ≠ key ∧ isk k ks = true ∧ ∃ v, v2[j]? = some v ∧ vs[fnd k ks]? = some v

theorem rest_of {ks : List ByteArray} {vs : List Vl} (h : Leafy ks vs) (key : ByteArray) (v : Vl) : Rest ks vs key (delK (setK ks key) key) (delV (setK ks key) (setV ks vs key v) key) := by
  have hle := fnd_le key ks
  have hl := h.len
  obtain ⟨e1, e2⟩ := set_fnd h.up key
  unfold delK delV
  rw [if_pos e2, if_pos e2, e1]
  by_cases hs : isk key ks = true
  · have ek : setK ks key = ks := by unfold setK; rw [if_pos hs]
    have ev : setV ks vs key v = vs.set (fnd key ks) v := by unfold setV; rw [if_pos hs]
    have hlt := isk_lt hs
    rw [ek, ev, del_set]
    refine ⟨by rw [del_length _ _ (by omega), del_length _ _ hlt, hl], fun j k hj => ?_⟩
    obtain ⟨q, hq, hne, hv⟩ : ∃ q, ks[q]? = some k ∧ q ≠ fnd key ks ∧ (del vs (fnd key ks))[j]? = vs[q]? := by
      by_cases hjl : j < fnd key ks
      · exact ⟨j, by rw [← del_lt ks _ j hlt hjl]; exact hj, by omega, del_lt vs _ j (by omega) hjl⟩
      · exact ⟨j + 1, by rw [← del_ge ks _ j hlt (by omega)]; exact hj, by omega, del_ge vs _ j (by omega) (by omega)⟩
    obtain ⟨f1, f2⟩ := fnd_self h.up hq
    refine ⟨fun e => hne (by rw [← f1, e]), f2, vs[q]'(by have := (List.getElem?_eq_some_iff.1 hq).1; omega), ?_, ?_⟩
    · rw [hv]; exact List.getElem?_eq_getElem _
    · rw [f1]; exact List.getElem?_eq_getElem _
  · have ek : setK ks key = ins ks (fnd key ks) key := by unfold setK; rw [if_neg hs]
    have ev : setV ks vs key v = ins vs (fnd key ks) v := by unfold setV; rw [if_neg hs]
    rw [ek, ev, del_ins _ _ _ hle, del_ins _ _ _ (by omega)]
    refine ⟨hl, fun j k hj => ?_⟩
    obtain ⟨f1, f2⟩ := fnd_self h.up hj
    refine ⟨fun e => hs (by rw [← e]; exact f2), f2, vs[j]'(by have := (List.getElem?_eq_some_iff.1 hj).1; omega), List.getElem?_eq_getElem _, ?_⟩
    rw [f1]; exact List.getElem?_eq_getElem _
theorem Rest.gone {ks : List ByteArray} {vs : List Vl} {key : ByteArray} {k2 : List ByteArray} {v2 : List Vl} (r : Rest ks vs key k2 v2) : isk key k2 = false := by
  cases h : isk key k2 with
  | false => rfl
  | true => exact absurd rfl (r.each _ _ (isk_at h)).1
theorem delK_length (ks : List ByteArray) (key : ByteArray) (h : isk key ks = true) : (delK ks key).length = ks.length - 1 := by
  unfold delK; rw [if_pos h, del_length _ _ (isk_lt h)]
end Go.Proofs.Ytgcfollelefmcaa
