/- How a node grows by one key, in plain words. No condition. -/
import Derived.Test.YtgcfollelefmcaaPA
namespace Go.Proofs.Ytgcfollelefmcaa
open Go.ChangeShapes Go.WideShapes Go.ChangeAt Go.RowKit

def ksum (ks : List ByteArray) : Nat := (ks.map fun k => (keyN k).length).sum
def vsum (vs : List Vl) : Nat := (vs.map fun v => (valN v).length).sum
def isum (is : List Int) : Nat := (is.map fun i => (numL i.toNat).length).sum

theorem ksum_app (a b : List ByteArray) : ksum (a ++ b) = ksum a + ksum b := by unfold ksum; rw [List.map_append, List.sum_append_nat]
theorem vsum_app (a b : List Vl) : vsum (a ++ b) = vsum a + vsum b := by unfold vsum; rw [List.map_append, List.sum_append_nat]
theorem isum_app (a b : List Int) : isum (a ++ b) = isum a + isum b := by unfold isum; rw [List.map_append, List.sum_append_nat]
theorem ksum_one (a : ByteArray) : ksum [a] = (keyN a).length := by simp [ksum]
theorem vsum_one (a : Vl) : vsum [a] = (valN a).length := by simp [vsum]
theorem isum_one (a : Int) : isum [a] = (numL a.toNat).length := by simp [isum]

theorem tot_leaf {x : Nd} (hl : x.leaf = true) (hv : x.vs.length = x.ks.length) : ∀ i, i ≤ x.ks.length → x.tot i = ksum (x.ks.take i) + vsum (x.vs.take i) := by
  intro i
  induction i with
  | zero => intro _; rfl
  | succ i ih =>
    intro hi
    have h1 : x.ks[i]? = some x.ks[i] := List.getElem?_eq_getElem (by omega)
    have h2 : x.vs[i]? = some (x.vs[i]'(by omega)) := List.getElem?_eq_getElem (by omega)
    rw [Nd.tot_succ, ih (by omega), List.take_add_one, List.take_add_one, h1, h2, Option.toList_some, Option.toList_some, ksum_app, vsum_app, ksum_one, vsum_one]
    unfold Nd.sz Nd.item
    rw [if_pos hl, h1, h2, List.length_append, Option.getD_some, Option.getD_some]
    omega
theorem tot_inner {x : Nd} (hl : x.leaf = false) (hv : x.is.length = x.ks.length + 1) : ∀ i, i ≤ x.ks.length → x.tot i = ksum (x.ks.take i) + isum ((x.is.drop 1).take i) := by
  intro i
  induction i with
  | zero => intro _; rfl
  | succ i ih =>
    intro hi
    have h1 : x.ks[i]? = some x.ks[i] := List.getElem?_eq_getElem (by omega)
    have h2 : x.is[i + 1]? = some (x.is[i + 1]'(by omega)) := List.getElem?_eq_getElem (by omega)
    have h3 : (x.is.drop 1)[i]? = some (x.is[i + 1]'(by omega)) := by rw [List.getElem?_drop, Nat.add_comm 1 i, h2]
    rw [Nd.tot_succ, ih (by omega), List.take_add_one, List.take_add_one, h1, h3, Option.toList_some, Option.toList_some, ksum_app, isum_app, ksum_one, isum_one]
    unfold Nd.sz Nd.item
    rw [if_neg (by rw [hl]; decide), h1, h2, List.length_append, Option.getD_some, Option.getD_some]
    omega

theorem ksum_ins (ks : List ByteArray) (i : Nat) (k : ByteArray) : ksum (ins ks i k) = ksum ks + (keyN k).length := by
  have e : ksum ks = ksum (ks.take i) + ksum (ks.drop i) := by
    have := congrArg ksum (List.take_append_drop i ks).symm
    rw [this, ksum_app]
  rw [e]
  unfold ins
  rw [ksum_app, ← List.singleton_append, ksum_app, ksum_one]
  omega
theorem vsum_ins (ks : List Vl) (i : Nat) (k : Vl) : vsum (ins ks i k) = vsum ks + (valN k).length := by
  have e : vsum ks = vsum (ks.take i) + vsum (ks.drop i) := by
    have := congrArg vsum (List.take_append_drop i ks).symm
    rw [this, vsum_app]
  rw [e]
  unfold ins
  rw [vsum_app, ← List.singleton_append, vsum_app, vsum_one]
  omega
theorem vsum_set : ∀ (ks : List Vl) (i : Nat) (k : Vl), vsum (ks.set i k) ≤ vsum ks + (valN k).length
  | [], i, k => by simp [vsum]
  | a :: r, 0, k => by simp [vsum]; omega
  | a :: r, i + 1, k => by
    have := vsum_set r i k
    simp [vsum] at this ⊢
    omega
theorem ksum_set (ks : List ByteArray) (k : ByteArray) (h : k.size ≤ 64) : ksum (setK ks k) ≤ ksum ks + 65 := by
  unfold setK
  split
  · omega
  · rw [ksum_ins]
    have := keyN_length k h
    omega
theorem vsum_setV (ks : List ByteArray) (vs : List Vl) (k : ByteArray) (v : Vl) (h : Okv v) : vsum (setV ks vs k v) ≤ vsum vs + 50 := by
  have := valN_length v h
  unfold setV
  split
  · have := vsum_set vs (fnd k ks) v
    omega
  · rw [vsum_ins]
    omega

/-- All bytes of a node's keys. -/
theorem either_leaf_tot (L : List Ki) : (eitherP L true).tot (eitherP L true).ks.length = ksum (leafP (L.take 40)).1 + vsum (leafP (L.take 40)).2 := by
  have y := leafP_leafy (L.take 40)
  have e : eitherP L true = ⟨true, (leafP (L.take 40)).1, (leafP (L.take 40)).2, []⟩ := rfl
  rw [tot_leaf (x := eitherP L true) rfl (by rw [e]; exact y.len) _ (Nat.le_refl _), e]
  show ksum ((leafP (L.take 40)).1.take (leafP (L.take 40)).1.length) + vsum ((leafP (L.take 40)).2.take (leafP (L.take 40)).1.length) = _
  rw [List.take_length, ← y.len, List.take_length]
theorem either_inner_tot (L : List Ki) : (eitherP L false).tot (eitherP L false).ks.length = ksum (leafP (L.take 40)).1 + isum ((L.take (leafP (L.take 40)).1.length).map kpg) := by
  have g := (eitherP_good L false).li rfl
  have e : eitherP L false = ⟨false, (leafP (L.take 40)).1, [], kidsP L (leafP (L.take 40)).1.length⟩ := rfl
  rw [tot_inner (x := eitherP L false) rfl g.1 _ (Nat.le_refl _), e]
  show ksum ((leafP (L.take 40)).1.take (leafP (L.take 40)).1.length) + isum (((L.take (leafP (L.take 40)).1.length).map kpg).take (leafP (L.take 40)).1.length) = _
  rw [List.take_length, ← List.map_take, List.take_take, Nat.min_self]

theorem isum_more (is : List Int) (i : Int) : isum (is ++ [i]) = isum is + (numL i.toNat).length := by
  unfold isum
  simp

/-- One key more: so many bytes more at most. -/
theorem either_grows (L : List Ki) (l : Bool) (k : Nat) (hk : k < L.length) : (eitherP (L.take (k + 1)) l).tot (eitherP (L.take (k + 1)) l).ks.length ≤ (eitherP (L.take k) l).tot (eitherP (L.take k) l).ks.length + 115 := by
  have hx : L[k]? = some L[k] := List.getElem?_eq_getElem hk
  by_cases h40 : 40 ≤ k
  · have e1 : (L.take (k + 1)).take 40 = L.take 40 := by rw [List.take_take, Nat.min_eq_left (by omega)]
    have e2 : (L.take k).take 40 = L.take 40 := by rw [List.take_take, Nat.min_eq_left (by omega)]
    cases l with
    | true => rw [either_leaf_tot, either_leaf_tot, e1, e2]; omega
    | false =>
      have hm := leafP_length (L.take 40)
      rw [List.length_take] at hm
      rw [either_inner_tot, either_inner_tot, e1, e2, List.take_take, List.take_take, Nat.min_eq_left (by omega), Nat.min_eq_left (by omega)]
      omega
  · have e1 : (L.take (k + 1)).take 40 = L.take (k + 1) := by rw [List.take_take, Nat.min_eq_right (by omega)]
    have e2 : (L.take k).take 40 = L.take k := by rw [List.take_take, Nat.min_eq_right (by omega)]
    have e3 := leafP_more hx
    have hK := ksum_set (leafP (L.take k)).1 (kkey L[k]) (kkey_size _)
    have hV := vsum_setV (leafP (L.take k)).1 (leafP (L.take k)).2 (kkey L[k]) (kval L[k]) (kval_ok _)
    cases l with
    | true =>
      rw [either_leaf_tot, either_leaf_tot, e1, e2, e3]
      show ksum (setK (leafP (L.take k)).1 (kkey L[k])) + vsum (setV (leafP (L.take k)).1 (leafP (L.take k)).2 (kkey L[k]) (kval L[k])) ≤ _
      omega
    | false =>
      have hm := leafP_length (L.take k)
      rw [List.length_take] at hm
      rw [either_inner_tot, either_inner_tot, e1, e2, e3]
      show ksum (setK (leafP (L.take k)).1 (kkey L[k])) + isum (((L.take (k + 1)).take (setK (leafP (L.take k)).1 (kkey L[k])).length).map kpg) ≤ _
      have hI : isum (((L.take (k + 1)).take (setK (leafP (L.take k)).1 (kkey L[k])).length).map kpg) ≤ isum (((L.take k).take (leafP (L.take k)).1.length).map kpg) + 3 := by
        rw [setK_length]
        generalize (leafP (L.take k)).1.length = m at *
        split
        · rw [List.take_take, List.take_take, Nat.min_eq_left (by omega), Nat.min_eq_left (by omega)]
          omega
        · rw [List.take_take, List.take_take, Nat.min_eq_left (by omega), Nat.min_eq_left (by omega)]
          have h1 : L[m]? = some (L[m]'(by omega)) := List.getElem?_eq_getElem (by omega)
          rw [List.take_add_one, h1]
          simp only [Option.toList_some, List.map_append, List.map_cons, List.map_nil]
          rw [isum_more]
          obtain ⟨q, e, hq⟩ := kpg_ok (L[m]'(by omega))
          have := num_small q (by omega)
          rw [e, Int.toNat_natCast]
          omega
      omega
end Go.Proofs.Ytgcfollelefmcaa
