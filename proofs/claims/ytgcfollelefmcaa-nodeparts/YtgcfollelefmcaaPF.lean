/- Nodes' parts in plain words: where a node is parted, that the parts are all of it, and fit. No condition but that the node may be. -/
import Derived.Test.YtgcfollelefmcaaPD
namespace Go.Proofs.Ytgcfollelefmcaa
open Go.ChangeShapes Go.WideShapes Go.ChangeAt Go.RowKit

theorem num_pos (n : Nat) : 1 ≤ (numL n).length := by
  have := numL_ne n
  cases h : numL n with
  | nil => exact absurd h this
  | cons a b => simp
theorem sz_pos (x : Nd) (i : Nat) : 1 ≤ x.sz i := by
  unfold Nd.sz Nd.item keyN
  have := num_pos (x.ks[i]?.getD ⟨#[]⟩).size
  rw [List.length_append, List.length_append]
  omega
theorem sz_inner {x : Nd} (g : Good x) (h : x.leaf = false) {i : Nat} (hi : i < x.ks.length) : x.sz i ≤ 68 := by
  unfold Nd.sz Nd.item
  rw [if_neg (by rw [h]; decide), List.length_append]
  obtain ⟨k, hk⟩ : ∃ k, x.ks[i]? = some k := ⟨_, List.getElem?_eq_getElem hi⟩
  obtain ⟨v, hv⟩ : ∃ v, x.is[i + 1]? = some v := ⟨_, List.getElem?_eq_getElem (by have := (g.li h).1; omega)⟩
  obtain ⟨q, rfl, hq⟩ := g.ik v (List.mem_of_getElem? hv)
  rw [hk, hv]
  have a := keyN_length k (g.small k (List.mem_of_getElem? hk))
  have b := num_small q (by omega)
  simp only [Option.getD_some, Int.toNat_natCast]
  omega

theorem gr_one {x : Nd} (g : Good x) (h : 237 < x.put.length) : x.gr 1 < x.gr 0 := by
  have hn := great_few g h
  rw [put_len] at h
  have hh := head_length g
  have t1 : x.tot 1 = x.sz 0 := by rw [Nd.tot_succ, Nd.tot_zero, Nat.zero_add]
  have t2 : x.tot 2 = x.sz 0 + x.sz 1 := by rw [Nd.tot_succ, t1]
  have m2 := x.tot_mono (show 2 ≤ x.ks.length by omega)
  have p0 := sz_pos x 0
  have p1 := sz_pos x 1
  cases hl : x.leaf with
  | true =>
    rw [Nd.gr_leaf hl, Nd.gr_leaf hl, t1, Nd.tot_zero]
    omega
  | false =>
    have q0 := sz_inner g hl (show 0 < x.ks.length by omega)
    rw [Nd.gr_inner hl, Nd.gr_inner hl, t1, t2, Nd.tot_zero]
    omega

/-- The program's place is the document's. -/
theorem Mid.up {x : Nd} {m : Nat} (g : Good x) (h : 237 < x.put.length) (hm : Mid x 0 m) : Mid x 1 m := by
  have hn := great_few g h
  have h1 := gr_one g h
  have h0 : m ≠ 0 := by
    rintro rfl
    have := hm.after 1 (by omega) (by omega)
    omega
  exact ⟨by omega, hm.lt, fun j _ h => hm.before j (Nat.zero_le _) h, hm.after⟩

theorem Mid.all {x : Nd} {m : Nat} (hm : Mid x 0 m) {j : Nat} (hj : j < x.ks.length) : x.gr m ≤ x.gr j := by
  by_cases h : j < m
  · exact Nat.le_of_lt (hm.before j (Nat.zero_le _) h)
  · exact hm.after j (by omega) hj

theorem fst_leaf {x : Nd} (h : x.leaf = true) (m : Nat) : x.fst m = ⟨true, x.ks.take m, x.vs.take m, []⟩ := by unfold Nd.fst; rw [if_pos h]
theorem snd_leaf {x : Nd} (h : x.leaf = true) (m : Nat) : x.snd m = ⟨true, x.ks.drop m, x.vs.drop m, []⟩ := by unfold Nd.snd; rw [if_pos h]
theorem fst_inner {x : Nd} (h : x.leaf = false) (m : Nat) : x.fst m = ⟨false, x.ks.take m, [], x.is.take (m + 1)⟩ := by unfold Nd.fst; rw [if_neg (by rw [h]; decide)]
theorem snd_inner {x : Nd} (h : x.leaf = false) (m : Nat) : x.snd m = ⟨false, x.ks.drop (m + 1), [], x.is.drop (m + 1)⟩ := by unfold Nd.snd; rw [if_neg (by rw [h]; decide)]

theorem back_leaf {x : Nd} (g : Good x) (h : x.leaf = true) (m : Nat) : (⟨true, (x.fst m).ks ++ (x.snd m).ks, (x.fst m).vs ++ (x.snd m).vs, []⟩ : Nd) = x := by
  rw [fst_leaf h, snd_leaf h]
  simp only [List.take_append_drop]
  obtain ⟨l, ks, vs, is⟩ := x
  simp only at h
  subst h
  have := (g.lv rfl).2
  simp only at this
  subst this
  rfl
theorem back_inner {x : Nd} (g : Good x) (h : x.leaf = false) {m : Nat} {key : ByteArray} (hk : x.ks[m]? = some key) : (⟨false, (x.fst m).ks ++ ([key] ++ (x.snd m).ks), [], (x.fst m).is ++ (x.snd m).is⟩ : Nd) = x := by
  rw [fst_inner h, snd_inner h]
  simp only [List.take_append_drop]
  have e : x.ks.take m ++ ([key] ++ x.ks.drop (m + 1)) = x.ks := by
    have e1 : x.ks.take (m + 1) = x.ks.take m ++ [key] := by rw [List.take_add_one, hk]; rfl
    rw [← List.append_assoc, ← e1, List.take_append_drop]
  rw [e]
  obtain ⟨l, ks, vs, is⟩ := x
  simp only at h
  subst h
  have := (g.li rfl).2
  simp only at this
  subst this
  rfl

theorem fst_good {x : Nd} (g : Good x) {m : Nat} (hm : m < x.ks.length) : Good (x.fst m) := by
  have hf := g.few
  cases h : x.leaf with
  | true =>
    rw [fst_leaf h]
    have hv := (g.lv h).1
    refine ⟨?_, fun k hk => g.small k (List.mem_of_mem_take hk), fun _ => ⟨?_, rfl⟩, (fun e => by cases e), fun v hv => g.ok v (List.mem_of_mem_take hv), (fun i hi => by cases hi)⟩
    · show (x.ks.take m).length ≤ 100; rw [List.length_take]; omega
    · show (x.vs.take m).length = (x.ks.take m).length; rw [List.length_take, List.length_take, hv]
  | false =>
    rw [fst_inner h]
    have hv := (g.li h).1
    refine ⟨?_, fun k hk => g.small k (List.mem_of_mem_take hk), (fun e => by cases e), fun _ => ⟨?_, rfl⟩, (fun i hi => by cases hi), fun v hv => g.ik v (List.mem_of_mem_take hv)⟩
    · show (x.ks.take m).length ≤ 100; rw [List.length_take]; omega
    · show (x.is.take (m + 1)).length = (x.ks.take m).length + 1; rw [List.length_take, List.length_take, hv]; omega
theorem snd_good {x : Nd} (g : Good x) {m : Nat} (hm : m < x.ks.length) : Good (x.snd m) := by
  have hf := g.few
  cases h : x.leaf with
  | true =>
    rw [snd_leaf h]
    have hv := (g.lv h).1
    refine ⟨?_, fun k hk => g.small k (List.mem_of_mem_drop hk), fun _ => ⟨?_, rfl⟩, (fun e => by cases e), fun v hv => g.ok v (List.mem_of_mem_drop hv), (fun i hi => by cases hi)⟩
    · show (x.ks.drop m).length ≤ 100; rw [List.length_drop]; omega
    · show (x.vs.drop m).length = (x.ks.drop m).length; rw [List.length_drop, List.length_drop, hv]
  | false =>
    rw [snd_inner h]
    have hv := (g.li h).1
    refine ⟨?_, fun k hk => g.small k (List.mem_of_mem_drop hk), (fun e => by cases e), fun _ => ⟨?_, rfl⟩, (fun i hi => by cases hi), fun v hv => g.ik v (List.mem_of_mem_drop hv)⟩
    · show (x.ks.drop (m + 1)).length ≤ 100; rw [List.length_drop]; omega
    · show (x.is.drop (m + 1)).length = (x.ks.drop (m + 1)).length + 1; rw [List.length_drop, List.length_drop, hv]; omega

theorem fst_tot {x : Nd} (m : Nat) : ∀ i, i ≤ m → (x.fst m).tot i = x.tot i := by
  have item : ∀ i, i < m → (x.fst m).sz i = x.sz i := by
    intro i hi
    unfold Nd.sz Nd.item
    cases h : x.leaf with
    | true =>
      rw [fst_leaf h]
      simp only [List.getElem?_take, if_pos hi, if_true]
    | false =>
      rw [fst_inner h]
      simp only [List.getElem?_take, if_pos hi, if_pos (show i + 1 < m + 1 by omega), Bool.false_eq_true, if_false]
  intro i
  induction i with
  | zero => intro _; rfl
  | succ i ih =>
    intro hi
    rw [Nd.tot_succ, Nd.tot_succ, ih (by omega), item i (by omega)]
theorem snd_tot_leaf {x : Nd} (h : x.leaf = true) (m : Nat) : ∀ i, (x.snd m).tot i + x.tot m = x.tot (m + i) := by
  have item : ∀ i, (x.snd m).sz i = x.sz (m + i) := by
    intro i
    unfold Nd.sz Nd.item
    rw [snd_leaf h]
    simp only [List.getElem?_drop, h, if_true]
  intro i
  induction i with
  | zero => rw [Nd.tot_zero, Nat.zero_add]; rfl
  | succ i ih => rw [Nd.tot_succ, item, ← Nat.add_assoc, Nd.tot_succ, ← ih]; omega
theorem snd_tot_inner {x : Nd} (h : x.leaf = false) (m : Nat) : ∀ i, (x.snd m).tot i + x.tot (m + 1) = x.tot (m + 1 + i) := by
  have item : ∀ i, (x.snd m).sz i = x.sz (m + 1 + i) := by
    intro i
    unfold Nd.sz Nd.item
    rw [snd_inner h]
    simp only [List.getElem?_drop, h, Nat.add_assoc, Bool.false_eq_true, if_false]
  intro i
  induction i with
  | zero => rw [Nd.tot_zero, Nat.zero_add, Nat.add_zero]
  | succ i ih =>
    have e := Nd.tot_succ x (m + 1 + i)
    rw [Nd.tot_succ (x.snd m), item, ← Nat.add_assoc, e, ← ih]; omega

theorem head_four {x : Nd} (g : Good x) : x.head.length ≤ 4 := by
  unfold Nd.head
  have h1 : (numL x.ks.length).length = 1 := by rw [numL_last (by have := g.few; omega)]; rfl
  rw [List.length_append, h1]
  cases h : x.leaf with
  | true => simp
  | false =>
    obtain ⟨v, hv⟩ : ∃ v, x.is[0]? = some v := ⟨_, List.getElem?_eq_getElem (by have := (g.li h).1; omega)⟩
    obtain ⟨q, rfl, hq⟩ := g.ik v (List.mem_of_getElem? hv)
    have b := num_small q (by omega)
    rw [hv, if_neg (by decide)]
    simp only [Option.getD_some, Int.toNat_natCast]
    omega

/-- Where it is parted, neither part is too great. -/
theorem parts_fit {x : Nd} (g : Good x) {m : Nat} (hm : Mid x 0 m) (hT : x.tot x.ks.length ≤ 351) : (x.fst m).put.length ≤ 237 ∧ (x.snd m).put.length ≤ 237 := by
  have hgr : x.gr m ≤ 233 := by
    by_cases hs : x.tot x.ks.length ≤ 233
    · have := x.gr_le (i := m) (Nat.le_of_lt hm.lt)
      omega
    · have fnd : ∀ k, x.tot x.ks.length - 233 ≤ x.tot k → ∃ j, 1 ≤ j ∧ j ≤ k ∧ x.tot x.ks.length - 233 ≤ x.tot j ∧ x.tot (j - 1) < x.tot x.ks.length - 233 := by
        intro k
        induction k with
        | zero => intro h; rw [Nd.tot_zero] at h; omega
        | succ k ih =>
          intro h
          by_cases h2 : x.tot x.ks.length - 233 ≤ x.tot k
          · obtain ⟨j, a, b, c⟩ := ih h2
            exact ⟨j, a, by omega, c⟩
          · exact ⟨k + 1, by omega, Nat.le_refl _, h, (by show x.tot k < x.tot x.ks.length - 233; omega)⟩
      obtain ⟨j, h1, h2, h3, h4⟩ := fnd x.ks.length (by omega)
      obtain ⟨i, rfl⟩ : ∃ i, j = i + 1 := ⟨j - 1, by omega⟩
      rw [Nat.add_sub_cancel] at h4
      have h5 : x.sz i ≤ 115 := item_length g i (by omega)
      have h6 := x.tot_succ i
      have h7 : i + 1 ≠ x.ks.length := by intro e; rw [e] at h6; omega
      have h8 := hm.all (show i + 1 < x.ks.length by omega)
      have h9 := x.tot_mono (show i + 1 ≤ i + 1 + 1 by omega)
      cases hl : x.leaf with
      | true => rw [Nd.gr_leaf hl (i + 1)] at h8; omega
      | false => rw [Nd.gr_inner hl (i + 1)] at h8; omega
  have ga := fst_good g hm.lt
  have gb := snd_good g hm.lt
  have ha := head_four ga
  have hb := head_four gb
  rw [put_len, put_len]
  cases hl : x.leaf with
  | true =>
    have la : (x.fst m).ks.length = m := by rw [fst_leaf hl]; show (x.ks.take m).length = m; rw [List.length_take]; have := hm.lt; omega
    have lb : (x.snd m).ks.length = x.ks.length - m := by rw [snd_leaf hl]; exact List.length_drop
    have t1 := fst_tot (x := x) m m (Nat.le_refl _)
    have t2 := snd_tot_leaf hl m (x.ks.length - m)
    rw [show m + (x.ks.length - m) = x.ks.length by have := hm.lt; omega] at t2
    rw [Nd.gr_leaf hl] at hgr
    rw [la, lb]
    omega
  | false =>
    have la : (x.fst m).ks.length = m := by rw [fst_inner hl]; show (x.ks.take m).length = m; rw [List.length_take]; have := hm.lt; omega
    have lb : (x.snd m).ks.length = x.ks.length - (m + 1) := by rw [snd_inner hl]; exact List.length_drop
    have t1 := fst_tot (x := x) m m (Nat.le_refl _)
    have t2 := snd_tot_inner hl m (x.ks.length - (m + 1))
    rw [show m + 1 + (x.ks.length - (m + 1)) = x.ks.length by have := hm.lt; omega] at t2
    rw [Nd.gr_inner hl] at hgr
    rw [la, lb]
    omega
end Go.Proofs.Ytgcfollelefmcaa
