/- The reference's lists of keys and texts, in plain words and in memory. Conditions: those that each row names. -/
import Derived.Test.YtbpelhfbgjplbaaJX
namespace Go.Proofs.Ytbpelhfbgjplbaa.Ca
open Go.ChangeShapes Go.WideShapes Go.ChangeAt Go.RowKit
open N (Kept)
open Q (kept_cell kept_grown Kv Vn Km seq_iff got got_cons_eq got_cons_ne got_at got_no take_more)
variable {E : Nat → Prop} {X : List En}

abbrev Pr := ByteArray × ByteArray

theorem less_irrefl : ∀ a : List UInt8, Op.bytesLess a a = false
  | [] => rfl
  | x :: r => by simp [Op.bytesLess, less_irrefl r]
theorem less_trans : ∀ a b c : List UInt8, Op.bytesLess a b = true → Op.bytesLess b c = true → Op.bytesLess a c = true
  | _, [], _, h, _ => by simp [Op.bytesLess] at h
  | _, _ :: _, [], _, h => by simp [Op.bytesLess] at h
  | [], _ :: _, _ :: _, _, _ => rfl
  | x :: a, y :: b, z :: c, h, k => by
    simp only [Op.bytesLess, Bool.or_eq_true, decide_eq_true_eq, Bool.and_eq_true, beq_iff_eq] at h k ⊢
    rcases h with h | ⟨rfl, h⟩
    · rcases k with k | ⟨rfl, k⟩
      · exact .inl (by rw [UInt8.lt_iff_toNat_lt] at *; omega)
      · exact .inl h
    · rcases k with k | ⟨rfl, k⟩
      · exact .inl k
      · exact .inr ⟨rfl, less_trans a b c h k⟩
theorem less_total : ∀ a b : List UInt8, Op.bytesLess a b = false → a ≠ b → Op.bytesLess b a = true
  | [], [], _, h => absurd rfl h
  | [], _ :: _, h, _ => by simp [Op.bytesLess] at h
  | _ :: _, [], _, _ => rfl
  | x :: a, y :: b, h, k => by
    simp only [Op.bytesLess, Bool.or_eq_false_iff, decide_eq_false_iff_not, Bool.and_eq_false_iff, beq_eq_false_iff_ne, Bool.or_eq_true, decide_eq_true_eq, Bool.and_eq_true, beq_iff_eq] at h ⊢
    obtain ⟨h1, h2⟩ := h
    by_cases e : x = y
    · subst e
      refine .inr ⟨rfl, less_total a b (h2.resolve_left (fun q => q rfl)) (fun q => k (by rw [q]))⟩
    · refine .inl ?_
      rw [UInt8.lt_iff_toNat_lt] at *
      have : x.toNat ≠ y.toNat := fun q => e (UInt8.toNat_inj.1 q)
      omega
/-- One text stands ahead of another one. -/
def sl (a b : ByteArray) : Bool := Op.bytesLess a.toList b.toList
theorem toList_inj {a b : ByteArray} (h : a.toList = b.toList) : a = b := by
  have := seq_iff a b
  rw [h, beq_self_eq_true] at this
  exact of_decide_eq_true this.symm
theorem sl_irrefl (a : ByteArray) : sl a a = false := less_irrefl _
theorem sl_trans {a b c : ByteArray} (h : sl a b = true) (k : sl b c = true) : sl a c = true := less_trans _ _ _ h k
theorem sl_total {a b : ByteArray} (h : sl a b = false) (k : a ≠ b) : sl b a = true := less_total _ _ h (fun e => k (toList_inj e))
theorem sl_asymm {a b : ByteArray} (h : sl a b = true) : sl b a = false := by
  cases hb : sl b a with
  | false => rfl
  | true => have := sl_trans h hb; rw [sl_irrefl] at this; cases this
theorem sl_ne {a b : ByteArray} (h : sl a b = true) : a ≠ b := by
  rintro rfl
  rw [sl_irrefl] at h; cases h
theorem filter_all {α : Type} {p : α → Bool} {l : List α} (h : ∀ a ∈ l, p a = true) : l.filter p = l := List.filter_eq_self.2 h
theorem filter_none {α : Type} {p : α → Bool} {l : List α} (h : ∀ a ∈ l, p a = false) : l.filter p = [] := List.filter_eq_nil_iff.2 fun a ha => by rw [h a ha]; decide

/-- Keys that rise. -/
def Ord (l : List Pr) : Prop := l.Pairwise fun a b => sl a.1 b.1 = true
/-- With this in a key's place. -/
def ins (k : ByteArray) (mid : List Pr) (l : List Pr) : List Pr := l.filter (fun e => sl e.1 k) ++ (mid ++ l.filter (fun e => sl k e.1))
/-- Without a key. -/
def wo (k : ByteArray) (l : List Pr) : List Pr := l.filter fun e => !decide (e.1 = k)

theorem got_app (k : ByteArray) (A B : List Pr) : got k (A ++ B) = (got k A).or (got k B) := by
  unfold got
  rw [List.find?_append]
  cases A.find? fun e => decide (e.1 = k) <;> simp
theorem got_filter {k : ByteArray} {p : Pr → Bool} : ∀ {l : List Pr}, (∀ e ∈ l, e.1 = k → p e = true) → got k (l.filter p) = got k l
  | [], _ => rfl
  | a :: r, h => by
    have ih := got_filter (l := r) (fun e he => h e (by simp [he]))
    by_cases e : a.1 = k
    · have := h a (by simp) e
      rw [List.filter_cons_of_pos this, show a = (k, a.2) by rw [← e], got_cons_eq, got_cons_eq]
    · rw [show got k (a :: r) = got k r from got_cons_ne e]
      by_cases hp : p a = true
      · rw [List.filter_cons_of_pos hp, show got k (a :: r.filter p) = got k (r.filter p) from got_cons_ne e, ih]
      · rw [List.filter_cons_of_neg hp, ih]
theorem got_filter_none {k : ByteArray} {p : Pr → Bool} {l : List Pr} (h : ∀ e ∈ l, e.1 = k → p e = false) : got k (l.filter p) = none := by
  refine got_no fun e he e1 => ?_
  obtain ⟨h1, h2⟩ := List.mem_filter.1 he
  rw [h e h1 e1] at h2
  cases h2
theorem got_wo (l : List Pr) (k : ByteArray) : (fun x => got x (wo k l)) = Q.del (fun x => got x l) k := by
  funext x
  unfold wo
  by_cases hx : x = k
  · subst hx
    rw [Q.del_eq]
    exact got_filter_none fun e _ h => by simp [h]
  · rw [Q.del_ne _ hx]
    exact got_filter fun e _ h => by simp [h, hx]
theorem got_upd (l : List Pr) (k v : ByteArray) : (fun x => got x (ins k [(k, v)] l)) = Q.put (fun x => got x l) k v := by
  funext x
  unfold ins
  rw [got_app, got_app]
  by_cases hx : x = k
  · subst hx
    rw [Q.put_eq, got_filter_none (fun e _ h => by rw [h]; exact sl_irrefl x), got_cons_eq]
    rfl
  · rw [Q.put_ne _ _ hx, show got x [(k, v)] = none from got_cons_ne (fun e => hx e.symm)]
    cases hs : sl x k with
    | true =>
      rw [got_filter (fun e _ h => by rw [h]; exact hs), got_filter_none (fun e _ h => by rw [h]; exact sl_asymm hs)]
      simp
    | false =>
      rw [got_filter_none (fun e _ h => by rw [h]; exact hs), got_filter (fun e _ h => by rw [h]; exact sl_total hs hx)]
      simp
theorem wo_ord {l : List Pr} (h : Ord l) (k : ByteArray) : Ord (wo k l) := List.Pairwise.filter _ h
theorem ins_ord {l : List Pr} (h : Ord l) (k v : ByteArray) : Ord (ins k [(k, v)] l) := by
  unfold ins
  refine List.pairwise_append.2 ⟨List.Pairwise.filter _ h, List.pairwise_append.2 ⟨by simp, List.Pairwise.filter _ h, fun a ha b hb => ?_⟩, fun a ha b hb => ?_⟩
  · simp at ha; subst ha
    exact (List.mem_filter.1 hb).2
  · have h1 : sl a.1 k = true := (List.mem_filter.1 ha).2
    rcases List.mem_append.1 hb with hb | hb
    · simp at hb; subst hb; exact h1
    · exact sl_trans h1 (List.mem_filter.1 hb).2
theorem ord_nd {l : List Pr} (h : Ord l) : (l.map Prod.fst).Nodup := by
  unfold List.Nodup
  rw [List.pairwise_map]
  exact h.imp fun h => sl_ne h
theorem wo_len (k : ByteArray) (l : List Pr) : (wo k l).length ≤ l.length := List.length_filter_le _ _
theorem ins_len {k v : ByteArray} : ∀ l : List Pr, (ins k [(k, v)] l).length ≤ l.length + 1 := by
  intro l
  have key : ∀ l : List Pr, (l.filter (fun e => sl e.1 k)).length + (l.filter (fun e => sl k e.1)).length ≤ l.length := by
    intro l
    induction l with
    | nil => simp
    | cons a r ih =>
      cases h1 : sl a.1 k with
      | true =>
        rw [List.filter_cons_of_pos (by simpa using h1), List.filter_cons_of_neg (by simp [sl_asymm h1])]
        simp only [List.length_cons]; omega
      | false =>
        rw [List.filter_cons_of_neg (by simp [h1])]
        cases h2 : sl k a.1 with
        | true => rw [List.filter_cons_of_pos (by simpa using h2)]; simp only [List.length_cons]; omega
        | false => rw [List.filter_cons_of_neg (by simp [h2])]; simp only [List.length_cons]; omega
  have := key l
  unfold ins
  simp only [List.length_append, List.length_cons, List.length_nil]
  omega
theorem mem_keys {k : ByteArray} {l : List Pr} : k ∈ l.map Prod.fst ↔ (got k l).isSome = true := by
  constructor
  · intro h
    obtain ⟨e, he, rfl⟩ := List.mem_map.1 h
    unfold got
    cases hf : l.find? fun x => decide (x.1 = e.1) with
    | some y => rfl
    | none => have := List.find?_eq_none.1 hf e he; simp at this
  · intro h
    cases hf : l.find? fun x => decide (x.1 = k) with
    | none => unfold got at h; rw [hf] at h; cases h
    | some y =>
      have h1 := List.mem_of_find?_eq_some hf
      have h2 := List.find?_some hf
      simp at h2
      exact List.mem_map.2 ⟨y, h1, h2⟩
/-- Two lists without a key twice that say the same are as long. -/
theorem same_len {l M : List Pr} (h1 : (l.map Prod.fst).Nodup) (h2 : (M.map Prod.fst).Nodup) (h : ∀ k, got k l = got k M) : l.length = M.length := by
  have hp : (l.map Prod.fst).Perm (M.map Prod.fst) := (List.perm_ext_iff_of_nodup h1 h2).2 fun k => by rw [mem_keys, mem_keys, h]
  have := hp.length_eq
  simpa using this
theorem got_mem {l : List Pr} (h : (l.map Prod.fst).Nodup) {i : Nat} {x : Pr} (hx : l[i]? = some x) : got x.1 l = some x.2 := by
  refine got_at hx rfl fun e he e1 => ?_
  obtain ⟨j, hj⟩ := List.getElem?_of_mem he
  rw [List.getElem?_take] at hj
  split at hj
  · rename_i hji
    obtain ⟨hjl, hje⟩ := List.getElem?_eq_some_iff.1 hj
    obtain ⟨hil, hie⟩ := List.getElem?_eq_some_iff.1 hx
    unfold List.Nodup at h
    rw [List.pairwise_map] at h
    have := List.pairwise_iff_getElem.1 h j i hjl hil hji
    rw [hje, hie] at this
    exact this e1
  · cases hj

/-- What is out while a key is put: no key that is not below it came yet, or one came. -/
structure Pt (k v : ByteArray) (l : List Pr) (i : Nat) (dn : Bool) (out : List Pr) : Prop where
  out : (dn = false ∧ out = l.take i ∧ ∀ e ∈ l.take i, sl e.1 k = true) ∨ (dn = true ∧ out = ins k [(k, v)] (l.take i) ∧ ∃ e ∈ l.take i, sl e.1 k = false)
theorem ins_low {k : ByteArray} {mid l : List Pr} (h : ∀ e ∈ l, sl e.1 k = true) : ins k mid l = l ++ mid := by
  unfold ins
  rw [filter_all h, filter_none (fun e he => sl_asymm (h e he)), List.append_nil]
theorem ins_snoc {k : ByteArray} {mid l : List Pr} {x : Pr} (h : sl k x.1 = true) : ins k mid (l ++ [x]) = ins k mid l ++ [x] := by
  unfold ins
  rw [List.filter_append, List.filter_append, List.filter_cons_of_neg (by rw [sl_asymm h]; decide), List.filter_cons_of_pos (by rw [h])]
  simp
theorem ins_eq {k : ByteArray} {mid l : List Pr} {x : Pr} (h : x.1 = k) : ins k mid (l ++ [x]) = ins k mid l := by
  unfold ins
  have e1 : sl x.1 k = false := by rw [h]; exact sl_irrefl k
  have e2 : sl k x.1 = false := by rw [h]; exact sl_irrefl k
  rw [List.filter_append, List.filter_append, List.filter_cons_of_neg (by rw [e1]; decide), List.filter_cons_of_neg (by rw [e2]; decide)]
  simp
theorem Pt.start (k v : ByteArray) (l : List Pr) : Pt k v l 0 false [] := ⟨.inl ⟨rfl, rfl, fun e h => by simp at h⟩⟩
theorem Pt.below {k v : ByteArray} {l : List Pr} {i : Nat} {out : List Pr} {x : Pr} (h : Pt k v l i false out) (hx : l[i]? = some x) (hs : sl x.1 k = true) : Pt k v l (i + 1) false (out ++ [x]) := by
  rcases h.out with ⟨_, rfl, h2⟩ | ⟨h0, _⟩
  · refine ⟨.inl ⟨rfl, (take_more hx).symm, fun e he => ?_⟩⟩
    rw [take_more hx] at he
    rcases List.mem_append.1 he with h | h
    · exact h2 e h
    · simp at h; subst h; exact hs
  · cases h0
theorem Pt.same {k v : ByteArray} {l : List Pr} {i : Nat} {out : List Pr} {x : Pr} (h : Pt k v l i false out) (hx : l[i]? = some x) (hs : x.1 = k) : Pt k v l (i + 1) true (out ++ [(k, v)]) := by
  rcases h.out with ⟨_, rfl, h2⟩ | ⟨h0, _⟩
  · refine ⟨.inr ⟨rfl, ?_, x, ?_, by rw [hs]; exact sl_irrefl k⟩⟩
    · rw [take_more hx, ins_eq hs, ins_low h2]
    · rw [take_more hx]; simp
  · cases h0
theorem Pt.above {k v : ByteArray} {l : List Pr} {i : Nat} {out : List Pr} {x : Pr} (h : Pt k v l i false out) (hx : l[i]? = some x) (hs : sl x.1 k = false) (hne : x.1 ≠ k) : Pt k v l (i + 1) true (out ++ [(k, v)] ++ [x]) := by
  rcases h.out with ⟨_, rfl, h2⟩ | ⟨h0, _⟩
  · refine ⟨.inr ⟨rfl, ?_, x, ?_, hs⟩⟩
    · rw [take_more hx, ins_snoc (sl_total hs hne), ins_low h2]
    · rw [take_more hx]; simp
  · cases h0
theorem Pt.later {k v : ByteArray} {l : List Pr} {i : Nat} {out : List Pr} {x : Pr} (ho : Ord l) (h : Pt k v l i true out) (hx : l[i]? = some x) : Pt k v l (i + 1) true (out ++ [x]) := by
  rcases h.out with ⟨h0, _⟩ | ⟨_, rfl, e, he, h2⟩
  · cases h0
  · have hlx : sl e.1 x.1 = true := by
      obtain ⟨j, hj⟩ := List.getElem?_of_mem he
      rw [List.getElem?_take] at hj
      split at hj
      · rename_i hji
        obtain ⟨hil, hie⟩ := List.getElem?_eq_some_iff.1 hx
        obtain ⟨hjl, hje⟩ := List.getElem?_eq_some_iff.1 hj
        have := List.pairwise_iff_getElem.1 ho j i hjl hil hji
        rwa [hie, hje] at this
      · cases hj
    have hkx : sl k x.1 = true := by
      by_cases hk : e.1 = k
      · rw [← hk]; exact hlx
      · exact sl_trans (sl_total h2 hk) hlx
    refine ⟨.inr ⟨rfl, ?_, e, ?_, h2⟩⟩
    · rw [take_more hx, ins_snoc hkx]
    · rw [take_more hx]; exact List.mem_append_left _ he
theorem Pt.done {k v : ByteArray} {l out : List Pr} {i : Nat} (h : Pt k v l i true out) (hi : l.length ≤ i) : out = ins k [(k, v)] l := by
  rcases h.out with ⟨h0, _⟩ | ⟨_, rfl, _⟩
  · cases h0
  · rw [List.take_of_length_le hi]
theorem Pt.undone {k v : ByteArray} {l out : List Pr} {i : Nat} (h : Pt k v l i false out) (hi : l.length ≤ i) : out ++ [(k, v)] = ins k [(k, v)] l := by
  rcases h.out with ⟨_, rfl, h2⟩ | ⟨h0, _⟩
  · rw [List.take_of_length_le hi] at h2 ⊢
    rw [ins_low h2]
  · cases h0

/-- The cells of such a list. -/
def prs (l : List Pr) : List Value := l.flatMap fun e => [.string e.1, .string e.2]
theorem prs_append (a b : List Pr) : prs (a ++ b) = prs a ++ prs b := by simp [prs]
theorem prs_length : ∀ l : List Pr, (prs l).length = l.length * 2
  | [] => rfl
  | e :: r => by
    have e1 : prs (e :: r) = .string e.1 :: .string e.2 :: prs r := rfl
    rw [e1, List.length_cons, List.length_cons, prs_length r, List.length_cons]; omega
theorem prs_at : ∀ {l : List Pr} {i : Nat} {e : Pr}, l[i]? = some e → (prs l)[i * 2]? = some (.string e.1) ∧ (prs l)[i * 2 + 1]? = some (.string e.2)
  | [], i, e, h => by simp at h
  | a :: r, 0, e, h => by simp at h; subst h; exact ⟨rfl, rfl⟩
  | a :: r, i + 1, e, h => by
    have ih := prs_at (l := r) (i := i) (e := e) (by simpa using h)
    have e1 : prs (a :: r) = .string a.1 :: .string a.2 :: prs r := rfl
    rw [e1, show (i + 1) * 2 = i * 2 + 1 + 1 by omega, List.getElem?_cons_succ, List.getElem?_cons_succ, List.getElem?_cons_succ, List.getElem?_cons_succ]
    exact ih

theorem two_cellsA (w : World) (a b : Value) (t : TypeId) : ∀ (j : Nat) (v : Value), [a, b][j]? = some v → (w.alloc (.cells #[a, b] t)).cell? ((⟨w.heap.size, 0, none⟩ : Addr).add j) = some v := by
  intro j u hj
  rw [Addr.add_lit, Nat.zero_add, cell_of_row _ _ _ _ _ _ (heap_alloc_new w (.cells #[a, b] t))]
  match j, hj with
  | 0, hj => simpa using hj
  | 1, hj => simpa using hj
  | j + 2, hj => simp at hj
/-- A list of one's own. -/
structure Pw (w : World) (B : Nat) (p : Option Addr) (n c : Nat) (l : List Pr) : Prop where
  out : w.ownsRow B 61 2 (.slice p n c) n (prs l)
theorem Pw.len {w : World} {B : Nat} {p : Option Addr} {n c : Nat} {l : List Pr} (h : Pw w B p n c l) : l.length = n := by
  have := h.out.1; rw [prs_length] at this; omega
theorem Pw.kept {w w' : World} {B : Nat} {p : Option Addr} {n c : Nat} {l : List Pr} (k : Pw w B p n c l) (h : Kept w w') : Pw w' B p n c l :=
  ⟨k.out.kept (kept_grown h none) (by cases p <;> simp [Value.ownBlock])⟩
theorem Pw.mono {w : World} {B B' : Nat} {p : Option Addr} {n c : Nat} {l : List Pr} (h : Pw w B p n c l) (hB : B' ≤ B) : Pw w B' p n c l :=
  ⟨h.out.1, h.out.2.imp id fun ⟨g, cap, cur, a, b, r⟩ => ⟨g, cap, cur, a, Nat.le_trans hB b, r⟩⟩
theorem Pw.vc {w w' : World} {B B' : Nat} {p : Option Addr} {n c : Nat} {l : List Pr} (k : Pw w B p n c l) (h : Vc E B' w w') : Pw w' B p n c l := by
  refine ⟨k.out.1, k.out.2.imp id ?_⟩
  rintro ⟨g, cap, cur, h1, hB, hg, r⟩
  have hcl : Cl E g (.cells cur 61) := by
    refine ⟨fun _ _ q => (by cases q), fun cs t fr q => ?_⟩
    injection q with _ q _
    subst q
    exact ⟨by decide, by decide, by decide, fun e => absurd e (by decide)⟩
  exact ⟨g, cap, cur, h1, hB, h.oth g _ hg hcl, r⟩
theorem grown_pw {w W W' : World} {q : Option Addr} {m qc : Nat} {l : List Pr} (K : Kept w W) (O : Pw W w.heap.size q m qc l) (hg : W.grownBy W' (Value.slice q m qc).ownBlock) : Kept w W' := keptBy K hg fun k hk => (O.out.lt k hk).1
theorem own_pairs {W : World} {B : Nat} {q : Option Addr} {m qc : Nat} {out : List Pr} {x : Pr} (h : W.ownsRow B 61 2 (.slice q m qc) m (prs out ++ [.string x.1, .string x.2])) : Pw W B q m qc (out ++ [x]) := ⟨by rw [prs_append]; exact h⟩
/-- A list in memory, as it is read. -/
structure Pl (w : World) (p : Option Addr) (n : Nat) (l : List Pr) : Prop where
  len : l.length = n
  out : ∃ b off, (0 < n → p = some ⟨b, off, none⟩) ∧ ∀ i e, l[i]? = some e → w.cell? ⟨b, off + i * 2, none⟩ = some (.string e.1) ∧ w.cell? ⟨b, off + i * 2 + 1, none⟩ = some (.string e.2)
theorem Pw.pl {w : World} {B : Nat} {p : Option Addr} {n c : Nat} {l : List Pr} (h : Pw w B p n c l) : Pl w p n l := by
  have hl := h.len
  refine ⟨hl, ?_⟩
  rcases h.out.2 with ⟨h1, h2⟩ | ⟨g, cap, cur, h1, hB, hg, hn, hm, hs, ht⟩
  · exact ⟨0, 0, fun h => absurd h (by omega), fun i e he => by have := (List.getElem?_eq_some_iff.1 he).1; omega⟩
  · injection h1 with h1 _ h2
    subst h1
    have hc : ∀ j u, (prs l)[j]? = some u → w.cell? ⟨g, j, none⟩ = some u := fun j u hu => by
      rw [cell_of_row w g j _ _ _ hg]
      rw [← ht, List.getElem?_take] at hu
      split at hu
      · simpa using hu
      · cases hu
    refine ⟨g, 0, fun _ => rfl, fun i e he => ?_⟩
    obtain ⟨a1, a2⟩ := prs_at he
    rw [Nat.zero_add]
    exact ⟨hc _ _ a1, hc _ _ a2⟩
theorem info61 : (Try.prog.info? 61).map (fun i => (i.zero, i.size, i.bytes)) = some (some (.agg #[.string ⟨#[]⟩, .string ⟨#[]⟩]), 2, 32) := by kernel_rfl
end Go.Proofs.Ytbpelhfbgjplbaa.Ca
