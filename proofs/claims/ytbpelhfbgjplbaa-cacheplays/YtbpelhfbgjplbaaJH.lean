/- Keys that are held, in plain words: where each is held, which are to be written; one is changed, written, added, goes. No condition but those that each row names. -/
import Derived.Test.YtbpelhfbgjplbaaJG
namespace Go.Proofs.Ytbpelhfbgjplbaa.Ca
open Go.ChangeShapes Go.WideShapes Go.ChangeAt Go.RowKit
open N (Kept)

def Nk (es : List En) : Prop := (es.map (·.k)).Nodup
theorem Nk.inj {es : List En} (h : Nk es) {x y : En} (hx : x ∈ es) (hy : y ∈ es) (e : x.k = y.k) : x = y := by
  induction es with
  | nil => cases hx
  | cons a r ih =>
    obtain ⟨h1, h2⟩ := List.nodup_cons.1 h
    rcases List.mem_cons.1 hx with rfl | gx <;> rcases List.mem_cons.1 hy with rfl | gy
    · rfl
    · exact (h1 (List.mem_map.2 ⟨y, gy, e.symm⟩)).elim
    · exact (h1 (List.mem_map.2 ⟨x, gx, e⟩)).elim
    · exact ih h2 gx gy
theorem find_iff {es : List En} {c : En → Bool} (hc : ∀ x ∈ es, ∀ y ∈ es, c x = true → c y = true → x = y) (b : Nat) : (es.find? c).map (·.b) = some b ↔ ∃ x ∈ es, c x = true ∧ x.b = b := by
  constructor
  · intro h
    obtain ⟨x, hx, rfl⟩ := Option.map_eq_some_iff.1 h
    exact ⟨x, List.mem_of_find?_eq_some hx, List.find?_some hx, rfl⟩
  · rintro ⟨x, hx, h1, rfl⟩
    cases hf : es.find? c with
    | none => exact absurd h1 (by simpa using List.find?_eq_none.1 hf x hx)
    | some y => rw [hc y (List.mem_of_find?_eq_some hf) x hx (List.find?_some hf) h1]; rfl
theorem hmap_iff {es : List En} (h : Nk es) (k : ByteArray) (b : Nat) : hmap es k = some b ↔ ∃ x ∈ es, x.k = k ∧ x.b = b := by
  unfold hmap
  rw [find_iff (fun x hx y hy e1 e2 => h.inj hx hy (by simp at e1 e2; rw [e1, e2])) b]
  simp
theorem cmap_iff {es : List En} (h : Nk es) (k : ByteArray) (b : Nat) : cmap es k = some b ↔ ∃ x ∈ es, (x.k = k ∧ x.d = true) ∧ x.b = b := by
  unfold cmap
  rw [find_iff (fun x hx y hy e1 e2 => h.inj hx hy (by simp at e1 e2; rw [e1.1, e2.1])) b]
  simp
theorem opt_ext {a b : Option Nat} (h : ∀ x, a = some x ↔ b = some x) : a = b := by
  cases a with
  | none =>
    cases b with
    | none => rfl
    | some y => exact absurd ((h y).2 rfl) (by simp)
  | some x => exact ((h x).1 rfl).symm
theorem hmap_none {es : List En} {k : ByteArray} : hmap es k = none ↔ ∀ x ∈ es, x.k ≠ k := by
  unfold hmap
  rw [Option.map_eq_none_iff, List.find?_eq_none]
  simp
theorem cmap_none {es : List En} {k : ByteArray} : cmap es k = none ↔ ∀ x ∈ es, x.k = k → x.d = false := by
  unfold cmap
  rw [Option.map_eq_none_iff, List.find?_eq_none]
  simp

/-- The same ones in another order. -/
theorem Nk.perm {es fs : List En} (h : Nk es) (p : es.Perm fs) : Nk fs := ((p.map _).nodup_iff).1 h
theorem hmap_perm {es fs : List En} (h : Nk es) (p : es.Perm fs) (k : ByteArray) : hmap fs k = hmap es k :=
  opt_ext fun b => by rw [hmap_iff (h.perm p), hmap_iff h]; simp only [p.mem_iff]
theorem cmap_perm {es fs : List En} (h : Nk es) (p : es.Perm fs) (k : ByteArray) : cmap fs k = cmap es k :=
  opt_ext fun b => by rw [cmap_iff (h.perm p), cmap_iff h]; simp only [p.mem_iff]
theorem cnt_perm {es fs : List En} (p : es.Perm fs) : cnt fs = cnt es := (p.filter _).length_eq.symm
theorem perm_mid (A C : List En) (x : En) : (A ++ x :: C).Perm (A ++ C ++ [x]) := by
  rw [List.append_assoc]
  exact List.Perm.append_left A (List.perm_append_comm (l₁ := [x]) (l₂ := C))
theorem perm_head (A C : List En) (x : En) : (A ++ x :: C).Perm (x :: (A ++ C)) := List.perm_middle

/-- One at the head. -/
theorem hmap_head (x : En) (r : List En) (k : ByteArray) : hmap (x :: r) k = if x.k = k then some x.b else hmap r k := by
  unfold hmap
  by_cases h : x.k = k
  · rw [List.find?_cons_of_pos (by simpa using h), if_pos h]; rfl
  · rw [List.find?_cons_of_neg (by simpa using h), if_neg h]
theorem cmap_head (x : En) (r : List En) (k : ByteArray) : cmap (x :: r) k = if x.k = k ∧ x.d = true then some x.b else cmap r k := by
  unfold cmap
  by_cases h : x.k = k ∧ x.d = true
  · rw [List.find?_cons_of_pos (by simpa using h), if_pos h]; rfl
  · rw [List.find?_cons_of_neg (by simpa using h), if_neg h]
theorem cnt_head (x : En) (r : List En) : cnt (x :: r) = cnt r + x.d.toNat := by
  unfold cnt
  cases hd : x.d with
  | true => rw [List.filter_cons_of_pos hd]; rfl
  | false => rw [List.filter_cons_of_neg (by simp [hd])]; rfl
theorem cmap_absent {r : List En} {k : ByteArray} (h : ∀ x ∈ r, x.k ≠ k) : cmap r k = none := cmap_none.2 fun x hx e => absurd e (h x hx)
theorem Nk.tail {x : En} {r : List En} (h : Nk (x :: r)) : (∀ y ∈ r, y.k ≠ x.k) ∧ Nk r := by
  obtain ⟨h1, h2⟩ := List.nodup_cons.1 h
  exact ⟨fun y hy e => h1 (List.mem_map.2 ⟨y, hy, e⟩), h2⟩

/-- One is changed, at the head. -/
theorem chg_hmap (x y : En) (r : List En) (hk : y.k = x.k) (hb : y.b = x.b) (k : ByteArray) : hmap (y :: r) k = hmap (x :: r) k := by rw [hmap_head, hmap_head, hk, hb]
theorem chg_cmap {x y : En} {r : List En} (hk : y.k = x.k) (hb : y.b = x.b) (hd : y.d = true) (k : ByteArray) : cmap (y :: r) k = putM (cmap (x :: r)) x.k x.b k := by
  unfold putM
  rw [cmap_head, cmap_head, hk, hb, hd]
  by_cases e : k = x.k
  · rw [if_pos ⟨e.symm, rfl⟩, if_pos e]
  · rw [if_neg (fun e2 => e e2.1.symm), if_neg e, if_neg (fun e2 => e e2.1.symm)]
theorem chg_cnt {x y : En} {r : List En} (h : Nk (x :: r)) (hd : y.d = true) : cnt (y :: r) = if (cmap (x :: r) x.k).isSome then cnt (x :: r) else cnt (x :: r) + 1 := by
  have ha := cmap_absent h.tail.1
  rw [cnt_head, cnt_head, hd, cmap_head]
  cases hx : x.d <;> simp [ha]
/-- One is written. -/
theorem wr_cmap {x y : En} {r : List En} (h : Nk (x :: r)) (hk : y.k = x.k) (hd : y.d = false) (k : ByteArray) : cmap (y :: r) k = delM (cmap (x :: r)) x.k k := by
  unfold delM
  rw [cmap_head, cmap_head, hk, hd]
  by_cases e : k = x.k
  · rw [if_pos e, if_neg (by simp), e, cmap_absent h.tail.1]
  · rw [if_neg e, if_neg (by simp), if_neg (fun e2 => e e2.1.symm)]
theorem wr_cnt {x y : En} {r : List En} (h : Nk (x :: r)) (hd : y.d = false) : cnt (y :: r) = if (cmap (x :: r) x.k).isSome then cnt (x :: r) - 1 else cnt (x :: r) := by
  have ha := cmap_absent h.tail.1
  rw [cnt_head, cnt_head, hd, cmap_head]
  cases hx : x.d <;> simp [ha]
/-- One is added. -/
theorem add_hmap (x : En) (r : List En) (k : ByteArray) : hmap (x :: r) k = putM (hmap r) x.k x.b k := by
  unfold putM
  rw [hmap_head]
  by_cases e : k = x.k
  · rw [if_pos e.symm, if_pos e]
  · rw [if_neg (fun e2 => e e2.symm), if_neg e]
theorem add_cmap {x : En} (r : List En) (hd : x.d = false) (k : ByteArray) : cmap (x :: r) k = cmap r k := by
  rw [cmap_head, if_neg (by simp [hd])]
theorem add_cnt {x : En} (r : List En) (hd : x.d = false) : cnt (x :: r) = cnt r := by rw [cnt_head, hd]; rfl
/-- One goes. -/
theorem go_hmap {x : En} {r : List En} (h : Nk (x :: r)) (k : ByteArray) : hmap r k = delM (hmap (x :: r)) x.k k := by
  unfold delM
  rw [hmap_head]
  by_cases e : k = x.k
  · rw [if_pos e, e, hmap_none]; exact h.tail.1
  · rw [if_neg e, if_neg (fun e2 => e e2.symm)]
/-- Where a key is. -/
theorem find_at {es : List En} {k : ByteArray} {b : Nat} (hn : Nk es) (h : hmap es k = some b) : ∃ A x C, es = A ++ x :: C ∧ x.k = k ∧ x.b = b := by
  obtain ⟨x, hx, h1, h2⟩ := (hmap_iff hn k b).1 h
  obtain ⟨A, C, rfl⟩ := List.append_of_mem hx
  exact ⟨A, x, C, rfl, h1, h2⟩
end Go.Proofs.Ytbpelhfbgjplbaa.Ca
