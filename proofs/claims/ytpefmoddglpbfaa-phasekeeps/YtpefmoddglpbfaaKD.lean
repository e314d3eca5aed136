/- The walk of the statement's Put. Conditions: those that each row names. -/
import Derived.Test.YtpefmoddglpbfaaKC
namespace Go.Proofs.Ytpefmoddglpbfaa.Q
open Go.ChangeShapes Go.WideShapes Go.ChangeAt Go.RowKit
open N (Kept)
variable {E : Nat → Prop}

theorem map_set_fst {M : List (ByteArray × ByteArray)} {i : Nat} {x : ByteArray × ByteArray} (h : M[i]? = some x) (t : ByteArray) : (M.set i (x.1, t)).map Prod.fst = M.map Prod.fst := by
  apply List.ext_getElem?
  intro j
  simp only [List.map_set, List.getElem?_set, List.getElem?_map]
  by_cases e : i = j
  · subst e
    obtain ⟨hi, rfl⟩ := List.getElem?_eq_some_iff.1 h
    simp [hi]
  · simp [e]
theorem got_set : ∀ {M : List (ByteArray × ByteArray)} {i : Nat} {x : ByteArray × ByteArray}, M[i]? = some x → (∀ e ∈ M.take i, e.1 ≠ x.1) → ∀ (t k : ByteArray), got k (M.set i (x.1, t)) = if k = x.1 then some t else got k M
  | [], _, _, h, _, _, _ => by simp at h
  | a :: r, 0, x, h, _, t, k => by
    simp at h; subst h
    show got k ((a.1, t) :: r) = _
    by_cases e : k = a.1
    · subst e; rw [if_pos rfl, got_cons_eq]
    · rw [if_neg e, got_cons_ne (fun e2 => e e2.symm), show a :: r = (a.1, a.2) :: r from rfl, got_cons_ne (fun e2 => e e2.symm)]
  | a :: r, i + 1, x, h, hl, t, k => by
    have ih := got_set (M := r) (i := i) (x := x) (by simpa using h) (fun e he => hl e (by simp [he])) t k
    have hax := hl a (by simp)
    show got k ((a.1, a.2) :: r.set i (x.1, t)) = if k = x.1 then some t else got k ((a.1, a.2) :: r)
    by_cases e : a.1 = k
    · subst e
      rw [got_cons_eq, got_cons_eq, if_neg hax]
    · rw [got_cons_ne e, got_cons_ne e, ih]

/-- A text in the place of another one. -/
theorem Km.stored {w : World} {B b m : Nat} {M : List (ByteArray × ByteArray)} {p : Option Addr} {g' c d : Nat} (h : Km E w B b m M p (some ⟨g', 0, none⟩) c d) {i : Nat} {x : ByteArray × ByteArray} (hx : M[i]? = some x) (t : ByteArray) :
    Km E (w.setCell ⟨g', i, none⟩ (.string t)) B b m (M.set i (x.1, t)) p (some ⟨g', 0, none⟩) c d ∧ Vn E B w (w.setCell ⟨g', i, none⟩ (.string t)) := by
  obtain ⟨hB, cs, hg⟩ := h.ts.blk
  simp only at hB hg
  have oth : ∀ k, k ≠ g' → (w.setCell ⟨g', i, none⟩ (.string t)).heap[k]? = w.heap[k]? := fun k hk => heap_setCell_other _ ⟨g', i, none⟩ k _ hk
  have hbg : b ≠ g' := by
    intro e
    have := h.at'
    rw [e, hg] at this
    injection this with this
    injection this with _ h2
    exact absurd h2 (by decide)
  obtain ⟨r1, _⟩ := h.ts.out.stored i (.string t)
  refine ⟨⟨(oth b hbg).trans h.at', ?_, ?_, h.apart, h.big, ?_, fun y hy => ⟨(h.ex y hy).1, (h.ex y hy).2.1, (h.ex y hy).2.2.1, Nat.lt_of_lt_of_le (h.ex y hy).2.2.2 ((Below.refl B w).setCell (p := ⟨g', i, none⟩) hB (Value.string t)).size⟩⟩, ⟨(Below.refl B w).setCell (p := ⟨g', i, none⟩) hB _, ?_⟩⟩
  · rw [map_set_fst hx]
    exact h.ks.far fun a ha => oth _ (h.apart a _ ha rfl)
  · refine ⟨?_⟩
    rw [List.map_set, ← sc_set]
    exact r1
  · rw [map_set_fst hx]; exact h.nd
  · intro k o e h1
    rw [oth k ?_, e]
    intro ek
    rcases h1 with h1 | h1
    · rw [ek, hg] at e
      injection e with e
      exact (h1 _ _ _ e.symm).1 rfl
    · exact (h.ex k h1).2.2.1 _ rfl ek

set_option maxRecDepth 100000 in
set_option maxHeartbeats 2000000 in
theorem put_old {w : World} {B b m : Nat} {M : List (ByteArray × ByteArray)} {p q : Option Addr} {c d : Nat} (h : Km E w B b m M p q c d) {i0 : Nat} {x : ByteArray × ByteArray} (hx : M[i0]? = some x) (hl : ∀ e ∈ M.take i0, e.1 ≠ x.1) (t : ByteArray) :
    Calls Try.prog 41 #[.pointer (some ⟨b, 0, none⟩), .string x.1, .string t] w fun e w' => e = .returned (.int .i64 0) ∧ Kv E w' B b m (put (fun k => got k M) x.1 t) ∧ Vn E B w w' := by
  have HL : Hid (M.length = m) := h.len
  have hi0 : i0 < m := by rw [← h.len]; exact (List.getElem?_eq_some_iff.1 hx).1
  have c0 := h.c0
  have c1 := h.c1
  have sm := h.ks.small
  have sm2 := h.ts.small
  obtain ⟨g, g', e1, e2, a1, a2, a3⟩ := h.at hx
  subst e1
  subst e2
  obtain ⟨s1, s2⟩ := h.stored hx t
  have HS : Hid (Kv E (w.setCell ⟨g', i0, none⟩ (.string t)) B b m (put (fun k => got k M) x.1 t) ∧ Vn E B w (w.setCell ⟨g', i0, none⟩ (.string t))) := ⟨⟨_, _, _, _, _, s1, fun k => (got_set hx hl t k).symm⟩, s2⟩
  have H : Hid (Km E w B b m M (some ⟨g, 0, none⟩) (some ⟨g', 0, none⟩) c d) := h
  have HA : Hid (∀ e ∈ M.take i0, e.1 ≠ x.1) := hl
  have seqx : (x.1.toList == x.1.toList) = true := by simp
  clear h hx hl s1 s2
  generalize x.1 = k at *
  go_enter Try.func41, Try.ntmps41
  go_wp2
  go_loopg [7] m (fun gg iv wx => ∃ i : Nat, iv = .int .i64 (i : Nat) ∧ Hid (gg = m - i) ∧ i ≤ i0 ∧ wx = w)
  case atStart => exact ⟨0, rfl, rfl, Nat.zero_le _, rfl⟩
  case round =>
    obtain ⟨i, rfl, hg, hin, hw⟩ := hrel
    subst hw
    by_cases h1 : i = i0
    · subst h1
      go_wp2
      go_ret
      exact ⟨rfl, HS.out⟩
    · have hlt : i < i0 := by omega
      obtain ⟨y, hy⟩ : ∃ y, M[i]? = some y := ⟨_, List.getElem?_eq_getElem (by rw [HL.out]; omega)⟩
      have he : ¬ y.1 = k := HA.out y (List.mem_of_getElem? (i := i) (by rw [List.getElem?_take, if_pos hlt]; exact hy))
      obtain ⟨z, z', f1, f2, b1, b2, _⟩ := H.out.at hy
      cases f1
      cases f2
      have he' : (y.1.toList == k.toList) = false := by rw [seq_iff]; simpa using he
      clear hy he a1 a2 a3
      go_wp2
      go_roundg (m - (i + 1))
      case measure => rw [hg.out]; omega
      case rel => exact ⟨i + 1, by go_num, rfl, by omega, rfl⟩
end Go.Proofs.Ytpefmoddglpbfaa.Q
