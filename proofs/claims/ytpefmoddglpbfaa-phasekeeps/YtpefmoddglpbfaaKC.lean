/- The walks of the statement's Get and Len. Conditions: those that each row names. -/
import Derived.Test.YtpefmoddglpbfaaKB
namespace Go.Proofs.Ytpefmoddglpbfaa.Q
open Go.ChangeShapes Go.WideShapes Go.ChangeAt Go.RowKit
open N (Kept)
variable {E : Nat → Prop}

theorem seq_iff (a b : ByteArray) : (a.toList == b.toList) = decide (a = b) := by
  by_cases h : a = b
  · subst h; simp
  · have : a.toList ≠ b.toList := fun e => h (by
      have e1 : a.data.toList = b.data.toList := by
        have h1 := ByteArray.toList_mk a.data.toList
        have h2 := ByteArray.toList_mk b.data.toList
        simp only [Array.toArray_toList] at h1 h2
        have h1' : a.toList = a.data.toList := h1
        have h2' : b.toList = b.data.toList := h2
        rw [← h1', ← h2', e]
      cases a; cases b
      simp only at e1
      rw [ByteArray.mk.injEq]
      exact Array.toList_inj.1 e1)
    simp [h, this]
theorem take_more {α : Type} {l : List α} {i : Nat} {x : α} (h : l[i]? = some x) : l.take (i + 1) = l.take i ++ [x] := by rw [List.take_add_one, h]; rfl
theorem ahead_more {M : List (ByteArray × ByteArray)} {k : ByteArray} {i : Nat} {x : ByteArray × ByteArray} (h : M[i]? = some x) (hx : ¬ x.1 = k) (hl : ∀ e ∈ M.take i, e.1 ≠ k) : ∀ e ∈ M.take (i + 1), e.1 ≠ k := by
  intro e he
  rw [take_more h] at he
  rcases List.mem_append.1 he with h | h
  · exact hl e h
  · simp at h; subst h; exact hx

set_option maxRecDepth 100000 in
set_option maxHeartbeats 2000000 in
theorem get_list {w : World} {B b m : Nat} {M : List (ByteArray × ByteArray)} {p q : Option Addr} {c d : Nat} (h : Km E w B b m M p q c d) (k : ByteArray) :
    Calls Try.prog 39 #[.pointer (some ⟨b, 0, none⟩), .string k] w fun e w' => e = .returned (.tuple #[.string ((got k M).getD ⟨#[]⟩), .bool (got k M).isSome, .int .i64 0]) ∧ w' = w := by
  have HL : Hid (M.length = m) := h.len
  have c0 := h.c0
  have c1 := h.c1
  have sm := h.ks.small
  have sm2 := h.ts.small
  have H : Hid (Km E w B b m M p q c d) := h
  clear h
  go_enter Try.func39, Try.ntmps39
  go_wp2
  go_loopg [7] m (fun gg iv wx => ∃ i : Nat, iv = .int .i64 (i : Nat) ∧ Hid (gg = m - i) ∧ i ≤ m ∧ Hid (∀ e ∈ M.take i, e.1 ≠ k) ∧ wx = w)
  case atStart => exact ⟨0, rfl, rfl, Nat.zero_le _, (fun e h => by simp at h), rfl⟩
  case round =>
    obtain ⟨i, rfl, hg, hin, HN, hw⟩ := hrel
    subst hw
    by_cases h1 : (i : Int) < (m : Int)
    · obtain ⟨x, hx⟩ : ∃ x, M[i]? = some x := ⟨_, List.getElem?_eq_getElem (by rw [HL.out]; omega)⟩
      have HX : Hid (M[i]? = some x) := hx
      obtain ⟨g, g', e1, e2, a1, a2, _⟩ := H.out.at hx
      subst e1
      subst e2
      clear hx
      by_cases he : x.1 = k
      · have hgt : Hid (got k M = some x.2) := got_at HX.out he HN.out
        have he' : (x.1.toList == k.toList) = true := by rw [seq_iff]; simpa using he
        clear he
        go_wp2
        go_ret3
        rw [hgt.out]
        exact ⟨rfl, rfl⟩
      · have HE : Hid (¬ x.1 = k) := he
        have he' : (x.1.toList == k.toList) = false := by rw [seq_iff]; simpa using he
        clear he
        go_wp2
        go_roundg (m - (i + 1))
        case measure => rw [hg.out]; omega
        case rel => exact ⟨i + 1, by go_num, rfl, by omega, ahead_more HX.out HE.out HN.out, rfl⟩
    · have hgt : Hid (got k M = none) := got_no (by have := HN.out; rwa [List.take_of_length_le (by rw [HL.out]; omega)] at this)
      go_wp2
      go_ret3
      rw [hgt.out]
      exact ⟨rfl, rfl⟩
theorem get_walk {w : World} {B b m : Nat} {f : ByteArray → Option ByteArray} (h : Kv E w B b m f) (k : ByteArray) :
    Calls Try.prog 39 #[.pointer (some ⟨b, 0, none⟩), .string k] w fun e w' => e = .returned (.tuple #[.string ((f k).getD ⟨#[]⟩), .bool (f k).isSome, .int .i64 0]) ∧ w' = w := by
  obtain ⟨M, p, q, c, d, h1, h2⟩ := h.out
  rw [h2 k]
  exact get_list h1 k
end Go.Proofs.Ytpefmoddglpbfaa.Q
