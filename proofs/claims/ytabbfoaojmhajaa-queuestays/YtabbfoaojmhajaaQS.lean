/- Rows of numbers in memory, and the walk of the statement's has. Conditions: those that each row names. -/
import Derived.Laws.Bits64b
import Derived.Test.YtabbfoaojmhajaaQPb
namespace Go.Proofs.Ytabbfoaojmhajaa.Q
open Go.ChangeShapes Go.WideShapes Go.ChangeAt Go.RowKit
open N (Kept bs numL keyL Small Rd On)

/-- Numbers as cells. -/
def uc (l : List Nat) : List Value := l.map fun x : Nat => Value.int .u64 (x : Nat)
theorem uc_length (l : List Nat) : (uc l).length = l.length := by simp [uc]
theorem uc_at {l : List Nat} {i x : Nat} (h : l[i]? = some x) : (uc l)[i]? = some (.int .u64 (x : Nat)) := by simp [uc, h]
theorem uc_snoc (l : List Nat) (x : Nat) : uc (l ++ [x]) = uc l ++ [.int .u64 (x : Nat)] := by simp [uc]
theorem uc_one (l : List Nat) : ∀ u ∈ uc l, u.oneCell' = true := by
  intro u hu; simp [uc] at hu; obtain ⟨z, _, rfl⟩ := hu; rfl
/-- A row of numbers. -/
structure Ul (w : World) (b off n c : Nat) (l : List Nat) : Prop where
  len : l.length = n
  le : n ≤ c
  cap : c ≤ maxLen
  out : n = 0 ∨ ∃ cs fr, w.heap[b]? = some (.cells cs 31 fr) ∧ ∀ j u, (uc l)[j]? = some u → cs[off + j]? = some u
theorem Ul.vn {w w' : World} {B b off n c : Nat} {l : List Nat} (h : Ul w b off n c l) (v : Vn B w w') : Ul w' b off n c l :=
  ⟨h.len, h.le, h.cap, h.out.imp id fun ⟨cs, fr, e, f⟩ => ⟨cs, fr, v.oth _ _ _ _ e (by decide) (by decide), f⟩⟩
theorem Ul.kept {w w' : World} {b off n c : Nat} {l : List Nat} (h : Ul w b off n c l) (v : Kept w w') : Ul w' b off n c l :=
  ⟨h.len, h.le, h.cap, h.out.imp id fun ⟨cs, fr, e, f⟩ => ⟨cs, fr, v.block e, f⟩⟩
theorem Ul.cells {w : World} {b off n c : Nat} {l : List Nat} (h : Ul w b off n c l) : ∀ (j : Nat) (u : Value), (uc l)[j]? = some u → w.cell? ((⟨b, off, none⟩ : Addr).add j) = some u := by
  intro j u hu
  rw [Addr.add_lit]
  rcases h.out with h0 | ⟨cs, fr, e, f⟩
  · have := (List.getElem?_eq_some_iff.1 hu).1
    rw [uc_length, h.len] at this
    omega
  · rw [cell_of_row w b _ _ _ _ e]
    exact f j u hu
theorem Ul.at {w : World} {b off n c : Nat} {l : List Nat} (h : Ul w b off n c l) {i x : Nat} (hx : l[i]? = some x) : w.cell? ⟨b, off + i, none⟩ = some (.int .u64 (x : Nat)) := by
  have := h.cells i _ (uc_at hx)
  rwa [Addr.add_lit] at this
theorem Ul.small {w : World} {b off n c : Nat} {l : List Nat} (h : Ul w b off n c l) : n ≤ c ∧ c ≤ 9223372036854775807 := by
  have := h.cap; unfold maxLen at this; have := h.le; omega
/-- A row without its first one. -/
theorem Ul.rest {w : World} {b off n c : Nat} {l : List Nat} (h : Ul w b off n c l) (hn : 1 ≤ n) : ∃ b' off', (if c = 1 then (some ⟨b, off, none⟩ : Option Addr) else some ⟨b, off + 1, none⟩) = some ⟨b', off', none⟩ ∧ Ul w b' off' (n - 1) (c - 1) l.tail := by
  have hl := h.len
  have hle := h.le
  have hc := h.cap
  by_cases e : c = 1
  · refine ⟨b, off, if_pos e, ⟨by rw [List.length_tail]; omega, by omega, by omega, .inl (by omega)⟩⟩
  · refine ⟨b, off + 1, if_neg e, ⟨by rw [List.length_tail]; omega, by omega, by omega, ?_⟩⟩
    rcases h.out with h0 | ⟨cs, fr, e1, f⟩
    · omega
    · refine .inr ⟨cs, fr, e1, fun j u hu => ?_⟩
      cases l with
      | nil => simp [uc] at hu
      | cons x r =>
        have := f (j + 1) u (by simpa [uc] using hu)
        rwa [show off + (j + 1) = off + 1 + j by omega] at this
/-- A row that was just made. -/
theorem ul_of {w : World} {B g n c : Nat} {l : List Nat} (o : w.ownsRow B 31 1 (.slice (some ⟨g, 0, none⟩) n c) n (uc l)) : Ul w g 0 n c l := by
  have hl := o.1
  rw [uc_length] at hl
  rcases o.2 with ⟨h1, _⟩ | ⟨g', cap, cur, h1, hB, hg, hn, hm, hs, ht⟩
  · injection h1 with h1; cases h1
  · injection h1 with h1 _ h2
    injection h1 with h1
    injection h1 with h1
    subst h1
    subst h2
    refine ⟨by omega, hn, hm, .inr ⟨cur, (0, 0), hg, fun j u hu => ?_⟩⟩
    rw [← ht, List.getElem?_take] at hu
    split at hu
    · rw [Nat.zero_add]; simpa using hu
    · cases hu

set_option maxRecDepth 100000 in
set_option maxHeartbeats 1000000 in
theorem uhas_walk {w : World} {b off n c : Nat} {l : List Nat} (h : Ul w b off n c l) (z : Nat) :
    Calls Try.prog 11 #[.slice (some ⟨b, off, none⟩) n c, .int .u64 (z : Nat)] w fun e w' => e = .returned (.bool (decide (z ∈ l))) ∧ w' = w := by
  have hsm := h.small
  have H : Hid (Ul w b off n c l) := h
  have HL : Hid (l.length = n) := h.len
  clear h
  generalize hd : decide (z ∈ l) = d
  have HD : Hid (decide (z ∈ l) = d) := hd
  clear hd
  go_enter Try.func11, Try.ntmps11
  go_wp2
  go_loopg [5] n (fun g s5 wr => ∃ i : Nat, s5 = .int .i64 (i : Nat) ∧ i ≤ n ∧ n - i ≤ g ∧ wr = w ∧ Hid (¬ z ∈ l.take i))
  case atStart => exact ⟨0, rfl, Nat.zero_le _, by omega, rfl, (by show ¬ z ∈ l.take 0; simp)⟩
  case round =>
    obtain ⟨i, rfl, hi, hg, hwr, HK⟩ := hrel
    subst hwr
    by_cases hlt : i < n
    · obtain ⟨x, hx⟩ : ∃ x, l[i]? = some x := ⟨_, List.getElem?_eq_getElem (by rw [HL.out]; omega)⟩
      have c0 := H.out.at hx
      by_cases hxz : x = z
      · have he : d = true := by rw [← HD.out]; exact decide_eq_true (by rw [← hxz]; exact List.mem_of_getElem? hx)
        subst hxz
        clear hx HK
        go_wp2
        go_ret
        exact ⟨by rw [he]; rfl, rfl⟩
      · have HN : Hid (¬ z ∈ l.take (i + 1)) := by
          show ¬ z ∈ l.take (i + 1)
          rw [List.take_add_one, hx]
          simp
          exact ⟨HK.out, fun e => hxz e.symm⟩
        have hb : ((x : Int) == (z : Int)) = false := by simp; omega
        clear hx HK
        go_wp2
        go_roundg (n - (i + 1))
        case measure => omega
        case rel => exact ⟨i + 1, by go_num, by omega, Nat.le_refl _, rfl, HN⟩
    · obtain rfl : i = n := by omega
      have he : d = false := by
        rw [← HD.out]
        have := HK.out
        rw [List.take_of_length_le (by rw [HL.out]; exact Nat.le_refl _)] at this
        exact decide_eq_false this
      clear HK
      go_wp2
      go_ret
      exact ⟨by rw [he]; rfl, rfl⟩
end Go.Proofs.Ytabbfoaojmhajaa.Q
