/- Places whose free ones are counted: the walks of Use and Free at a place that there is, whatever it is. Conditions: no more than 64 places. -/
import Derived.Test.YthlhnjjofefgcaaGreatDoorSOne
namespace Go.Proofs.YthlhnjjofefgcaaGreatDoor.S
open Go.ChangeShapes Go.WideShapes Go.ChangeAt Go.RowKit

/-- How many places are free. -/
def cnt (m : Nat) (u : Nat → Bool) : Nat := (List.range m).countP (fun i => !u i)

theorem cnt_succ (m : Nat) (u : Nat → Bool) : cnt (m + 1) u = cnt m u + (if u m then 0 else 1) := by
  unfold cnt
  rw [List.range_succ, List.countP_append]
  cases h : u m <;> simp [h]
theorem cnt_le (m : Nat) (u : Nat → Bool) : cnt m u ≤ m := by
  induction m with
  | zero => simp [cnt]
  | succ m ih => rw [cnt_succ]; split <;> omega
theorem cnt_congr {m : Nat} {u v : Nat → Bool} (h : ∀ i, i < m → u i = v i) : cnt m u = cnt m v := by
  induction m with
  | zero => simp [cnt]
  | succ m ih => rw [cnt_succ, cnt_succ, ih (fun i hi => h i (by omega)), h m (by omega)]
theorem cnt_use {m n : Nat} {u : Nat → Bool} (hn : n < m) (hu : u n = false) : cnt m u = cnt m (useAt u n) + 1 := by
  induction m with
  | zero => omega
  | succ m ih =>
    rw [cnt_succ, cnt_succ]
    by_cases e : n = m
    · subst e
      rw [hu, cnt_congr (v := useAt u n) (fun i hi => by unfold useAt; rw [if_neg (by omega)])]
      simp [useAt]
    · rw [ih (by omega)]
      have e2 : useAt u n m = u m := by unfold useAt; rw [if_neg (by omega)]
      rw [e2]; omega
theorem cnt_free {m n : Nat} {u : Nat → Bool} (hn : n < m) (hu : u n = true) : cnt m (freeAt u n) = cnt m u + 1 := by
  have e : useAt (freeAt u n) n = u := by
    funext k
    unfold useAt freeAt
    split
    · rename_i e; rw [e, hu]
    · rfl
  have := cnt_use (u := freeAt u n) hn (by unfold freeAt; rw [if_pos rfl])
  rw [e] at this
  exact this

theorem use_same {u : Nat → Bool} {n : Nat} (h : u n = true) : useAt u n = u := by
  funext k; unfold useAt; split
  · rename_i e; rw [e, h]
  · rfl
theorem free_same {u : Nat → Bool} {n : Nat} (h : u n = false) : freeAt u n = u := by
  funext k; unfold freeAt; split
  · rename_i e; rw [e, h]
  · rfl

theorem use_all {w : World} {b g m : Nat} {u : Nat → Bool} (h : SA w b g m (cnt m u) u) (n : Nat) (hn : n < m) :
    Calls Tryz.prog 28 #[.pointer (some ⟨b, 0, none⟩), .int .i64 (n : Nat)] w fun e w' => e = .returned (.bool (!u n)) ∧ SA w' b g m (cnt m (useAt u n)) (useAt u n) ∧ Only b g w w' := by
  cases hu : u n with
  | true =>
    rw [use_same hu]
    refine (use_had h.at n hn hu).mono ?_
    rintro e w' ⟨rfl, rfl⟩
    exact ⟨rfl, h, Only.refl _ _ _⟩
  | false =>
    have hc := cnt_use hn hu
    refine (use_one h n hn hu (by omega)).mono ?_
    rintro e w' ⟨rfl, h1, h2⟩
    refine ⟨rfl, ?_, h2⟩
    rw [show cnt m (useAt u n) = cnt m u - 1 by omega]
    exact h1
theorem free_all {w : World} {b g m : Nat} {u : Nat → Bool} (h : SA w b g m (cnt m u) u) (n : Nat) (hn : n < m) :
    Calls Tryz.prog 29 #[.pointer (some ⟨b, 0, none⟩), .int .i64 (n : Nat)] w fun e w' => e = .returned (.bool (u n)) ∧ SA w' b g m (cnt m (freeAt u n)) (freeAt u n) ∧ Only b g w w' := by
  cases hu : u n with
  | false =>
    rw [free_same hu]
    refine (free_had h.at n hn hu).mono ?_
    rintro e w' ⟨rfl, rfl⟩
    exact ⟨rfl, h, Only.refl _ _ _⟩
  | true =>
    have hc := cnt_free hn hu
    have hl := cnt_le m (freeAt u n)
    refine (free_one h n hn hu (by omega)).mono ?_
    rintro e w' ⟨rfl, h1, h2⟩
    refine ⟨rfl, ?_, h2⟩
    rw [hc]
    exact h1

/-- Places of which the first one is used have a word. -/
theorem SAt.toSA {B : Nat} {w : World} {b m l : Nat} {u : Nat → Bool} (h : SAt B w b m l u) (h0 : u 0 = true) (hm : m ≤ 64) : ∃ g, SA w b g m l u ∧ B ≤ g ∧ B ≤ b := by
  obtain ⟨ws, v, k, hu⟩ := h.out
  have hne : 0 < ws.length := by
    rcases Nat.eq_zero_or_pos ws.length with e | e
    · have e2 : ws = [] := List.eq_nil_of_length_eq_zero e
      rw [hu 0, e2] at h0
      simp [bitOf] at h0
    · exact e
  obtain ⟨g, c, rfl, hg, _, _⟩ := k.word_at 0 hne
  refine ⟨g, ⟨⟨ws, c, ⟨k.blk, ⟨k.row.1, ?_⟩, Nat.zero_le _, k.few, k.free, k.long, k.word⟩, hu, hne⟩, hm⟩, hg, k.leb⟩
  rcases k.row.2 with h4 | ⟨g', cap, cur, e, h5, h6⟩
  · exact .inl h4
  · exact .inr ⟨g', cap, cur, e, Nat.zero_le _, h6⟩
end Go.Proofs.YthlhnjjofefgcaaGreatDoor.S
