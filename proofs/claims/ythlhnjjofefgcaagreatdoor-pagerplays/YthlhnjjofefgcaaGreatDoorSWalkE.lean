/- The walks of First, Copy, the statements' own first, and awake. Conditions: no more than 4096 places; the library's table is laid. -/
import Derived.Test.YthlhnjjofefgcaaGreatDoorSWalkD
import Derived.OwnWalk
import Derived.Laws.CopyOwn
import Derived.Laws.OwnMore
namespace Go.Proofs.YthlhnjjofefgcaaGreatDoor.S
open Go.ChangeShapes Go.WideShapes Go.ChangeAt Go.RowKit

/-- The first free place from one on; -1: there is none. -/
def IsFirst (u : Nat → Bool) (m k : Nat) (r : Int) : Prop :=
  (∃ i : Nat, r = i ∧ k ≤ i ∧ i < m ∧ u i = false ∧ ∀ j, k ≤ j → j < i → u j = true) ∨ (r = -1 ∧ ∀ j, k ≤ j → j < m → u j = true)

theorem IsFirst.unique {u : Nat → Bool} {m k : Nat} {r s : Int} (h : IsFirst u m k r) (g : IsFirst u m k s) : r = s := by
  rcases h with ⟨i, rfl, h1, h2, h3, h4⟩ | ⟨rfl, h1⟩
  · rcases g with ⟨i', rfl, g1, g2, g3, g4⟩ | ⟨rfl, g1⟩
    · rcases Nat.lt_trichotomy i i' with c | c | c
      · rw [g4 i h1 c] at h3; cases h3
      · rw [c]
      · rw [h4 i' g1 c] at g3; cases g3
    · rw [g1 i h1 h2] at h3; cases h3
  · rcases g with ⟨i', rfl, g1, g2, g3, g4⟩ | ⟨rfl, g1⟩
    · rw [h1 i' g1 g2] at g3; cases g3
    · rfl
theorem IsFirst.congr {u v : Nat → Bool} {m k : Nat} {r : Int} (h : IsFirst u m k r) (e : ∀ i, i < m → u i = v i) : IsFirst v m k r := by
  rcases h with ⟨i, rfl, h1, h2, h3, h4⟩ | ⟨rfl, h1⟩
  · exact .inl ⟨i, rfl, h1, h2, by rw [← e i h2]; exact h3, fun j a b => by rw [← e j (by omega)]; exact h4 j a b⟩
  · exact .inr ⟨rfl, fun j a b => by rw [← e j b]; exact h1 j a b⟩

set_option maxRecDepth 100000 in
theorem first_at {B : Nat} {w : World} {b m l : Nat} {u : Nat → Bool} (h : SAt B w b m l u) (hL : Lds w) (n : Int) (hn : n < 9223372036854775808) :
    Calls Tryz.prog 26 #[.pointer (some ⟨b, 0, none⟩), .int .i64 n] w fun e w' => ∃ r : Int, e = .returned (.int .i64 r) ∧ IsFirst u m n.toNat r ∧ w' = w := by
  obtain ⟨ws, v, k, _⟩ := h.out
  obtain ⟨c0, c1, c2⟩ := k.cell
  have hm := k.few
  have hf := from_walk h hL n.toNat (by omega)
  clear k c1 c2
  obtain ⟨q, hq⟩ : ∃ q : Nat, n.toNat = q := ⟨_, rfl⟩
  rw [hq] at hf ⊢
  by_cases h0 : 0 ≤ n
  · obtain rfl : n = (q : Int) := by omega
    have hq0 : (0 : Int) ≤ (q : Int) := by omega
    clear hq h0 hn
    go_enter Tryz.func26, Tryz.ntmps26
    go_wp2_with (go_at_call 44; refine hf.mono ?_; rintro e w' ⟨r, rfl, hr, rfl⟩)
    · go_ret
      exact ⟨_, rfl, .inr ⟨rfl, fun j a b => hr.used j a (by omega)⟩, rfl⟩
    · go_ret
      exact ⟨_, rfl, .inl ⟨r, rfl, hr.le, by omega, hr.free, hr.used⟩, rfl⟩
  · obtain rfl : q = 0 := by omega
    clear hq
    have hf' : Calls Tryz.prog 44 #[.pointer (some ⟨b, 0, none⟩), .int .i64 0] w fun e w' => ∃ r : Nat, e = .returned (.int .i64 (r : Nat)) ∧ FreeFrom u 0 r ∧ w' = w := hf
    clear hf
    go_enter Tryz.func26, Tryz.ntmps26
    go_wp2_with (go_at_call 44; refine hf'.mono ?_; rintro e w' ⟨r, rfl, hr, rfl⟩)
    · go_ret
      exact ⟨_, rfl, .inr ⟨rfl, fun j a b => hr.used j a (by omega)⟩, rfl⟩
    · go_ret
      exact ⟨_, rfl, .inl ⟨r, rfl, hr.le, by omega, hr.free, hr.used⟩, rfl⟩

/-- What is used, as the statement keeps it. -/
structure UAt (w : World) (v : Value) (us : List Bool) : Prop where
  row : w.ownsRow 0 4 1 v us.length (us.map Value.bool)
  form : ∃ g c, v = .slice (some ⟨g, 0, none⟩) us.length c

/-- The statement's list as a function. -/
def usedIn (us : List Bool) (n : Nat) : Bool := us.getD n true

theorem UAt.cell {w : World} {g c : Nat} {us : List Bool} (h : UAt w (.slice (some ⟨g, 0, none⟩) us.length c) us) (j : Nat) (hj : j < us.length) : w.cell? ⟨g, j, none⟩ = some (.bool (usedIn us j)) ∧ w.frozen? ⟨g, j, none⟩ = false := by
  have h1 := h.row.cells (g := g) rfl j (.bool us[j]) (by simp [hj])
  have h2 : usedIn us j = us[j] := by unfold usedIn; rw [List.getD_eq_getElem?_getD, List.getElem?_eq_getElem hj]; rfl
  rw [h2]
  refine ⟨by simpa [Addr.add_lit] using h1, ?_⟩
  rcases h.row.2 with ⟨e, _⟩ | ⟨g', cap, cur, e, _, hg, _⟩
  · cases e
  · injection e with e
    injection e with e
    injection e with e
    subst e
    exact frozen_of_row w g j _ _ hg

theorem grown_none {a b : World} (h : a.grownBy b none) : Kept a b := ⟨(Below.refl _ a).grown h (Nat.le_refl _) (fun _ e => by cases e)⟩

/-- A row made at its full length. -/
theorem made_row {w w1 : World} {e : TypeId} {n : Nat} {z : Value} (ow : w1.ownsRow w.heap.size e 1 (.slice (some ⟨w.heap.size, 0, none⟩) n n) n (madeCells #[z] (n * 1)).toList) :
    w1.heap[w.heap.size]? = some (.cells (List.replicate n z).toArray e) := by
  rcases ow.2 with ⟨e, _⟩ | ⟨g, cap, cur, e, h1, h2, h3, h4, h5, h6⟩
  · cases e
  · injection e with e1 e2 e3
    injection e1 with e1
    injection e1 with e1
    subst e1
    subst e3
    rw [h2]
    rw [toList_madeCells_one, Nat.mul_one] at h6
    have : cur = (List.replicate n z).toArray := by
      apply Array.toList_inj.1
      rw [← h6, List.take_of_length_le (by simp; omega)]
    rw [this]

theorem size50 : (Tryz.prog.info? 50).map (·.size) = some 1 := by kernel_rfl

/-- Words copied into a row that was made for them. -/
theorem copied {B : Nat} {w w1 : World} {b m l : Nat} {ws : List Nat} {p : Option Addr} {c g : Nat} (k : PAt B w1 b m l ws (.slice p ws.length c)) (hk : Kept w w1) (hgw : w.heap.size ≤ g) (zs : List Value) (hz : zs.length = ws.length) (hg : w1.heap[g]? = some (.cells zs.toArray 50)) :
    ∃ w2, (Builtin.copy_ #[92, 92] 3 #[.slice (some ⟨g, 0, none⟩) ws.length ws.length, .slice p ws.length c]).run Tryz.prog w1 = .ok (.int .i64 (ws.length : Nat)) w2 ∧ w2.heap[g]? = some (.cells (wsCells ws).toArray 50) ∧ Kept w w2 := by
  by_cases h0 : ws.length = 0
  · have e1 : ws = [] := List.eq_nil_of_length_eq_zero h0
    have e2 : zs = [] := List.eq_nil_of_length_eq_zero (by omega)
    subst e1 e2
    refine ⟨w1, run_copy_none (P := Tryz.prog) w1 92 92 3 50 (some ⟨g, 0, none⟩) p 0 0 0 c Tryz.underlying92 size50 rfl, hg, hk⟩
  · obtain ⟨g', c', e, _, _, _⟩ := k.word_at 0 (by omega)
    injection e with e1 _ _
    subst e1
    have h := run_copy_row (P := Tryz.prog) w1 92 92 3 50 g 0 ws.length ws.length ⟨g', 0, none⟩ ws.length c zs.toArray 50 (wsCells ws) Tryz.underlying92 size50 hg (by rw [wsCells_length]; exact (Nat.min_self _).symm) (fun j v hj => k.row.cells (g := g') rfl j v hj) (by simp [wsCells, hz]) (by
      intro v hv
      simp only [wsCells, List.mem_map] at hv
      obtain ⟨x, _, rfl⟩ := hv
      rfl)
    rw [wsCells_length] at h
    refine ⟨_, h, ?_, hk.setRow hgw _⟩
    rw [setRow_heap w1 g _ _ 50 _ hg]
    simp [hz]

set_option maxHeartbeats 1000000 in
set_option maxRecDepth 100000 in
theorem copy_walk {B : Nat} {w : World} {b m l : Nat} {u : Nat → Bool} (h : SAt B w b m l u) :
    Calls Tryz.prog 32 #[.pointer (some ⟨b, 0, none⟩)] w fun e w' => ∃ b', e = .returned (.pointer (some ⟨b', 0, none⟩)) ∧ SAt w.heap.size w' b' m l u ∧ Kept w w' := by
  obtain ⟨ws, v, k, hu⟩ := h.out
  obtain ⟨i, hi, hz, hs, hby⟩ := info_parts info50
  have hll := k.long
  obtain ⟨w1, mk, ow, gw⟩ := run_makeSlice_full (P := Tryz.prog) w w.heap.size 92 50 i _ 1 Tryz.underlying92 hi hz hs .i64 .i64 ws.length (by omega) (by rw [hby]; omega) (by unfold maxLen; omega) (Nat.le_refl _)
  have k1 := grown_none gw
  obtain ⟨p, c, rfl⟩ := k.form
  obtain ⟨c0, c1, c2⟩ := k.cell
  obtain ⟨d0, d1, d2⟩ := (k.kept k1).cell
  obtain ⟨w2, cp, h2, k2⟩ := copied (k.kept k1) k1 (Nat.le_refl _) _ (by simp) (made_row ow)
  obtain ⟨e0, e1, e2⟩ := (k.kept k2).cell
  have HS : Hid (SAt w.heap.size (w2.alloc (.cells #[.int .i64 (m : Nat), .int .i64 (l : Nat), .slice (some ⟨w.heap.size, 0, none⟩) ws.length ws.length] 94)).drew w2.heap.size m l u) := by
    have hlt := (Array.getElem?_eq_some_iff.1 h2).1
    refine ⟨ws, _, ⟨heap_alloc_new w2 _, ⟨by simp [wsCells], .inr ⟨w.heap.size, ws.length, _, rfl, Nat.le_refl _, ((Kept.refl w2).alloc _).block h2, Nat.le_refl _, by unfold maxLen; omega, by simp [wsCells], by rw [Nat.mul_one, List.take_of_length_le (by simp [wsCells])]⟩⟩, Nat.le_of_lt hlt, k.few, k.free, k.long, k.word⟩, hu⟩
  clear hu ow gw h hi hz hs hby h2 k k1
  go_enter Tryz.func32, Tryz.ntmps32
  go_wp2
  go_region
  go_wp2
  go_ret
  exact ⟨_, rfl, HS.out, (k2.alloc _).drew⟩

theorem first_of_one {r : Int} (h : IsFirst (useAt (fun _ => false) 0) 3 0 r) : r = 1 := by
  refine h.unique (.inl ⟨1, rfl, by decide, by decide, by simp [useAt], ?_⟩)
  intro j _ hj
  have e : j = 0 := by omega
  simp [useAt, e]

end Go.Proofs.YthlhnjjofefgcaaGreatDoor.S
