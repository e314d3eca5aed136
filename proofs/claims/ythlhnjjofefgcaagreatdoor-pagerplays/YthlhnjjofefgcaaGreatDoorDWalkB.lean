/- What cuts and fates are in memory, and the walks of slices.Clone at cuts and of disk.own: a copy that says the same, in memory of its own. Conditions: no more than 5 cuts; each one's fates take at most 2^47 bytes. -/
import Derived.Test.YthlhnjjofefgcaaGreatDoorDWalkA
import Derived.Test.YthlhnjjofefgcaaGreatDoorDShelf
namespace Go.Proofs.YthlhnjjofefgcaaGreatDoor.D
open Go.ChangeShapes Go.WideShapes Go.ChangeAt Go.RowKit

/-- A type of which no block turns while a disk is used. -/
def Calm (t : TypeId) : Prop := t ≠ 81 ∧ t ≠ 86 ∧ t ≠ 115

/-- What a disk's acts leave as it was: all below B, and all blocks of calm types. -/
structure On (B : Nat) (w w' : World) : Prop where
  below : Below B w w'
  rows : ∀ (b : Nat) (cs : Array Value) (t : TypeId) (fr : Nat × Nat), w.heap[b]? = some (.cells cs t fr) → Calm t → w'.heap[b]? = some (.cells cs t fr)
  maps : ∀ (b : Nat) (es : Array MapEntry) (c : Nat), w.heap[b]? = some (.map es c) → w'.heap[b]? = some (.map es c)

theorem On.refl (B : Nat) (w : World) : On B w w := ⟨Below.refl _ _, fun _ _ _ _ h _ => h, fun _ _ _ h => h⟩
theorem On.trans {B : Nat} {a b c : World} (h : On B a b) (k : On B b c) : On B a c := ⟨h.below.trans k.below, fun x cs t fr hx ht => k.rows x cs t fr (h.rows x cs t fr hx ht) ht, fun x es c hx => k.maps x es c (h.maps x es c hx)⟩
theorem On.mono {B B' : Nat} {w w' : World} (h : On B w w') (hB : B' ≤ B) : On B' w w' := ⟨h.below.mono hB, h.rows, h.maps⟩
theorem On.size {B : Nat} {w w' : World} (h : On B w w') : w.heap.size ≤ w'.heap.size := h.below.size
theorem On.drew {B : Nat} {a b : World} (h : On B a b) : On B a b.drew := ⟨h.below.drew, h.rows, h.maps⟩
theorem Kept.on {w w' : World} (h : Kept w w') {B : Nat} (hB : B ≤ w.heap.size) : On B w w' := ⟨h.out.mono hB, fun _ _ _ _ hx _ => h.block hx, fun _ _ _ hx => h.block hx⟩
theorem On.kept {B : Nat} {a b c : World} (h : On B a b) (k : Kept b c) (hB : B ≤ a.heap.size) : On B a c := h.trans (k.on (Nat.le_trans hB h.size))
theorem On.alloc {B : Nat} {a b : World} (h : On B a b) (hB : B ≤ a.heap.size) (o : Obj) : On B a (b.alloc o) := h.kept ((Kept.refl b).alloc o) hB
theorem On.setCell {B : Nat} {a b : World} (h : On B a b) {g : Nat} (hg : B ≤ g) {cs : Array Value} {t : TypeId} {fr : Nat × Nat} (hb : b.heap[g]? = some (.cells cs t fr)) (ht : ¬ Calm t) (i : Nat) (u : Value) : On B a (b.setCell ⟨g, i, none⟩ u) := by
  refine ⟨h.below.setCell hg u, fun x cs' t' fr' hx hc => ?_, fun x es c hx => ?_⟩
  case refine_2 =>
    have h1 := h.maps x es c hx
    have hne : x ≠ g := by
      intro e
      subst e
      rw [hb] at h1
      injection h1 with h1
      cases h1
    rw [Below.heap_setCell b ⟨g, i, none⟩ u x hne]
    exact h1
  have h1 := h.rows x cs' t' fr' hx hc
  have hne : x ≠ g := by
    intro e
    subst e
    rw [hb] at h1
    injection h1 with h1
    injection h1 with _ e2 _
    exact ht (e2 ▸ hc)
  rw [Below.heap_setCell b ⟨g, i, none⟩ u x hne]
  exact h1
theorem On.grown {B : Nat} {a b c : World} (h : On B a b) (hB : B ≤ a.heap.size) {row : Option Nat} (hg : b.grownBy c row) (hr : ∀ k, row = some k → B ≤ k ∧ ∃ cs t fr, b.heap[k]? = some (.cells cs t fr) ∧ ¬ Calm t) : On B a c := by
  refine ⟨h.below.grown hg (Nat.le_trans hB h.size) (fun k e => (hr k e).1), fun x cs' t' fr' hx hc => ?_, fun x es c0 hx => ?_⟩
  case refine_2 =>
    have h1 := h.maps x es c0 hx
    have hlt : x < b.heap.size := (Array.getElem?_eq_some_iff.1 h1).1
    rw [hg.block x hlt (fun e => ?_)]
    · exact h1
    · obtain ⟨_, cs, t, fr, hb, ht⟩ := hr x e.symm
      rw [hb] at h1
      injection h1 with h1
      cases h1
  have h1 := h.rows x cs' t' fr' hx hc
  have hlt : x < b.heap.size := (Array.getElem?_eq_some_iff.1 h1).1
  rw [hg.block x hlt (fun e => ?_)]
  · exact h1
  · obtain ⟨_, cs, t, fr, hb, ht⟩ := hr x e.symm
    rw [hb] at h1
    injection h1 with h1
    injection h1 with _ e2 _
    exact ht (e2 ▸ hc)

/-- A type of a disk's blocks. -/
def Quiet (t : TypeId) : Prop := t = 81 ∨ t = 86 ∨ t = 115 ∨ t = 3 ∨ t = 48

/-- A block that stays as it is. -/
def Sb (B : Nat) (w : World) (b : Nat) : Prop := b < B ∨ ∃ cs t fr, w.heap[b]? = some (.cells cs t fr) ∧ Calm t ∧ Quiet t

theorem On.sb {B : Nat} {w w' : World} (h : On B w w') {b : Nat} (k : Sb B w b) : Sb B w' b ∧ w'.heap[b]? = w.heap[b]? := by
  rcases k with k | ⟨cs, t, fr, k, ht, hn⟩
  · exact ⟨.inl k, h.below.block b k⟩
  · have := h.rows b cs t fr k ht
    exact ⟨.inr ⟨cs, t, fr, this, ht, hn⟩, this.trans k.symm⟩
theorem On.sbCell {B : Nat} {w w' : World} (h : On B w w') {b : Nat} (k : Sb B w b) (i : Nat) : w'.cell? ⟨b, i, none⟩ = w.cell? ⟨b, i, none⟩ :=
  World.cell?_of_block (w := w) (h.sb k).2

/-- A cut: in which act, and what becomes of what waits. -/
structure Ct where
  at_ : Int
  fates : List Int

/-- Fates in memory. -/
structure FatesAt (B : Nat) (w : World) (v : Value) (l : List Int) : Prop where
  out : ∃ p c, v = .slice p l.length c ∧ ∀ j, j < l.length → ∃ b off, p = some ⟨b, off, none⟩ ∧ Sb B w b ∧ w.cell? ⟨b, off + j, none⟩ = some (.int .i64 (l.getD j 0))

/-- Cuts in memory. -/
structure CutsAt (B : Nat) (w : World) (v : Value) (l : List Ct) : Prop where
  out : ∃ p c, v = .slice p l.length c ∧ l.length ≤ c ∧ c ≤ maxLen ∧ ∀ j (h : j < l.length), ∃ b off vf, p = some ⟨b, off, none⟩ ∧ Sb B w b ∧ w.cell? ⟨b, off + j * 2, none⟩ = some (.int .i64 l[j].at_) ∧
    w.cell? ⟨b, off + j * 2 + 1, none⟩ = some vf ∧ FatesAt B w vf l[j].fates

theorem FatesAt.on {B : Nat} {w w' : World} {v : Value} {l : List Int} (h : FatesAt B w v l) (k : On B w w') : FatesAt B w' v l := by
  obtain ⟨p, c, hv, hc⟩ := h.out
  refine ⟨p, c, hv, fun j hj => ?_⟩
  obtain ⟨b, off, hp, hs, hx⟩ := hc j hj
  exact ⟨b, off, hp, (k.sb hs).1, (k.sbCell hs _).trans hx⟩
theorem CutsAt.on {B : Nat} {w w' : World} {v : Value} {l : List Ct} (h : CutsAt B w v l) (k : On B w w') : CutsAt B w' v l := by
  obtain ⟨p, c, hv, h1, h2, hc⟩ := h.out
  refine ⟨p, c, hv, h1, h2, fun j hj => ?_⟩
  obtain ⟨b, off, vf, hp, hs, hx, hy, hf⟩ := hc j hj
  exact ⟨b, off, vf, hp, (k.sb hs).1, (k.sbCell hs _).trans hx, (k.sbCell hs _).trans hy, hf.on k⟩

theorem calm3 : Calm 3 ∧ Quiet 3 := by unfold Calm Quiet; decide
theorem calm48 : Calm 48 ∧ Quiet 48 := by unfold Calm Quiet; decide

/-- A row of one's own holds fates. -/
theorem FatesAt.own {base : Nat} {w : World} {v : Value} {l : List Int} {B : Nat} (h : w.ownsRow base 3 1 v l.length (l.map (Value.int .i64))) : FatesAt B w v l := by
  rcases h.2 with ⟨rfl, hn⟩ | ⟨g, cap, cur, rfl, _, hg, _⟩
  · refine ⟨none, 0, ?_, fun j hj => ?_⟩
    · rw [hn]
    · omega
  · refine ⟨_, _, rfl, fun j hj => ⟨g, 0, rfl, .inr ⟨_, _, _, hg, calm3⟩, ?_⟩⟩
    have := h.cellAt j (by omega)
    rw [Nat.zero_add, this]
    simp [List.getD, hj]

theorem clone_fates (B : Nat) {v : Value} {l : List Int} {w : World} (h : FatesAt B w v l) (hl : l.length * 8 ≤ 140737488355328) :
    Calls Tryz.prog 60 #[v] w fun e w' => ∃ v', e = .returned v' ∧ w'.ownsRow w.heap.size 3 1 v' l.length (l.map (Value.int .i64)) ∧ Kept w w' := by
  obtain ⟨p, c, rfl, hc⟩ := h.out
  cases p with
  | none =>
    have hl0 : l = [] := by
      cases l with
      | nil => rfl
      | cons x r => obtain ⟨b, off, hp, _⟩ := hc 0 (by simp); exact absurd hp (by simp)
    subst hl0
    refine (Tryz.slices_Clone_int_nil _ _ w).mono ?_
    rintro e w' ⟨rfl, rfl⟩
    exact ⟨_, rfl, World.ownsRow_nil _ _ _ _, Kept.refl _⟩
  | some a =>
    by_cases hl0 : l = []
    · subst hl0
      refine (Tryz.slices_Clone_int_zero a c w).mono ?_
      rintro e w' ⟨v', rfl, ho, _, hk⟩
      exact ⟨_, rfl, ho, ⟨hk⟩⟩
    · have hpos : 0 < l.length := List.length_pos_iff.2 hl0
      obtain ⟨b, off, hp, _, _⟩ := hc 0 hpos
      injection hp with hp
      subst hp
      refine (Tryz.slices_Clone_int b off l.length c l w (Nat.le_refl _) hl (fun j hj => ?_)).mono ?_
      · obtain ⟨b', off', hp', _, hx⟩ := hc j hj
        injection hp' with hp'
        injection hp' with e1 e2
        subst e1 e2
        exact hx
      · rintro e w' ⟨v', rfl, ho, _, hk⟩
        rw [List.take_length] at ho
        exact ⟨_, rfl, ho, ⟨hk⟩⟩

theorem info48 : (Tryz.prog.info? 48).map (fun i => (i.zero, i.size, i.bytes)) = some (some (.agg #[.int .i64 0, .slice none 0 0]), 2, 32) := by kernel_rfl

/-- Cuts as cells: what each one's fates are, as a value. -/
def cutCells : List Ct → (Nat → Value) → Nat → List Value
  | [], _, _ => []
  | c :: r, f, k => .int .i64 c.at_ :: f k :: cutCells r f (k + 1)

theorem cutCells_length (f : Nat → Value) : ∀ (l : List Ct) (k : Nat), (cutCells l f k).length = l.length * 2
  | [], _ => rfl
  | c :: r, k => by simp [cutCells, cutCells_length f r (k + 1)]; omega

theorem cutCells_get (f : Nat → Value) : ∀ (l : List Ct) (k j : Nat) (h : j < l.length), (cutCells l f k)[j * 2]? = some (.int .i64 l[j].at_) ∧ (cutCells l f k)[j * 2 + 1]? = some (f (k + j))
  | c :: r, k, 0, _ => by simp [cutCells]
  | c :: r, k, j + 1, h => by
    have := cutCells_get f r (k + 1) j (by simpa using h)
    rw [show (j + 1) * 2 = j * 2 + 2 by omega]
    simp only [cutCells, List.getElem?_cons_succ, List.getElem_cons_succ]
    rw [this.1, this.2, show k + 1 + j = k + (j + 1) by omega]
    exact ⟨rfl, rfl⟩

theorem cutCells_one (f : Nat → Value) (hf : ∀ k, (f k).oneCell' = true) : ∀ (l : List Ct) (k : Nat), ∀ u ∈ cutCells l f k, u.oneCell' = true
  | [], _, u, hu => by simp [cutCells] at hu
  | c :: r, k, u, hu => by
    simp only [cutCells, List.mem_cons] at hu
    rcases hu with rfl | rfl | hu
    · rfl
    · exact hf k
    · exact cutCells_one f hf r (k + 1) u hu

set_option maxHeartbeats 2000000 in
set_option maxRecDepth 100000 in
theorem clone_cuts_walk {a : Addr} {l : List Ct} {c : Nat} {w : World} (f : Nat → Value) (hf : ∀ k, (f k).oneCell' = true) (hl : l.length ≤ 5)
    (hc : ∀ j u, (cutCells l f 0)[j]? = some u → w.cell? (a.add j) = some u) :
    Calls Tryz.prog 59 #[.slice (some a) l.length c] w fun e w' => ∃ v', e = .returned v' ∧ w'.ownsRow w.heap.size 48 2 v' l.length (cutCells l f 0) ∧ v' ≠ .slice none 0 0 ∧ Kept w w' := by
  obtain ⟨i0, hi, hz0, hz1, hz2⟩ := info_parts info48
  have A : Aside (∀ j u, (cutCells l f 0)[j]? = some u → w.cell? (a.add j) = some u) := hc
  clear hc
  have q22 : ∀ (w : World) (a : Option Addr) (n c n' c' : Nat), (binOp .eql 49 (.slice a n c) (.slice none n' c')).run Tryz.prog w = .ok (.bool a.isNone) w := fun w a n c n' c' => Lib.run_eql_slice_nil w _ _ a n c n' c' Tryz.underlying49
  go_enter Tryz.func59, Tryz.ntmps59
  go_wp2_with (at_builtin; refine wpList_append_own _ rfl _ _ 49 rfl w.heap.size 48 i0 (.agg #[.int .i64 0, .slice none 0 0]) 2 32 Tryz.underlying49 hi hz0 hz1 hz2 rfl (by decide) _ _ _ rfl (World.ownsRow_made w #[] 0 (Nat.le_refl _) (Nat.zero_le _) rfl) a l.length c (cutCells l f 0) rfl ?qc1 ?qc2 ?qc3 ?qc4 ?qc5 ?qc6 ?_)
  case qc1 => exact cutCells_length f l 0
  case qc2 =>
    intro j u hj
    exact Lib.cell?_alloc_some _ (A.out j u hj)
  case qc3 => exact cutCells_one f hf l 0
  case qc4 => unfold maxLen; omega
  case qc5 => omega
  case qc6 => simp
  intro v' w1 hown hgrow hnil
  go_wp2
  go_ret
  refine ⟨v', rfl, by simpa using hown, ?_, ?_⟩
  · exact hnil
  · exact ⟨((Below.refl _ w).alloc (Nat.le_refl _) _).grown hgrow (by simp) (by intro k hk; simp [Value.ownBlock] at hk; omega)⟩

theorem clone_cuts_nil (n c : Nat) (w : World) :
    Calls Tryz.prog 59 #[.slice none n c] w fun e w' => e = .returned (.slice none 0 0) ∧ w' = w := by
  have q22 : ∀ (w : World) (a : Option Addr) (n c n' c' : Nat), (binOp .eql 49 (.slice a n c) (.slice none n' c')).run Tryz.prog w = .ok (.bool a.isNone) w := fun w a n c n' c' => Lib.run_eql_slice_nil w _ _ a n c n' c' Tryz.underlying49
  go_enter Tryz.func59, Tryz.ntmps59
  go_wp2
  go_ret
  exact ⟨rfl, rfl⟩
end Go.Proofs.YthlhnjjofefgcaaGreatDoor.D
