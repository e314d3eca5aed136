/- What holds of memory while places are used: all blocks but those of the types of places and of their words stay. No condition. -/
import Derived.Test.YthlhnjjofefgcaaGreatDoorRows
import Derived.WalkKit
import Derived.ProofKit
import Derived.WalkSpells
import Derived.Deep.LoopGhost
import Derived.Below
import Derived.Laws.Bits64b
import Derived.Lib.BufferWrite
import Derived.Lib.AppendZerosOnto
import Derived.Shelf.Spec.TrailingZeros
namespace Go.Proofs.YthlhnjjofefgcaaGreatDoor.S
open Go.ChangeShapes Go.WideShapes Go.ChangeAt Go.RowKit

/-- All blocks that were there are as they were. -/
structure Kept (w w' : World) : Prop where
  out : Below w.heap.size w w'

theorem Kept.refl (w : World) : Kept w w := ⟨Below.refl _ _⟩
theorem Kept.trans {a b c : World} (h : Kept a b) (k : Kept b c) : Kept a c := ⟨h.out.trans (k.out.mono h.out.size)⟩
theorem Kept.drew {a b : World} (h : Kept a b) : Kept a b.drew := ⟨h.out.drew⟩
theorem Kept.alloc {a b : World} (h : Kept a b) (o : Obj) : Kept a (b.alloc o) := ⟨h.out.alloc h.out.size o⟩
theorem Kept.block {w w' : World} (h : Kept w w') {k : Nat} {o : Obj} (hk : w.heap[k]? = some o) : w'.heap[k]? = some o :=
  (h.out.block k (Array.getElem?_eq_some_iff.1 hk).1).trans hk
theorem Kept.size {w w' : World} (h : Kept w w') : w.heap.size ≤ w'.heap.size := h.out.size
theorem Kept.setCell {a b : World} (h : Kept a b) {p : Addr} (hp : a.heap.size ≤ p.block) (u : Value) : Kept a (b.setCell p u) := ⟨h.out.setCell hp u⟩
theorem Kept.setRow {a b : World} (h : Kept a b) {g : Nat} (hp : a.heap.size ≤ g) (cs : Array Value) : Kept a (b.setRow g cs) :=
  ⟨h.out.trans ⟨rfl, rfl, rfl, by simp [World.setRow], fun k hk => setRow_other b g k cs (by omega)⟩⟩
theorem Kept.cell {w w' : World} (h : Kept w w') {a : Addr} {v : Value} (hc : w.cell? a = some v) : w'.cell? a = some v := by
  have hb : a.block < w.heap.size := by
    rcases Nat.lt_or_ge a.block w.heap.size with h | h
    · exact h
    · simp [World.cell?, Array.getElem?_eq_none h] at hc
  rw [World.cell?_of_block (w := w) (h.out.block a.block hb)]
  exact hc

/-- A type of which no block turns while places are used. -/
def Calm (t : TypeId) : Prop := t ≠ 94 ∧ t ≠ 50

/-- What acts on places leave as it was: all below B, and all blocks of calm types. -/
structure On (B : Nat) (w w' : World) : Prop where
  below : Below B w w'
  rows : ∀ (b : Nat) (cs : Array Value) (t : TypeId) (fr : Nat × Nat), w.heap[b]? = some (.cells cs t fr) → Calm t → w'.heap[b]? = some (.cells cs t fr)

theorem On.refl (B : Nat) (w : World) : On B w w := ⟨Below.refl _ _, fun _ _ _ _ h _ => h⟩
theorem On.trans {B : Nat} {a b c : World} (h : On B a b) (k : On B b c) : On B a c := ⟨h.below.trans k.below, fun x cs t fr hx ht => k.rows x cs t fr (h.rows x cs t fr hx ht) ht⟩
theorem On.mono {B B' : Nat} {w w' : World} (h : On B w w') (hB : B' ≤ B) : On B' w w' := ⟨h.below.mono hB, h.rows⟩
theorem On.size {B : Nat} {w w' : World} (h : On B w w') : w.heap.size ≤ w'.heap.size := h.below.size
theorem On.drew {B : Nat} {a b : World} (h : On B a b) : On B a b.drew := ⟨h.below.drew, h.rows⟩
theorem Kept.on {w w' : World} (h : Kept w w') {B : Nat} (hB : B ≤ w.heap.size) : On B w w' := ⟨h.out.mono hB, fun _ _ _ _ hx _ => h.block hx⟩
theorem On.kept {B : Nat} {a b c : World} (h : On B a b) (k : Kept b c) (hB : B ≤ a.heap.size) : On B a c := h.trans (k.on (Nat.le_trans hB h.size))
theorem On.setCell {B : Nat} {a b : World} (h : On B a b) {g : Nat} (hg : B ≤ g) {cs : Array Value} {t : TypeId} {fr : Nat × Nat} (hb : b.heap[g]? = some (.cells cs t fr)) (ht : ¬ Calm t) (i : Nat) (u : Value) : On B a (b.setCell ⟨g, i, none⟩ u) := by
  refine ⟨h.below.setCell hg u, fun x cs' t' fr' hx hc => ?_⟩
  have h1 := h.rows x cs' t' fr' hx hc
  have hne : x ≠ g := by
    intro e
    subst e
    rw [hb] at h1
    injection h1 with h1
    injection h1 with _ e2 _
    exact ht (e2 ▸ hc)
  rw [Below.heap_setCell b ⟨g, i, none⟩ u x hne]
  exact h1
theorem On.grown {B : Nat} {a b c : World} (h : On B a b) (hB : B ≤ a.heap.size) {row : Option Nat} (hg : b.grownBy c row) (hr : ∀ k, row = some k → B ≤ k ∧ ∃ cs t fr, b.heap[k]? = some (.cells cs t fr) ∧ ¬ Calm t) : On B a c := by
  refine ⟨h.below.grown hg (Nat.le_trans hB h.size) (fun k e => (hr k e).1), fun x cs' t' fr' hx hc => ?_⟩
  have h1 := h.rows x cs' t' fr' hx hc
  have hlt : x < b.heap.size := (Array.getElem?_eq_some_iff.1 h1).1
  rw [hg.block x hlt (fun e => ?_)]
  · exact h1
  · obtain ⟨_, cs, t, fr, hb, ht⟩ := hr x e.symm
    rw [hb] at h1
    injection h1 with h1
    injection h1 with _ e2 _
    exact ht (e2 ▸ hc)
theorem not94 : ¬ Calm 94 := fun h => h.1 rfl
theorem not50 : ¬ Calm 50 := fun h => h.2 rfl

/-- The library's table, where it is laid. -/
structure Lds (w : World) : Prop where
  tab : TabAt 0 Lib.deBruijn64tab w
theorem Lds.pos {w : World} (h : Lds w) : 0 < w.heap.size := by
  have h0 := h.tab 0 (by decide)
  rcases Nat.eq_zero_or_pos w.heap.size with e | e
  · simp [World.cell?, Array.getElem?_eq_none (Nat.le_of_eq e)] at h0
  · exact e
theorem Lds.kept {w w' : World} (h : Lds w) (k : Kept w w') : Lds w' := ⟨fun j hj => k.cell (h.tab j hj)⟩
theorem Lds.on {B : Nat} {w w' : World} (h : Lds w) (k : On B w w') (hB : 0 < B) : Lds w' :=
  ⟨fun j hj => (World.cell?_of_block (w := w) (k.below.block 0 hB)).trans (h.tab j hj)⟩

theorem own_kept {w w' : World} (h : Kept w w') {base e size : Nat} {v : Value} {n : Nat} {xs : List Value} (k : w.ownsRow base e size v n xs) : w'.ownsRow base e size v n xs := by
  refine ⟨k.1, ?_⟩
  rcases k.2 with k | ⟨g, cap, cur, h1, h2, h3, h4⟩
  · exact .inl k
  · exact .inr ⟨g, cap, cur, h1, h2, h.block h3, h4⟩
theorem own_set {w : World} {base e size : Nat} {v : Value} {n : Nat} {xs : List Value} (k : w.ownsRow base e size v n xs) {g i : Nat} {cs : Array Value} {t : TypeId} {fr : Nat × Nat} (hg : w.heap[g]? = some (.cells cs t fr)) (ht : t ≠ e) (u : Value) : (w.setCell ⟨g, i, none⟩ u).ownsRow base e size v n xs := by
  refine ⟨k.1, ?_⟩
  rcases k.2 with k | ⟨b, cap, cur, h1, h2, h3, h4⟩
  · exact .inl k
  · refine .inr ⟨b, cap, cur, h1, h2, ?_, h4⟩
    rw [Below.heap_setCell w ⟨g, i, none⟩ u b (fun e => ?_)]
    · exact h3
    · have e' : b = g := e
      subst e'
      rw [h3] at hg
      injection hg with hg
      injection hg with _ e2 _
      exact ht e2.symm
end Go.Proofs.YthlhnjjofefgcaaGreatDoor.S
