/- The iterator over the numbers of a set. Conditions: the library's table is laid; those that each row names. -/
import Derived.Shelf.Spec.TrailingZeros
import Derived.Test.YtanccfbbaeocaaaLG
import Derived.Test.YtanccfbbaeocaaaLD
import Derived.Deep.CutRange
namespace Go.Proofs.Ytanccfbbaeocaaa.Bt
open Go.RowKit Go.Shelf
attribute [local go_sem] Oper.semAt_some

theorem ctz_bits (x : Nat) (hx : x < 18446744073709551616) (hx0 : x ≠ 0) : Lib.ctz 64 x < 64 ∧ x.testBit (Lib.ctz 64 x) = true ∧ ∀ i, i < Lib.ctz 64 x → x.testBit i = false := by
  unfold Lib.ctz
  rw [if_neg hx0]
  obtain ⟨m, hm, hc⟩ := Lib.ctzFrom_spec 64 x (by omega) hx
  generalize Lib.ctzFrom 64 x = c at hm hc ⊢
  subst hm
  refine ⟨hc, ?_, fun i hi => ?_⟩
  · rw [Nat.testBit_two_pow_mul]
    simp
  · rw [Nat.testBit_two_pow_mul]
    simp; omega

/-- What a round keeps: all below a block, and all sets and parts. -/
structure Kt (n₀ : Nat) (W W' : World) : Prop where
  below : Below n₀ W W'
  rows : ∀ (b : Nat) (cs : Array Value) (ty : TypeId) (fr : Nat × Nat), W.heap[b]? = some (.cells cs ty fr) → (ty = 25 ∨ ty = 42) → W'.heap[b]? = some (.cells cs ty fr)
theorem Kt.refl (n₀ : Nat) (W : World) : Kt n₀ W W := ⟨Below.refl _ _, fun _ _ _ _ h _ => h⟩
theorem Kt.trans {n₀ : Nat} {A B C : World} (h : Kt n₀ A B) (k : Kt n₀ B C) : Kt n₀ A C := ⟨h.below.trans k.below, fun b cs ty fr hb ht => k.rows b cs ty fr (h.rows b cs ty fr hb ht) ht⟩
theorem Kt.ofKept {n₀ : Nat} {A B : World} (k : Kept A B) (h : n₀ ≤ A.heap.size) : Kt n₀ A B := ⟨k.out.mono h, fun _ _ _ _ hb _ => k.block hb⟩
theorem kt_b {n₀ : Nat} {w : World} (hn : n₀ ≤ w.heap.size) (W : World) (l : Nat) (o o' : Obj) (hl : w.heap.size ≤ l) (h : W.heap[l]? = some o) (hc : o.isCells = false) (hw : o.isWalk = false) : Kt n₀ W (W.putObj l o') := by
  refine ⟨belowK_b hn W l o o' hl h hc hw, fun b cs ty fr hb _ => ?_⟩
  have hne : b ≠ l := by
    rintro rfl
    rw [h] at hb
    cases hb
    cases hc
  exact (World.putObj_heap_other hne).trans hb
/-- What the iterator has in memory. -/
structure Ai (w₀ : World) (bs : Nat) (vs : Value) (W : World) : Prop where
  kept : Kept w₀ W
  s : W.heap[bs]? = some (.cells #[vs] 25)
theorem Ai.more {w₀ : World} {bs : Nat} {vs : Value} {W W' : World} (h : Ai w₀ bs vs W) (k : Kept W W') : Ai w₀ bs vs W' := ⟨h.kept.trans k, k.block h.s⟩
theorem Ai.kt {w₀ : World} {bs : Nat} {vs : Value} {W W' : World} (h : Ai w₀ bs vs W) (k : Kt w₀.heap.size W W') : Ai w₀ bs vs W' := ⟨⟨h.kept.out.trans k.below⟩, k.rows _ _ _ _ h.s (.inl rfl)⟩
theorem cells2 {W : World} {b : Nat} {c0 c1 : Value} {t : TypeId} (h : W.heap[b]? = some (.cells #[c0, c1] t)) : W.cell? ⟨b, 0, none⟩ = some c0 ∧ W.cell? ⟨b, 1, none⟩ = some c1 :=
  ⟨by rw [cell_of_row _ b 0 _ _ _ h]; rfl, by rw [cell_of_row _ b 1 _ _ _ h]; rfl⟩
theorem nm_drop {P : List Pt} {i : Nat} {x : Pt} (h : P[i]? = some x) : nm (P.drop i) = ((bsw x.2).map fun j => x.1 * 64 + j) ++ nm (P.drop (i + 1)) := by rw [drop_at h, nm_cons]
theorem and_one_less (u : Nat) (hu : u < 18446744073709551616) (h0 : u ≠ 0) : IntKind.u64.wrap ((u : Int) - 1) = ((u - 1 : Nat) : Int) ∧ bits .and .u64 (u : Int) ((u - 1 : Nat) : Int) = ((u &&& (u - 1) : Nat) : Int) :=
  ⟨by rw [IntKind.wrap_u64]; omega, u64_and_nat u (u - 1) hu (by omega)⟩

/-- What a round leaves, whether it goes on or not. -/
structure Yp (J Jx : List Nat → World → Prop) (n₀ : Nat) (pre : List Nat) (W : World) (b : Bool) (W' : World) : Prop where
  on : b = true → J pre W' ∧ Kt n₀ W W'
  off : b = false → Jx pre W'
/-- A number as it is handed over; whatever is named is made one that may be. -/
def enq (y : Nat) : Array Value := #[.int .i64 ((y % 1048576 : Nat) : Int)]
end Go.Proofs.Ytanccfbbaeocaaa.Bt
