/- Slices in memory: that such a slice reads as a list of cells (Rw), that it is one's own (Own); laws on copy and clear of pieces of several cells. Conditions: those that each row names. -/
import Derived.Test.YtgcfollelefmcaaWWalkK
import Derived.Test.YtgcfollelefmcaaLay
import Derived.Laws.CopyRow
import Derived.Laws.OwnMore
import Derived.Laws.MakeOwn
import Derived.Laws.Rows
import Derived.Laws.ResultCell
namespace Go.Proofs.Ytgcfollelefmcaa
open Go.ChangeShapes Go.WideShapes Go.ChangeAt Go.RowKit

/-- A slice in memory: its pieces' cells, sz of them a piece, are these. -/
structure Rw (w : World) (sz : Nat) (p : Option Addr) (n c : Nat) (cs : List Value) : Prop where
  len : cs.length = n * sz
  le : n ≤ c
  cap : c ≤ maxLen
  out : (p = none ∧ n = 0) ∨ ∃ b off, p = some ⟨b, off, none⟩ ∧ ∀ j u, cs[j]? = some u → w.cell? ⟨b, off + j, none⟩ = some u

/-- A slice of one's own: its row lies among the blocks from B on. -/
structure Own (w : World) (B : Nat) (e : TypeId) (sz : Nat) (p : Option Addr) (n c : Nat) (cs : List Value) : Prop where
  out : w.ownsRow B e sz (.slice p n c) n cs

theorem Kept.cell {w w' : World} (h : Kept w w') {a : Addr} {u : Value} (k : w.cell? a = some u) : w'.cell? a = some u :=
  (h.out.cell (World.block_lt_of_cell? w _ k)).trans k

theorem Kept.rw {w w' : World} (h : Kept w w') {sz : Nat} {p : Option Addr} {n c : Nat} {cs : List Value} (k : Rw w sz p n c cs) : Rw w' sz p n c cs :=
  ⟨k.len, k.le, k.cap, k.out.elim .inl fun ⟨b, off, e, f⟩ => .inr ⟨b, off, e, fun j u hu => h.cell (f j u hu)⟩⟩

theorem Kept.grown {w w' : World} (h : Kept w w') (r : Option Nat) : w.grownBy w' r := ⟨h.out.os, h.out.tape, h.out.output, h.out.size, fun i hi _ => h.out.block i hi⟩

theorem Own.kept {w w' : World} {B : Nat} {e : TypeId} {sz : Nat} {p : Option Addr} {n c : Nat} {cs : List Value} (k : Own w B e sz p n c cs) (h : Kept w w') : Own w' B e sz p n c cs :=
  ⟨k.out.kept (h.grown none) (by cases p <;> simp [Value.ownBlock])⟩

theorem Own.mono {w : World} {B B' : Nat} {e : TypeId} {sz : Nat} {p : Option Addr} {n c : Nat} {cs : List Value} (k : Own w B e sz p n c cs) (h : B' ≤ B) : Own w B' e sz p n c cs :=
  ⟨k.out.1, k.out.2.imp id fun ⟨g, cap, cur, a, b, r⟩ => ⟨g, cap, cur, a, Nat.le_trans h b, r⟩⟩

theorem Own.rw {w : World} {B : Nat} {e : TypeId} {sz : Nat} {p : Option Addr} {n c : Nat} {cs : List Value} (k : Own w B e sz p n c cs) : Rw w sz p n c cs := by
  obtain ⟨hl, h⟩ := k.out
  rcases h with ⟨h1, rfl⟩ | ⟨g, cap, cur, h1, hB, hg, hn, hm, hs, ht⟩
  · injection h1 with h1 _ h2
    subst h1; subst h2
    exact ⟨hl, Nat.le_refl _, Nat.zero_le _, .inl ⟨rfl, rfl⟩⟩
  · injection h1 with h1 _ h2
    subst h1; subst h2
    refine ⟨hl, hn, hm, .inr ⟨g, 0, rfl, fun j u hu => ?_⟩⟩
    rw [Nat.zero_add, cell_of_row w g j _ _ _ hg]
    rw [← ht, List.getElem?_take] at hu
    split at hu
    · simpa using hu
    · cases hu

/-- Where it lies. -/
theorem Own.cases {w : World} {B : Nat} {e : TypeId} {sz : Nat} {p : Option Addr} {n c : Nat} {cs : List Value} (k : Own w B e sz p n c cs) :
    (p = none ∧ n = 0 ∧ c = 0 ∧ cs = []) ∨ ∃ g cur, p = some ⟨g, 0, none⟩ ∧ B ≤ g ∧ g < w.heap.size ∧ w.heap[g]? = some (.cells cur e (0, 0)) ∧ n ≤ c ∧ c ≤ maxLen ∧ cur.size = c * sz ∧ cur.toList.take (n * sz) = cs := by
  obtain ⟨hl, h⟩ := k.out
  rcases h with ⟨h1, rfl⟩ | ⟨g, cap, cur, h1, hB, hg, hn, hm, hs, ht⟩
  · injection h1 with h1 _ h2
    exact .inl ⟨h1, rfl, h2, List.length_eq_zero_iff.1 (by simpa using hl)⟩
  · injection h1 with h1 _ h2
    subst h1; subst h2
    exact .inr ⟨g, cur, rfl, hB, (Array.getElem?_eq_some_iff.1 hg).1, hg, hn, hm, hs, ht⟩

theorem Rw.small {w : World} {sz : Nat} {p : Option Addr} {n c : Nat} {cs : List Value} (k : Rw w sz p n c cs) : c ≤ 9223372036854775807 := by
  have := k.cap; unfold maxLen at this; omega

theorem grown_kept {w w' : World} {B : Nat} {r : Option Nat} (W : World) (h : Kept W w) (hg : w.grownBy w' r) (hB : W.heap.size ≤ B) (hr : ∀ k, r = some k → B ≤ k) : Kept W w' :=
  ⟨h.out.grown hg h.size fun k hk => Nat.le_trans hB (hr k hk)⟩

section laws
variable {P : Program}
open Go

/-- copy of pieces of sz cells into a row of one's own. -/
theorem run_copy_rowN (w : World) (dT sT ty elem : TypeId) (sz g o dLen dCap : Nat) (a : Addr) (sLen sCap : Nat) (cur : Array Value) (t : TypeId) (cs : List Value)
    (hu : P.underlying dT = some (.slice elem)) (hs : (P.info? elem).map (·.size) = some sz)
    (hg : w.heap[g]? = some (.cells cur t (0, 0))) (hn : cs.length = Nat.min sLen dLen * sz)
    (hsrc : ∀ j v, cs[j]? = some v → w.cell? (a.add j) = some v) (hfit : o + cs.length ≤ cur.size) (h1 : ∀ v ∈ cs, v.oneCell' = true) :
    (Builtin.copy_ #[dT, sT] ty #[.slice (some ⟨g, o, none⟩) dLen dCap, .slice (some a) sLen sCap]).run P w =
      .ok (goInt (Nat.min sLen dLen)) (w.setRow g (cur.toList.take o ++ cs ++ cur.toList.drop (o + cs.length)).toArray) := by
  have hl := run_loadCells_list (P := P) w a cs hsrc
  have hst := run_storeCells_at P g o t cs 0 cur w hg (by simpa using hfit) h1
  cases hq : P.info? elem with
  | none => simp [hq] at hs
  | some i =>
    have hi : i.size = sz := by simpa [hq] using hs
    simp [Builtin.copy_, run_underlying hu, Builtin.lenOf, Builtin.firstCells, sizeOf, typeInfo, hq, hi, ← hn, hl, hst]

/-- clear of pieces of several cells in a row of one's own. -/
theorem run_clear_rowN (w : World) (t e ty : TypeId) (z : Value) (ht : P.underlying t = some (.slice e)) (hv : ∀ w, (zeroValue e).run P w = .ok z w) (g o n c : Nat) (hn : 0 < n)
    (cur : Array Value) (T : TypeId) (hg : w.heap[g]? = some (.cells cur T (0, 0))) (zs : List Value) (hz : (Builtin.zeroCells z.cells n).toList = zs) (hfit : o + zs.length ≤ cur.size) (h1 : ∀ v ∈ zs, v.oneCell' = true) :
    (Builtin.clear_ #[t] ty #[.slice (some ⟨g, o, none⟩) n c]).run P w = .ok (.tuple #[]) (w.setRow g (cur.toList.take o ++ zs ++ cur.toList.drop (o + zs.length)).toArray) := by
  have hst := run_storeCells_at P g o T zs 0 cur w hg (by simpa using hfit) h1
  obtain ⟨m, rfl⟩ : ∃ m, n = m + 1 := ⟨n - 1, by omega⟩
  simp only [Nat.add_zero] at hst
  simp [Builtin.clear_, run_underlying ht, hv, hz, hst]
end laws
end Go.Proofs.Ytgcfollelefmcaa
