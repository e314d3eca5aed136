/- Memory while words are told: what stays, a word and words in memory; the walks of kind, ofName, ofNote, ofNumber, Kept, HasPrefix. Conditions: a byte is below 256. -/
import Derived.Test.YtgjhonphnecdhaaMA
import Derived.WalkSpells
import Derived.Deep.LoopGhost
import Derived.Below
import Derived.Laws.CopyRow
import Derived.Laws.OwnMore
import Derived.Laws.MakeOwn
import Derived.Laws.Rows
import Derived.Laws.ResultCell
import Derived.Laws.Cover1
import Derived.Deep.RegionHeld3
import Derived.Deep.DrawnRows
import Derived.Deep.RegionWith
import Derived.Deep.QuietTactic
import Derived.BigQuiet
import Derived.Laws.IdiomStrings
namespace Go.Proofs.Ytgjhonphnecdhaa.Lx
open Go.ChangeShapes Go.WideShapes Go.ChangeAt Go.RowKit

/-- All blocks that were there are as they were. -/
structure Kept (w w' : World) : Prop where
  out : Below w.heap.size w w'
theorem Kept.refl (w : World) : Kept w w := ⟨Below.refl _ _⟩
theorem Kept.trans {a b c : World} (h : Kept a b) (k : Kept b c) : Kept a c := ⟨h.out.trans (k.out.mono h.out.size)⟩
theorem Kept.drew {a b : World} (h : Kept a b) : Kept a b.drew := ⟨h.out.drew⟩
theorem Kept.alloc {a b : World} (h : Kept a b) (o : Obj) : Kept a (b.alloc o) := ⟨h.out.alloc h.out.size o⟩
theorem Kept.block {w w' : World} (h : Kept w w') {k : Nat} {o : Obj} (hk : w.heap[k]? = some o) : w'.heap[k]? = some o :=
  (h.out.block k (Array.getElem?_eq_some_iff.1 hk).1).trans hk
theorem Kept.size {w w' : World} (h : Kept w w') : w.heap.size ≤ w'.heap.size := h.out.size
theorem Kept.setCell {a b : World} (h : Kept a b) {p : Addr} (hp : a.heap.size ≤ p.block) (u : Value) : Kept a (b.setCell p u) := ⟨h.out.setCell hp u⟩
theorem Kept.cell {w w' : World} (h : Kept w w') {a : Addr} {u : Value} (k : w.cell? a = some u) : w'.cell? a = some u :=
  (h.out.cell (World.block_lt_of_cell? w _ k)).trans k
theorem Kept.grown {w w' : World} (h : Kept w w') (r : Option Nat) : w.grownBy w' r := ⟨h.out.os, h.out.tape, h.out.output, h.out.size, fun i hi _ => h.out.block i hi⟩
theorem size_alloc (w : World) (o : Obj) : (w.alloc o).heap.size = w.heap.size + 1 := Array.size_push ..
theorem alloc_at (w : World) (o : Obj) : (w.alloc o).heap[w.heap.size]? = some o := by
  show (w.heap.push o)[w.heap.size]? = some o
  simp
theorem grown_kept {w w' : World} {B : Nat} {r : Option Nat} (W : World) (h : Kept W w) (hg : w.grownBy w' r) (hB : W.heap.size ≤ B) (hr : ∀ k, r = some k → B ≤ k) : Kept W w' :=
  ⟨h.out.grown hg h.size fun k hk => Nat.le_trans hB (hr k hk)⟩
theorem owns_shape {w : World} {base e size : Nat} {v : Value} {n : Nat} {xs : List Value} (h : w.ownsRow base e size v n xs) : ∃ p cap, v = .slice p n cap := by
  rcases h.2 with ⟨rfl, rfl⟩ | ⟨g, cap, cur, rfl, _⟩
  · exact ⟨_, _, rfl⟩
  · exact ⟨_, _, rfl⟩

/-- A word's cells; words' cells. -/
def tc1 (x : Tok) : List Value := [.int .i64 (x.k : Nat), .int .i64 (x.a : Nat), .int .i64 (x.n : Nat), .string x.t]
def tc (l : List Tok) : List Value := l.flatMap tc1
theorem tc_append (a b : List Tok) : tc (a ++ b) = tc a ++ tc b := by simp [tc]
theorem tc_one (x : Tok) : tc [x] = tc1 x := by simp [tc]
theorem tc_length : ∀ l : List Tok, (tc l).length = l.length * 4
  | [] => rfl
  | x :: r => by
    have : tc (x :: r) = tc1 x ++ tc r := by simp [tc]
    rw [this, List.length_append, tc_length r]; simp [tc1]; omega
theorem tc_cell (x : Tok) : ∀ u ∈ tc1 x, u.oneCell' = true := by
  intro u hu
  simp [tc1] at hu
  rcases hu with rfl | rfl | rfl | rfl <;> rfl
theorem tc_at : ∀ {l : List Tok} {i : Nat} {x : Tok}, l[i]? = some x → (tc l)[i * 4]? = some (.int .i64 (x.k : Nat)) ∧ (tc l)[i * 4 + 1]? = some (.int .i64 (x.a : Nat)) ∧ (tc l)[i * 4 + 2]? = some (.int .i64 (x.n : Nat)) ∧ (tc l)[i * 4 + 3]? = some (.string x.t)
  | [], _, _, h => by simp at h
  | y :: r, 0, x, h => by
    simp at h; subst h
    exact ⟨rfl, rfl, rfl, rfl⟩
  | y :: r, i + 1, x, h => by
    have e : tc (y :: r) = .int .i64 (y.k : Nat) :: .int .i64 (y.a : Nat) :: .int .i64 (y.n : Nat) :: .string y.t :: tc r := by simp [tc, tc1]
    obtain ⟨h1, h2, h3, h4⟩ := tc_at (l := r) (i := i) (x := x) (by simpa using h)
    rw [e, show (i + 1) * 4 = i * 4 + 1 + 1 + 1 + 1 by omega]
    exact ⟨by simpa using h1, by simpa using h2, by simpa using h3, by simpa using h4⟩

/-- Words in memory. -/
structure Tw (w : World) (p : Option Addr) (n c : Nat) (l : List Tok) : Prop where
  len : l.length = n
  le : n ≤ c
  cap : c ≤ maxLen
  out : n = 0 ∨ ∃ b off, p = some ⟨b, off, none⟩ ∧ ∀ j u, (tc l)[j]? = some u → w.cell? ⟨b, off + j, none⟩ = some u
theorem Tw.kept {w w' : World} {p : Option Addr} {n c : Nat} {l : List Tok} (h : Tw w p n c l) (k : Kept w w') : Tw w' p n c l :=
  ⟨h.len, h.le, h.cap, h.out.imp id fun ⟨b, off, e, f⟩ => ⟨b, off, e, fun j u hu => k.cell (f j u hu)⟩⟩
theorem Tw.small {w : World} {p : Option Addr} {n c : Nat} {l : List Tok} (h : Tw w p n c l) : n ≤ 9223372036854775807 ∧ c ≤ 9223372036854775807 := by
  have := h.cap; unfold maxLen at this; have := h.le; omega
theorem Tw.at {w : World} {p : Option Addr} {n c : Nat} {l : List Tok} (h : Tw w p n c l) {i : Nat} {x : Tok} (hx : l[i]? = some x) :
    ∃ b o, p = some ⟨b, o, none⟩ ∧ w.cell? ⟨b, o + i * 4, none⟩ = some (.int .i64 (x.k : Nat)) ∧ w.cell? ⟨b, o + i * 4 + 1, none⟩ = some (.int .i64 (x.a : Nat)) ∧ w.cell? ⟨b, o + i * 4 + 2, none⟩ = some (.int .i64 (x.n : Nat)) ∧ w.cell? ⟨b, o + i * 4 + 3, none⟩ = some (.string x.t) := by
  obtain ⟨h1, h2, h3, h4⟩ := tc_at hx
  rcases h.out with e | ⟨b, o, rfl, f⟩
  · have h3 := (List.getElem?_eq_some_iff.1 hx).1
    have := h.len; omega
  · exact ⟨b, o, rfl, f _ _ h1, f _ _ h2, f _ _ h3, f _ _ h4⟩
theorem tw_nil (w : World) : Tw w none 0 0 [] := ⟨rfl, Nat.le_refl _, Nat.zero_le _, .inl rfl⟩
/-- Words that were just made. -/
theorem tw_of {w : World} {B : Nat} {p : Option Addr} {n c : Nat} {l : List Tok} (o : w.ownsRow B 33 4 (.slice p n c) n (tc l)) : Tw w p n c l := by
  have hl := o.1
  rw [tc_length] at hl
  rcases o.2 with ⟨h1, h2⟩ | ⟨g, cap, cur, h1, hB, hg, hn, hm, hs, ht⟩
  · injection h1 with h1 h3 h4
    subst h1; subst h4
    exact ⟨by omega, by omega, Nat.zero_le _, .inl h2⟩
  · injection h1 with h1 h3 h4
    subst h1; subst h4
    refine ⟨by omega, hn, hm, .inr ⟨g, 0, rfl, fun j u hu => ?_⟩⟩
    rw [Nat.zero_add, cell_of_row w g j _ _ _ hg]
    rw [← ht, List.getElem?_take] at hu
    split at hu
    · simpa using hu
    · cases hu

/-- A word in a block of its own. -/
structure T4 (w : World) (b : Nat) (k a n : Int) (t : ByteArray) : Prop where
  out : w.heap[b]? = some (.cells #[.int .i64 k, .int .i64 a, .int .i64 n, .string t] 33)
theorem T4.cs {w : World} {b : Nat} {k a n : Int} {t : ByteArray} (h : T4 w b k a n t) : w.cell? ⟨b, 0, none⟩ = some (.int .i64 k) ∧ w.cell? ⟨b, 1, none⟩ = some (.int .i64 a) ∧ w.cell? ⟨b, 2, none⟩ = some (.int .i64 n) ∧ w.cell? ⟨b, 3, none⟩ = some (.string t) :=
  ⟨by rw [cell_of_row w b 0 _ _ _ h.out]; rfl, by rw [cell_of_row w b 1 _ _ _ h.out]; rfl, by rw [cell_of_row w b 2 _ _ _ h.out]; rfl, by rw [cell_of_row w b 3 _ _ _ h.out]; rfl⟩
theorem T4.fz {w : World} {b : Nat} {k a n : Int} {t : ByteArray} (h : T4 w b k a n t) (j : Nat) : w.frozen? ⟨b, j, none⟩ = false := frozen_of_row w b j _ _ h.out
theorem T4.kept {w w' : World} {b : Nat} {k a n : Int} {t : ByteArray} (h : T4 w b k a n t) (q : Kept w w') : T4 w' b k a n t := ⟨q.block h.out⟩
theorem T4.made (w : World) (k a n : Int) (t : ByteArray) : T4 (w.alloc (.cells #[.int .i64 k, .int .i64 a, .int .i64 n, .string t] 33)) w.heap.size k a n t := ⟨alloc_at w _⟩
theorem T4.set0 {w : World} {b : Nat} {k a n : Int} {t : ByteArray} (h : T4 w b k a n t) (y : Int) : T4 (w.setCell ⟨b, 0, none⟩ (.int .i64 y)) b y a n t := ⟨by rw [heap_setCell_same w b 0 _ _ _ h.out]; rfl⟩
theorem T4.set1 {w : World} {b : Nat} {k a n : Int} {t : ByteArray} (h : T4 w b k a n t) (y : Int) : T4 (w.setCell ⟨b, 1, none⟩ (.int .i64 y)) b k y n t := ⟨by rw [heap_setCell_same w b 1 _ _ _ h.out]; rfl⟩
theorem T4.set2 {w : World} {b : Nat} {k a n : Int} {t : ByteArray} (h : T4 w b k a n t) (y : Int) : T4 (w.setCell ⟨b, 2, none⟩ (.int .i64 y)) b k a y t := ⟨by rw [heap_setCell_same w b 2 _ _ _ h.out]; rfl⟩
theorem T4.set3 {w : World} {b : Nat} {k a n : Int} {t : ByteArray} (h : T4 w b k a n t) (y : ByteArray) : T4 (w.setCell ⟨b, 3, none⟩ (.string y)) b k a n y := ⟨by rw [heap_setCell_same w b 3 _ _ _ h.out]; rfl⟩
theorem size33 : (Try.prog.info? 33).map (·.size) = some 4 := by kernel_rfl
theorem info33 : (Try.prog.info? 33).map (fun i => (i.zero, i.size, i.bytes)) = some (some (.agg #[.int .i64 0, .int .i64 0, .int .i64 0, .string ⟨#[]⟩]), 4, 40) := by kernel_rfl
theorem size25 : (Try.prog.info? 25).map (·.size) = some 2 := by kernel_rfl

set_option maxRecDepth 100000 in
set_option maxHeartbeats 1000000 in
theorem kind_walk (y : Nat) (w : World) :
    Calls Try.prog 22 #[.int .u8 (y : Nat)] w fun e w' => e = .returned (.int .i64 (knd y : Nat)) ∧ w' = w := by
  go_enter Try.func22, Try.ntmps22
  go_wp2
  all_goals go_ret
  all_goals refine ⟨?_, rfl⟩
  all_goals (refine congrArg Ending.returned (congrArg (Value.int .i64) ?_))
  all_goals (unfold knd)
  all_goals ((repeat' split) <;> first | rfl | (exfalso; simp only [beq_iff_eq, beq_eq_false_iff_ne, ne_eq] at *; omega))
end Go.Proofs.Ytgjhonphnecdhaa.Lx
