/- Memory while sets are read and made: what stays, slices in memory, parts and numbers as cells. No condition but those that each row names. -/
import Derived.Test.YtanccfbbaeocaaaRows
import Derived.WalkKit
import Derived.ProofKit
import Derived.WalkSpells
import Derived.Deep.LoopGhost
import Derived.Below
import Derived.Laws.Bits64b
import Derived.Laws.CopyRow
import Derived.Laws.OwnMore
import Derived.Laws.MakeOwn
import Derived.Laws.Rows
import Derived.Laws.ResultCell
import Derived.Deep.RegionHeld3
import Derived.Deep.DrawnRows
import Derived.Deep.RegionWith
import Derived.Deep.QuietTactic
import Derived.BigQuiet
import Derived.Test.YtanccfbbaeocaaaLAc
namespace Go.Proofs.Ytanccfbbaeocaaa.Bt
open Go.ChangeShapes Go.WideShapes Go.ChangeAt Go.RowKit

/-- All blocks that were there are as they were. -/
structure Kept (w w' : World) : Prop where
  out : Below w.heap.size w w'
theorem Kept.refl (w : World) : Kept w w := ⟨Below.refl _ _⟩
theorem Kept.trans {a b c : World} (h : Kept a b) (k : Kept b c) : Kept a c := ⟨h.out.trans (k.out.mono h.out.size)⟩
theorem Kept.drew {a b : World} (h : Kept a b) : Kept a b.drew := ⟨h.out.drew⟩
theorem Kept.drewN {a b : World} (h : Kept a b) (n : Nat) : Kept a (b.drewN n) := h.trans ⟨⟨rfl, rfl, rfl, Nat.le_refl _, fun _ _ => rfl⟩⟩
theorem Kept.alloc {a b : World} (h : Kept a b) (o : Obj) : Kept a (b.alloc o) := ⟨h.out.alloc h.out.size o⟩
theorem Kept.block {w w' : World} (h : Kept w w') {k : Nat} {o : Obj} (hk : w.heap[k]? = some o) : w'.heap[k]? = some o :=
  (h.out.block k (Array.getElem?_eq_some_iff.1 hk).1).trans hk
theorem Kept.size {w w' : World} (h : Kept w w') : w.heap.size ≤ w'.heap.size := h.out.size
theorem Kept.setCell {a b : World} (h : Kept a b) {p : Addr} (hp : a.heap.size ≤ p.block) (u : Value) : Kept a (b.setCell p u) := ⟨h.out.setCell hp u⟩
theorem Kept.cell {w w' : World} (h : Kept w w') {a : Addr} {u : Value} (k : w.cell? a = some u) : w'.cell? a = some u :=
  (h.out.cell (World.block_lt_of_cell? w _ k)).trans k
theorem Kept.grown {w w' : World} (h : Kept w w') (r : Option Nat) : w.grownBy w' r := ⟨h.out.os, h.out.tape, h.out.output, h.out.size, fun i hi _ => h.out.block i hi⟩
theorem size_alloc (w : World) (o : Obj) : (w.alloc o).heap.size = w.heap.size + 1 := Array.size_push ..

/-- A slice in memory: its pieces' cells, sz of them a piece, are these. -/
structure Rw (w : World) (sz : Nat) (p : Option Addr) (n c : Nat) (cs : List Value) : Prop where
  len : cs.length = n * sz
  le : n ≤ c
  cap : c ≤ maxLen
  out : n = 0 ∨ ∃ b off, p = some ⟨b, off, none⟩ ∧ ∀ j u, cs[j]? = some u → w.cell? ⟨b, off + j, none⟩ = some u
/-- A slice of one's own: its row lies among the blocks from B on. -/
structure Own (w : World) (B : Nat) (e : TypeId) (sz : Nat) (p : Option Addr) (n c : Nat) (cs : List Value) : Prop where
  out : w.ownsRow B e sz (.slice p n c) n cs
theorem Kept.rw {w w' : World} (h : Kept w w') {sz : Nat} {p : Option Addr} {n c : Nat} {cs : List Value} (k : Rw w sz p n c cs) : Rw w' sz p n c cs :=
  ⟨k.len, k.le, k.cap, k.out.elim .inl fun ⟨b, off, e, f⟩ => .inr ⟨b, off, e, fun j u hu => h.cell (f j u hu)⟩⟩
theorem Own.kept {w w' : World} {B : Nat} {e : TypeId} {sz : Nat} {p : Option Addr} {n c : Nat} {cs : List Value} (k : Own w B e sz p n c cs) (h : Kept w w') : Own w' B e sz p n c cs :=
  ⟨k.out.kept (h.grown none) (by cases p <;> simp [Value.ownBlock])⟩
theorem Own.mono {w : World} {B B' : Nat} {e : TypeId} {sz : Nat} {p : Option Addr} {n c : Nat} {cs : List Value} (k : Own w B e sz p n c cs) (h : B' ≤ B) : Own w B' e sz p n c cs :=
  ⟨k.out.1, k.out.2.imp id fun ⟨g, cap, cur, a, b, r⟩ => ⟨g, cap, cur, a, Nat.le_trans h b, r⟩⟩
theorem own_nil (w : World) (B e sz : Nat) : Own w B e sz none 0 0 [] := ⟨by simp, .inl ⟨rfl, rfl⟩⟩
theorem Own.rw {w : World} {B : Nat} {e : TypeId} {sz : Nat} {p : Option Addr} {n c : Nat} {cs : List Value} (k : Own w B e sz p n c cs) : Rw w sz p n c cs := by
  obtain ⟨hl, h⟩ := k.out
  rcases h with ⟨h1, rfl⟩ | ⟨g, cap, cur, h1, hB, hg, hn, hm, hs, ht⟩
  · injection h1 with h1 _ h2
    subst h1; subst h2
    exact ⟨hl, Nat.le_refl _, Nat.zero_le _, .inl rfl⟩
  · injection h1 with h1 _ h2
    subst h1; subst h2
    refine ⟨hl, hn, hm, .inr ⟨g, 0, rfl, fun j u hu => ?_⟩⟩
    rw [Nat.zero_add, cell_of_row w g j _ _ _ hg]
    rw [← ht, List.getElem?_take] at hu
    split at hu
    · simpa using hu
    · cases hu
theorem owns_shape {w : World} {base e size : Nat} {v : Value} {n : Nat} {xs : List Value} (h : w.ownsRow base e size v n xs) : ∃ p cap, v = .slice p n cap := by
  rcases h.2 with ⟨rfl, rfl⟩ | ⟨g, cap, cur, rfl, _⟩
  · exact ⟨_, _, rfl⟩
  · exact ⟨_, _, rfl⟩
theorem grown_kept {w w' : World} {B : Nat} {r : Option Nat} (W : World) (h : Kept W w) (hg : w.grownBy w' r) (hB : W.heap.size ≤ B) (hr : ∀ k, r = some k → B ≤ k) : Kept W w' :=
  ⟨h.out.grown hg h.size fun k hk => Nat.le_trans hB (hr k hk)⟩
theorem Rw.small {w : World} {sz : Nat} {p : Option Addr} {n c : Nat} {cs : List Value} (k : Rw w sz p n c cs) : c ≤ 9223372036854775807 := by
  have := k.cap; unfold maxLen at this; omega

/-- Parts and numbers as cells. -/
def pc1 (x : Pt) : List Value := [.int .i64 (x.1 : Nat), .int .u64 (x.2 : Nat)]
def pc (P : List Pt) : List Value := P.flatMap pc1
def ic (zs : List Int) : List Value := zs.map fun z => .int .i64 z
theorem pc_append (P Q : List Pt) : pc (P ++ Q) = pc P ++ pc Q := by simp [pc]
theorem pc_length : ∀ P : List Pt, (pc P).length = P.length * 2
  | [] => rfl
  | x :: r => by
    have : pc (x :: r) = pc1 x ++ pc r := by simp [pc]
    rw [this, List.length_append, pc_length r]; simp [pc1]; omega
theorem pc_at : ∀ {P : List Pt} {k : Nat} {x : Pt}, P[k]? = some x → (pc P)[k * 2]? = some (.int .i64 (x.1 : Nat)) ∧ (pc P)[k * 2 + 1]? = some (.int .u64 (x.2 : Nat))
  | [], _, _, h => by simp at h
  | a :: r, 0, x, h => by
    simp at h; subst h
    exact ⟨rfl, rfl⟩
  | a :: r, k + 1, x, h => by
    have e : pc (a :: r) = .int .i64 (a.1 : Nat) :: .int .u64 (a.2 : Nat) :: pc r := by simp [pc, pc1]
    obtain ⟨h1, h2⟩ := pc_at (P := r) (k := k) (x := x) (by simpa using h)
    rw [e, show (k + 1) * 2 = k * 2 + 1 + 1 by omega]
    exact ⟨by simpa using h1, by simpa using h2⟩
theorem ic_length (zs : List Int) : (ic zs).length = zs.length := by simp [ic]
theorem ic_at {zs : List Int} {k : Nat} {z : Int} (h : zs[k]? = some z) : (ic zs)[k]? = some (.int .i64 z) := by simp [ic, h]
theorem ic_snoc (zs : List Int) (z : Int) : ic (zs ++ [z]) = ic zs ++ [.int .i64 z] := by simp [ic]

/-- A set in memory. -/
structure St (w : World) (p : Option Addr) (n c : Nat) (P : List Pt) : Prop where
  rw : Rw w 2 p n c (pc P)
  ok : Okp P
theorem St.len {w : World} {p : Option Addr} {n c : Nat} {P : List Pt} (h : St w p n c P) : P.length = n := by
  have := h.rw.len; rw [pc_length] at this; omega
theorem St.kept {w w' : World} {p : Option Addr} {n c : Nat} {P : List Pt} (h : St w p n c P) (k : Kept w w') : St w' p n c P := ⟨k.rw h.rw, h.ok⟩
theorem St.few {w : World} {p : Option Addr} {n c : Nat} {P : List Pt} (h : St w p n c P) : n ≤ 16384 := by rw [← h.len]; exact h.ok.len
theorem St.at {w : World} {p : Option Addr} {n c : Nat} {P : List Pt} (h : St w p n c P) {i : Nat} {x : Pt} (hx : P[i]? = some x) :
    ∃ b o, p = some ⟨b, o, none⟩ ∧ w.cell? ⟨b, o + i * 2, none⟩ = some (.int .i64 (x.1 : Nat)) ∧ w.cell? ⟨b, o + i * 2 + 1, none⟩ = some (.int .u64 (x.2 : Nat)) := by
  obtain ⟨h1, h2⟩ := pc_at hx
  rcases h.rw.out with e | ⟨b, o, rfl, f⟩
  · have h3 := (List.getElem?_eq_some_iff.1 hx).1
    have := h.len; omega
  · exact ⟨b, o, rfl, f _ _ h1, f _ _ h2⟩
/-- Numbers in memory. -/
structure Il (w : World) (p : Option Addr) (n c : Nat) (zs : List Int) : Prop where
  rw : Rw w 1 p n c (ic zs)
theorem Il.len {w : World} {p : Option Addr} {n c : Nat} {zs : List Int} (h : Il w p n c zs) : zs.length = n := by
  have := h.rw.len; rw [ic_length] at this; omega
theorem Il.kept {w w' : World} {p : Option Addr} {n c : Nat} {zs : List Int} (h : Il w p n c zs) (k : Kept w w') : Il w' p n c zs := ⟨k.rw h.rw⟩
theorem Il.at {w : World} {p : Option Addr} {n c : Nat} {zs : List Int} (h : Il w p n c zs) {i : Nat} {z : Int} (hz : zs[i]? = some z) :
    ∃ b o, p = some ⟨b, o, none⟩ ∧ w.cell? ⟨b, o + i, none⟩ = some (.int .i64 z) := by
  rcases h.rw.out with e | ⟨b, o, rfl, f⟩
  · have h3 := (List.getElem?_eq_some_iff.1 hz).1
    have := h.len; omega
  · exact ⟨b, o, rfl, f _ _ (ic_at hz)⟩
theorem Il.small {w : World} {p : Option Addr} {n c : Nat} {zs : List Int} (h : Il w p n c zs) : n ≤ 9223372036854775807 ∧ c ≤ 9223372036854775807 := ⟨Nat.le_trans h.rw.le h.rw.small, h.rw.small⟩

theorem info42 : (Try.prog.info? 42).map (fun i => (i.zero, i.size, i.bytes)) = some (some (.agg #[.int .i64 0, .int .u64 0]), 2, 16) := by kernel_rfl
theorem info3 : (Try.prog.info? 3).map (fun i => (i.zero, i.size, i.bytes)) = some (some (.int .i64 0), 1, 8) := by kernel_rfl
end Go.Proofs.Ytanccfbbaeocaaa.Bt
