/- What merge has in memory while it goes over the parts of two sets, and what one part more does to it. Conditions: those that each row names. -/
import Derived.Maps.AppendAt
import Derived.Test.YtanccfbbaeocaaaLD
namespace Go.Proofs.Ytanccfbbaeocaaa.Bt
open Go.RowKit Go.Shelf

/-- What is taken of parts, one by one. -/
def tkm (f : Nat → Nat → Nat) (x : Pr) : List Pt := tk f (md x)
def tks (f : Nat → Nat → Nat) (pre : List Pr) : List Pt := pre.flatMap (tkm f)
theorem tks_snoc (f : Nat → Nat → Nat) (pre : List Pr) (x : Pr) : tks f (pre ++ [x]) = tks f pre ++ tkm f x := by simp [tks]
theorem tkm_len (f : Nat → Nat → Nat) (x : Pr) : (tkm f x).length ≤ 1 := by unfold tkm tk; split <;> simp
theorem tks_len (f : Nat → Nat → Nat) : ∀ pre : List Pr, (tks f pre).length ≤ pre.length
  | [] => Nat.le_refl _
  | x :: r => by
    have h1 := tks_len f r
    have h2 := tkm_len f x
    have e : tks f (x :: r) = tkm f x ++ tks f r := by simp [tks]
    rw [e, List.length_append, List.length_cons]; omega
theorem tks_mrg (f : Nat → Nat → Nat) {P Q : List Pt} (hP : Okp P) (hQ : Okp Q) : tks f (bes P Q) = mrg f P Q := by
  unfold tks mrg
  rw [List.flatMap_def, List.flatMap_def, List.map_congr_left fun x hx => by unfold tkm; rw [md_eq (bes_small hP hQ hx)]]

/-- Cells stay while what is no cells turns. -/
theorem cells_stay {W W' : World} {row : Option Nat} (hg : W.grownBy W' row) (hr : ∀ r, row = some r → ∃ o : Obj, W.heap[r]? = some o ∧ o.isCells = false) {b : Nat} {cs : Array Value} {t : TypeId} {fr : Nat × Nat} (h : W.heap[b]? = some (.cells cs t fr)) : W'.heap[b]? = some (.cells cs t fr) := by
  refine (hg.block b (Array.getElem?_eq_some_iff.1 h).1 (fun e => ?_)).trans h
  obtain ⟨o, ho, hc⟩ := hr b e.symm
  rw [h] at ho; cases ho; cases hc
theorem own_stay {W W' : World} {row : Option Nat} (hg : W.grownBy W' row) (hr : ∀ r, row = some r → ∃ o : Obj, W.heap[r]? = some o ∧ o.isCells = false) {B : Nat} {e : TypeId} {sz : Nat} {p : Option Addr} {n c : Nat} {cs : List Value} (k : Own W B e sz p n c cs) : Own W' B e sz p n c cs := by
  refine ⟨k.out.1, k.out.2.imp id ?_⟩
  rintro ⟨g, cap, cur, a, b, hg', r⟩
  exact ⟨g, cap, cur, a, b, cells_stay hg hr hg', r⟩
theorem below_stay {n B : Nat} {w W W' : World} {row : Option Nat} (hb : Below n w W) (hn : n ≤ w.heap.size) (hg : W.grownBy W' row) (hr : ∀ r, row = some r → B ≤ r) (hB : n ≤ B) : Below n w W' :=
  hb.trans ⟨hg.os, hg.tape, hg.output, hg.size, fun i hi => hg.block i (Nat.lt_of_lt_of_le hi (Nat.le_trans hn hb.size)) (fun e => by have := hr i e.symm; omega)⟩
theorem own_blk {W : World} {B : Nat} {e : TypeId} {sz : Nat} {q : Option Addr} {k c : Nat} {cs : List Value} (o : Own W B e sz q k c cs) : ∀ b, (Value.slice q k c).ownBlock = some b → B ≤ b ∧ ∃ cs fr, W.heap[b]? = some (.cells cs e fr) := by
  intro b hb
  rcases o.out.2 with ⟨h0, _⟩ | ⟨g, cap, cur, h0, h1, h2, _⟩
  · rw [h0] at hb; simp [Value.ownBlock] at hb
  · rw [h0] at hb; simp [Value.ownBlock] at hb
    subst hb
    exact ⟨h1, _, _, h2⟩
theorem pc_snoc (G : List Pt) (x : Pt) : pc (G ++ [x]) = pc G ++ pc1 x := by simp [pc]
theorem part_cells (w : World) (x : Pt) (t : TypeId) : ∀ j u, (pc1 x)[j]? = some u → (w.alloc (.cells #[.int .i64 (x.1 : Nat), .int .u64 (x.2 : Nat)] t)).cell? ((⟨w.heap.size, 0, none⟩ : Addr).add j) = some u := by
  intro j u hj
  rw [Addr.add_lit, Nat.zero_add, cell_of_row _ _ _ _ _ _ (heap_alloc_new w (.cells #[.int .i64 (x.1 : Nat), .int .u64 (x.2 : Nat)] t))]
  simpa [pc1] using hj
theorem pc1_one (x : Pt) : ∀ u ∈ pc1 x, u.oneCell' = true := by
  intro u hu; simp [pc1] at hu; rcases hu with rfl | rfl <;> rfl

/-- What merge has in memory. -/
structure Mg (w W : World) (fv : Value) (q : Option Addr) (c : Nat) (G : List Pt) : Prop where
  bk : W.heap[w.heap.size + 1 + 1]? = some (.cells #[fv] 71)
  br : W.heap[w.heap.size + 1 + 1 + 1]? = some (.cells #[.slice none 0 0] 25)
  bm : W.heap[w.heap.size + 1 + 1 + 1 + 1]? = some (.cells #[.slice q G.length c] 25)
  own : Own W (w.heap.size + 7) 42 2 q G.length c (pc G)
  low : Below w.heap.size w W
  big : w.heap.size + 7 ≤ W.heap.size
theorem Mg.stay {w W W' : World} {fv : Value} {q : Option Addr} {c : Nat} {G : List Pt} {B : Nat} {row : Option Nat} (h : Mg w W fv q c G) (hg : W.grownBy W' row) (hr : ∀ r, row = some r → B ≤ r ∧ ∃ o : Obj, W.heap[r]? = some o ∧ o.isCells = false) (hB : w.heap.size ≤ B) : Mg w W' fv q c G :=
  have hr2 : ∀ r, row = some r → ∃ o : Obj, W.heap[r]? = some o ∧ o.isCells = false := fun r e => (hr r e).2
  ⟨cells_stay hg hr2 h.bk, cells_stay hg hr2 h.br, cells_stay hg hr2 h.bm, own_stay hg hr2 h.own, below_stay h.low (Nat.le_refl _) hg (fun r e => (hr r e).1) hB, Nat.le_trans h.big hg.size⟩
theorem Mg.kept {w W W' : World} {fv : Value} {q : Option Addr} {c : Nat} {G : List Pt} (h : Mg w W fv q c G) (k : Kept W W') : Mg w W' fv q c G := h.stay (B := w.heap.size) (k.grown none) (fun r e => by cases e) (Nat.le_refl _)

/-- A part more. -/
theorem Mg.more {w W w1 : World} {fv : Value} {q q1 : Option Addr} {c c1 : Nat} {G : List Pt} {x : Pt} {tmp : Obj} (h : Mg w W fv q c G)
    (o1 : w1.ownsRow (w.heap.size + 7) 42 2 (.slice q1 (G.length + 1) c1) (G.length + 1) (pc G ++ pc1 x)) (g1 : (W.alloc tmp).grownBy w1 (Value.slice q G.length c).ownBlock) :
    w1.heap[w.heap.size + 1 + 1 + 1 + 1]? = some (.cells #[.slice q G.length c] 25) ∧
    Mg w (w1.setCell ⟨w.heap.size + 1 + 1 + 1 + 1, 0, none⟩ (.slice q1 (G.length + 1) c1)) fv q1 c1 (G ++ [x]) ∧ KeepsOthers W (w1.setCell ⟨w.heap.size + 1 + 1 + 1 + 1, 0, none⟩ (.slice q1 (G.length + 1) c1)) ∧ Kb w.heap.size (w.heap.size + 7) (w.heap.size + 1 + 1 + 1 + 1) W (w1.setCell ⟨w.heap.size + 1 + 1 + 1 + 1, 0, none⟩ (.slice q1 (G.length + 1) c1)) := by
  have k0 : Kept W (W.alloc tmp) := (Kept.refl W).alloc tmp
  have ob := own_blk (h.kept k0).own
  have hbig := h.big
  have st : ∀ b, b < w.heap.size + 7 → w1.heap[b]? = W.heap[b]? := fun b hb => (g1.block b (by have := k0.size; omega) (fun e => by have := (ob b e.symm).1; omega)).trans (k0.out.block b (by omega))
  have p1 := (st (w.heap.size + 1 + 1 + 1 + 1) (by omega)).trans h.bm
  have s1 : (w1.setCell ⟨w.heap.size + 1 + 1 + 1 + 1, 0, none⟩ (.slice q1 (G.length + 1) c1)).heap[w.heap.size + 1 + 1 + 1 + 1]? = some (.cells #[.slice q1 (G.length + 1) c1] 25) := by rw [heap_setCell_same _ _ 0 _ _ _ p1]; rfl
  have oth : ∀ k, k ≠ w.heap.size + 1 + 1 + 1 + 1 → (w1.setCell ⟨w.heap.size + 1 + 1 + 1 + 1, 0, none⟩ (.slice q1 (G.length + 1) c1)).heap[k]? = w1.heap[k]? := fun k hk => heap_setCell_other _ ⟨w.heap.size + 1 + 1 + 1 + 1, 0, none⟩ k _ hk
  have low1 : Below w.heap.size W w1 := (k0.out.mono h.low.size).trans ⟨g1.os, g1.tape, g1.output, g1.size, fun i hi => g1.block i (by have := k0.size; omega) (fun e => by have := (ob i e.symm).1; omega)⟩
  have low2 : Below w.heap.size W (w1.setCell ⟨w.heap.size + 1 + 1 + 1 + 1, 0, none⟩ (.slice q1 (G.length + 1) c1)) := low1.setCell (by show w.heap.size ≤ w.heap.size + 1 + 1 + 1 + 1; omega) _
  refine ⟨p1, ⟨(oth _ (by omega)).trans ((st _ (by omega)).trans h.bk), (oth _ (by omega)).trans ((st _ (by omega)).trans h.br), ?_, ?_, h.low.trans low2, Nat.le_trans hbig low2.size⟩, ?_, low2, ?_⟩
  · rw [s1, List.length_append]; rfl
  · rw [pc_snoc, List.length_append]
    refine ⟨o1.1, o1.2.imp id ?_⟩
    rintro ⟨g, cap, cur, a, b, hg', r⟩
    exact ⟨g, cap, cur, a, b, (oth g (by omega)).trans hg', r⟩
  · refine ((KeepsOthers.alloc W tmp).trans (KeepsOthers.of_grownBy g1 fun j o ej hj => ?_)).trans (KeepsOthers.setCell _ _ _)
    obtain ⟨_, cs', fr', h2⟩ := ob j ej
    rw [h2] at hj; cases hj; rfl
  · intro b hb hne
    exact (oth b hne).trans (st b hb)
theorem Mg.st {w W : World} {fv : Value} {q : Option Addr} {c : Nat} {G : List Pt} (h : Mg w W fv q c G) (ok : Okp G) : St W q G.length c G := ⟨h.own.rw, ok⟩
end Go.Proofs.Ytanccfbbaeocaaa.Bt
