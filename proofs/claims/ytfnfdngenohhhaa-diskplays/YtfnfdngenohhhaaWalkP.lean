/- The reference's disk in memory, and the walks of its Up and of zeros. Conditions: no more than 256 bytes of nought. -/
import Derived.Test.YtfnfdngenohhhaaSim
import Derived.Laws.ResultCell
namespace Go.Proofs.Ytfnfdngenohhhaa
open Go.ChangeShapes Go.WideShapes Go.ChangeAt Go.RowKit

/-- A block that stays: below B, or of a calm type that is not that of the reference's disks. -/
def Sr (B : Nat) (w : World) (b : Nat) : Prop := b < B ∨ ∃ cs t fr, w.heap[b]? = some (.cells cs t fr) ∧ Calm t ∧ t ≠ 33

/-- What the reference's acts leave as it was: all below B, all blocks of calm types but its disks' own. -/
structure Og (B : Nat) (w w' : World) : Prop where
  below : Below B w w'
  rows : ∀ (b : Nat) (cs : Array Value) (t : TypeId) (fr : Nat × Nat), w.heap[b]? = some (.cells cs t fr) → Calm t → t ≠ 33 → w'.heap[b]? = some (.cells cs t fr)

theorem On.og {B : Nat} {w w' : World} (h : On B w w') : Og B w w' := ⟨h.below, fun b cs t fr hx ht _ => h.rows b cs t fr hx ht⟩
theorem Kept.og {w w' : World} (h : Kept w w') {B : Nat} (hB : B ≤ w.heap.size) : Og B w w' := (h.on hB).og
theorem Og.refl (B : Nat) (w : World) : Og B w w := (On.refl B w).og
theorem Og.trans {B : Nat} {a b c : World} (h : Og B a b) (k : Og B b c) : Og B a c := ⟨h.below.trans k.below, fun x cs t fr hx ht hn => k.rows x cs t fr (h.rows x cs t fr hx ht hn) ht hn⟩
theorem Og.size {B : Nat} {w w' : World} (h : Og B w w') : w.heap.size ≤ w'.heap.size := h.below.size
theorem Og.drew {B : Nat} {a b : World} (h : Og B a b) : Og B a b.drew := ⟨h.below.drew, h.rows⟩
theorem Og.kept {B : Nat} {a b c : World} (h : Og B a b) (k : Kept b c) (hB : B ≤ a.heap.size) : Og B a c := h.trans (k.og (Nat.le_trans hB h.size))
/-- Only one block of the reference's disks' type has turned. -/
theorem Og.one {B : Nat} {w w' : World} {g : Nat} {cs : Array Value} {fr : Nat × Nat} (hg : w.heap[g]? = some (.cells cs 33 fr)) (hb : Below B w w') (ho : ∀ k, k ≠ g → w'.heap[k]? = w.heap[k]?) : Og B w w' := by
  refine ⟨hb, fun x cs' t' fr' hx _ hn => ?_⟩
  rw [ho x (fun e => ?_)]
  · exact hx
  · subst e
    rw [hg] at hx
    injection hx with hx
    injection hx with _ e2 _
    exact hn e2.symm
theorem Og.sr {B : Nat} {w w' : World} (h : Og B w w') {b : Nat} (k : Sr B w b) : Sr B w' b ∧ w'.heap[b]? = w.heap[b]? := by
  rcases k with k | ⟨cs, t, fr, k, ht, hn⟩
  · exact ⟨.inl k, h.below.block b k⟩
  · have := h.rows b cs t fr k ht hn
    exact ⟨.inr ⟨cs, t, fr, this, ht, hn⟩, this.trans k.symm⟩
theorem Og.srCell {B : Nat} {w w' : World} (h : Og B w w') {b : Nat} (k : Sr B w b) (i : Nat) : w'.cell? ⟨b, i, none⟩ = w.cell? ⟨b, i, none⟩ :=
  World.cell?_of_block (w := w) (h.sr k).2

/-- Fates in memory that stays. -/
structure FatesR (B : Nat) (w : World) (v : Value) (l : List Int) : Prop where
  out : ∃ p c, v = .slice p l.length c ∧ ∀ j, j < l.length → ∃ b off, p = some ⟨b, off, none⟩ ∧ Sr B w b ∧ w.cell? ⟨b, off + j, none⟩ = some (.int .i64 (l.getD j 0))

/-- Cuts in memory that stays. -/
structure CutsR (B : Nat) (w : World) (v : Value) (l : List Ct) : Prop where
  out : ∃ p c, v = .slice p l.length c ∧ l.length ≤ c ∧ c ≤ maxLen ∧ ∀ j (h : j < l.length), ∃ b off vf, p = some ⟨b, off, none⟩ ∧ Sr B w b ∧ w.cell? ⟨b, off + j * 2, none⟩ = some (.int .i64 l[j].at_) ∧
    w.cell? ⟨b, off + j * 2 + 1, none⟩ = some vf ∧ FatesR B w vf l[j].fates

theorem FatesR.og {B : Nat} {w w' : World} {v : Value} {l : List Int} (h : FatesR B w v l) (k : Og B w w') : FatesR B w' v l := by
  obtain ⟨p, c, hv, hc⟩ := h.out
  refine ⟨p, c, hv, fun j hj => ?_⟩
  obtain ⟨b, off, hp, hs, hx⟩ := hc j hj
  exact ⟨b, off, hp, (k.sr hs).1, (k.srCell hs _).trans hx⟩
theorem CutsR.og {B : Nat} {w w' : World} {v : Value} {l : List Ct} (h : CutsR B w v l) (k : Og B w w') : CutsR B w' v l := by
  obtain ⟨p, c, hv, h1, h2, hc⟩ := h.out
  refine ⟨p, c, hv, h1, h2, fun j hj => ?_⟩
  obtain ⟨b, off, vf, hp, hs, hx, hy, hf⟩ := hc j hj
  exact ⟨b, off, vf, hp, (k.sr hs).1, (k.srCell hs _).trans hx, (k.srCell hs _).trans hy, hf.og k⟩

/-- A row of cells that a slice shows, in memory that stays. -/
structure RowAt (B : Nat) (w : World) (v : Value) (size n : Nat) (cells : List Value) : Prop where
  out : ∃ p c, v = .slice p n c ∧ n ≤ c ∧ c ≤ maxLen ∧ cells.length = n * size ∧ (0 < n → ∃ b off, p = some ⟨b, off, none⟩ ∧ Sr B w b ∧ ∀ j u, cells[j]? = some u → w.cell? ⟨b, off + j, none⟩ = some u)

theorem RowAt.og {B : Nat} {w w' : World} {v : Value} {size n : Nat} {cells : List Value} (h : RowAt B w v size n cells) (k : Og B w w') : RowAt B w' v size n cells := by
  obtain ⟨p, c, h1, h2, h3, h4, h5⟩ := h.out
  refine ⟨p, c, h1, h2, h3, h4, fun hn => ?_⟩
  obtain ⟨b, off, hp, hs, hc⟩ := h5 hn
  exact ⟨b, off, hp, (k.sr hs).1, fun j u hu => (k.srCell hs _).trans (hc j u hu)⟩

theorem RowAt.own {B base : Nat} {w : World} {v : Value} {t size n : Nat} {cells : List Value} (h : w.ownsRow base t size v n cells) (ht : Calm t ∧ t ≠ 33) : RowAt B w v size n cells := by
  rcases h.2 with ⟨rfl, hn⟩ | ⟨g, cap, cur, rfl, _, hg, hnc, hcm, hcs, htk⟩
  · subst hn
    exact ⟨none, 0, rfl, Nat.le_refl _, Nat.zero_le _, h.1, fun e => absurd e (by omega)⟩
  · refine ⟨_, _, rfl, hnc, hcm, h.1, fun _ => ⟨g, 0, rfl, .inr ⟨_, _, _, hg, ht⟩, fun j u hu => ?_⟩⟩
    have hj : j < n * size := by rw [← h.1]; exact (List.getElem?_eq_some_iff.1 hu).1
    rw [Nat.zero_add, h.cellAt j hj]; exact hu

/-- The reference's disk: what its fields are, as values. -/
structure RAt (B : Nat) (w : World) (vS vT vW vC : Value) (q : R) : Prop where
  S : RowAt B w vS 1 q.S.length (q.S.map Value.string)
  T : RowAt B w vT 1 q.torn.length (q.torn.map Value.bool)
  W : RowAt B w vW 2 q.wait.length (wrCells q.wait)
  C : CutsR B w vC q.cuts

theorem RAt.og {B : Nat} {w w' : World} {vS vT vW vC : Value} {q : R} (h : RAt B w vS vT vW vC q) (k : Og B w w') : RAt B w' vS vT vW vC q := ⟨h.S.og k, h.T.og k, h.W.og k, h.C.og k⟩
theorem RAt.on {B : Nat} {w w' : World} {vS vT vW vC : Value} {q : R} (h : RAt B w vS vT vW vC q) (k : On B w w') : RAt B w' vS vT vW vC q := h.og k.og

/-- Its cells. -/
def R.cells (q : R) (vS vT vW vC : Value) : Array Value := #[vS, vT, vW, vC, .int .i64 (q.acts : Nat), .int .i64 (q.all : Nat), .int .i64 (q.fails : Nat), .bool q.dead]

/-- A value that is the reference's disk. -/
structure RVal (B : Nat) (w : World) (v : Value) (q : R) : Prop where
  out : ∃ vS vT vW vC, v = .agg (q.cells vS vT vW vC) ∧ RAt B w vS vT vW vC q

theorem RVal.on {B : Nat} {w w' : World} {v : Value} {q : R} (h : RVal B w v q) (k : On B w w') : RVal B w' v q := by
  obtain ⟨a, b, c, d, e, h⟩ := h.out
  exact ⟨a, b, c, d, e, h.on k⟩

theorem RAt.slices {B : Nat} {w : World} {vS vT vW vC : Value} {q : R} (h : RAt B w vS vT vW vC q) : ∃ pS cS pT cT pW cW pC cC, vS = .slice pS q.S.length cS ∧ vT = .slice pT q.torn.length cT ∧ vW = .slice pW q.wait.length cW ∧ vC = .slice pC q.cuts.length cC := by
  obtain ⟨pS, cS, e1, _⟩ := h.S.out
  obtain ⟨pT, cT, e2, _⟩ := h.T.out
  obtain ⟨pW, cW, e3, _⟩ := h.W.out
  obtain ⟨pC, cC, e4, _⟩ := h.C.out
  exact ⟨pS, cS, pT, cT, pW, cW, pC, cC, e1, e2, e3, e4⟩

theorem size33 : (Try.prog.info? 33).map (·.size) = some 8 := by kernel_rfl

set_option maxHeartbeats 2000000 in
set_option maxRecDepth 100000 in
theorem rup_walk {B : Nat} {w : World} {v : Value} {q : R} (h : RVal B w v q) (hB : B ≤ w.heap.size) : Calls Try.prog 18 #[v] w fun e w' => ∃ v', e = .returned v' ∧ RVal B w' v' q.up ∧ Kept w w' := by
  obtain ⟨vS, vT, vW, vC, rfl, hr⟩ := h.out
  obtain ⟨pS, cS, pT, cT, pW, cW, pC, cC, rfl, rfl, rfl, rfl⟩ := hr.slices
  unfold R.cells
  cases hd : q.dead with
  | true =>
    have e : q.up = { q with dead := false, acts := 0 } := by simp [R.up, hd]
    rw [e]
    go_enter Try.func18, Try.ntmps18
    go_wp2
    refine bodyPost_ret (results_cell_row (p := 2) (ty := 33) rfl _ _ (w.heap.size + 1) 33 _ (0, 0) _ rfl (two_new _ _ _) Try.underlying33 rfl size33) rfl ?_
    exact ⟨_, rfl, ⟨_, _, _, _, rfl, ⟨(hr.on (((Kept.refl w).alloc _).alloc _ |>.on hB)).S, (hr.on (((Kept.refl w).alloc _).alloc _ |>.on hB)).T, (hr.on (((Kept.refl w).alloc _).alloc _ |>.on hB)).W, (hr.on (((Kept.refl w).alloc _).alloc _ |>.on hB)).C⟩⟩, ((Kept.refl w).alloc _).alloc _⟩
  | false =>
    have e : q.up = q := by simp [R.up, hd]
    rw [e]
    go_enter Try.func18, Try.ntmps18
    go_wp2
    refine bodyPost_ret (results_cell_row (p := 2) (ty := 33) rfl _ _ (w.heap.size + 1) 33 _ (0, 0) _ rfl (two_new _ _ _) Try.underlying33 rfl size33) rfl ?_
    exact ⟨_, rfl, ⟨_, _, _, _, by rw [R.cells, hd], hr.on ((((Kept.refl w).alloc _).alloc _).on hB)⟩, ((Kept.refl w).alloc _).alloc _⟩

theorem info5z : (Try.prog.info? 5).map (fun i => (i.zero, i.size, i.bytes)) = some (some (.int .u8 0), 1, 1) := by kernel_rfl

/-- So many bytes of nought. -/
def noughts (n : Nat) : ByteArray := ⟨Array.replicate n 0⟩

theorem zeros_walk (n : Nat) (hn : n ≤ 256) (w : World) : Calls Try.prog 28 #[.int .i64 (n : Nat)] w fun e w' => e = .returned (.string (noughts n)) ∧ Kept w w' := by
  obtain ⟨i0, hi, hz0, hz1, hz2⟩ := info_parts info5z
  obtain ⟨w1, mk, ho, hg⟩ := run_makeSlice_full (P := Try.prog) w w.heap.size 78 5 i0 _ 1 Try.underlying78 hi hz0 hz1 .i64 .i64 n (by omega) (by rw [hz2]; omega) (by unfold maxLen; omega) (Nat.le_refl _)
  have hk1 : Kept w w1 := ⟨(Below.refl _ w).grown hg (Nat.le_refl _) (fun _ e => by cases e)⟩
  have tx : (convert 78 9 (.slice (some ⟨w.heap.size, 0, none⟩) n n)).run Try.prog w1 = .ok (.string (noughts n)) w1 := by
    rw [run_convert_bytes_arg w1 78 5 Try.underlying78 Try.underlying5 w.heap.size 0 n n (List.replicate n 0) (by simp) (fun i hi => ?_) 9 Try.underlying9]
    · congr 2
      have := strB (noughts n)
      rw [← this]
      congr 1
      simp [noughts]
    · have := ho.cellAt i (by omega)
      rw [Nat.zero_add, this, show (Value.int .u8 0).cells = #[.int .u8 0] from rfl, Nat.mul_one, toList_madeCells_one]
      simp [List.getD, hi]
  clear ho hg hi hz0 hz1 hz2
  go_enter Try.func28, Try.ntmps28
  go_wp2
  go_ret
  exact ⟨rfl, hk1⟩

/-- The bytes that Write writes. -/
theorem add_noughts (s : ByteArray) : s ++ noughts (256 - s.size) = whole s := by
  apply ByteArray.ext
  rw [ByteArray.data_append]
  rfl
theorem noughts_all : noughts 256 = whole ⟨#[]⟩ := by
  have := add_noughts ⟨#[]⟩
  rw [← this]
  apply ByteArray.ext
  rw [ByteArray.data_append]
  show Array.replicate 256 0 = #[] ++ Array.replicate (256 - 0) 0
  rw [Array.empty_append]
end Go.Proofs.Ytfnfdngenohhhaa
