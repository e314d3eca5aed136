/- Bytes that are made of a text and grow by texts: the row that is made of a text bears a mark behind its end. No condition but those that each row names. -/
import Derived.Lib.FrozenHead
import Derived.Test.YtanccfbbaeocaaaLW
import Derived.Test.YtanccfbbaeocaaaLNb
namespace Go.Proofs.Ytanccfbbaeocaaa.Bt
open Go.RowKit Go.Shelf
open N (bs bs_size bs_append un bs_un un_length Small numL fixL cellsOf bs_get)

/-- Stores into cells of a row none of which is frozen. -/
theorem store_free (P : Program) (g o : Nat) (t : TypeId) (fz : Nat × Nat) : ∀ (vs : List Value) (i : Nat) (cur : Array Value) (w : World), w.heap[g]? = some (.cells cur t fz) → (∀ j, o + i ≤ j → j < o + i + vs.length → ¬ (fz.1 ≤ j ∧ j < fz.2)) → o + i + vs.length ≤ cur.size → (∀ v ∈ vs, v.oneCell' = true) →
    (storeCells ⟨g, o, none⟩ vs i).run P w = .ok () (w.setRow g (cur.toList.take (o + i) ++ vs ++ cur.toList.drop (o + i + vs.length)).toArray)
  | [], i, cur, w, hg, _, _, _ => by
    simp only [storeCells, List.append_nil, List.length_nil, Nat.add_zero, List.take_append_drop, Array.toArray_toList]
    rw [setRow_self w g cur t fz hg]
    rfl
  | v :: rest, i, cur, w, hg, hfz, hl, h1 => by
    rw [List.length_cons] at hl hfz
    have hi : o + i < cur.size := by omega
    have hcell : w.cell? ⟨g, o + i, none⟩ = some cur[o + i] := by simp [World.cell?, hg, hi]
    have hfro : w.frozen? ⟨g, o + i, none⟩ = false := by
      have h2 := hfz (o + i) (Nat.le_refl _) (by omega)
      obtain ⟨lo, up⟩ := fz
      simp only [World.frozen?, hg]
      simp only at h2
      simp; omega
    have hst : (store ((⟨g, o, none⟩ : Addr).add i) v).run P w = .ok () (w.setRow g (cur.setIfInBounds (o + i) v)) := by
      rw [Addr.add_lit, run_store P w _ v _ (h1 v (by simp)), hcell]
      simp [hfro, setCell_eq_setRow w g (o + i) cur t fz v hg]
    have ih := store_free P g o t fz rest (i + 1) (cur.setIfInBounds (o + i) v) (w.setRow g (cur.setIfInBounds (o + i) v)) (setRow_heap w g cur _ t _ hg) (fun j h2 h3 => hfz j (by omega) (by omega)) (by simp; omega) (fun x hx => h1 x (by simp [hx]))
    simp only [storeCells, Sem.run_bind, hst, Result.andThen_ok, ih, setRow_setRow]
    congr 3
    have e := list_seg_step cur.toList (o + i) v rest (by simp; omega)
    simpa [Array.toList_setIfInBounds, Nat.add_assoc] using e

/-- Bytes in a row of one's own. -/
structure Rm (w : World) (B : Nat) (v : Value) (l : List Nat) : Prop where
  out : ∃ g cap cur fz, v = .slice (some ⟨g, 0, none⟩) l.length cap ∧ B ≤ g ∧ w.heap[g]? = some (.cells cur 5 fz) ∧ (cap ≤ fz.1 ∨ fz.2 ≤ l.length) ∧ l.length ≤ cap ∧ cap ≤ maxLen ∧ cur.size = cap ∧ cur.toList.take l.length = cellsOf l
theorem Rm.kept {w w' : World} {B : Nat} {v : Value} {l : List Nat} (h : Rm w B v l) (k : Kept w w') : Rm w' B v l := by
  obtain ⟨g, cap, cur, fz, h1, h2, h3, h4⟩ := h.out
  exact ⟨g, cap, cur, fz, h1, h2, k.block h3, h4⟩
theorem Rm.blk {w : World} {B : Nat} {v : Value} {l : List Nat} (h : Rm w B v l) : ∀ k, v.ownBlock = some k → B ≤ k := by
  obtain ⟨g, cap, cur, fz, h1, h2, h3, h4⟩ := h.out
  intro k hk
  rw [h1] at hk; simp [Value.ownBlock] at hk; omega
theorem Rm.lt {w : World} {B : Nat} {v : Value} {l : List Nat} (h : Rm w B v l) : ∀ k, v.ownBlock = some k → k < w.heap.size := by
  obtain ⟨g, cap, cur, fz, h1, h2, h3, h4⟩ := h.out
  intro k hk
  rw [h1] at hk; simp [Value.ownBlock] at hk; subst hk; exact (Array.getElem?_eq_some_iff.1 h3).1
theorem Rm.shape {w : World} {B : Nat} {v : Value} {l : List Nat} (h : Rm w B v l) : ∃ g cap, v = .slice (some ⟨g, 0, none⟩) l.length cap := by
  obtain ⟨g, cap, cur, fz, h1, _⟩ := h.out
  exact ⟨g, cap, h1⟩
theorem Rm.cellAt {w : World} {B g cap : Nat} {l : List Nat} (h : Rm w B (.slice (some ⟨g, 0, none⟩) l.length cap) l) : ∀ j u, (cellsOf l)[j]? = some u → w.cell? ⟨g, j, none⟩ = some u := by
  obtain ⟨g', cap', cur, fz, h1, h2, h3, h4, h5, h6, h7, h8⟩ := h.out
  cases h1
  intro j u hu
  rw [cell_of_row w g j _ _ _ h3]
  rw [← h8, List.getElem?_take] at hu
  split at hu
  · simpa using hu
  · cases hu
theorem cellsOf_un (s : ByteArray) : cellsOf (un s) = Lib.strCells s := by
  unfold cellsOf un Lib.strCells
  rw [List.map_map]; rfl
theorem cellsOf_append (a b : List Nat) : cellsOf (a ++ b) = cellsOf a ++ cellsOf b := by simp [cellsOf]
theorem cellsOf_len (a : List Nat) : (cellsOf a).length = a.length := by simp [cellsOf]
theorem un_bs {l : List Nat} (h : Small l) : un (bs l) = l := by
  unfold un bs
  simp only [List.map_map]
  conv => rhs; rw [← List.map_id l]
  exact List.map_congr_left fun x hx => by simp [Nat.mod_eq_of_lt (h x hx)]
/-- Bytes made of a text. -/
theorem rm_made (w : World) {l : List Nat} (hl : Small l) (hn : l.length ≤ 100000) : ∃ v w', (convert 9 38 (.string (bs l))).run Try.prog w = .ok v w' ∧ Rm w' w.heap.size v l ∧ Kept w w' := by
  have h := run_bytes_of_string (P := Try.prog) w 9 38 5 (bs l) Try.underlying9 Try.underlying38 Try.underlying5
  have hge := grownCap_ge w (bs l).size 0 5
  have hcm : grownCap w (bs l).size 0 5 ≤ maxLen := grownCap_le_maxLen w (bs l).size 0 5 (by rw [bs_size]; unfold maxLen; omega)
  have hsz : (bytesRow (bs l) (grownCap w (bs l).size 0 5)).size = grownCap w (bs l).size 0 5 := by
    unfold bytesRow
    rw [Array.size_append, Array.size_map, Array.size_replicate]
    have : (bs l).data.size = (bs l).size := rfl
    omega
  refine ⟨_, _, h, ⟨w.heap.size, _, _, _, by rw [bs_size], Nat.le_refl _, alloc_at w.drew _, .inl (Nat.le_of_eq hsz.symm), by rw [← bs_size l]; exact hge, hcm, hsz, ?_⟩, (Kept.refl w).drew.alloc _⟩
  have e : (bytesRow (bs l) (grownCap w (bs l).size 0 5)).toList = Lib.strCells (bs l) ++ (Array.replicate (grownCap w (bs l).size 0 5 - (bs l).size) (Value.int .u8 0)).toList := by
    unfold bytesRow Lib.strCells
    simp
  rw [e, ← cellsOf_un, un_bs hl, List.take_left' (cellsOf_len l)]
/-- A text more. -/
theorem rm_append {w : World} {B : Nat} {v : Value} {l : List Nat} (h : Rm w B v l) (hB : B ≤ w.heap.size) {m : List Nat} (hm : Small m) (hn : l.length + m.length ≤ 100000) (ty : TypeId) :
    ∃ v' w', (Builtin.append_ #[38, 9] ty #[v, .string (bs m)]).run Try.prog w = .ok v' w' ∧ Rm w' B v' (l ++ m) ∧ w.grownBy w' v.ownBlock ∧ ∀ k, v'.ownBlock = some k → v.ownBlock = some k ∨ w.heap.size ≤ k := by
  obtain ⟨i0, hi, hz0, hz1, hz2⟩ := info_parts N.info5
  obtain ⟨g, cap, cur, fz, rfl, h2, h3, h4, h5, h6, h7, h8⟩ := h.out
  have hsm : (bs m).size = m.length := bs_size m
  have hsc : Lib.strCells (bs m) = cellsOf m := by rw [← cellsOf_un, un_bs hm]
  by_cases hroom : l.length + (bs m).size ≤ cap
  · have hf := Lib.run_firstCells_string (P := Try.prog) w 1 (bs m)
    have hst := store_free Try.prog g l.length 5 fz (Lib.strCells (bs m)) 0 cur w h3 (fun j j1 j2 => by rw [Lib.strCells_length] at j2; omega) (by rw [Lib.strCells_length]; omega) (Lib.strCells_oneCell (bs m))
    simp only [Nat.add_zero, Lib.strCells_length] at hst
    have hr : (Builtin.append_ #[38, 9] ty #[.slice (some ⟨g, 0, none⟩) l.length cap, .string (bs m)]).run Try.prog w = .ok (.slice (some ⟨g, 0, none⟩) (l.length + (bs m).size) cap) (w.setRow g (cur.toList.take l.length ++ Lib.strCells (bs m) ++ cur.toList.drop (l.length + (bs m).size)).toArray) := by
      simp [Builtin.append_, run_underlying Try.underlying38, run_underlying Try.underlying9, sizeOf, typeInfo, hi, hz1, Builtin.lenOf, hroom, hf, Addr.add_lit, hst]
    refine ⟨_, _, hr, ⟨g, cap, _, fz, by rw [List.length_append, hsm], h2, setRow_heap w g cur _ 5 _ h3, by rw [List.length_append]; omega, by rw [List.length_append]; omega, h6, ?_, ?_⟩, ⟨rfl, rfl, rfl, by simp, fun k _ hk => setRow_other w g k _ (fun e => hk (by simp [Value.ownBlock, e]))⟩, fun k hk => .inl hk⟩
    · simp only [List.size_toArray, List.length_append, List.length_take, List.length_drop, Array.length_toList, Lib.strCells_length]
      omega
    · rw [List.toList_toArray, h8, hsc, ← cellsOf_append, List.take_left' (cellsOf_len _)]
  · have hr := Lib.run_append_grow_string (P := Try.prog) w 38 9 ty 5 i0 (.int .u8 0) Try.underlying38 Try.underlying9 hi hz0 ⟨g, 0, none⟩ l.length cap (cellsOf l) (by rw [hz1, cellsOf_len, Nat.mul_one]) (fun j u hu => by rw [Addr.add_lit, Nat.zero_add]; exact h.cellAt j u hu) (bs m) (by omega) (by omega) (by rw [hz2]; exact growslice_fits (by omega) (by omega))
    have hge := grownCap_ge w (l.length + (bs m).size) cap 5
    have hcm2 : grownCap w (l.length + (bs m).size) cap 5 ≤ maxLen := grownCap_le_maxLen w (l.length + (bs m).size) cap 5 (by unfold maxLen; omega)
    refine ⟨_, _, hr, ⟨w.heap.size, _, _, (0, 0), by rw [List.length_append, hsm], hB, heap_alloc_new w.drew _, .inr (Nat.zero_le _), by rw [List.length_append]; omega, hcm2, ?_, ?_⟩, ⟨rfl, rfl, rfl, by simp, fun k hk _ => ((Kept.refl w).drew.alloc _).out.block k hk⟩, fun k hk => .inr (by simp [Value.ownBlock] at hk; omega)⟩
    · have hz1' : (Value.int IntKind.u8 0).cells.size = 1 := rfl
      simp only [Array.size_append, List.size_toArray, size_zeroCells, hz1', cellsOf_len, Lib.strCells_length]
      omega
    · rw [hsc]
      simp only [Array.toList_append]
      rw [← cellsOf_append, List.take_left' (cellsOf_len _)]
/-- The text of bytes. -/
theorem rm_text {w : World} {B : Nat} {v : Value} {l : List Nat} (h : Rm w B v l) : (convert 38 9 v).run Try.prog w = .ok (.string (bs l)) w := by
  obtain ⟨g, cap, rfl⟩ := h.shape
  rw [run_convert_bytes_arg w 38 5 Try.underlying38 Try.underlying5 g 0 l.length cap (l.map fun x : Nat => (x : Int)) (by simp) (fun i hi => ?_) 9 Try.underlying9, N.strOf]
  have := h.cellAt i (.int .u8 ((l.getD i 0 : Nat) : Int)) (by simp [cellsOf, List.getD, hi])
  rw [Nat.zero_add, this]
  simp [List.getD, hi]
end Go.Proofs.Ytanccfbbaeocaaa.Bt
