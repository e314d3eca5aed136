/- The walk of slices.Insert at texts: into a slice of one's own. Conditions: 100000 pieces at most; one piece is put in, which lies in a block of its own. -/
import Derived.Test.YtgcfollelefmcaaSlA
namespace Go.Proofs.Ytgcfollelefmcaa
open Go.ChangeShapes Go.WideShapes Go.ChangeAt Go.RowKit

theorem setCells_row (g : Nat) (e : TypeId) : ∀ (vs : List Value) (o : Nat) (cur : Array Value) (w : World), w.heap[g]? = some (.cells cur e (0, 0)) → o + vs.length ≤ cur.size →
    w.setCells g o vs = w.setRow g (cur.toList.take o ++ vs ++ cur.toList.drop (o + vs.length)).toArray
  | [], o, cur, w, hg, _ => by
    rw [World.setCells]
    simp only [List.append_nil, List.length_nil, Nat.add_zero, List.take_append_drop, Array.toArray_toList]
    exact (setRow_self w g cur e (0, 0) hg).symm
  | v :: r, o, cur, w, hg, hl => by
    have hi : o < cur.size := by simp at hl; omega
    rw [World.setCells, setCell_eq_setRow w g o cur e (0, 0) v hg, setCells_row g e r (o + 1) (cur.setIfInBounds o v) _ (setRow_heap w g _ _ _ _ hg) (by simp at hl ⊢; omega), setRow_setRow]
    congr 2
    have hx := list_seg_step cur.toList o v r (by simp at hl ⊢; omega)
    simpa [Array.toList_setIfInBounds, Nat.add_assoc, Nat.add_comm 1] using hx

/-- What is left of a row in which, from place i on, all is moved by k, and k new ones are put there. -/
theorem moved (cur cs us : List Value) (i n k : Nat) (hk : us.length = k) (hi : i ≤ n) (hcs : cur.take n = cs) (hl : n + k ≤ cur.length) :
    ((cur.take (i + k) ++ cs.drop i ++ cur.drop (i + k + (cs.drop i).length)).take i ++ us ++ (cur.take (i + k) ++ cs.drop i ++ cur.drop (i + k + (cs.drop i).length)).drop (i + us.length)).take (n + k) = cs.take i ++ us ++ cs.drop i := by
  subst hcs
  have e1 : (cur.take (i + k) ++ (cur.take n).drop i ++ cur.drop (i + k + ((cur.take n).drop i).length)).take i = cur.take i := by
    rw [List.append_assoc, List.take_append_of_le_length (by simp; omega), List.take_take, Nat.min_eq_left (by omega)]
  have e2 : (cur.take (i + k) ++ (cur.take n).drop i ++ cur.drop (i + k + ((cur.take n).drop i).length)).drop (i + us.length) = (cur.take n).drop i ++ cur.drop (i + k + ((cur.take n).drop i).length) := by
    rw [hk, List.append_assoc, List.drop_left' (by simp; omega)]
  rw [e1, e2, List.take_take, Nat.min_eq_left hi, ← List.append_assoc, List.take_left' (by simp; omega)]

theorem World.setRow_drew (w : World) (g : Nat) (cs : Array Value) : (w.drew.setRow g cs) = (w.setRow g cs).drew := rfl

theorem grown_row {w W : World} {g : Nat} (cs : Array Value) (h : Kept w W) : w.grownBy (W.setRow g cs) (some g) :=
  ⟨h.out.os, h.out.tape, h.out.output, by rw [setRow_size]; exact h.size, fun i hi hne => by rw [setRow_other _ _ _ _ (fun e => hne (by rw [e]))]; exact h.out.block i hi⟩

/-- The block of a slice. -/
def blk (p : Option Addr) : Option Nat := p.map (·.block)

set_option maxHeartbeats 1000000 in
theorem insert45 {w : World} {B : Nat} {p : Option Addr} {n c : Nat} {cs : List Value} (h : Own w B 9 1 p n c cs) (hB : B ≤ w.heap.size) (i : Nat) (hi : i ≤ n) (hn : n ≤ 100000) (h1 : ∀ u ∈ cs, u.oneCell' = true)
    (vb : Nat) (u : Value) (hv : w.heap[vb]? = some (.cells #[u] 9 (0, 0))) (hne : ∀ g, p = some ⟨g, 0, none⟩ → g ≠ vb) (hu : u.oneCell' = true) :
    Calls Try.prog 45 #[.slice p n c, .int .i64 (i : Nat), .slice (some ⟨vb, 0, none⟩) 1 1] w fun e w' => ∃ p' c', e = .returned (.slice p' (n + 1) c') ∧ Own w' B 9 1 p' (n + 1) c' (cs.take i ++ u :: cs.drop i) ∧ w.grownBy w' (blk p) := by
  have hvs : ∀ (j : Nat) (v : Value), [u][j]? = some v → w.cell? ⟨vb, 0 + j, none⟩ = some v := by
    intro j v hj
    match j, hj with
    | 0, hj => rw [cell_of_row w vb 0 _ _ _ hv]; simpa using hj
  have h1v : ∀ v ∈ [u], v.oneCell' = true := by intro v hv; simp at hv; subst hv; exact hu
  have hlen := h.rw.len
  rw [Nat.mul_one] at hlen
  have hkn : ∀ (o : Obj), Kept w (w.drew.alloc o) := fun o => (Kept.refl w).drew.alloc o
  have hendg : ∀ (q : Option Addr) (c : Nat), n ≤ c → c < n + 1 → (q = none → n = 0) → (∀ a, q = some a → ∀ j v, cs[j]? = some v → w.cell? (a.add j) = some v) → i = n →
      Calls Try.prog 45 #[.slice q n c, .int .i64 (i : Nat), .slice (some ⟨vb, 0, none⟩) 1 1] w fun e w' => ∃ p' c', e = .returned (.slice p' (n + 1) c') ∧ Own w' B 9 1 p' (n + 1) c' (cs.take i ++ u :: cs.drop i) ∧ w.grownBy w' (blk p) := by
    intro q c hc1 hc2 hq1 hq2 hin
    subst hin
    refine (Any2.slices_Insert_string_end_grow Try.lays22 q i c vb 0 1 1 cs [u] w (by decide) hc1 hc2 (by omega) hlen rfl hq1 hq2 hvs h1v).mono ?_
    rintro e w' ⟨rfl, rfl⟩
    have hG := grownCap_ge w (i + 1) c 9
    have hG2 := grownCap_le_maxLen w (i + 1) c 9 (by unfold maxLen; omega)
    refine ⟨_, _, rfl, ⟨by simp [hlen], .inr ⟨_, _, _, rfl, hB, heap_alloc_new _ _, hG, hG2, ?_, ?_⟩⟩, (hkn _).grown _⟩
    · simp [Builtin.zeroCells, Value.cells, hlen]
      show i + 1 + (grownCap w (i + 1) c 9 - (i + 1)) = grownCap w (i + 1) c 9
      omega
    · rw [Array.toList_append, List.take_left' (by simp [hlen]), List.take_of_length_le (by omega), List.drop_eq_nil_of_le (by omega)]
  rcases h.cases with ⟨rfl, rfl, rfl, rfl⟩ | ⟨g, cur, rfl, hBg, hg1, hg, hnc, hcm, hcs, ht⟩
  · obtain rfl : i = 0 := by omega
    exact hendg none 0 (Nat.le_refl _) (by omega) (fun _ => rfl) (fun a ha => by cases ha) rfl
  · rw [Nat.mul_one] at hcs ht
    have hcell : ∀ (j : Nat) (v : Value), cs[j]? = some v → w.cell? ⟨g, 0 + j, none⟩ = some v := by
      intro j v hj
      rw [Nat.zero_add, cell_of_row w g j _ _ _ hg]
      rw [← ht, List.getElem?_take] at hj
      split at hj
      · simpa using hj
      · cases hj
    have hgv := hne g rfl
    have hsp : ∀ j, j < c → (w.cell? ⟨g, j, none⟩).isSome = true := fun j hj => by rw [cell_of_row w g j _ _ _ hg]; simp; omega
    have hfz : ∀ j, w.frozen? ⟨g, j, none⟩ = false := fun j => frozen_of_row w g j _ _ hg
    by_cases hroom : n + 1 ≤ c
    · by_cases hin : i < n
      · refine (Any2.slices_Insert_string_shift Try.lays22 g 0 n c i vb 0 1 1 cs [u] w hin (by decide) hroom (by unfold maxLen at hcm; omega) (Ne.symm hgv) hlen rfl hcell (fun j hj => by rw [Nat.zero_add]; exact hsp j (by omega)) (fun j _ => by rw [Nat.zero_add]; exact hfz j) hvs h1 h1v 9 9 1 c ?_ ?_ (by omega) (frozen_of_row w vb 0 _ _ hv) (frozen_of_row w vb 1 _ _ hv)).mono ?_
        · simp [World.shape?, hv]
        · simp [World.shape?, hg, hcs]
        rintro e w' ⟨rfl, rfl⟩
        rw [Nat.zero_add, Nat.zero_add, setCells_row g 9 (cs.drop i) (i + 1) cur w.drew hg (by simp; omega), setCells_row g 9 [u] i _ _ (setRow_heap w.drew g _ _ _ _ hg) (by simp; omega), setRow_setRow]
        refine ⟨_, _, rfl, ⟨by simp [hlen]; omega, .inr ⟨g, c, _, rfl, hBg, setRow_heap w.drew g _ _ _ _ hg, hroom, hcm, ?_, ?_⟩⟩, grown_row _ (Kept.refl w).drew⟩
        · simp; omega
        · have := moved cur.toList cs [u] i n 1 rfl hi ht (by simp; omega)
          simpa using this
      · obtain rfl : i = n := by omega
        refine (Any2.slices_Insert_string_end_room Try.lays22 g 0 i c vb 0 1 1 [u] w (by decide) hroom (by unfold maxLen at hcm; omega) rfl (fun j hj => by rw [Nat.zero_add]; exact hsp _ (by omega)) (fun j _ => by rw [Nat.zero_add]; exact hfz _) hvs h1v).mono ?_
        rintro e w' ⟨rfl, rfl⟩
        rw [Nat.zero_add, setCells_row g 9 [u] i cur w hg (by simp; omega)]
        refine ⟨_, _, rfl, ⟨by simp [hlen], .inr ⟨g, c, _, rfl, hBg, setRow_heap w g _ _ _ _ hg, hroom, hcm, ?_, ?_⟩⟩, grown_row _ (Kept.refl w)⟩
        · simp; omega
        · have e1 : cs.take i = cs := List.take_of_length_le (by omega)
          have e2 : cs.drop i = [] := List.drop_eq_nil_of_le (by omega)
          have e3 : (cur.toList.take i ++ [u] ++ cur.toList.drop (i + [u].length)).take (i + 1) = cs ++ [u] := by rw [ht, List.take_left' (by simp [hlen])]
          rw [e1, e2, Nat.mul_one]
          simpa using e3
    · by_cases hin : i < n
      · refine (Any2.slices_Insert_string_grow Try.lays22 g 0 n c i vb 0 1 1 cs [u] w hin (by decide) hnc (by omega) (by omega) hlen rfl hcell hvs h1 h1v).mono ?_
        rintro e w' ⟨rfl, rfl⟩
        have hG := grownCap_ge w (n + 1) c 9
        have hG2 := grownCap_le_maxLen w (n + 1) c 9 (by unfold maxLen; omega)
        generalize hGe : grownCap w (n + 1) c (Try.lays22_ren.t 9) = G
        have hGe' : grownCap w (n + 1) c 9 = G := hGe
        rw [hGe'] at hG hG2
        obtain ⟨ROW, hROW⟩ : ∃ ROW : Array Value, ROW = (cs.take i).toArray ++ Builtin.zeroCells (Value.string ⟨#[]⟩).cells (n + 1 - i) ++ Builtin.zeroCells (Value.string ⟨#[]⟩).cells (G - (n + 1)) := ⟨_, rfl⟩
        rw [← hROW]
        have hRs : ROW.size = G := by rw [hROW]; simp [Builtin.zeroCells, Value.cells, hlen]; omega
        have hRt : ROW.toList.take i = cs.take i := by
          rw [hROW, Array.toList_append, Array.toList_append, List.append_assoc, List.take_left' (by simp [hlen]; omega)]
        have hb0 : (w.alloc (.cells ROW 9)).drew.heap[w.heap.size]? = some (.cells ROW 9 (0, 0)) := heap_alloc_new w _
        show ∃ p' c', _ ∧ Own ((((w.alloc (.cells ROW 9)).drew.setCells w.heap.size i [u]).drew).setCells w.heap.size (i + 1) (cs.drop i)) B 9 1 p' (n + 1) c' (cs.take i ++ u :: cs.drop i) ∧ w.grownBy ((((w.alloc (.cells ROW 9)).drew.setCells w.heap.size i [u]).drew).setCells w.heap.size (i + 1) (cs.drop i)) (blk _)
        rw [setCells_row w.heap.size 9 [u] i ROW _ hb0 (by simp; omega)]
        have hb1 : (((w.alloc (.cells ROW 9)).drew.setRow w.heap.size (ROW.toList.take i ++ [u] ++ ROW.toList.drop (i + [u].length)).toArray).drew).heap[w.heap.size]? = some (.cells (ROW.toList.take i ++ [u] ++ ROW.toList.drop (i + [u].length)).toArray 9 (0, 0)) := setRow_heap (w.alloc (.cells ROW 9)).drew w.heap.size _ (ROW.toList.take i ++ [u] ++ ROW.toList.drop (i + [u].length)).toArray _ _ hb0
        rw [setCells_row w.heap.size 9 (cs.drop i) (i + 1) _ _ hb1 (by simp; omega)]
        refine ⟨_, _, rfl, ⟨by simp [hlen]; omega, .inr ⟨w.heap.size, G, _, rfl, hB, setRow_heap _ _ _ _ _ _ hb1, hG, hG2, ?_, ?_⟩⟩, ?_⟩
        · simp; omega
        · simp only [hRt]
          have ec : (cs.take i).length = i := by simp [hlen]; omega
          have e5 : (cs.take i ++ [u] ++ ROW.toList.drop (i + [u].length)).take (i + 1) = cs.take i ++ [u] := List.take_left' (by simp [ec])
          rw [e5, Nat.mul_one, List.take_left' (by simp [hlen]; omega)]
          simp
        · have hk := ((((Kept.refl w).alloc (.cells ROW 9)).drew.setRow (Nat.le_refl _) (ROW.toList.take i ++ [u] ++ ROW.toList.drop (i + [u].length)).toArray).drew)
          exact (hk.setRow (Nat.le_refl _) _).grown _
      · obtain rfl : i = n := by omega
        exact hendg _ c hnc (by omega) (fun e => by cases e) (fun a ha j v hj => by injection ha with ha; subst ha; rw [Addr.add_lit]; exact hcell j v hj) rfl
end Go.Proofs.Ytgcfollelefmcaa
