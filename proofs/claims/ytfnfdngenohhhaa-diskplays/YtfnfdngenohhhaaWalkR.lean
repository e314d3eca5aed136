/- The walk of the reference's settle of a write that is kept or torn. Conditions: a sector that there is; no more than 1000 of them. -/
import Derived.Test.YtfnfdngenohhhaaWalkQ
import Derived.Deep.RegionHeld3
import Derived.Deep.DrawnRows
namespace Go.Proofs.Ytfnfdngenohhhaa
open Go.ChangeShapes Go.WideShapes Go.ChangeAt Go.RowKit

theorem ready8 {W : World} {b : Nat} {c0 c1 c2 c3 c4 c5 c6 c7 : Value} {t : TypeId} (h0 : W.heap[b]? = some (.cells #[c0, c1, c2, c3, c4, c5, c6, c7] t)) (v0 v1 v2 v3 v4 v5 v6 v7 : Value) :
    (W.cell? ⟨b, 0, none⟩ = some c0 ∧ W.frozen? ⟨b, 0, none⟩ = false) ∧
    ((W.setCell ⟨b, 0, none⟩ v0).cell? ⟨b, 1, none⟩ = some c1 ∧ (W.setCell ⟨b, 0, none⟩ v0).frozen? ⟨b, 1, none⟩ = false) ∧
    (((W.setCell ⟨b, 0, none⟩ v0).setCell ⟨b, 1, none⟩ v1).cell? ⟨b, 2, none⟩ = some c2 ∧ ((W.setCell ⟨b, 0, none⟩ v0).setCell ⟨b, 1, none⟩ v1).frozen? ⟨b, 2, none⟩ = false) ∧
    ((((W.setCell ⟨b, 0, none⟩ v0).setCell ⟨b, 1, none⟩ v1).setCell ⟨b, 2, none⟩ v2).cell? ⟨b, 3, none⟩ = some c3 ∧ (((W.setCell ⟨b, 0, none⟩ v0).setCell ⟨b, 1, none⟩ v1).setCell ⟨b, 2, none⟩ v2).frozen? ⟨b, 3, none⟩ = false) ∧
    (((((W.setCell ⟨b, 0, none⟩ v0).setCell ⟨b, 1, none⟩ v1).setCell ⟨b, 2, none⟩ v2).setCell ⟨b, 3, none⟩ v3).cell? ⟨b, 4, none⟩ = some c4 ∧ ((((W.setCell ⟨b, 0, none⟩ v0).setCell ⟨b, 1, none⟩ v1).setCell ⟨b, 2, none⟩ v2).setCell ⟨b, 3, none⟩ v3).frozen? ⟨b, 4, none⟩ = false) ∧
    ((((((W.setCell ⟨b, 0, none⟩ v0).setCell ⟨b, 1, none⟩ v1).setCell ⟨b, 2, none⟩ v2).setCell ⟨b, 3, none⟩ v3).setCell ⟨b, 4, none⟩ v4).cell? ⟨b, 5, none⟩ = some c5 ∧ (((((W.setCell ⟨b, 0, none⟩ v0).setCell ⟨b, 1, none⟩ v1).setCell ⟨b, 2, none⟩ v2).setCell ⟨b, 3, none⟩ v3).setCell ⟨b, 4, none⟩ v4).frozen? ⟨b, 5, none⟩ = false) ∧
    (((((((W.setCell ⟨b, 0, none⟩ v0).setCell ⟨b, 1, none⟩ v1).setCell ⟨b, 2, none⟩ v2).setCell ⟨b, 3, none⟩ v3).setCell ⟨b, 4, none⟩ v4).setCell ⟨b, 5, none⟩ v5).cell? ⟨b, 6, none⟩ = some c6 ∧ ((((((W.setCell ⟨b, 0, none⟩ v0).setCell ⟨b, 1, none⟩ v1).setCell ⟨b, 2, none⟩ v2).setCell ⟨b, 3, none⟩ v3).setCell ⟨b, 4, none⟩ v4).setCell ⟨b, 5, none⟩ v5).frozen? ⟨b, 6, none⟩ = false) ∧
    ((((((((W.setCell ⟨b, 0, none⟩ v0).setCell ⟨b, 1, none⟩ v1).setCell ⟨b, 2, none⟩ v2).setCell ⟨b, 3, none⟩ v3).setCell ⟨b, 4, none⟩ v4).setCell ⟨b, 5, none⟩ v5).setCell ⟨b, 6, none⟩ v6).cell? ⟨b, 7, none⟩ = some c7 ∧ (((((((W.setCell ⟨b, 0, none⟩ v0).setCell ⟨b, 1, none⟩ v1).setCell ⟨b, 2, none⟩ v2).setCell ⟨b, 3, none⟩ v3).setCell ⟨b, 4, none⟩ v4).setCell ⟨b, 5, none⟩ v5).setCell ⟨b, 6, none⟩ v6).frozen? ⟨b, 7, none⟩ = false) ∧
    ((((((((W.setCell ⟨b, 0, none⟩ v0).setCell ⟨b, 1, none⟩ v1).setCell ⟨b, 2, none⟩ v2).setCell ⟨b, 3, none⟩ v3).setCell ⟨b, 4, none⟩ v4).setCell ⟨b, 5, none⟩ v5).setCell ⟨b, 6, none⟩ v6).setCell ⟨b, 7, none⟩ v7).heap[b]? = some (.cells #[v0, v1, v2, v3, v4, v5, v6, v7] t) := by
  have h1 : (W.setCell ⟨b, 0, none⟩ v0).heap[b]? = some (.cells #[v0, c1, c2, c3, c4, c5, c6, c7] t) := by rw [heap_setCell_same _ b 0 _ _ _ h0]; rfl
  have h2 : ((W.setCell ⟨b, 0, none⟩ v0).setCell ⟨b, 1, none⟩ v1).heap[b]? = some (.cells #[v0, v1, c2, c3, c4, c5, c6, c7] t) := by rw [heap_setCell_same _ b 1 _ _ _ h1]; rfl
  have h3 : (((W.setCell ⟨b, 0, none⟩ v0).setCell ⟨b, 1, none⟩ v1).setCell ⟨b, 2, none⟩ v2).heap[b]? = some (.cells #[v0, v1, v2, c3, c4, c5, c6, c7] t) := by rw [heap_setCell_same _ b 2 _ _ _ h2]; rfl
  have h4 : ((((W.setCell ⟨b, 0, none⟩ v0).setCell ⟨b, 1, none⟩ v1).setCell ⟨b, 2, none⟩ v2).setCell ⟨b, 3, none⟩ v3).heap[b]? = some (.cells #[v0, v1, v2, v3, c4, c5, c6, c7] t) := by rw [heap_setCell_same _ b 3 _ _ _ h3]; rfl
  have h5 : (((((W.setCell ⟨b, 0, none⟩ v0).setCell ⟨b, 1, none⟩ v1).setCell ⟨b, 2, none⟩ v2).setCell ⟨b, 3, none⟩ v3).setCell ⟨b, 4, none⟩ v4).heap[b]? = some (.cells #[v0, v1, v2, v3, v4, c5, c6, c7] t) := by rw [heap_setCell_same _ b 4 _ _ _ h4]; rfl
  have h6 : ((((((W.setCell ⟨b, 0, none⟩ v0).setCell ⟨b, 1, none⟩ v1).setCell ⟨b, 2, none⟩ v2).setCell ⟨b, 3, none⟩ v3).setCell ⟨b, 4, none⟩ v4).setCell ⟨b, 5, none⟩ v5).heap[b]? = some (.cells #[v0, v1, v2, v3, v4, v5, c6, c7] t) := by rw [heap_setCell_same _ b 5 _ _ _ h5]; rfl
  have h7 : (((((((W.setCell ⟨b, 0, none⟩ v0).setCell ⟨b, 1, none⟩ v1).setCell ⟨b, 2, none⟩ v2).setCell ⟨b, 3, none⟩ v3).setCell ⟨b, 4, none⟩ v4).setCell ⟨b, 5, none⟩ v5).setCell ⟨b, 6, none⟩ v6).heap[b]? = some (.cells #[v0, v1, v2, v3, v4, v5, v6, c7] t) := by rw [heap_setCell_same _ b 6 _ _ _ h6]; rfl
  have h8 : ((((((((W.setCell ⟨b, 0, none⟩ v0).setCell ⟨b, 1, none⟩ v1).setCell ⟨b, 2, none⟩ v2).setCell ⟨b, 3, none⟩ v3).setCell ⟨b, 4, none⟩ v4).setCell ⟨b, 5, none⟩ v5).setCell ⟨b, 6, none⟩ v6).setCell ⟨b, 7, none⟩ v7).heap[b]? = some (.cells #[v0, v1, v2, v3, v4, v5, v6, v7] t) := by rw [heap_setCell_same _ b 7 _ _ _ h7]; rfl
  exact ⟨⟨by rw [cell_of_row _ b 0 _ _ _ h0]; rfl, frozen_of_row _ b 0 _ _ h0⟩, ⟨by rw [cell_of_row _ b 1 _ _ _ h1]; rfl, frozen_of_row _ b 1 _ _ h1⟩, ⟨by rw [cell_of_row _ b 2 _ _ _ h2]; rfl, frozen_of_row _ b 2 _ _ h2⟩, ⟨by rw [cell_of_row _ b 3 _ _ _ h3]; rfl, frozen_of_row _ b 3 _ _ h3⟩, ⟨by rw [cell_of_row _ b 4 _ _ _ h4]; rfl, frozen_of_row _ b 4 _ _ h4⟩, ⟨by rw [cell_of_row _ b 5 _ _ _ h5]; rfl, frozen_of_row _ b 5 _ _ h5⟩, ⟨by rw [cell_of_row _ b 6 _ _ _ h6]; rfl, frozen_of_row _ b 6 _ _ h6⟩, ⟨by rw [cell_of_row _ b 7 _ _ _ h7]; rfl, frozen_of_row _ b 7 _ _ h7⟩, h8⟩

theorem cells8 {W : World} {b : Nat} {c0 c1 c2 c3 c4 c5 c6 c7 : Value} {t : TypeId} (h : W.heap[b]? = some (.cells #[c0, c1, c2, c3, c4, c5, c6, c7] t)) :
    W.cell? ⟨b, 0, none⟩ = some c0 ∧ W.cell? ⟨b, 1, none⟩ = some c1 ∧ W.cell? ⟨b, 2, none⟩ = some c2 ∧ W.cell? ⟨b, 3, none⟩ = some c3 ∧ W.cell? ⟨b, 4, none⟩ = some c4 ∧ W.cell? ⟨b, 5, none⟩ = some c5 ∧ W.cell? ⟨b, 6, none⟩ = some c6 ∧ W.cell? ⟨b, 7, none⟩ = some c7 :=
  ⟨by rw [cell_of_row _ b 0 _ _ _ h]; rfl, by rw [cell_of_row _ b 1 _ _ _ h]; rfl, by rw [cell_of_row _ b 2 _ _ _ h]; rfl, by rw [cell_of_row _ b 3 _ _ _ h]; rfl, by rw [cell_of_row _ b 4 _ _ _ h]; rfl, by rw [cell_of_row _ b 5 _ _ _ h]; rfl, by rw [cell_of_row _ b 6 _ _ _ h]; rfl, by rw [cell_of_row _ b 7 _ _ _ h]; rfl⟩

theorem cells2 {W : World} {b : Nat} {c0 c1 : Value} {t : TypeId} (h : W.heap[b]? = some (.cells #[c0, c1] t)) :
    W.cell? ⟨b, 0, none⟩ = some c0 ∧ W.cell? ⟨b, 1, none⟩ = some c1 :=
  ⟨by rw [cell_of_row _ b 0 _ _ _ h]; rfl, by rw [cell_of_row _ b 1 _ _ _ h]; rfl⟩

theorem own_block {W : World} {base e size g n cap : Nat} {xs : List Value} (h : W.ownsRow base e size (.slice (some ⟨g, 0, none⟩) n cap) n xs) : base ≤ g ∧ ∃ cur, W.heap[g]? = some (.cells cur e) := by
  rcases h.2 with ⟨e1, _⟩ | ⟨g', cap', cur', e1, hb, h1, _⟩
  · cases e1
  · injection e1 with e1 _ _
    injection e1 with e1
    injection e1 with e1
    subst e1
    exact ⟨hb, cur', h1⟩

theorem own_write {W : World} {base e g n cap : Nat} {xs : List Value} (h : W.ownsRow base e 1 (.slice (some ⟨g, 0, none⟩) n cap) n xs) (i : Nat) (u : Value) :
    (W.setCell ⟨g, i, none⟩ u).ownsRow base e 1 (.slice (some ⟨g, 0, none⟩) n cap) n (xs.set i u) := by
  refine ⟨by rw [List.length_set]; exact h.1, ?_⟩
  rcases h.2 with ⟨e1, _⟩ | ⟨g', cap', cur, e1, hb, hg, hnc, hcm, hcs, htk⟩
  · cases e1
  · injection e1 with e1 e2 e3
    injection e1 with e1
    injection e1 with e1
    subst e1 e3
    refine .inr ⟨g, cap, _, rfl, hb, heap_setCell_same W g i _ _ _ hg, hnc, hcm, by rw [Array.size_setIfInBounds]; exact hcs, ?_⟩
    rw [← htk]
    simp [List.take_set]

theorem eight_other (W : World) {b k : Nat} (h : k ≠ b) (v0 v1 v2 v3 v4 v5 v6 v7 : Value) : ((((((((W.setCell ⟨b, 0, none⟩ v0).setCell ⟨b, 1, none⟩ v1).setCell ⟨b, 2, none⟩ v2).setCell ⟨b, 3, none⟩ v3).setCell ⟨b, 4, none⟩ v4).setCell ⟨b, 5, none⟩ v5).setCell ⟨b, 6, none⟩ v6).setCell ⟨b, 7, none⟩ v7).heap[k]? = W.heap[k]? := by
  rw [heap_setCell_other _ ⟨b, 7, none⟩ k _ h, heap_setCell_other _ ⟨b, 6, none⟩ k _ h, heap_setCell_other _ ⟨b, 5, none⟩ k _ h, heap_setCell_other _ ⟨b, 4, none⟩ k _ h,
    heap_setCell_other _ ⟨b, 3, none⟩ k _ h, heap_setCell_other _ ⟨b, 2, none⟩ k _ h, heap_setCell_other _ ⟨b, 1, none⟩ k _ h, heap_setCell_other _ ⟨b, 0, none⟩ k _ h]

theorem eight_kept {a W : World} (h : Kept a W) {b : Nat} (hb : a.heap.size ≤ b) (v0 v1 v2 v3 v4 v5 v6 v7 : Value) : Kept a ((((((((W.setCell ⟨b, 0, none⟩ v0).setCell ⟨b, 1, none⟩ v1).setCell ⟨b, 2, none⟩ v2).setCell ⟨b, 3, none⟩ v3).setCell ⟨b, 4, none⟩ v4).setCell ⟨b, 5, none⟩ v5).setCell ⟨b, 6, none⟩ v6).setCell ⟨b, 7, none⟩ v7) :=
  (((((((h.setCell hb _).setCell hb _).setCell hb _).setCell hb _).setCell hb _).setCell hb _).setCell hb _).setCell hb _

theorem own_same {W W' : World} {base e size g n cap : Nat} {xs : List Value} (h : W.ownsRow base e size (.slice (some ⟨g, 0, none⟩) n cap) n xs) (hb : W'.heap[g]? = W.heap[g]?) :
    W'.ownsRow base e size (.slice (some ⟨g, 0, none⟩) n cap) n xs := by
  refine ⟨h.1, ?_⟩
  rcases h.2 with ⟨e1, _⟩ | ⟨g', cap', cur, e1, k1, hg, k2⟩
  · cases e1
  · injection e1 with e1 e2 e3
    injection e1 with e1
    injection e1 with e1
    subst e1 e3
    exact .inr ⟨g, cap, cur, rfl, k1, hb.trans hg, k2⟩

theorem ne_types {W : World} {a b : Nat} {ca cb : Array Value} {ta tb : TypeId} {fa fb : Nat × Nat} (ha : W.heap[a]? = some (.cells ca ta fa)) (hb : W.heap[b]? = some (.cells cb tb fb)) (h : ta ≠ tb) : a ≠ b := by
  intro e
  subst e
  rw [ha] at hb
  injection hb with hb
  injection hb with _ e2 _
  exact h e2

set_option maxHeartbeats 4000000 in
set_option maxRecDepth 100000 in
theorem rsettle1 {B : Nat} {w : World} {v : Value} {q : R} (h : RVal B w v q) (hB : B ≤ w.heap.size) (x : Wr) (hx : x.sec < q.S.length) (hT : q.torn.length = q.S.length) (hn : q.S.length ≤ 1000) (f : Nat) (hf : f = 1 ∨ f = 2) :
    Calls Try.prog 31 #[v, x.val, .int .i64 (f : Nat)] w fun e w' => ∃ v', e = .returned v' ∧ RVal B w' v' (q.settle x f) ∧ Kept w w' := by
  obtain ⟨i9, hi9, hz90, hz91, hz92⟩ := info_parts info9z
  obtain ⟨i4, hi4, hz40, hz41, hz42⟩ := info_parts info4z
  obtain ⟨vS, vT, vW, vC, rfl, hr⟩ := h.out
  obtain ⟨pW, cW, rfl, _⟩ := hr.W.out
  obtain ⟨pC, cC, rfl, _⟩ := hr.C.out
  obtain ⟨n, eS⟩ : ∃ n, q.S.length = n := ⟨_, rfl⟩
  have eT : q.torn.length = n := hT.trans eS
  obtain ⟨pS, cS, e1, hS1, hS2, hS3, hS4⟩ := hr.S.out
  obtain ⟨pT, cT, e2, hT1, hT2, hT3, hT4⟩ := hr.T.out
  rw [eS] at e1 hS1 hS3 hS4 hx hn
  rw [eT] at e2 hT1 hT3 hT4
  subst e1 e2
  obtain ⟨bS, oS, rfl, hsS, hcS⟩ := hS4 (by omega)
  obtain ⟨bT, oT, rfl, hsT, hcT⟩ := hT4 (by omega)
  have hd0 : ((f : Int) == 0) = false := by rcases hf with rfl | rfl <;> rfl
  have HC1 : Hid (∀ w' : World, Kept w w' → ∀ j u, (q.S.map Value.string)[j]? = some u → w'.cell? ((⟨bS, oS, none⟩ : Addr).add j) = some u) := by
    intro w' hk j u hu
    rw [Addr.add_lit, (hk.og hB).srCell hsS]
    exact hcS j u hu
  have HC2 : Hid (∀ w' : World, Kept w w' → ∀ j u, (q.torn.map Value.bool)[j]? = some u → w'.cell? ((⟨bT, oT, none⟩ : Addr).add j) = some u) := by
    intro w' hk j u hu
    rw [Addr.add_lit, (hk.og hB).srCell hsT]
    exact hcT j u hu
  have one1 : ∀ u ∈ q.S.map Value.string, u.oneCell' = true := by intro u hu; obtain ⟨y, _, rfl⟩ := List.mem_map.1 hu; rfl
  have one2 : ∀ u ∈ q.torn.map Value.bool, u.oneCell' = true := by intro u hu; obtain ⟨y, _, rfl⟩ := List.mem_map.1 hu; rfl
  have h63 : 0 + n ≤ maxLen := by unfold maxLen; omega
  have hpos : 0 < n := by omega
  have by1 : (0 + n) * 16 ≤ 140737488355328 := by omega
  have by2 : (0 + n) * 1 ≤ 140737488355328 := by omega
  have len1 : (q.S.map Value.string).length = n * 1 := hS3
  have len2 : (q.torn.map Value.bool).length = n * 1 := hT3
  unfold R.cells Wr.val
  clear hcS hcT hsS hsT hS1 hS2 hS4 hT1 hT2 hT4 hS3 hT3
  go_enter Try.func31, Try.ntmps31
  go_wp2
  obtain ⟨W0, eW0⟩ : ∃ W0, (((w.alloc (Obj.cells #[.slice (some ⟨bS, oS, none⟩) n cS, .slice (some ⟨bT, oT, none⟩) n cT, .slice pW q.wait.length cW, .slice pC q.cuts.length cC, .int .i64 (q.acts : Nat), .int .i64 (q.all : Nat), .int .i64 (q.fails : Nat), .bool q.dead] 33)).alloc (Obj.cells #[.int .i64 (x.sec : Nat), .string x.bytes] 72)).alloc
      (Obj.cells #[.slice none 0 0, .slice none 0 0, .slice none 0 0, .slice none 0 0, .int .i64 0, .int .i64 0, .int .i64 0, .bool false] 33)) = W0 := ⟨_, rfl⟩
  rw [eW0]
  have K0 : Kept w W0 := by rw [← eW0]; exact (((Kept.refl w).alloc _).alloc _).alloc _
  have Z0 : W0.heap[w.heap.size]? = some (Obj.cells #[.slice (some ⟨bS, oS, none⟩) n cS, .slice (some ⟨bT, oT, none⟩) n cT, .slice pW q.wait.length cW, .slice pC q.cuts.length cC, .int .i64 (q.acts : Nat), .int .i64 (q.all : Nat), .int .i64 (q.fails : Nat), .bool q.dead] 33) := by
    rw [← eW0]; exact (((Kept.refl _).alloc _).alloc _).block (heap_alloc_new w _)
  have Z1 : W0.heap[w.heap.size + 1]? = some (Obj.cells #[.int .i64 (x.sec : Nat), .string x.bytes] 72) := by
    rw [← eW0]; exact ((Kept.refl _).alloc _).block (two_new w _ _)
  have Z2 : W0.heap[w.heap.size + 2]? = some (Obj.cells #[.slice none 0 0, .slice none 0 0, .slice none 0 0, .slice none 0 0, .int .i64 0, .int .i64 0, .int .i64 0, .bool false] 33) := by
    rw [← eW0]; exact three_new w _ _ _
  have s0 : W0.cell? ⟨w.heap.size, 0, none⟩ = some (.slice (some ⟨bS, oS, none⟩) n cS) := by rw [cell_of_row _ _ _ _ _ _ Z0]; rfl
  have s1 : W0.cell? ⟨w.heap.size, 1, none⟩ = some (.slice (some ⟨bT, oT, none⟩) n cT) := by rw [cell_of_row _ _ _ _ _ _ Z0]; rfl
  have hsz : w.heap.size + 3 ≤ W0.heap.size := by rw [← eW0]; simp
  clear eW0
  have s0A : ∀ o, (W0.alloc o).cell? ⟨w.heap.size, 0, none⟩ = some (.slice (some ⟨bS, oS, none⟩) n cS) := fun o => Lib.cell?_alloc_some _ s0
  have s1A : ∀ o, (W0.alloc o).cell? ⟨w.heap.size, 1, none⟩ = some (.slice (some ⟨bT, oT, none⟩) n cT) := fun o => Lib.cell?_alloc_some _ s1
  have s0B : ∀ o p, ((W0.alloc o).alloc p).cell? ⟨w.heap.size, 0, none⟩ = some (.slice (some ⟨bS, oS, none⟩) n cS) := fun o p => Lib.cell?_alloc_some _ (s0A o)
  have s1B : ∀ o p, ((W0.alloc o).alloc p).cell? ⟨w.heap.size, 1, none⟩ = some (.slice (some ⟨bT, oT, none⟩) n cT) := fun o p => Lib.cell?_alloc_some _ (s1A o)
  go_cut [2] from 10 to 19 (fun fv wx => fv = .int .i64 (f : Nat) ∧ Mid w q x n (.slice pW q.wait.length cW) (.slice pC q.cuts.length cC) wx)
  case first =>
    go_region_law (first
      | (refine step_append_lies _ (by rfl) _ _ 28 (by rfl) w.heap.size 9 i9 _ 1 16 Try.underlying28 hi9 hz90 hz91 hz92 (by rfl) (by decide) _ 0 [] (by rfl) (own_empty (by first | exact heap_alloc_new _ _ | exact two_new _ _ _ | exact one_old _ _ _) (by first | omega | (simp; omega))) ⟨bS, oS, none⟩ n cS (q.S.map Value.string) (by rfl) len1 (HC1.out _ (by first | exact (K0.alloc _).drew | exact ((K0.alloc _).alloc _).drew)) one1 hpos h63 by1 (by first | omega | (simp; omega)) _ rfl ?_; intro gs caps ws hos hgs _ hlts
         have Ks : Kept W0 ws := grow_kept (by first | exact ((Kept.refl W0).alloc _).drew | exact (((Kept.refl W0).alloc _).alloc _).drew) hgs (by omega)
         try (have h4a : ws.heap[W0.heap.size]? = some (.cells #[] 4) := keep_block hgs (one_old _ _ _) (by omega))
         try (have h4b : ws.heap[W0.heap.size + 1]? = some (.cells #[] 4) := keep_block hgs (two_new _ _ _) (by omega))
         have z0 := Ks.block Z0
         have s1w : ws.cell? ⟨w.heap.size, 1, none⟩ = some (.slice (some ⟨bT, oT, none⟩) n cT) := (by rw [cell_of_row _ _ _ _ _ _ z0]; rfl)
         have s1wA : ∀ o, (ws.alloc o).cell? ⟨w.heap.size, 1, none⟩ = some (.slice (some ⟨bT, oT, none⟩) n cT) := fun o => Lib.cell?_alloc_some _ s1w)
      | (refine step_append_lies _ (by rfl) _ _ 29 (by rfl) w.heap.size 4 i4 _ 1 1 Try.underlying29 hi4 hz40 hz41 hz42 (by rfl) (by decide) _ 0 [] (by rfl) (own_empty (by first | exact heap_alloc_new _ _ | exact h4a | exact h4b) (by have := Ks.size; first | omega | (simp; omega))) ⟨bT, oT, none⟩ n cT (q.torn.map Value.bool) (by rfl) len2 (HC2.out _ (by first | exact (K0.trans Ks) | exact (K0.trans Ks).alloc _)) one2 hpos h63 by2 (by have := Ks.size; first | omega | (simp; omega)) _ rfl ?_; intro gt capt wt hot hgt _ hltt
         have Kt : Kept W0 wt := grow_kept (by first | exact Ks | exact Ks.alloc _) hgt (by have := Ks.size; first | omega | (simp; omega))
         have hos' : wt.ownsRow w.heap.size 9 1 (.slice (some ⟨gs, 0, none⟩) (0 + n) caps) (0 + n) ([] ++ q.S.map Value.string) := (by first | exact own_grown (own_kept ((Kept.refl ws).alloc _) hos) hgt (heap_alloc_new _ _) (by decide) | exact own_grown hos hgt h4a (by decide) | exact own_grown hos hgt h4b (by decide))
         have z0t := Kt.block Z0
         have z1t := Kt.block Z1
         have z2t := Kt.block Z2
         have t0 : wt.cell? ⟨w.heap.size, 0, none⟩ = some (.slice (some ⟨bS, oS, none⟩) n cS) := (by rw [cell_of_row _ _ _ _ _ _ z0t]; rfl)
         have t1 : wt.cell? ⟨w.heap.size, 1, none⟩ = some (.slice (some ⟨bT, oT, none⟩) n cT) := (by rw [cell_of_row _ _ _ _ _ _ z0t]; rfl)
         have tf0 := frozen_of_row wt w.heap.size 0 _ _ z0t
         have tf1 := frozen_of_row wt w.heap.size 1 _ _ z0t; have MM := mid_of (q := q) (x := x) K0 Kt z0t z1t z2t hos' hot))
    all_goals (go_wp2_with fail; go_meet; exact ⟨rfl, MM⟩)
  case rest =>
    obtain ⟨rfl, hM⟩ := hcut
    obtain ⟨gs, caps, gt, capt, m0, ms, mt⟩ := hM.out
    obtain ⟨bs0, cu, hgs⟩ := own_block ms
    obtain ⟨bt0, cv, hgt⟩ := own_block mt
    have n0 := ne_types m0 hgs (by decide)
    have n1 := ne_types hM.b1 hgs (by decide)
    have b2' : wc.heap[w.heap.size + 1 + 1]? = some (Obj.cells #[.slice none 0 0, .slice none 0 0, .slice none 0 0, .slice none 0 0, .int .i64 0, .int .i64 0, .int .i64 0, .bool false] 33) := hM.b2
    have n2 := ne_types b2' hgs (by decide)
    have k0 := ne_types m0 hgt (by decide)
    have k1 := ne_types hM.b1 hgt (by decide)
    have k2 := ne_types b2' hgt (by decide)
    have hne : gt ≠ gs := ne_types hgt hgs (by decide)
    have r0 := ms.cellAt x.sec (by omega)
    rw [List.getElem?_eq_getElem (by rw [len1]; omega)] at r0
    have rf0 := ms.frozenAt x.sec
    obtain ⟨tv, htv⟩ : ∃ tv : Bool, ((f : Int) == 2) = tv := ⟨_, rfl⟩
    have ms1 := own_write ms x.sec (.string x.bytes)
    have mt1 := own_set (i := x.sec) mt hgs (by decide) (.string x.bytes)
    have hgt1 := (heap_setCell_other wc ⟨gs, x.sec, none⟩ gt (.string x.bytes) hne).trans hgt
    have ms2 := own_set (i := x.sec) ms1 hgt1 (by decide) (.bool tv)
    have mt2 := own_write mt1 x.sec (.bool tv)
    have m01 := (heap_setCell_other wc ⟨gs, x.sec, none⟩ w.heap.size (.string x.bytes) n0).trans m0
    have m11 := (heap_setCell_other wc ⟨gs, x.sec, none⟩ (w.heap.size + 1) (.string x.bytes) n1).trans hM.b1
    have m21 := (heap_setCell_other wc ⟨gs, x.sec, none⟩ (w.heap.size + 1 + 1) (.string x.bytes) n2).trans b2'
    have m02 := (heap_setCell_other _ ⟨gt, x.sec, none⟩ w.heap.size (.bool tv) k0).trans m01
    have m12 := (heap_setCell_other _ ⟨gt, x.sec, none⟩ (w.heap.size + 1) (.bool tv) k1).trans m11
    have m22 := (heap_setCell_other _ ⟨gt, x.sec, none⟩ (w.heap.size + 1 + 1) (.bool tv) k2).trans m21
    have r1 := mt1.cellAt x.sec (by omega)
    rw [List.getElem?_eq_getElem (by rw [len2]; omega)] at r1
    have rf1 := mt1.frozenAt x.sec
    obtain ⟨d0, d1, _⟩ := cells8 m0
    obtain ⟨d10, d11⟩ := cells2 hM.b1
    obtain ⟨e0, e1, _⟩ := cells8 m01
    obtain ⟨e10, e11⟩ := cells2 m11
    obtain ⟨f0, f1, _⟩ := cells8 m02
    obtain ⟨f10, f11⟩ := cells2 m12
    have i1 : (0 : Int) ≤ (x.sec : Int) := by omega
    have i2 : (x.sec : Int) < (n : Int) := by omega
    clear s0A s1A s0B s1B s0 s1 Z0 Z1 Z2 hi9 hz90 hz91 hz92 hi4 hz40 hz41 hz42
    have KK : Hid (Kept w ((wc.setCell ⟨gs, x.sec, none⟩ (.string x.bytes)).setCell ⟨gt, x.sec, none⟩ (.bool tv))) := (hM.kept.setCell bs0 _).setCell bt0 _
    go_upto_region 4 with fail
    go_cut [] from 20 to 33 (fun wx => wx = ((wc.setCell ⟨gs, x.sec, none⟩ (.string x.bytes)).setCell ⟨gt, x.sec, none⟩ (.bool tv)).drew)
    case first =>
      go_region_held3 (fun W => W.cell? ⟨w.heap.size, 0, none⟩ = some (.slice (some ⟨gs, 0, none⟩) n caps) ∧ W.cell? ⟨w.heap.size, 1, none⟩ = some (.slice (some ⟨gt, 0, none⟩) n capt) ∧ W.cell? ⟨w.heap.size + 1, 0, none⟩ = some (.int .i64 (x.sec : Nat)) ∧ W.cell? ⟨w.heap.size + 1, 1, none⟩ = some (.string x.bytes)) (go_keep) (fail)
      all_goals go_wp2_with fail
      all_goals go_meet
      all_goals rfl
    case rest =>
      obtain rfl := hcut
      generalize (wc.setCell ⟨gs, x.sec, none⟩ (.string x.bytes)).setCell ⟨gt, x.sec, none⟩ (.bool tv) = W2 at *
      obtain ⟨g0, g1, g2, g3, g4, g5, g6, g7⟩ := cells8 m02
      obtain ⟨⟨a0, b0⟩, ⟨a1, b1⟩, ⟨a2, b2⟩, ⟨a3, b3⟩, ⟨a4, b4⟩, ⟨a5, b5⟩, ⟨a6, b6⟩, ⟨a7, b7⟩, hfin⟩ := ready8 m22 (.slice (some ⟨gs, 0, none⟩) n caps) (.slice (some ⟨gt, 0, none⟩) n capt) (.slice pW q.wait.length cW) (.slice pC q.cuts.length cC) (.int .i64 (q.acts : Nat)) (.int .i64 (q.all : Nat)) (.int .i64 (q.fails : Nat)) (.bool q.dead)
      have n2' : gs ≠ w.heap.size + 1 + 1 := fun e => n2 e.symm
      have k2' : gt ≠ w.heap.size + 1 + 1 := fun e => k2 e.symm
      have hsF := own_same ms2 (eight_other W2 n2' (.slice (some ⟨gs, 0, none⟩) n caps) (.slice (some ⟨gt, 0, none⟩) n capt) (.slice pW q.wait.length cW) (.slice pC q.cuts.length cC) (.int .i64 (q.acts : Nat)) (.int .i64 (q.all : Nat)) (.int .i64 (q.fails : Nat)) (.bool q.dead))
      have htF := own_same mt2 (eight_other W2 k2' (.slice (some ⟨gs, 0, none⟩) n caps) (.slice (some ⟨gt, 0, none⟩) n capt) (.slice pW q.wait.length cW) (.slice pC q.cuts.length cC) (.int .i64 (q.acts : Nat)) (.int .i64 (q.all : Nat)) (.int .i64 (q.fails : Nat)) (.bool q.dead))
      have KF := eight_kept KK.out (b := w.heap.size + 1 + 1) (by omega) (.slice (some ⟨gs, 0, none⟩) n caps) (.slice (some ⟨gt, 0, none⟩) n capt) (.slice pW q.wait.length cW) (.slice pC q.cuts.length cC) (.int .i64 (q.acts : Nat)) (.int .i64 (q.all : Nat)) (.int .i64 (q.fails : Nat)) (.bool q.dead)
      have HF : Hid (_ ∧ _ ∧ _ ∧ _) := ⟨hfin, hsF, htF, KF⟩
      clear hfin hsF htF KF ms2 mt2
      go_wp2
      obtain ⟨hfin, hsF, htF, KF⟩ := HF.out
      clear HF a0 b0 a1 b1 a2 b2 a3 b3 a4 b4 a5 b5 a6 b6 a7 b7
      generalize ((((((((W2.setCell ⟨w.heap.size + 1 + 1, 0, none⟩ (.slice (some ⟨gs, 0, none⟩) n caps)).setCell ⟨w.heap.size + 1 + 1, 1, none⟩ (.slice (some ⟨gt, 0, none⟩) n capt)).setCell ⟨w.heap.size + 1 + 1, 2, none⟩ (.slice pW q.wait.length cW)).setCell ⟨w.heap.size + 1 + 1, 3, none⟩ (.slice pC q.cuts.length cC)).setCell ⟨w.heap.size + 1 + 1, 4, none⟩ (.int .i64 (q.acts : Nat))).setCell ⟨w.heap.size + 1 + 1, 5, none⟩ (.int .i64 (q.all : Nat))).setCell ⟨w.heap.size + 1 + 1, 6, none⟩ (.int .i64 (q.fails : Nat))).setCell ⟨w.heap.size + 1 + 1, 7, none⟩ (.bool q.dead)) = WF at *
      have hfin : WF.drew.heap[w.heap.size + 1 + 1]? = _ := hfin
      have hf0 : ¬ f = 0 := by omega
      have htv2 : (f == 2) = tv := by rw [← htv]; rcases hf with rfl | rfl <;> rfl
      have hset : q.settle x f = { q with S := q.S.set x.sec x.bytes, torn := q.torn.set x.sec tv } := by unfold R.settle; rw [if_neg hf0, htv2]
      rw [hset]
      refine bodyPost_ret (v := .agg (R.cells q (.slice (some ⟨gs, 0, none⟩) n caps) (.slice (some ⟨gt, 0, none⟩) n capt) (.slice pW q.wait.length cW) (.slice pC q.cuts.length cC))) ?_ rfl ?_
      · exact results_cell_row (p := 6) (ty := 33) rfl _ _ (w.heap.size + 1 + 1) 33 _ (0, 0) _ rfl hfin Try.underlying33 rfl size33
      · refine ⟨_, rfl, ⟨_, _, _, _, rfl, ?_, ?_, ?_, ?_⟩, KF.drew⟩
        · show RowAt B _ _ 1 (q.S.set x.sec x.bytes).length ((q.S.set x.sec x.bytes).map Value.string)
          rw [List.length_set, eS, List.map_set]
          exact (RowAt.own hsF calm9).og (Og.refl B WF).drew
        · show RowAt B _ _ 1 (q.torn.set x.sec tv).length ((q.torn.set x.sec tv).map Value.bool)
          rw [List.length_set, eT, List.map_set]
          exact (RowAt.own htF calm4).og (Og.refl B WF).drew
        · exact hr.W.og (KF.drew.og hB)
        · exact hr.C.og (KF.drew.og hB)
end Go.Proofs.Ytfnfdngenohhhaa
