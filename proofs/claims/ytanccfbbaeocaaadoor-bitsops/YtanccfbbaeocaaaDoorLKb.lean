/- The walk of Within. Conditions: those that each row names. -/
import Derived.Test.YtanccfbbaeocaaaDoorLK
namespace Go.Proofs.YtanccfbbaeocaaaDoor.Bt
open Go.RowKit Go.Shelf
attribute [local go_sem] Oper.semAt_some

theorem mrg_nil {f : Nat → Nat → Nat} {P Q : List Pt} : mrg f P Q = [] ↔ ∀ x ∈ bes P Q, f x.2.1 x.2.2 = 0 := by
  unfold mrg
  rw [List.flatMap_eq_nil_iff]
  constructor
  · intro h x hx
    have := h x hx
    unfold tk at this
    split at this
    · assumption
    · cases this
  · intro h x hx
    unfold tk
    rw [if_pos (h x hx)]
/-- What Within has in memory. -/
structure Wi (w W : World) : Prop where
  br : W.heap[w.heap.size + 1 + 1]? = some (.cells #[.bool false] 4)
  low : Below w.heap.size w W
  big : w.heap.size + 5 ≤ W.heap.size
theorem Wi.stay {w W W' : World} {B : Nat} {row : Option Nat} (h : Wi w W) (hg : W.grownBy W' row) (hr : ∀ r, row = some r → B ≤ r ∧ ∃ o : Obj, W.heap[r]? = some o ∧ o.isCells = false) (hB : w.heap.size ≤ B) : Wi w W' :=
  ⟨cells_stay hg (fun r e => (hr r e).2) h.br, below_stay h.low (Nat.le_refl _) hg (fun r e => (hr r e).1) hB, Nat.le_trans h.big hg.size⟩
theorem Wi.kept {w W W' : World} (h : Wi w W) (k : Kept W W') : Wi w W' := h.stay (B := w.heap.size) (k.grown none) (fun r e => by cases e) (Nat.le_refl _)
theorem Wi.set {w W : World} (h : Wi w W) : W.cell? ⟨w.heap.size + 1 + 1, 0, none⟩ = some (.bool false) ∧ W.frozen? ⟨w.heap.size + 1 + 1, 0, none⟩ = false ∧ Wi w (W.setCell ⟨w.heap.size + 1 + 1, 0, none⟩ (.bool false)) ∧ KeepsOthers W (W.setCell ⟨w.heap.size + 1 + 1, 0, none⟩ (.bool false)) := by
  have lw := h.low.setCell (p := ⟨w.heap.size + 1 + 1, 0, none⟩) (by show w.heap.size ≤ w.heap.size + 1 + 1; omega) (.bool false)
  exact ⟨by rw [cell_of_row _ _ 0 _ _ _ h.br]; rfl, frozen_of_row _ _ 0 _ _ h.br, ⟨by rw [heap_setCell_same _ _ 0 _ _ _ h.br]; rfl, lw, by have := h.big; simpa using this⟩, KeepsOthers.setCell _ _ _⟩
/-- What is left in memory when Within ends. -/
theorem Wi.fin {w W : World} (h : Wi w W) {D : Nat} (hD : w.heap.size + 5 ≤ D) (hK : W.heap[D]? = some (.deferred (some []))) (b : Bool) :
    (W.setCell ⟨w.heap.size + 1 + 1, 0, none⟩ (.bool b)).heap[D]? = some (.deferred (some [])) ∧
    ((W.setCell ⟨w.heap.size + 1 + 1, 0, none⟩ (.bool b)).putObj D (.deferred none)).cell? ⟨w.heap.size + 1 + 1, 0, none⟩ = some (.bool b) ∧ Kept w ((W.setCell ⟨w.heap.size + 1 + 1, 0, none⟩ (.bool b)).putObj D (.deferred none)) := by
  have hb7 : (W.setCell ⟨w.heap.size + 1 + 1, 0, none⟩ (.bool b)).heap[w.heap.size + 1 + 1]? = some (.cells #[.bool b] 4) := by rw [heap_setCell_same _ _ 0 _ _ _ h.br]; rfl
  have hK7 : (W.setCell ⟨w.heap.size + 1 + 1, 0, none⟩ (.bool b)).heap[D]? = some (.deferred (some [])) := (KeepsOthers.setCell W _ _).same D _ hK rfl
  have lw : Below w.heap.size w (W.setCell ⟨w.heap.size + 1 + 1, 0, none⟩ (.bool b)) := h.low.setCell (p := ⟨w.heap.size + 1 + 1, 0, none⟩) (by show w.heap.size ≤ w.heap.size + 1 + 1; omega) _
  have hg := grownBy_putObj' (W.setCell ⟨w.heap.size + 1 + 1, 0, none⟩ (.bool b)) D (.deferred none)
  have hb8 := cells_stay hg (fun r e => by cases e; exact ⟨_, hK7, rfl⟩) hb7
  exact ⟨hK7, by rw [cell_of_row _ _ 0 _ _ _ hb8]; rfl, ⟨below_stay (B := w.heap.size) lw (Nat.le_refl _) hg (fun r e => by cases e; omega) (Nat.le_refl _)⟩⟩
theorem five_new (w : World) (a b c d e : Obj) {W0 : World} (h : ((((w.alloc a).alloc b).alloc c).alloc d).alloc e = W0) :
    Kept w W0 ∧ W0.heap.size = w.heap.size + 5 ∧ W0.heap[w.heap.size + 1 + 1]? = some c ∧ W0.heap[w.heap.size + 1 + 1 + 1]? = some d ∧ W0.heap[w.heap.size + 1 + 1 + 1 + 1]? = some e := by
  subst h
  refine ⟨(((((Kept.refl w).alloc _).alloc _).alloc _).alloc _).alloc _, by simp only [size_alloc], ?_, ?_, ?_⟩
  · exact (((Kept.refl _).alloc _).alloc _).block (by have := alloc_at ((w.alloc a).alloc b) c; rwa [size_alloc, size_alloc] at this)
  · exact ((Kept.refl _).alloc _).block (by have := alloc_at (((w.alloc a).alloc b).alloc c) d; rwa [size_alloc, size_alloc, size_alloc] at this)
  · have := alloc_at ((((w.alloc a).alloc b).alloc c).alloc d) e; rwa [size_alloc, size_alloc, size_alloc, size_alloc] at this
structure Al0 (pre : List Pr) (lm : Pr → Nat) : Prop where
  out : ∀ x ∈ pre, lm x = 0
structure Ex1 (pre : List Pr) (lm : Pr → Nat) : Prop where
  out : ∃ x ∈ pre, lm x ≠ 0
def lm (x : Pr) : Nat := lef (md x).2.1 (md x).2.2
theorem lm_eq {P Q : List Pt} (hP : Okp P) (hQ : Okp Q) {x : Pr} (hx : x ∈ bes P Q) : lm x = lef x.2.1 x.2.2 := by unfold lm; rw [md_eq (bes_small hP hQ hx)]

set_option maxRecDepth 100000 in
set_option maxHeartbeats 4000000 in
theorem within_walk {w : World} {ps : Option Addr} {ns cs : Nat} {P : List Pt} {pt : Option Addr} {nt ct : Nat} {Q : List Pt} (hs : St w ps ns cs P) (ht : St w pt nt ct Q) :
    Calls Tryd.prog 15 #[.agg #[.slice ps ns cs], .agg #[.slice pt nt ct]] w fun e w' => e = .returned (.bool (decide (mrg lef P Q = []))) ∧ Kept w w' := by
  refine (callsIn_wide (n := 5)).1 ?_
  have hdd : ∀ k : Nat, (Fence.wide.depth.isSome = true → 1 ≤ k) := fun k h => by cases h
  have HT : Hid ((∀ x ∈ bes P Q, lm x = 0) → decide (mrg lef P Q = []) = true) := fun h => decide_eq_true (mrg_nil.2 fun x hx => by rw [← lm_eq hs.ok ht.ok hx]; exact h x hx)
  have HFa : Hid ((∃ x ∈ bes P Q, lm x ≠ 0) → decide (mrg lef P Q = []) = false) := fun ⟨x, hx, h⟩ => decide_eq_false fun e => h (by rw [lm_eq hs.ok ht.ok hx]; exact mrg_nil.1 e x hx)
  generalize decide (mrg lef P Q = []) = d at *
  refine callsIn_of_wp_marks Tryd.func15 rfl trivial ?_ rfl
  simp only [Tryd.ntmps15, List.size_toArray, List.length_cons, List.length_nil, Nat.reduceAdd, Nat.reduceSub, Array.replicate_succ, Array.replicate_zero, List.push_toArray, List.append_toArray, List.nil_append, List.cons_append]
  gi_wp2_with (refine ⟨trivial, ?_⟩; (try refine ⟨hdd _, ?_⟩); gi_at_call 32; refine (besidein _ _ _ _).mono ?_; rintro e w' ⟨rfl, rfl⟩)
  obtain ⟨W0, hW0⟩ : ∃ W0, ((((w.alloc (.cells #[.slice ps ns cs] 25)).alloc (.cells #[.slice pt nt ct] 25)).alloc (.cells #[.bool false] 4)).alloc (.cells #[.slice ps ns cs] 25)).alloc (.cells #[.slice pt nt ct] 25) = W0 := ⟨_, rfl⟩
  obtain ⟨kW, hsz, b2, b3, b4⟩ := five_new w _ _ _ _ _ hW0
  rw [hW0]
  clear hW0
  have R0 : Wi w W0 := ⟨b2, kW.out, by omega⟩
  have hle : w.heap.size ≤ W0.heap.size := kW.size
  have hle5 : w.heap.size + 5 ≤ W0.heap.size := by omega
  have hst := beside_stops 4 hs ht kW (w.heap.size + 5) (w.heap.size + 1 + 1) (w.heap.size + 1 + 1 + 1) (w.heap.size + 1 + 1 + 1 + 1) (by omega) b3 b4 (by omega) (by omega)
  clear b2 b3 b4 hs ht
  refine wpIn_rangeFunc_ownH rfl (by omega) (gf := 43) (lb := #[.pointer (some ⟨w.heap.size + 1 + 1 + 1, 0, none⟩), .pointer (some ⟨w.heap.size + 1 + 1 + 1 + 1, 0, none⟩)]) rfl trivial (enters_of Tryd.func43 (by kernel_rfl) rfl)
    hst (fun h k => h.trans k) (kb_b hle hle5) (Below.refl _ _) (fun _ => rfl)
    (fun pre W => Wi w W ∧ Al0 pre lm)
    (fun c pre W => c = .ret ∧ Wi w W ∧ Ex1 pre lm)
    (fun pre W W' row hs hg hr => ⟨hs.1.stay hg hr hle, hs.2⟩)
    (fun c pre W W' row hs hg hr => ⟨hs.1, hs.2.1.stay hg hr hle, hs.2.2⟩)
    ⟨R0, ⟨fun x hx => (by cases hx)⟩⟩
    (fun x a' W => ∃ Bx, W.heap[Bx]? = some (.cells #[.int .i64 ((md x).1 : Nat), .int .u64 ((md x).2.1 : Nat), .int .u64 ((md x).2.2 : Nat)] 52) ∧ a' = { tmps := #[.agg #[.slice ps ns cs], .agg #[.slice pt nt ct], .pointer (some ⟨w.heap.size, 0, none⟩), .pointer (some ⟨w.heap.size + 1, 0, none⟩), .pointer (some ⟨w.heap.size + 1 + 1, 0, none⟩), .pointer (some ⟨Bx, 0, none⟩), .agg #[.slice ps ns cs], .agg #[.slice pt nt ct], .func (.func 43) #[] #[.pointer (some ⟨w.heap.size + 1 + 1 + 1, 0, none⟩), .pointer (some ⟨w.heap.size + 1 + 1 + 1 + 1, 0, none⟩)], .agg #[.int .i64 ((md x).1 : Nat), .int .u64 ((md x).2.1 : Nat), .int .u64 ((md x).2.2 : Nat)], undef, undef, undef, undef, undef, undef], defers := [] })
    (fun x a' u W W' row hs hg hr => by obtain ⟨Bx, h, e⟩ := hs; exact ⟨Bx, cells_stay hg (fun r e => (hr r e).2) h, e⟩)
    ?assign ?body ?done ?stop
  case assign =>
    rintro l' pre x W K ⟨hR, hA⟩ hK
    have ka : Kept W (W.alloc (.cells #[.int .i64 ((md x).1 : Nat), .int .u64 ((md x).2.1 : Nat), .int .u64 ((md x).2.2 : Nat)] 52)) := (Kept.refl W).alloc _
    have hK2 := fun a' => hK a' (W.alloc (.cells #[.int .i64 ((md x).1 : Nat), .int .u64 ((md x).2.1 : Nat), .int .u64 ((md x).2.2 : Nat)] 52)) ((KeepsOthers.alloc W _).from _) (Kb.ofKept ka hR.low.size hR.big) ⟨hR.kept ka, hA⟩
    have hX := alloc_at W (.cells #[.int .i64 ((md x).1 : Nat), .int .u64 ((md x).2.1 : Nat), .int .u64 ((md x).2.2 : Nat)] 52)
    clear hK
    dsimp only [enp]
    gi_wp2
    all_goals exact ⟨_, hX, rfl⟩
  case body =>
    rintro l' pre x a' W hl' _ ⟨hR, hA⟩ ⟨Bx, hX, rfl⟩ hlen
    have sm := md_sm x
    obtain ⟨m0, m1, m2, hm⟩ : ∃ m0 m1 m2, md x = (m0, m1, m2) := ⟨_, _, _, rfl⟩
    obtain ⟨v, hv⟩ : ∃ v, v = lef m1 m2 := ⟨_, rfl⟩
    have HMx : Hid (lm x = v) := by show lm x = v; unfold lm; rw [hm, hv]
    have HA : Hid (Al0 pre lm) := hA
    rw [hm] at hX sm
    rw [hm]
    clear hm hA
    obtain ⟨x0, x1, x2⟩ := cells3 hX
    obtain ⟨s0, s1, s2⟩ := sm
    simp only at s0 s1 s2 x0 x1 x2
    have hb := lef_bits m1 m2 s1 s2
    rw [← hv] at hb
    have hvl : v < 18446744073709551616 := by rw [hv]; exact lef_lt m1 m2 s1 s2
    clear hv
    obtain ⟨y0, y1, hR2, ko⟩ := hR.set
    by_cases h0 : v = 0
    · subst h0
      gi_wp2
      exact ⟨KeepsFrom.refl _ _, Kb.refl _ _ _ _, hR, ⟨fun y hy => by
        rcases List.mem_append.1 hy with h | h
        · exact HA.out.out y h
        · rw [List.mem_singleton] at h; rw [h]; exact HMx.out⟩⟩
    · have h0' : ¬ ((v : Int) = 0) := by omega
      have HE : Hid (Ex1 (pre ++ [x]) lm) := ⟨⟨x, by simp, by rw [HMx.out]; exact h0⟩⟩
      gi_wp2
      exact ⟨ko.from _, rfl, hR2, HE.out⟩
  case done =>
    rintro D xs W hD rfl ⟨hR, hA⟩ hK
    have hd := HT.out hA.out
    subst hd
    obtain ⟨f1, f2, f3⟩ := hR.fin (by omega) hK true
    obtain ⟨y0, y1, _, _⟩ := hR.set
    clear hA hR
    gi_wp2
    refine ⟨by simp, .inl ⟨_, _, rfl, run_takeDeferred f1, ?_⟩⟩
    refine ⟨.bool true, ?_, rfl, f3⟩
    simp [results, Tryd.f15, go_sem, f2]
  case stop =>
    rintro D c pre W hD hp ⟨rfl, hR, hE⟩ hK
    obtain ⟨x, hx, hne⟩ := hE.out
    have hd := HFa.out ⟨x, hp.subset hx, hne⟩
    subst hd
    have y2 : (W.putObj D (.deferred none)).cell? ⟨w.heap.size + 1 + 1, 0, none⟩ = some (.bool false) := by
      have hb8 := cells_stay (grownBy_putObj' W D (.deferred none)) (fun r e => by cases e; exact ⟨_, hK, rfl⟩) hR.br
      rw [cell_of_row _ _ 0 _ _ _ hb8]; rfl
    have R5 := hR.stay (B := W0.heap.size) (grownBy_putObj' W D (.deferred none)) (fun r e => by cases e; exact ⟨hD, _, hK, rfl⟩) hle
    gi_wp2
    refine ⟨by simp, .inl ⟨_, _, rfl, run_takeDeferred hK, ?_⟩⟩
    refine ⟨.bool false, ?_, rfl, ⟨R5.low⟩⟩
    simp [results, Tryd.f15, go_sem, y2]
end Go.Proofs.YtanccfbbaeocaaaDoor.Bt
