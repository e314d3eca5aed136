/- Expressions that say the same: the walks of slices.Equal at the same texts, of SameExpr. Conditions: what both have is the same. -/
import Derived.Test.YtgdafolidifdoaaDoorIH
import Derived.Test.YtgdafolidifdoaaDoorISh
import Derived.Deep.CutRange
namespace Go.Proofs.YtgdafolidifdoaaDoor.Tp
open Go.ChangeShapes Go.WideShapes Go.ChangeAt Go.RowKit

theorem all_same : ∀ (l : List ByteArray), Lib.allEq (fun (x y : ByteArray) => x.toList == y.toList) l l = true
  | [] => rfl
  | x :: r => by simp [Lib.allEq, all_same r]
set_option maxRecDepth 100000 in
set_option maxHeartbeats 1000000 in
theorem none_equal (p q : Option Addr) (c d : Nat) (w : World) : Calls Tryd.prog 29 #[.slice p 0 c, .slice q 0 d] w fun e w' => e = .returned (.bool true) ∧ Kept w w' := by
  go_enter Tryd.func29, Tryd.ntmps29
  go_wp2
  go_loopg [13] 0 (fun g iv wx => iv = .int .i64 0 ∧ wx = w)
  case atStart => exact ⟨rfl, rfl⟩
  case round =>
    obtain ⟨rfl, rfl⟩ := hrel
    go_wp2
    go_ret
    exact ⟨rfl, Kept.refl _⟩
theorem drewN_kept (w : World) (q : Nat) : Kept w (w.drewN q) := ⟨⟨rfl, rfl, rfl, Nat.le_refl _, fun _ _ => rfl⟩⟩
theorem equal_walk {w : World} {p q : Option Addr} {n c d : Nat} {l : List ByteArray} (h : Ag w p n c l) (k : Ag w q n d l) :
    Calls Tryd.prog 29 #[.slice p n c, .slice q n d] w fun e w' => e = .returned (.bool true) ∧ Kept w w' := by
  rcases Nat.eq_zero_or_pos n with e | e
  · subst e
    exact none_equal p q c d w
  · have hl := h.len
    have hn : n ≤ 9223372036854775807 := by have := h.le; have := h.cap; unfold maxLen at this; omega
    obtain ⟨b1, o1, rfl, f1⟩ := h.out.resolve_left (by omega)
    obtain ⟨b2, o2, rfl, f2⟩ := k.out.resolve_left (by omega)
    have g : ∀ j, j < l.length → l[j]? = some l[j]! := fun j hj => by rw [List.getElem?_eq_getElem hj, List.getElem!_eq_getElem?_getD, List.getElem?_eq_getElem hj]; rfl
    refine (Tryd.slices_Equal Value.string (fun x y => x.toList == y.toList) (NeqAt.string _ _) b1 o1 n c b2 o2 n d l l w (by omega) (by omega) hn hn (fun j hj => f1 j _ (g j hj)) (fun j hj => f2 j _ (g j hj))).mono ?_
    rintro e w' ⟨rfl, q', rfl⟩
    exact ⟨by rw [all_same], drewN_kept w q'⟩

theorem set_other6 {W : World} {b g : Nat} (hne : g ≠ b) (v0 v1 v2 v3 v4 v5 : Value) : ((((((W.setCell ⟨b, 0, none⟩ v0).setCell ⟨b, 1, none⟩ v1).setCell ⟨b, 2, none⟩ v2).setCell ⟨b, 3, none⟩ v3).setCell ⟨b, 4, none⟩ v4).setCell ⟨b, 5, none⟩ v5).heap[g]? = W.heap[g]? := by
  repeat rw [heap_setCell_other _ _ _ _ hne]
theorem kept_set6 {V W : World} {b : Nat} (h : Kept V W) (hb : V.heap.size ≤ b) (v0 v1 v2 v3 v4 v5 : Value) : Kept V ((((((W.setCell ⟨b, 0, none⟩ v0).setCell ⟨b, 1, none⟩ v1).setCell ⟨b, 2, none⟩ v2).setCell ⟨b, 3, none⟩ v3).setCell ⟨b, 4, none⟩ v4).setCell ⟨b, 5, none⟩ v5) :=
  (((((h.setCell (p := ⟨b, 0, none⟩) hb _).setCell (p := ⟨b, 1, none⟩) hb _).setCell (p := ⟨b, 2, none⟩) hb _).setCell (p := ⟨b, 3, none⟩) hb _).setCell (p := ⟨b, 4, none⟩) hb _).setCell (p := ⟨b, 5, none⟩) hb _
theorem sas_two {w : World} (s : Sa) {p1 p2 : Option Addr} {m c1 c2 : Nat} {l : List ByteArray} (h1 : Ag w p1 m c1 l) (h2 : Ag w p2 m c2 l) : ∃ (j : Nat) (q1 : Option Addr) (d1 : Nat) (q2 : Option Addr) (d2 : Nat) (l' : List ByteArray), sas s p1 m c1 = .slice q1 j d1 ∧ sas s p2 m c2 = .slice q2 j d2 ∧ Ag w q1 j d1 l' ∧ Ag w q2 j d2 l' := by
  unfold sas
  by_cases h : s.u = true
  · exact ⟨m, p1, c1, p2, c2, l, if_pos h, if_pos h, h1, h2⟩
  · exact ⟨0, none, 0, none, 0, [], if_neg h, if_neg h, ag_nil w, ag_nil w⟩

set_option maxRecDepth 100000 in
set_option maxHeartbeats 4000000 in
theorem same_expr {w : World} {p1 p2 : Option Addr} {m c1 c2 : Nat} {l : List ByteArray} (k : Int) (a b : ByteArray) (op n : Int) (h1 : Ag w p1 m c1 l) (h2 : Ag w p2 m c2 l) :
    Calls Tryd.prog 17 #[.agg #[.int .i64 k, .string a, .string b, .int .i64 op, .int .i64 n, .slice p1 m c1], .agg #[.int .i64 k, .string a, .string b, .int .i64 op, .int .i64 n, .slice p2 m c2]] w fun x w' => x = .returned (.bool true) ∧ Kept w w' := by
  obtain ⟨j, q1, d1, q2, d2, l', e1, e2, g1, g2⟩ := sas_two (sad k a b op n) h1 h2
  have HS1 : Hid (∀ W, Calls Tryd.prog 28 #[.agg #[.int .i64 k, .string a, .string b, .int .i64 op, .int .i64 n, .slice p1 m c1]] W fun x w' => x = .returned (.agg #[.int .i64 (sad k a b op n).k, .string (sad k a b op n).a, .string (sad k a b op n).b, .int .i64 (sad k a b op n).op, .int .i64 (sad k a b op n).n, .slice q1 j d1]) ∧ Kept W w') := fun W => by
    have := said_walk W k a b op n p1 m c1
    unfold sac at this
    rwa [e1] at this
  have HS2 : Hid (∀ W, Calls Tryd.prog 28 #[.agg #[.int .i64 k, .string a, .string b, .int .i64 op, .int .i64 n, .slice p2 m c2]] W fun x w' => x = .returned (.agg #[.int .i64 (sad k a b op n).k, .string (sad k a b op n).a, .string (sad k a b op n).b, .int .i64 (sad k a b op n).op, .int .i64 (sad k a b op n).n, .slice q2 j d2]) ∧ Kept W w') := fun W => by
    have := said_walk W k a b op n p2 m c2
    unfold sac at this
    rwa [e2] at this
  have HG1 : Hid (Ag w q1 j d1 l') := g1
  have HG2 : Hid (Ag w q2 j d2 l') := g2
  clear h1 h2 g1 g2 e1 e2
  generalize (sad k a b op n).k = xk at *
  generalize (sad k a b op n).a = xa at *
  generalize (sad k a b op n).b = xb at *
  generalize (sad k a b op n).op = xo at *
  generalize (sad k a b op n).n = xn at *
  have hkb : Kept w ((w.alloc (.cells #[.int .i64 k, .string a, .string b, .int .i64 op, .int .i64 n, .slice p1 m c1] 35)).alloc (.cells #[.int .i64 k, .string a, .string b, .int .i64 op, .int .i64 n, .slice p2 m c2] 35)) := ((Kept.refl w).alloc _).alloc _
  have hA0 : ((w.alloc (.cells #[.int .i64 k, .string a, .string b, .int .i64 op, .int .i64 n, .slice p1 m c1] 35)).alloc (.cells #[.int .i64 k, .string a, .string b, .int .i64 op, .int .i64 n, .slice p2 m c2] 35)).heap[w.heap.size]? = some (.cells #[.int .i64 k, .string a, .string b, .int .i64 op, .int .i64 n, .slice p1 m c1] 35) := ((Kept.refl _).alloc _).block (alloc_at w _)
  have hB0 : ((w.alloc (.cells #[.int .i64 k, .string a, .string b, .int .i64 op, .int .i64 n, .slice p1 m c1] 35)).alloc (.cells #[.int .i64 k, .string a, .string b, .int .i64 op, .int .i64 n, .slice p2 m c2] 35)).heap[w.heap.size + 1]? = some (.cells #[.int .i64 k, .string a, .string b, .int .i64 op, .int .i64 n, .slice p2 m c2] 35) := by
    have h := alloc_at (w.alloc (.cells #[.int .i64 k, .string a, .string b, .int .i64 op, .int .i64 n, .slice p1 m c1] 35)) (.cells #[.int .i64 k, .string a, .string b, .int .i64 op, .int .i64 n, .slice p2 m c2] 35)
    rw [size_alloc] at h
    exact h
  have HBA : Hid (∀ W, Kept ((w.alloc (.cells #[.int .i64 k, .string a, .string b, .int .i64 op, .int .i64 n, .slice p1 m c1] 35)).alloc (.cells #[.int .i64 k, .string a, .string b, .int .i64 op, .int .i64 n, .slice p2 m c2] 35)) W → W.heap[w.heap.size]? = some (.cells #[.int .i64 k, .string a, .string b, .int .i64 op, .int .i64 n, .slice p1 m c1] 35) ∧ W.heap[w.heap.size + 1]? = some (.cells #[.int .i64 k, .string a, .string b, .int .i64 op, .int .i64 n, .slice p2 m c2] 35)) := fun W h => ⟨h.block hA0, h.block hB0⟩
  have HC : Hid (∀ W, Kept ((w.alloc (.cells #[.int .i64 k, .string a, .string b, .int .i64 op, .int .i64 n, .slice p1 m c1] 35)).alloc (.cells #[.int .i64 k, .string a, .string b, .int .i64 op, .int .i64 n, .slice p2 m c2] 35)) W → (W.cell? ⟨w.heap.size, 0, none⟩ = some (.int .i64 k) ∧ W.cell? ⟨w.heap.size, 1, none⟩ = some (.string a) ∧ W.cell? ⟨w.heap.size, 2, none⟩ = some (.string b) ∧ W.cell? ⟨w.heap.size, 3, none⟩ = some (.int .i64 op) ∧ W.cell? ⟨w.heap.size, 4, none⟩ = some (.int .i64 n) ∧ W.cell? ⟨w.heap.size, 5, none⟩ = some (.slice p1 m c1)) ∧ (W.cell? ⟨w.heap.size + 1, 0, none⟩ = some (.int .i64 k) ∧ W.cell? ⟨w.heap.size + 1, 1, none⟩ = some (.string a) ∧ W.cell? ⟨w.heap.size + 1, 2, none⟩ = some (.string b) ∧ W.cell? ⟨w.heap.size + 1, 3, none⟩ = some (.int .i64 op) ∧ W.cell? ⟨w.heap.size + 1, 4, none⟩ = some (.int .i64 n) ∧ W.cell? ⟨w.heap.size + 1, 5, none⟩ = some (.slice p2 m c2))) := fun W h => by
    have y1 := h.block hA0
    have y2 := h.block hB0
    exact ⟨⟨by rw [cell_of_row _ _ 0 _ _ _ y1]; rfl, by rw [cell_of_row _ _ 1 _ _ _ y1]; rfl, by rw [cell_of_row _ _ 2 _ _ _ y1]; rfl, by rw [cell_of_row _ _ 3 _ _ _ y1]; rfl, by rw [cell_of_row _ _ 4 _ _ _ y1]; rfl, by rw [cell_of_row _ _ 5 _ _ _ y1]; rfl⟩, by rw [cell_of_row _ _ 0 _ _ _ y2]; rfl, by rw [cell_of_row _ _ 1 _ _ _ y2]; rfl, by rw [cell_of_row _ _ 2 _ _ _ y2]; rfl, by rw [cell_of_row _ _ 3 _ _ _ y2]; rfl, by rw [cell_of_row _ _ 4 _ _ _ y2]; rfl, by rw [cell_of_row _ _ 5 _ _ _ y2]; rfl⟩
  have HKB : Hid (Kept w ((w.alloc (.cells #[.int .i64 k, .string a, .string b, .int .i64 op, .int .i64 n, .slice p1 m c1] 35)).alloc (.cells #[.int .i64 k, .string a, .string b, .int .i64 op, .int .i64 n, .slice p2 m c2] 35))) := hkb
  clear hkb hA0 hB0
  go_enter Tryd.func17, Tryd.ntmps17
  go_upto_region 1 with fail
  go_cut [] from 4 to 51 (fun wx => wx.heap[w.heap.size]? = some (.cells #[.int .i64 xk, .string xa, .string xb, .int .i64 xo, .int .i64 xn, .slice q1 j d1] 35) ∧ wx.heap[w.heap.size + 1]? = some (.cells #[.int .i64 xk, .string xa, .string xb, .int .i64 xo, .int .i64 xn, .slice q2 j d2] 35) ∧ Kept w wx)
  case first =>
    go_region_with (first
      | (go_at_call 28; (with_reducible refine (HS1.out _).mono ?_); rintro e w1 ⟨rfl, hk1'⟩; have hk1 : Kept ((w.alloc (.cells #[.int .i64 k, .string a, .string b, .int .i64 op, .int .i64 n, .slice p1 m c1] 35)).alloc (.cells #[.int .i64 k, .string a, .string b, .int .i64 op, .int .i64 n, .slice p2 m c2] 35)) w1 := (Kept.drew (Kept.refl _)).trans hk1'; obtain ⟨⟨y0, y1, y2, y3, y4, y5⟩, ⟨z0, z1, z2, z3, z4, z5⟩⟩ := HC.out w1 hk1; clear hk1')
      | (go_at_call 28; (with_reducible refine (HS2.out _).mono ?_); rintro e w2 ⟨rfl, hk2'⟩; have hk2 : Kept ((w.alloc (.cells #[.int .i64 k, .string a, .string b, .int .i64 op, .int .i64 n, .slice p1 m c1] 35)).alloc (.cells #[.int .i64 k, .string a, .string b, .int .i64 op, .int .i64 n, .slice p2 m c2] 35)) w2 := hk1.trans hk2'; clear hk2' y0 y1 y2 y3 y4 y5 z0 z1 z2 z3 z4 z5; have HK2 : Hid (Kept w w2) := HKB.out.trans hk2; obtain ⟨hA2, hB2⟩ := HBA.out w2 hk2; obtain ⟨⟨r0, f0⟩, ⟨r1, f1⟩, ⟨r2, f2⟩, ⟨r3, f3⟩, ⟨r4, f4⟩, ⟨r5, f5⟩, F1⟩ := put6 hA2 (.int .i64 xk) (.string xa) (.string xb) (.int .i64 xo) (.int .i64 xn) (.slice q1 j d1); have hB3 := (set_other6 (b := w.heap.size) (g := w.heap.size + 1) (Nat.succ_ne_self _) (.int .i64 xk) (.string xa) (.string xb) (.int .i64 xo) (.int .i64 xn) (.slice q1 j d1)).trans hB2; obtain ⟨⟨s0, t0⟩, ⟨s1, t1⟩, ⟨s2, t2⟩, ⟨s3, t3⟩, ⟨s4, t4⟩, ⟨s5, t5⟩, F2⟩ := put6 hB3 (.int .i64 xk) (.string xa) (.string xb) (.int .i64 xo) (.int .i64 xn) (.slice q2 j d2); have HF1 : Hid _ := F1; have HF2 : Hid _ := F2; clear hk2 hk1 hA2 hB2 hB3 F1 F2))
    all_goals (try (go_wp2_with fail))
    all_goals (try go_meet)
    all_goals exact ⟨(set_other6 (Nat.ne_of_lt (Nat.lt_succ_self _)) _ _ _ _ _ _).trans HF1.out, HF2.out, kept_set6 (kept_set6 HK2.out (Nat.le_refl _) _ _ _ _ _ _) (Nat.le_succ _) _ _ _ _ _ _⟩
  case rest =>
    obtain ⟨hA, hB, hk⟩ := hcut
    rename World => w2
    have HK2 : Hid (Kept w w2) := hk
    have HC2 : Hid (∀ W, Kept w2 W → (W.cell? ⟨w.heap.size, 0, none⟩ = some (.int .i64 xk) ∧ W.cell? ⟨w.heap.size, 1, none⟩ = some (.string xa) ∧ W.cell? ⟨w.heap.size, 2, none⟩ = some (.string xb) ∧ W.cell? ⟨w.heap.size, 3, none⟩ = some (.int .i64 xo) ∧ W.cell? ⟨w.heap.size, 4, none⟩ = some (.int .i64 xn) ∧ W.cell? ⟨w.heap.size, 5, none⟩ = some (.slice q1 j d1)) ∧ (W.cell? ⟨w.heap.size + 1, 0, none⟩ = some (.int .i64 xk) ∧ W.cell? ⟨w.heap.size + 1, 1, none⟩ = some (.string xa) ∧ W.cell? ⟨w.heap.size + 1, 2, none⟩ = some (.string xb) ∧ W.cell? ⟨w.heap.size + 1, 3, none⟩ = some (.int .i64 xo) ∧ W.cell? ⟨w.heap.size + 1, 4, none⟩ = some (.int .i64 xn) ∧ W.cell? ⟨w.heap.size + 1, 5, none⟩ = some (.slice q2 j d2))) := fun W h => by
      have y1 := h.block hA
      have y2 := h.block hB
      exact ⟨⟨by rw [cell_of_row _ _ 0 _ _ _ y1]; rfl, by rw [cell_of_row _ _ 1 _ _ _ y1]; rfl, by rw [cell_of_row _ _ 2 _ _ _ y1]; rfl, by rw [cell_of_row _ _ 3 _ _ _ y1]; rfl, by rw [cell_of_row _ _ 4 _ _ _ y1]; rfl, by rw [cell_of_row _ _ 5 _ _ _ y1]; rfl⟩, by rw [cell_of_row _ _ 0 _ _ _ y2]; rfl, by rw [cell_of_row _ _ 1 _ _ _ y2]; rfl, by rw [cell_of_row _ _ 2 _ _ _ y2]; rfl, by rw [cell_of_row _ _ 3 _ _ _ y2]; rfl, by rw [cell_of_row _ _ 4 _ _ _ y2]; rfl, by rw [cell_of_row _ _ 5 _ _ _ y2]; rfl⟩
    have HSg : Hid (∀ W, Calls Tryd.prog 14 #[.int .i64 xo] W fun e w' => e = .returned (.string (sgn xo)) ∧ w' = W) := fun W => sign_walk xo W
    have HE : Hid (∀ W, Kept w2 W → Calls Tryd.prog 29 #[.slice q1 j d1, .slice q2 j d2] W fun e w' => e = .returned (.bool true) ∧ Kept w2 w') := fun W h => (equal_walk (HG1.out.kept (hk.trans h)) (HG2.out.kept (hk.trans h))).mono fun e w' ⟨h1, h2⟩ => ⟨h1, h.trans h2⟩
    clear hA hB hk HBA HC
    generalize sgn xo = sg at *
    go_wp2
    go_region_held3 (fun W => (W.cell? ⟨w.heap.size, 0, none⟩ = some (.int .i64 xk) ∧ W.cell? ⟨w.heap.size, 1, none⟩ = some (.string xa) ∧ W.cell? ⟨w.heap.size, 2, none⟩ = some (.string xb) ∧ W.cell? ⟨w.heap.size, 3, none⟩ = some (.int .i64 xo) ∧ W.cell? ⟨w.heap.size, 4, none⟩ = some (.int .i64 xn) ∧ W.cell? ⟨w.heap.size, 5, none⟩ = some (.slice q1 j d1)) ∧ (W.cell? ⟨w.heap.size + 1, 0, none⟩ = some (.int .i64 xk) ∧ W.cell? ⟨w.heap.size + 1, 1, none⟩ = some (.string xa) ∧ W.cell? ⟨w.heap.size + 1, 2, none⟩ = some (.string xb) ∧ W.cell? ⟨w.heap.size + 1, 3, none⟩ = some (.int .i64 xo) ∧ W.cell? ⟨w.heap.size + 1, 4, none⟩ = some (.int .i64 xn) ∧ W.cell? ⟨w.heap.size + 1, 5, none⟩ = some (.slice q2 j d2))) (exact HC2.out _ (by (repeat (first | assumption | exact Kept.refl _ | apply Kept.drew | apply Kept.alloc)))) (first
      | (go_at_call 14; (with_reducible refine (HSg.out _).mono ?_); rintro e w' ⟨rfl, rfl⟩)
      | (go_at_call 29; (with_reducible refine (HE.out _ ?_).mono ?_); (repeat (first | assumption | exact Kept.refl _ | apply Kept.drew | apply Kept.alloc)); rintro e w' ⟨rfl, hk⟩))
    all_goals go_wp2
    all_goals go_ret
    all_goals exact ⟨rfl, HK2.out.trans (by assumption)⟩
end Go.Proofs.YtgdafolidifdoaaDoor.Tp
