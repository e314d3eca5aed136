/- The walk of a queue's lengthen. Conditions: those that each row names. -/
import Derived.Test.YtabbfoaojmhajaaQJ
namespace Go.Proofs.Ytabbfoaojmhajaa.Q
open Go.ChangeShapes Go.WideShapes Go.ChangeAt Go.RowKit
open N (Kept bs numL keyL Small Rd On)

theorem vn_st {B : Nat} {w W : World} (h : Vn B w W) {b : Nat} (hb : w.heap.size ≤ b) (hB : B ≤ w.heap.size) (y0 y1 y2 y3 : Int) : Vn B w (stW W b y0 y1 y2 y3) := by
  have hBb : B ≤ b := Nat.le_trans hB hb
  refine ⟨(((h.low.setCell (p := ⟨b, 0, none⟩) hBb _).setCell (p := ⟨b, 1, none⟩) hBb _).setCell (p := ⟨b, 2, none⟩) hBb _).setCell (p := ⟨b, 3, none⟩) hBb _, fun n cs t fr hn h1 h2 => ?_⟩
  have hlt := (Array.getElem?_eq_some_iff.1 hn).1
  have hne : n ≠ b := by omega
  unfold stW
  rw [heap_setCell_other _ ⟨b, 3, none⟩ n _ hne, heap_setCell_other _ ⟨b, 2, none⟩ n _ hne, heap_setCell_other _ ⟨b, 1, none⟩ n _ hne, heap_setCell_other _ ⟨b, 0, none⟩ n _ hne]
  exact h.oth n cs t fr hn h1 h2

/-- Keys and texts stay while a line is stored. -/
theorem Kv.st {W : World} {B b m : Nat} {f : ByteArray → Option ByteArray} (h : Kv W B b m f) {c : Nat} {x0 x1 x2 x3 : Int} (k : L4 W c x0 x1 x2 x3) (y0 y1 y2 y3 : Int) : Kv (stW W c y0 y1 y2 y3) B b m f := by
  obtain ⟨M, p, q, cc, d, h1, h2⟩ := h.out
  have oth : ∀ n, n ≠ c → (stW W c y0 y1 y2 y3).heap[n]? = W.heap[n]? := fun n hne => by
    unfold stW
    rw [heap_setCell_other _ ⟨c, 3, none⟩ n _ hne, heap_setCell_other _ ⟨c, 2, none⟩ n _ hne, heap_setCell_other _ ⟨c, 1, none⟩ n _ hne, heap_setCell_other _ ⟨c, 0, none⟩ n _ hne]
  have ne : ∀ n cs t, W.heap[n]? = some (.cells cs t) → t ≠ 53 → n ≠ c := by
    intro n cs t hn ht e
    rw [e, k.out] at hn
    injection hn with hn
    injection hn with _ e2
    exact ht e2.symm
  refine ⟨M, p, q, cc, d, ⟨(oth b (ne b _ _ h1.at' (by decide))).trans h1.at', h1.ks.far fun a ha => ?_, h1.ts.far fun a ha => ?_, h1.apart, h1.big, h1.nd⟩, h2⟩
  · subst ha
    obtain ⟨_, cs, hc⟩ := h1.ks.blk
    exact oth _ (ne _ _ _ hc (by decide))
  · subst ha
    obtain ⟨_, cs, hc⟩ := h1.ts.blk
    exact oth _ (ne _ _ _ hc (by decide))

set_option maxRecDepth 100000 in
theorem lengthen_nil (a : Nat) (X Z V n : Int) (w : World) :
    Calls Try.prog 19 #[.pointer (some ⟨a, 0, none⟩), .agg #[.int .u64 0, .int .u64 X, .int .u64 Z, .int .u64 V], .int .u64 n] w fun e w' => e = .returned (.tuple #[.agg #[.int .u64 1, .int .u64 n, .int .u64 n, .int .u64 0], .int .i64 0]) ∧ Kept w w' := by
  have LA := (L4.made w 0 X Z V).kept ((Kept.refl (w.alloc (.cells #[.int .u64 0, .int .u64 X, .int .u64 Z, .int .u64 V] 53))).alloc (.cells #[.int .u64 0, .int .u64 0, .int .u64 0, .int .u64 0] 53))
  obtain ⟨c0, c1, c2, c3⟩ := LA.cs
  clear LA
  go_enter Try.func19, Try.ntmps19
  go_wp2
  refine bodyPost_ret (v := .tuple #[.agg #[.int .u64 1, .int .u64 n, .int .u64 n, .int .u64 0], .int .i64 0]) ?_ rfl ⟨rfl, ?_⟩
  · exact results_two (p := 6) (u := 7) (ty := 53) rfl _ _ (w.heap.size + 1) 53 #[.int .u64 1, .int .u64 n, .int .u64 n, .int .u64 0] (0, 0) _ rfl (by have := heap_alloc_new (w.alloc (.cells #[.int .u64 0, .int .u64 X, .int .u64 Z, .int .u64 V] 53)) (.cells #[.int .u64 1, .int .u64 n, .int .u64 n, .int .u64 0] 53); rwa [size_alloc] at this) Try.underlying53 rfl size53
  · exact ((Kept.refl w).alloc _).alloc _

set_option maxRecDepth 100000 in
set_option maxHeartbeats 4000000 in
theorem lengthen_cons {w : World} {B a b m : Nat} {nm : List Nat} {f : ByteArray → Option ByteArray} (h : Qs w B a b m nm f) (M X Z : Nat) (V : Int) (n M1 N1 : Nat) (hM1 : M + 1 = M1) (hN1 : n + 1 = N1) (hM0 : M ≠ 0) (hM : M < 9223372036854775808) (hZ : Z < 18446744073709551616) (hn : n < 9223372036854775808) :
    Calls Try.prog 19 #[.pointer (some ⟨a, 0, none⟩), .agg #[.int .u64 (M : Nat), .int .u64 (X : Nat), .int .u64 (Z : Nat), .int .u64 V], .int .u64 (n : Nat)] w fun e w' => e = .returned (.tuple #[.agg #[.int .u64 (M1 : Nat), .int .u64 (X : Nat), .int .u64 (n : Nat), .int .u64 0], .int .i64 0]) ∧ (∃ m', m' ≤ m + 1 ∧ Kv w' B b m' (put f (bs (nm ++ keyL Z)) (bs (numL N1)))) ∧ Vn B w w' := by
  have hm0 : ((M : Int) == 0) = false := by simp; exact hM0
  have u1 : IntKind.u64.wrap ((n : Int) + 1) = ((N1 : Nat) : Int) := by rw [IntKind.wrap_u64]; omega
  have u2 : IntKind.u64.wrap ((M : Int) + 1) = ((M1 : Nat) : Int) := by rw [IntKind.wrap_u64]; omega
  have kA : Kept w ((w.alloc (.cells #[.int .u64 (M : Nat), .int .u64 (X : Nat), .int .u64 (Z : Nat), .int .u64 V] 53)).alloc (.cells #[.int .u64 0, .int .u64 0, .int .u64 0, .int .u64 0] 53)) := ((Kept.refl w).alloc _).alloc _
  have LA : Hid (L4 ((w.alloc (.cells #[.int .u64 (M : Nat), .int .u64 (X : Nat), .int .u64 (Z : Nat), .int .u64 V] 53)).alloc (.cells #[.int .u64 0, .int .u64 0, .int .u64 0, .int .u64 0] 53)) w.heap.size (M : Nat) (X : Nat) (Z : Nat) V) := (L4.made w (M : Nat) (X : Nat) (Z : Nat) V).kept ((Kept.refl _).alloc _)
  have LZ : Hid (L4 ((w.alloc (.cells #[.int .u64 (M : Nat), .int .u64 (X : Nat), .int .u64 (Z : Nat), .int .u64 V] 53)).alloc (.cells #[.int .u64 0, .int .u64 0, .int .u64 0, .int .u64 0] 53)) (w.heap.size + 1) 0 0 0 0) := by
    have := L4.made (w.alloc (.cells #[.int .u64 (M : Nat), .int .u64 (X : Nat), .int .u64 (Z : Nat), .int .u64 V] 53)) 0 0 0 0
    rw [size_alloc] at this
    exact this
  have HB : Hid (B ≤ w.heap.size) := h.base
  generalize hw2 : (w.alloc (.cells #[.int .u64 (M : Nat), .int .u64 (X : Nat), .int .u64 (Z : Nat), .int .u64 V] 53)).alloc (.cells #[.int .u64 0, .int .u64 0, .int .u64 0, .int .u64 0] 53) = w2 at *
  have hB2 : B ≤ w2.heap.size := Nat.le_trans h.base kA.size
  have HW : Hid (∀ W, Vn B w2 W → W.cell? ⟨a, 0, none⟩ = some (.iface 23 (.pointer (some ⟨b, 0, none⟩))) ∧ W.cell? ⟨w.heap.size, 2, none⟩ = some (.int .u64 (Z : Nat))) := fun W v => ⟨((h.qa.kept kA).vn v).c0, (LA.out.vn v).cs.2.2.1⟩
  have HP : Hid (∀ W, Kept w2 W → Calls Try.prog 50 #[.pointer (some ⟨b, 0, none⟩), .string (bs (nm ++ keyL Z)), .string (bs (numL N1))] W fun e w' => e = .returned (.int .i64 0) ∧ (∃ m', m' ≤ m + 1 ∧ Kv w' B b m' (put f (bs (nm ++ keyL Z)) (bs (numL N1)))) ∧ Vn B W w') := fun W k => put_walk ((h.kv.kept kA).kept k) h.few (Nat.le_trans hB2 k.size) _ _
  have HQ : Hid (∀ W, Kept w2 W → Calls Try.prog 17 #[.pointer (some ⟨a, 0, none⟩), .int .u64 (Z : Nat)] W fun e w' => e = .returned (.string (bs (nm ++ keyL Z))) ∧ Kept W w') := fun W k => qkey_walk ((h.qa.kept kA).kept k) h.nml Z hZ
  have mp := fun w => m_put w b
  have hnn := N.num_walk N1 (by omega)
  obtain ⟨i0, i1, i2, i3⟩ := LA.out.cs
  generalize hrf : put f (bs (nm ++ keyL Z)) (bs (numL N1)) = rf at *
  clear h hrf hM0 hM hZ hn hM1 hN1
  generalize bs (nm ++ keyL Z) = ky at *
  generalize bs (numL N1) = tx at *
  go_enter Try.func19, Try.ntmps19
  go_wp2_with fail
  have kD := (Kept.refl w2).drew
  have S0 := HW.out _ (Vn.of kD hB2)
  have hq := HQ.out _ kD
  have e00 := (HW.out _ (Vn.refl B w2)).1
  go_region_held3 (fun W => W.cell? ⟨a, 0, none⟩ = some (.iface 23 (.pointer (some ⟨b, 0, none⟩))) ∧ W.cell? ⟨w.heap.size, 2, none⟩ = some (.int .u64 (Z : Nat))) (first | exact S0 | exact S3.out | exact S2.out | exact S1.out | go_keep) (first
    | (go_at_call 17; (with_reducible refine hq.mono ?_); rintro e v1 ⟨rfl, k1⟩; have K1 : Hid (Kept w2 v1) := kD.trans k1; have S1 : Hid _ := HW.out _ (Vn.of K1.out hB2); clear k1 hq S0)
    | (go_at_call 18; (with_reducible refine (hnn _).mono ?_); rintro e v2 ⟨rfl, k2⟩; have K2 : Hid (Kept w2 v2) := K1.out.trans k2; have S2 : Hid _ := HW.out _ (Vn.of K2.out hB2); have hp := HP.out _ K2.out; clear k2 hnn S1)
    | (go_at_call 50; (with_reducible refine hp.mono ?_); rintro e v3 ⟨rfl, q3, v3v⟩; have V3 : Hid (Vn B w2 v3) := (Vn.of K2.out hB2).trans v3v; have Q3 := (⟨q3⟩ : Hd2 (_)); have S3 : Hid _ := HW.out _ V3.out; obtain ⟨j0, j1, j2, j3⟩ := (LA.out.vn V3.out).cs; obtain ⟨⟨g0, h0⟩, ⟨g1, h1⟩, ⟨g2, h2⟩, g3, h3⟩ := (LZ.out.vn V3.out).ready (M1 : Nat) (X : Nat) (n : Nat); clear q3 v3v S2))
  all_goals clear i0 i1 i2 i3
  all_goals go_wp2
  all_goals refine bodyPost_ret (v := .tuple #[.agg #[.int .u64 (M1 : Nat), .int .u64 (X : Nat), .int .u64 (n : Nat), .int .u64 0], .int .i64 0]) ?_ rfl ⟨rfl, ?_, ?_⟩
  · exact results_two (p := 6) (u := 7) (ty := 53) rfl _ _ (w.heap.size + 1) 53 #[.int .u64 (M1 : Nat), .int .u64 (X : Nat), .int .u64 (n : Nat), .int .u64 0] (0, 0) _ rfl ((LZ.out.vn V3.out).fill (M1 : Nat) (X : Nat) (n : Nat) 0).out Try.underlying53 rfl size53
  · obtain ⟨m', hm', kv⟩ := Q3.out
    exact ⟨m', hm', kv.st (LZ.out.vn V3.out) _ _ _ _⟩
  · exact vn_st (Vn.pre kA HB.out V3.out) (Nat.le_succ _) HB.out _ _ _ _
end Go.Proofs.Ytabbfoaojmhajaa.Q
