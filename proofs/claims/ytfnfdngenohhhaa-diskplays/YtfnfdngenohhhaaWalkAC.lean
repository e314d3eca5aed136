/- The walks of the reference's New and of the law's Cuts. Conditions: no more than 1000 sectors, no more than 5 cuts. -/
import Derived.Test.YtfnfdngenohhhaaWalkAB
namespace Go.Proofs.Ytfnfdngenohhhaa
open Go.ChangeShapes Go.WideShapes Go.ChangeAt Go.RowKit

/-- The reference's new disk. -/
def R.new (n : Nat) (l : List Ct) : R := ⟨List.replicate n ⟨#[]⟩, List.replicate n false, [], l, 0, 0, 0, false⟩

theorem new_fin {B : Nat} {w w2 : World} {n gs gt : Nat} {pC : Option Addr} {cC : Nat} {l : List Ct} (z : w2.heap[w.heap.size]? = some (.cells Z8 33)) (hB : B ≤ w.heap.size) (k : Kept w w2)
    (oS : w2.ownsRow (w.heap.size + 1) 9 1 (.slice (some ⟨gs, 0, none⟩) n n) n (List.replicate n (.string ⟨#[]⟩))) (oT : w2.ownsRow (w.heap.size + 1) 4 1 (.slice (some ⟨gt, 0, none⟩) n n) n (List.replicate n (.bool false)))
    (hC : CutsR B w (.slice pC l.length cC) l) :
    ((((((((w2.setCell ⟨w.heap.size, 0, none⟩ (.slice (some ⟨gs, 0, none⟩) n n)).setCell ⟨w.heap.size, 1, none⟩ (.slice (some ⟨gt, 0, none⟩) n n)).setCell ⟨w.heap.size, 2, none⟩ (.slice none 0 0)).setCell ⟨w.heap.size, 3, none⟩ (.slice pC l.length cC)).setCell ⟨w.heap.size, 4, none⟩ (.int .i64 0)).setCell ⟨w.heap.size, 5, none⟩ (.int .i64 0)).setCell ⟨w.heap.size, 6, none⟩ (.int .i64 0)).setCell ⟨w.heap.size, 7, none⟩ (.bool false)).heap[w.heap.size]? = some (.cells ((R.new n l).cells (.slice (some ⟨gs, 0, none⟩) n n) (.slice (some ⟨gt, 0, none⟩) n n) (.slice none 0 0) (.slice pC l.length cC)) 33) ∧
    RAt B ((((((((w2.setCell ⟨w.heap.size, 0, none⟩ (.slice (some ⟨gs, 0, none⟩) n n)).setCell ⟨w.heap.size, 1, none⟩ (.slice (some ⟨gt, 0, none⟩) n n)).setCell ⟨w.heap.size, 2, none⟩ (.slice none 0 0)).setCell ⟨w.heap.size, 3, none⟩ (.slice pC l.length cC)).setCell ⟨w.heap.size, 4, none⟩ (.int .i64 0)).setCell ⟨w.heap.size, 5, none⟩ (.int .i64 0)).setCell ⟨w.heap.size, 6, none⟩ (.int .i64 0)).setCell ⟨w.heap.size, 7, none⟩ (.bool false)) (.slice (some ⟨gs, 0, none⟩) n n) (.slice (some ⟨gt, 0, none⟩) n n) (.slice none 0 0) (.slice pC l.length cC) (R.new n l) ∧ Kept w ((((((((w2.setCell ⟨w.heap.size, 0, none⟩ (.slice (some ⟨gs, 0, none⟩) n n)).setCell ⟨w.heap.size, 1, none⟩ (.slice (some ⟨gt, 0, none⟩) n n)).setCell ⟨w.heap.size, 2, none⟩ (.slice none 0 0)).setCell ⟨w.heap.size, 3, none⟩ (.slice pC l.length cC)).setCell ⟨w.heap.size, 4, none⟩ (.int .i64 0)).setCell ⟨w.heap.size, 5, none⟩ (.int .i64 0)).setCell ⟨w.heap.size, 6, none⟩ (.int .i64 0)).setCell ⟨w.heap.size, 7, none⟩ (.bool false)) := by
  obtain ⟨hs1, cu, hgs⟩ := own_block oS
  obtain ⟨ht1, cv, hgt⟩ := own_block oT
  have n1 : gs ≠ w.heap.size := by omega
  have n2 : gt ≠ w.heap.size := by omega
  obtain ⟨_, _, _, _, _, _, _, _, hfin⟩ := ready8 z (.slice (some ⟨gs, 0, none⟩) n n) (.slice (some ⟨gt, 0, none⟩) n n) (.slice none 0 0) (.slice pC l.length cC) (.int .i64 0) (.int .i64 0) (.int .i64 0) (.bool false)
  have kF := eight_kept k (Nat.le_refl _) (.slice (some ⟨gs, 0, none⟩) n n) (.slice (some ⟨gt, 0, none⟩) n n) (.slice none 0 0) (.slice pC l.length cC) (.int .i64 0) (.int .i64 0) (.int .i64 0) (.bool false)
  refine ⟨hfin, ⟨?_, ?_, ⟨none, 0, rfl, Nat.le_refl _, Nat.zero_le _, rfl, fun h => absurd h (by simp [R.new])⟩, hC.og (kF.og hB)⟩, kF⟩
  · have := RowAt.own (B := B) (own_same oS (eight_other w2 n1 (.slice (some ⟨gs, 0, none⟩) n n) (.slice (some ⟨gt, 0, none⟩) n n) (.slice none 0 0) (.slice pC l.length cC) (.int .i64 0) (.int .i64 0) (.int .i64 0) (.bool false))) calm9
    show RowAt B _ _ 1 (List.replicate n (⟨#[]⟩ : ByteArray)).length ((List.replicate n (⟨#[]⟩ : ByteArray)).map Value.string)
    rw [List.length_replicate, List.map_replicate]
    exact this
  · have := RowAt.own (B := B) (own_same oT (eight_other w2 n2 (.slice (some ⟨gs, 0, none⟩) n n) (.slice (some ⟨gt, 0, none⟩) n n) (.slice none 0 0) (.slice pC l.length cC) (.int .i64 0) (.int .i64 0) (.int .i64 0) (.bool false))) calm4
    show RowAt B _ _ 1 (List.replicate n false).length ((List.replicate n false).map Value.bool)
    rw [List.length_replicate, List.map_replicate]
    exact this

theorem grown_none {a b : World} (h : a.grownBy b none) : Kept a b := ⟨(Below.refl _ a).grown h (Nat.le_refl _) (fun _ e => by cases e)⟩

set_option maxHeartbeats 600000 in
set_option maxRecDepth 100000 in
theorem rnew_walk {B : Nat} {w : World} {v : Value} {l : List Ct} (n : Nat) (hn : n ≤ 1000) (h : CutsR B w v l) (hB : B ≤ w.heap.size) :
    Calls Try.prog 7 #[.int .i64 (n : Nat), v] w fun e w' => ∃ v', e = .returned v' ∧ RVal B w' v' (R.new n l) ∧ Kept w w' := by
  obtain ⟨i9, hi9, hz90, hz91, hz92⟩ := info_parts info9z
  obtain ⟨i4, hi4, hz40, hz41, hz42⟩ := info_parts info4z
  obtain ⟨pC, cC, rfl, _⟩ := h.out
  have s0 : (w.alloc (.cells Z8 33)).drew.heap.size = w.heap.size + 1 := by show (w.heap.push _).size = _; simp
  have b9 : i9.bytes * n ≤ 281474976710656 := by rw [hz92]; omega
  have b4 : i4.bytes * n ≤ 281474976710656 := by rw [hz42]; omega
  have h63 : n ≤ maxLen := by unfold maxLen; omega
  obtain ⟨w1, mA1, oA1, gA1⟩ := run_makeSlice_full (P := Try.prog) (w.alloc (.cells Z8 33)).drew (w.heap.size + 1) 28 9 i9 _ 1 Try.underlying28 hi9 hz90 hz91 .i64 .i64 n (by omega) b9 h63 (by rw [s0]; exact Nat.le_refl _)
  have kA1 := grown_none gA1
  have sA1 := kA1.size
  obtain ⟨w2, mA2, oA2, gA2⟩ := run_makeSlice_full (P := Try.prog) w1 (w.heap.size + 1) 29 4 i4 _ 1 Try.underlying29 hi4 hz40 hz41 .i64 .i64 n (by omega) b4 h63 (by rw [s0] at sA1; omega)
  have kA2 := grown_none gA2
  obtain ⟨u1, mB1, oB1, gB1⟩ := run_makeSlice_full (P := Try.prog) (w.alloc (.cells Z8 33)).drew (w.heap.size + 1) 29 4 i4 _ 1 Try.underlying29 hi4 hz40 hz41 .i64 .i64 n (by omega) b4 h63 (by rw [s0]; exact Nat.le_refl _)
  have kB1 := grown_none gB1
  have sB1 := kB1.size
  obtain ⟨u2, mB2, oB2, gB2⟩ := run_makeSlice_full (P := Try.prog) u1 (w.heap.size + 1) 28 9 i9 _ 1 Try.underlying28 hi9 hz90 hz91 .i64 .i64 n (by omega) b9 h63 (by rw [s0] at sB1; omega)
  have kB2 := grown_none gB2
  rw [s0] at mA1 mB1 oA1 oB1
  have eS : (madeCells (Value.string ⟨#[]⟩).cells (n * 1)).toList = List.replicate n (.string ⟨#[]⟩) := by
    rw [show (Value.string ⟨#[]⟩).cells = #[.string ⟨#[]⟩] from rfl, Nat.mul_one, toList_madeCells_one]
  have eT : (madeCells (Value.bool false).cells (n * 1)).toList = List.replicate n (.bool false) := by
    rw [show (Value.bool false).cells = #[.bool false] from rfl, Nat.mul_one, toList_madeCells_one]
  rw [eS] at oA1 oB2
  rw [eT] at oA2 oB1
  have z0 : (w.alloc (.cells Z8 33)).drew.heap[w.heap.size]? = some (.cells Z8 33) := heap_alloc_new w _
  have zA := (kA1.trans kA2).block z0
  have zB := (kB1.trans kB2).block z0
  have k0 : Kept w (w.alloc (.cells Z8 33)).drew := ((Kept.refl w).alloc _).drew
  obtain ⟨fA, rA, kA⟩ := new_fin zA hB (k0.trans (kA1.trans kA2)) (own_kept kA2 oA1) oA2 h
  obtain ⟨fB, rB, kB⟩ := new_fin zB hB (k0.trans (kB1.trans kB2)) oB2 (own_kept kB2 oB1) h
  have HA : Hid (_ ∧ _ ∧ _) := ⟨fA, rA, kA⟩
  have HB : Hid (_ ∧ _ ∧ _) := ⟨fB, rB, kB⟩
  obtain ⟨c0, c1, c2, c3, c4, c5, c6, c7⟩ := cells8 zA
  obtain ⟨f0, f1, f2, f3, f4, f5, f6, f7⟩ := frozen8 zA
  obtain ⟨d0, d1, d2, d3, d4, d5, d6, d7⟩ := cells8 zB
  obtain ⟨g0, g1, g2, g3, g4, g5, g6, g7⟩ := frozen8 zB
  clear fA rA kA fB rB kB zA zB z0 oA1 oA2 oB1 oB2 gA1 gA2 gB1 gB2 kA1 kA2 kB1 kB2 k0 eS eT b9 b4 h63 h s0 sA1 sB1 hi9 hz90 hz91 hz92 hi4 hz40 hz41 hz42
  go_enter Try.func7, Try.ntmps7
  go_wp2
  go_region
  · go_wp2
    obtain ⟨hfin, hr, hk⟩ := HA.out
    generalize ((((((((w2.setCell ⟨w.heap.size, 0, none⟩ (.slice (some ⟨w.heap.size + 1, 0, none⟩) n n)).setCell ⟨w.heap.size, 1, none⟩ (.slice (some ⟨w1.heap.size, 0, none⟩) n n)).setCell ⟨w.heap.size, 2, none⟩ (.slice none 0 0)).setCell ⟨w.heap.size, 3, none⟩ (.slice pC l.length cC)).setCell ⟨w.heap.size, 4, none⟩ (.int .i64 0)).setCell ⟨w.heap.size, 5, none⟩ (.int .i64 0)).setCell ⟨w.heap.size, 6, none⟩ (.int .i64 0)).setCell ⟨w.heap.size, 7, none⟩ (.bool false)) = WF at *
    refine bodyPost_ret (v := .agg (R.cells (R.new n l) (.slice (some ⟨w.heap.size + 1, 0, none⟩) n n) (.slice (some ⟨w1.heap.size, 0, none⟩) n n) (.slice none 0 0) (.slice pC l.length cC))) ?_ rfl ⟨_, rfl, ⟨_, _, _, _, rfl, hr⟩, hk⟩
    exact results_cell_row (p := 4) (ty := 33) rfl _ _ w.heap.size 33 _ (0, 0) _ rfl hfin Try.underlying33 rfl size33
  · go_wp2
    obtain ⟨hfin, hr, hk⟩ := HB.out
    generalize ((((((((u2.setCell ⟨w.heap.size, 0, none⟩ (.slice (some ⟨u1.heap.size, 0, none⟩) n n)).setCell ⟨w.heap.size, 1, none⟩ (.slice (some ⟨w.heap.size + 1, 0, none⟩) n n)).setCell ⟨w.heap.size, 2, none⟩ (.slice none 0 0)).setCell ⟨w.heap.size, 3, none⟩ (.slice pC l.length cC)).setCell ⟨w.heap.size, 4, none⟩ (.int .i64 0)).setCell ⟨w.heap.size, 5, none⟩ (.int .i64 0)).setCell ⟨w.heap.size, 6, none⟩ (.int .i64 0)).setCell ⟨w.heap.size, 7, none⟩ (.bool false)) = WF at *
    refine bodyPost_ret (v := .agg (R.cells (R.new n l) (.slice (some ⟨u1.heap.size, 0, none⟩) n n) (.slice (some ⟨w.heap.size + 1, 0, none⟩) n n) (.slice none 0 0) (.slice pC l.length cC))) ?_ rfl ⟨_, rfl, ⟨_, _, _, _, rfl, hr⟩, hk⟩
    exact results_cell_row (p := 4) (ty := 33) rfl _ _ w.heap.size 33 _ (0, 0) _ rfl hfin Try.underlying33 rfl size33

theorem cutCells_snoc (f : Nat → Value) : ∀ (l : List Ct) (c : Ct) (k : Nat), cutCells (l ++ [c]) f k = cutCells l f k ++ [.int .i64 c.at_, f (k + l.length)]
  | [], c, k => by simp [cutCells]
  | x :: r, c, k => by
    have := cutCells_snoc f r c (k + 1)
    simp only [List.cons_append, cutCells, this, List.length_cons]
    rw [show k + 1 + r.length = k + (r.length + 1) by omega]

theorem info65 : (Try.prog.info? 65).map (fun i => (i.zero, i.size, i.bytes)) = some (some (.agg #[.int .i64 0, .slice none 0 0]), 2, 32) := by kernel_rfl

set_option maxHeartbeats 600000 in
set_option maxRecDepth 100000 in
theorem rcuts_walk {B : Nat} {w : World} {v : Value} {l : List Ct} (h : CutsAt B w v l) (hB : B ≤ w.heap.size) (hl : l.length ≤ 5) :
    Calls Try.prog 8 #[v] w fun e w' => ∃ v', e = .returned v' ∧ CutsR B w' v' l ∧ Kept w w' := by
  obtain ⟨i0, hi, hz0, hz1, hz2⟩ := info_parts info65
  obtain ⟨p, c, rfl, h1, h2, hc⟩ := h.out
  have hch : ∀ j, ∃ vf : Value, ∀ hj : j < l.length, ∃ b off, p = some ⟨b, off, none⟩ ∧ w.cell? ⟨b, off + j * 2, none⟩ = some (.int .i64 l[j].at_) ∧ w.cell? ⟨b, off + j * 2 + 1, none⟩ = some vf ∧ FatesAt B w vf l[j].fates ∧ Sb B w b := by
    intro j
    by_cases hj : j < l.length
    · obtain ⟨b, off, vf, hp, hs, hx, hy, hz⟩ := hc j hj
      exact ⟨vf, fun _ => ⟨b, off, hp, hx, hy, hz, hs⟩⟩
    · exact ⟨.slice none 0 0, fun e => absurd e hj⟩
  obtain ⟨f, hf⟩ := Classical.axiomOfChoice hch
  have HF : Hid (∀ j (hj : j < l.length), ∃ b off, p = some ⟨b, off, none⟩ ∧ w.cell? ⟨b, off + j * 2, none⟩ = some (.int .i64 l[j].at_) ∧ w.cell? ⟨b, off + j * 2 + 1, none⟩ = some (f j) ∧ FatesAt B w (f j) l[j].fates ∧ Sb B w b) := hf
  clear hc hch hf
  go_enter Try.func8, Try.ntmps8
  go_wp2
  go_loopg [2, 3] l.length (fun r ov iv wx => ∃ k, k + r = l.length ∧ iv = .int .i64 (k : Nat) ∧ wx.ownsRow w.heap.size 65 2 ov k (cutCells (l.take k) f 0) ∧ Kept w wx)
  case atStart => exact ⟨0, by omega, rfl, World.ownsRow_nil _ _ _ _, Kept.refl _⟩
  case round =>
    obtain ⟨k, hk, rfl, hown, hkw⟩ := hrel
    obtain ⟨po, co, rfl⟩ := owns_shape hown
    have HO : Hid (wr.ownsRow w.heap.size 65 2 (.slice po k co) k (cutCells (l.take k) f 0)) := hown
    clear hown
    cases gk with
    | zero =>
      obtain rfl : k = l.length := by omega
      clear hk hi hz0 hz1 hz2
      go_wp2
      go_ret
      refine ⟨_, rfl, ?_, hkw⟩
      have ho := HO.out
      rw [List.take_length] at ho
      rcases ho.2 with ⟨e1, e2⟩ | ⟨gg, cap, cur, e1, hb, hg, hnc, hcm, hcs, htk⟩
      · injection e1 with e1 _ e3
        subst e1 e3
        exact ⟨none, 0, rfl, by omega, by unfold maxLen; omega, fun j hj => absurd hj (by omega)⟩
      · injection e1 with e1 _ e3
        subst e1 e3
        refine ⟨_, _, rfl, hnc, hcm, fun j hj => ?_⟩
        obtain ⟨b, off, hp, x0, x1, hfa, hsb⟩ := HF.out j hj
        have hx := cutCells_get f l 0 j hj
        have hlen := cutCells_length f l 0
        have a0 := ho.cellAt (j * 2) (by omega)
        have a1 := ho.cellAt (j * 2 + 1) (by omega)
        rw [hx.1] at a0
        rw [hx.2, Nat.zero_add] at a1
        refine ⟨gg, 0, f j, rfl, .inr ⟨_, _, _, hg, by unfold Calm; decide⟩, ?_, ?_, ?_⟩
        · rw [Nat.zero_add]; exact a0
        · rw [Nat.zero_add]; exact a1
        · have hfo : FatesR B w (f j) l[j].fates := ⟨hfa.out⟩
          exact hfo.og (hkw.og hB)
    | succ r =>
      have hkl : k < l.length := by omega
      obtain ⟨b, off, rfl, x0, x1, hfa, hsb⟩ := HF.out k hkl
      obtain ⟨pf, cf, ef, _⟩ := hfa.out
      have y0 := ((hkw.on hB).sbCell hsb (off + k * 2)).trans x0
      have y1 := ((hkw.on hB).sbCell hsb (off + k * 2 + 1)).trans x1
      have hsn : cutCells (l.take (k + 1)) f 0 = cutCells (l.take k) f 0 ++ [.int .i64 l[k].at_, f k] := by
        rw [List.take_add_one, List.getElem?_eq_getElem hkl]
        show cutCells (l.take k ++ [l[k]]) f 0 = _
        rw [cutCells_snoc, Nat.zero_add, List.length_take, Nat.min_eq_left (by omega)]
      obtain ⟨at0, hat⟩ : ∃ x, l[k].at_ = x := ⟨_, rfl⟩
      obtain ⟨fl, hfl⟩ : ∃ x, l[k].fates.length = x := ⟨_, rfl⟩
      rw [hat] at y0 hsn
      rw [hfl] at ef
      rw [ef] at y1 hsn
      have i1 : (0 : Int) ≤ (k : Int) := by omega
      have i2 : (k : Int) < (l.length : Int) := by omega
      have HSN : Hid (cutCells (l.take (k + 1)) f 0 = cutCells (l.take k) f 0 ++ [.int .i64 at0, .slice pf fl cf]) := hsn
      have HK : Hid (k + (r + 1) = l.length) := hk
      clear hsn hk hfa hsb x0 x1 ef hat hfl
      go_wp2_with (at_builtin; refine wpList_append_own _ rfl _ _ 31 rfl w.heap.size 65 i0 _ 2 32 Try.underlying31 hi hz0 hz1 hz2 rfl (by decide) (.slice po k co) k (cutCells (l.take k) f 0) rfl (HO.out.alloc _) ⟨wr.heap.size, 0, none⟩ 1 1 [.int .i64 at0, .slice pf fl cf] rfl rfl (two_cell wr _ _ 65) (by intro u hu; simp at hu; rcases hu with rfl | rfl <;> rfl) (by unfold maxLen; omega) (by omega) (Nat.le_trans hkw.size ((Kept.refl wr).alloc _).size) ?_; intro v' w1 o1 g1 _; have K1 : Kept w w1 := ⟨(hkw.alloc _).out.grown g1 (hkw.alloc _).size (fun b e => (HO.out.lt b e).1)⟩; obtain ⟨p9, c9, rfl⟩ := owns_shape o1; have O1 : Hid _ := o1; clear o1 g1)
      go_roundg r
      case measure => omega
      case rel => exact ⟨k + 1, by have := HK.out; omega, by go_num, by rw [HSN.out]; exact O1.out, K1⟩
end Go.Proofs.Ytfnfdngenohhhaa
