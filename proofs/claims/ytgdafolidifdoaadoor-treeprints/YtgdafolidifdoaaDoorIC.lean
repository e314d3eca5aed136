/- Plain words on digits, and the walk of Digits. Conditions: the number is of 64 bits. -/
import Derived.Test.YtgdafolidifdoaaDoorIB
import Derived.Lib.ItoaMem
import Derived.Laws.BytesArg
namespace Go.Proofs.YtgdafolidifdoaaDoor.Tp
open Go.ChangeShapes Go.WideShapes Go.ChangeAt Go.RowKit
open Lib (decDigits nDigits)

theorem nd_le : ∀ (k u : Nat), u < 10 ^ (k + 1) → nDigits u ≤ k + 1
  | 0, u, h => by rw [Lib.nDigits_small (by omega)]; omega
  | k + 1, u, h => by
    by_cases h0 : u < 10
    · rw [Lib.nDigits_small h0]; omega
    · rw [Lib.nDigits_big h0]
      have := nd_le k (u / 10) (by rw [Nat.div_lt_iff_lt_mul (by decide)]; rw [Nat.pow_succ] at h; exact h)
      omega
theorem nd19 {u : Nat} (h : u ≤ 9223372036854775808) : nDigits u ≤ 19 := by
  have h2 : (10 : Nat) ^ (18 + 1) = 10000000000000000000 := by decide
  exact nd_le 18 u (by rw [h2]; omega)
theorem dec_big {u : Nat} (h : 9 < u) : decDigits u = decDigits (u / 10) ++ [UInt8.ofNat (48 + u % 10)] := by rw [decDigits, dif_neg (by omega)]
/-- The array: behind place m stand these digits. -/
structure Da (W : World) (b : Nat) (m : Nat) (l : List UInt8) : Prop where
  out : ∃ cs : Array Value, W.heap[b]? = some (.cells cs 62) ∧ cs.size = 20 ∧ ∀ j x, l[j]? = some x → cs[m + j]? = some (.int .u8 (x.toNat : Nat))
theorem Da.put {W : World} {b m : Nat} {l : List UInt8} (h : Da W b (m + 1) l) (hm : m < 20) (y : Nat) (hy : y < 256) : Da (W.setCell ⟨b, m, none⟩ (.int .u8 (y : Nat))) b m (UInt8.ofNat y :: l) := by
  obtain ⟨cs, h1, h2, h3⟩ := h.out
  refine ⟨cs.setIfInBounds m (.int .u8 (y : Nat)), heap_setCell_same W b m _ _ _ h1, by simpa using h2, fun j x hx => ?_⟩
  rw [Array.getElem?_setIfInBounds]
  cases j with
  | zero =>
    simp at hx
    subst hx
    rw [Nat.add_zero, if_pos rfl, if_pos (by omega)]
    have : (UInt8.ofNat y).toNat = y := by simp; omega
    rw [this]
  | succ j =>
    rw [if_neg (by omega)]
    have := h3 j x (by simpa using hx)
    rwa [show m + 1 + j = m + (j + 1) by omega] at this
theorem Da.cell {W : World} {b m : Nat} {l : List UInt8} (h : Da W b m l) {j : Nat} (hj : j < 20) : ∃ v, W.cell? ⟨b, j, none⟩ = some v := by
  obtain ⟨cs, h1, h2, h3⟩ := h.out
  exact ⟨cs[j], by rw [cell_of_row W b j _ _ _ h1]; exact Array.getElem?_eq_getElem (by omega)⟩
theorem Da.fz {W : World} {b m : Nat} {l : List UInt8} (h : Da W b m l) (j : Nat) : W.frozen? ⟨b, j, none⟩ = false := by
  obtain ⟨cs, h1, h2, h3⟩ := h.out
  exact frozen_of_row W b j _ _ h1
theorem arr_slice (b q : Nat) (hq : q < 20) (W : World) : (Instr.sliceAt 62 (.pointer (some ⟨b, 0, none⟩)) (some (.int .i64 (q : Nat))) none none).run Tryd.prog W = .ok (.slice (some ⟨b, q, none⟩) (20 - q) (20 - q)) W := by
  have hal : Tryd.prog.arrayLen 62 = 20 := by simp [Program.arrayLen, Tryd.underlying62]
  have hne : ¬ 20 = q := by omega
  rw [run_sliceAt_array_l W _ ⟨b, 0, none⟩ (by simp [Program.arrayLen, Program.elem, Tryd.underlying62]) .i64 (q : Nat) (by omega) (by rw [hal]; omega)]
  go_simp
theorem Da.text {W : World} {b m : Nat} {l : List UInt8} (h : Da W b m l) (n c : Nat) (hn : l.length = n) :
    (convert 50 9 (.slice (some ⟨b, m, none⟩) n c)).run Tryd.prog W = .ok (.string ⟨l.toArray⟩) W := by
  obtain ⟨cs, h1, h2, h3⟩ := h.out
  rw [run_convert_bytes_arg W 50 5 Tryd.underlying50 Tryd.underlying5 b m n c (l.map fun x : UInt8 => (x.toNat : Int)) (by simpa using hn) (fun i hi => ?_) 9 Tryd.underlying9]
  · unfold strOfNums
    simp only [List.map_map, Function.comp_def, Int.toNat_natCast, UInt8.ofNat_toNat, List.map_id']
  · rw [cell_of_row W b (m + i) _ _ _ h1, h3 i _ (List.getElem?_eq_getElem (by omega))]
    simp only [List.getD_eq_getElem?_getD, List.getElem?_map, List.getElem?_eq_getElem (show i < l.length by omega), Option.map_some, Option.getD_some]

set_option maxRecDepth 100000 in
set_option maxHeartbeats 1000000 in
theorem digits_walk (n : Int) (h : I64 n) (w : World) : Calls Tryd.prog 16 #[.int .i64 n] w fun e w' => e = .returned (.string (dig n)) ∧ Kept w w' := by
  have h1 := h.1
  have h2 := h.2
  by_cases hneg : n < 0
  · obtain ⟨u, rfl⟩ : ∃ u : Nat, n = -(u : Int) := ⟨n.natAbs, by omega⟩
    have hu : u ≤ 9223372036854775808 := by omega
    have hu1 : 1 ≤ u := by omega
    have e1 : IntKind.u64.wrap (-IntKind.u64.wrap (-(u : Int))) = (u : Nat) := by simp only [IntKind.wrap_u64]; omega
    have HD : Hid (dig (-(u : Int)) = ⟨(45 :: decDigits u).toArray⟩) := by show _ = _; unfold dig; rw [Lib.itoa_neg u hu1]
    have hneg : -(u : Int) < 0 := by omega
    have HN : Hid (nDigits u ≤ 19) := nd19 hu
    have K0 : Hid (Kept w (w.alloc (.cells #[.int .u8 0, .int .u8 0, .int .u8 0, .int .u8 0, .int .u8 0, .int .u8 0, .int .u8 0, .int .u8 0, .int .u8 0, .int .u8 0, .int .u8 0, .int .u8 0, .int .u8 0, .int .u8 0, .int .u8 0, .int .u8 0, .int .u8 0, .int .u8 0, .int .u8 0, .int .u8 0] 62))) := (Kept.refl w).alloc _
    have D0 : Hid (Da (w.alloc (.cells #[.int .u8 0, .int .u8 0, .int .u8 0, .int .u8 0, .int .u8 0, .int .u8 0, .int .u8 0, .int .u8 0, .int .u8 0, .int .u8 0, .int .u8 0, .int .u8 0, .int .u8 0, .int .u8 0, .int .u8 0, .int .u8 0, .int .u8 0, .int .u8 0, .int .u8 0, .int .u8 0] 62)) w.heap.size (19 + 1) []) := ⟨_, alloc_at w _, rfl, fun j x hx => by simp at hx⟩
    go_enter Tryd.func16, Tryd.ntmps16
    go_wp2
    go_loopg [4, 5] u (fun g v' m' wx => ∃ (v m : Nat) (l : List UInt8), v ≤ g ∧ v ≤ u ∧ v' = .int .u64 (v : Nat) ∧ m' = .int .i64 (m : Nat) ∧ decDigits u = decDigits v ++ l ∧ l.length + m = 19 ∧ Da wx w.heap.size (m + 1) l ∧ Kept w wx)
    case atStart => exact ⟨u, 19, [], Nat.le_refl _, Nat.le_refl _, rfl, rfl, by simp, rfl, D0.out, K0.out⟩
    case round =>
      obtain ⟨v, m, l, hg, hvu, rfl, rfl, hd, hl, hda, hk⟩ := hrel
      have HDD : Hid (decDigits u = decDigits v ++ l) := hd
      have HL : Hid (l.length + m = 19) := hl
      have HK : Hid (Kept w wr) := hk
      have HDa : Hid (Da wr w.heap.size (m + 1) l) := hda
      have hnd : nDigits u = nDigits v + l.length := by rw [← Lib.decDigits_length, hd, List.length_append, Lib.decDigits_length]
      have hp := Lib.nDigits_pos v
      have hnn := HN.out
      have hm1 : 1 ≤ m := by omega
      have hm19 : m ≤ 19 := by omega
      obtain ⟨c0, hc0⟩ := hda.cell (j := m) (by omega)
      have fz := hda.fz m
      by_cases h9 : 9 < v
      · have h9' : (9 : Int) < (v : Nat) := by omega
        have e5 : IntKind.u64.wrap ((v : Int) / 10) = ((v / 10 : Nat) : Int) := by simp only [IntKind.wrap_u64]; omega
        have D1 : Hid (Da (wr.setCell ⟨w.heap.size, m, none⟩ (.int .u8 (48 + (v : Int) % 10))) w.heap.size m (UInt8.ofNat (48 + v % 10) :: l)) := by
          have := hda.put (by omega) (48 + v % 10) (by omega)
          rwa [show ((48 + v % 10 : Nat) : Int) = 48 + (v : Int) % 10 by omega] at this
        have HG : Hid (v ≤ gk ∧ 2 ≤ m ∧ 9 < v) := ⟨hg, by have := Lib.nDigits_big (u := v) (by omega); have := Lib.nDigits_pos (v / 10); omega, h9⟩
        clear hg hd hl hnd hda hk
        go_wp2
        go_roundg (v / 10)
        case measure => have := HG.out; omega
        case rel => exact ⟨v / 10, m - 1, UInt8.ofNat (48 + v % 10) :: l, Nat.le_refl _, by omega, congrArg (Value.int .u64) (by omega), congrArg (Value.int .i64) (by have := HG.out; omega), by rw [HDD.out, dec_big HG.out.2.2, List.append_assoc]; rfl, by have := HG.out; have := HL.out; simp only [List.length_cons]; omega, by rw [show m - 1 + 1 = m by have := HG.out; omega]; exact D1.out, HK.out.setCell (Nat.le_refl _) _⟩
      · have h9' : ¬ (9 : Int) < (v : Nat) := by omega
        have D1 : Da (wr.setCell ⟨w.heap.size, m, none⟩ (.int .u8 (48 + (v : Int)))) w.heap.size m (UInt8.ofNat (48 + v) :: l) := by
          have := hda.put (by omega) (48 + v) (by omega)
          rwa [show ((48 + v : Nat) : Int) = 48 + (v : Int) by omega] at this
        have HV : Hid (decDigits u = UInt8.ofNat (48 + v) :: l) := by show _ = _; rw [HDD.out, Lib.decDigits_one (by omega)]; rfl
        obtain ⟨c1, hc1⟩ := D1.cell (j := m - 1) (by omega)
        have fz1 := D1.fz (m - 1)
        have em : (m : Int) - 1 = ((m - 1 : Nat) : Int) := by omega
        have D2 : Da ((wr.setCell ⟨w.heap.size, m, none⟩ (.int .u8 (48 + (v : Int)))).setCell ⟨w.heap.size, m - 1, none⟩ (.int .u8 45)) w.heap.size (m - 1) (45 :: UInt8.ofNat (48 + v) :: l) := by
          have D1' : Da (wr.setCell ⟨w.heap.size, m, none⟩ (.int .u8 (48 + (v : Int)))) w.heap.size (m - 1 + 1) (UInt8.ofNat (48 + v) :: l) := by rw [show m - 1 + 1 = m by omega]; exact D1
          exact D1'.put (by omega) 45 (by omega)
        have hx : (convert 50 9 (.slice (some ⟨w.heap.size, m - 1, none⟩) (20 - (m - 1)) (20 - (m - 1)))).run Tryd.prog ((wr.setCell ⟨w.heap.size, m, none⟩ (.int .u8 (48 + (v : Int)))).setCell ⟨w.heap.size, m - 1, none⟩ (.int .u8 45)) = .ok (.string ⟨(45 :: UInt8.ofNat (48 + v) :: l).toArray⟩) _ := D2.text _ _ (by simp only [List.length_cons]; omega)
        have HK2 : Hid (Kept w ((wr.setCell ⟨w.heap.size, m, none⟩ (.int .u8 (48 + (v : Int)))).setCell ⟨w.heap.size, m - 1, none⟩ (.int .u8 45))) := (hk.setCell (Nat.le_refl _) _).setCell (Nat.le_refl _) _
        have hm20 : m - 1 < 20 := by omega
        have hsl := arr_slice w.heap.size (m - 1) (by omega)
        generalize hmq : m - 1 = q at *
        clear hg hd hl hnd hda hk HDD HL HN D1 D2
        go_wp2
        go_ret
        exact ⟨by rw [HD.out, HV.out]; simp, HK2.out⟩

  · obtain ⟨u, rfl⟩ : ∃ u : Nat, n = (u : Int) := ⟨n.toNat, by omega⟩
    have hu : u ≤ 9223372036854775808 := by omega
    have e1 : IntKind.u64.wrap (u : Int) = (u : Nat) := by simp only [IntKind.wrap_u64]; omega
    have HD : Hid (dig (u : Int) = ⟨(decDigits u).toArray⟩) := by show _ = _; unfold dig; rw [Lib.itoa_nonneg u]
    have hneg : ¬ (u : Int) < 0 := by omega
    have HN : Hid (nDigits u ≤ 19) := nd19 hu
    have K0 : Hid (Kept w (w.alloc (.cells #[.int .u8 0, .int .u8 0, .int .u8 0, .int .u8 0, .int .u8 0, .int .u8 0, .int .u8 0, .int .u8 0, .int .u8 0, .int .u8 0, .int .u8 0, .int .u8 0, .int .u8 0, .int .u8 0, .int .u8 0, .int .u8 0, .int .u8 0, .int .u8 0, .int .u8 0, .int .u8 0] 62))) := (Kept.refl w).alloc _
    have D0 : Hid (Da (w.alloc (.cells #[.int .u8 0, .int .u8 0, .int .u8 0, .int .u8 0, .int .u8 0, .int .u8 0, .int .u8 0, .int .u8 0, .int .u8 0, .int .u8 0, .int .u8 0, .int .u8 0, .int .u8 0, .int .u8 0, .int .u8 0, .int .u8 0, .int .u8 0, .int .u8 0, .int .u8 0, .int .u8 0] 62)) w.heap.size (19 + 1) []) := ⟨_, alloc_at w _, rfl, fun j x hx => by simp at hx⟩
    go_enter Tryd.func16, Tryd.ntmps16
    go_wp2
    go_loopg [4, 5] u (fun g v' m' wx => ∃ (v m : Nat) (l : List UInt8), v ≤ g ∧ v ≤ u ∧ v' = .int .u64 (v : Nat) ∧ m' = .int .i64 (m : Nat) ∧ decDigits u = decDigits v ++ l ∧ l.length + m = 19 ∧ Da wx w.heap.size (m + 1) l ∧ Kept w wx)
    case atStart => exact ⟨u, 19, [], Nat.le_refl _, Nat.le_refl _, rfl, rfl, by simp, rfl, D0.out, K0.out⟩
    case round =>
      obtain ⟨v, m, l, hg, hvu, rfl, rfl, hd, hl, hda, hk⟩ := hrel
      have HDD : Hid (decDigits u = decDigits v ++ l) := hd
      have HL : Hid (l.length + m = 19) := hl
      have HK : Hid (Kept w wr) := hk
      have HDa : Hid (Da wr w.heap.size (m + 1) l) := hda
      have hnd : nDigits u = nDigits v + l.length := by rw [← Lib.decDigits_length, hd, List.length_append, Lib.decDigits_length]
      have hp := Lib.nDigits_pos v
      have hnn := HN.out
      have hm1 : 1 ≤ m := by omega
      have hm19 : m ≤ 19 := by omega
      obtain ⟨c0, hc0⟩ := hda.cell (j := m) (by omega)
      have fz := hda.fz m
      by_cases h9 : 9 < v
      · have h9' : (9 : Int) < (v : Nat) := by omega
        have e5 : IntKind.u64.wrap ((v : Int) / 10) = ((v / 10 : Nat) : Int) := by simp only [IntKind.wrap_u64]; omega
        have D1 : Hid (Da (wr.setCell ⟨w.heap.size, m, none⟩ (.int .u8 (48 + (v : Int) % 10))) w.heap.size m (UInt8.ofNat (48 + v % 10) :: l)) := by
          have := hda.put (by omega) (48 + v % 10) (by omega)
          rwa [show ((48 + v % 10 : Nat) : Int) = 48 + (v : Int) % 10 by omega] at this
        have HG : Hid (v ≤ gk ∧ 2 ≤ m ∧ 9 < v) := ⟨hg, by have := Lib.nDigits_big (u := v) (by omega); have := Lib.nDigits_pos (v / 10); omega, h9⟩
        clear hg hd hl hnd hda hk
        go_wp2
        go_roundg (v / 10)
        case measure => have := HG.out; omega
        case rel => exact ⟨v / 10, m - 1, UInt8.ofNat (48 + v % 10) :: l, Nat.le_refl _, by omega, congrArg (Value.int .u64) (by omega), congrArg (Value.int .i64) (by have := HG.out; omega), by rw [HDD.out, dec_big HG.out.2.2, List.append_assoc]; rfl, by have := HG.out; have := HL.out; simp only [List.length_cons]; omega, by rw [show m - 1 + 1 = m by have := HG.out; omega]; exact D1.out, HK.out.setCell (Nat.le_refl _) _⟩
      · have h9' : ¬ (9 : Int) < (v : Nat) := by omega
        have D1 : Da (wr.setCell ⟨w.heap.size, m, none⟩ (.int .u8 (48 + (v : Int)))) w.heap.size m (UInt8.ofNat (48 + v) :: l) := by
          have := hda.put (by omega) (48 + v) (by omega)
          rwa [show ((48 + v : Nat) : Int) = 48 + (v : Int) by omega] at this
        have HV : Hid (decDigits u = UInt8.ofNat (48 + v) :: l) := by show _ = _; rw [HDD.out, Lib.decDigits_one (by omega)]; rfl
        obtain ⟨c1, hc1⟩ := D1.cell (j := m - 1) (by omega)
        have fz1 := D1.fz (m - 1)
        have em : (m : Int) - 1 = ((m - 1 : Nat) : Int) := by omega
        have hx : (convert 50 9 (.slice (some ⟨w.heap.size, m, none⟩) (20 - m) (20 - m))).run Tryd.prog (wr.setCell ⟨w.heap.size, m, none⟩ (.int .u8 (48 + (v : Int)))) = .ok (.string ⟨(UInt8.ofNat (48 + v) :: l).toArray⟩) _ := D1.text _ _ (by simp only [List.length_cons]; omega)
        have HK2 : Hid (Kept w (wr.setCell ⟨w.heap.size, m, none⟩ (.int .u8 (48 + (v : Int))))) := hk.setCell (Nat.le_refl _) _
        have hm20 : m < 20 := by omega
        have hsl := arr_slice w.heap.size m (by omega)
        clear hg hd hl hnd hda hk HDD HL HN D1
        go_wp2
        go_ret
        exact ⟨by rw [HD.out, HV.out]; simp, HK2.out⟩

end Go.Proofs.YtgdafolidifdoaaDoor.Tp
