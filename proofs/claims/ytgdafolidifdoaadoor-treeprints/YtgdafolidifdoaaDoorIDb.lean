/- The builder's WriteString, WriteByte, String. Conditions: what it holds behind the call takes at most 10^12 bytes. -/
import Derived.Test.YtgdafolidifdoaaDoorID
namespace Go.Proofs.YtgdafolidifdoaaDoor.Tp
open Go.ChangeShapes Go.WideShapes Go.ChangeAt Go.RowKit Go.Shelf

theorem str_app (x y : ByteArray) : Lib.strCells (x ++ y) = Lib.strCells x ++ Lib.strCells y := by
  simp [Lib.strCells, ByteArray.data_append]

set_option maxHeartbeats 2000000 in
set_option maxRecDepth 100000 in
theorem Bl.text {w0 w : World} {b : Nat} {acc : ByteArray} (h : Bl w0 b acc w) (s : ByteArray) (hlen : acc.size + s.size ≤ 1000000000000) :
    Calls Tryd.prog 39 #[.pointer (some ⟨b, 0, none⟩), .string s] w fun e w' => (∃ v, e = .returned v) ∧ Bl w0 b (acc ++ s) w' ∧ Fr b w w' := by
  obtain ⟨i0, hi', hz0, hz1, hz2⟩ := info_parts Tryd.Builder_Extra_156.infoByte
  have hi : Tryd.prog.info? 5 = some i0 := hi'
  have mixed := Tryd.lays156.mixed
  have HL : Hid (Kept w0 w) := h.low
  have hsz : (Lib.strCells acc).length = acc.size := Lib.strCells_length acc
  have hBw := h.low.size
  have hout := h.out
  clear h
  go_enter Tryd.func39, Tryd.ntmps39
  go_wp2_with (go_at_call 46; refine (check_walk hout).mono ?_)
  rintro e w1 ⟨rfl, h1, hb1, hk1⟩
  obtain ⟨hB, v, hbk, hown, hne⟩ := h1
  have c0 : w1.cell? ⟨b, 0, none⟩ = some (.pointer (some ⟨b, 0, none⟩)) := by rw [Lib.cell_of_heap hbk]; rfl
  have c1 : w1.cell? ⟨b, 1, none⟩ = some v := by rw [Lib.cell_of_heap hbk]; rfl
  go_wp2_with (at_builtin; refine Lib.wpList_append_own_stringF _ rfl _ _ 50 9 rfl w0.heap.size 5 i0 Tryd.underlying50 Tryd.underlying9 hi hz0 hz1 hz2 _ _ _ rfl hown s rfl ?c3 ?c4 ?c5 ?_)
  case c3 => unfold maxLen; omega
  case c4 => omega
  case c5 => have := hb1.size; omega
  intro v' w2 hown' hgrow _
  have hlt : b < w1.heap.size := by
    rcases Nat.lt_or_ge b w1.heap.size with h' | h'
    · exact h'
    · simp [Array.getElem?_eq_none h'] at hbk
  have hb2 : w2.heap[b]? = some (.cells #[.pointer (some ⟨b, 0, none⟩), v] 54 (0, 0)) := by
    rw [hgrow.block b hlt (fun e => hne e.symm)]
    exact hbk
  have d0 : w2.cell? ⟨b, 0, none⟩ = some (.pointer (some ⟨b, 0, none⟩)) := by rw [Lib.cell_of_heap hb2]; rfl
  have d1 : w2.cell? ⟨b, 1, none⟩ = some v := by rw [Lib.cell_of_heap hb2]; rfl
  have f1 : w2.frozen? ⟨b, 1, none⟩ = false := Lib.frozen_of_heap hb2 1
  obtain ⟨ao, n', cap, rfl⟩ : ∃ ao n' cap, v' = .slice ao n' cap := by
    rcases hown'.2 with ⟨hv, _⟩ | ⟨g, cap, cur, fz, hv, _⟩
    · exact ⟨_, _, _, hv⟩
    · exact ⟨_, _, _, hv⟩
  have HB : Hid (Lib.BuilderAtF 54 5 w0.heap.size b (.pointer (some ⟨b, 0, none⟩)) (Lib.strCells (acc ++ s)) (w2.setCell ⟨b, 1, none⟩ (.slice ao n' cap))) := by
    refine Lib.BuilderAtF.put (T := 54) (e := 5) hB hb2 ?_ (by decide)
    rw [str_app, List.length_append, Lib.strCells_length s, Lib.strCells_length acc]
    exact hown'
  have HF : Hid (Fr b w (w2.setCell ⟨b, 1, none⟩ (.slice ao n' cap))) := (hk1.grown hgrow (Lib.ownsRowF_kind hown)).setCell ⟨b, 1, none⟩ rfl _
  have HK : Hid (Kept w0 (w2.setCell ⟨b, 1, none⟩ (.slice ao n' cap))) := by
    have k1 : Kept w0 w1 := ⟨HL.out.out.trans hb1⟩
    exact ⟨((k1.out).grown hgrow k1.size (fun k hk => (hown.lt k hk).1)).setCell (p := ⟨b, 1, none⟩) hB _⟩
  clear hown hown' hgrow hk1 hb1 hbk hb2
  go_wp2
  go_ret2
  exact ⟨⟨_, rfl⟩, ⟨HK.out, .inr HB.out⟩, HF.out⟩

set_option maxHeartbeats 2000000 in
set_option maxRecDepth 100000 in
theorem Bl.byte {w0 w : World} {b : Nat} {acc : ByteArray} (h : Bl w0 b acc w) (c : UInt8) (hlen : acc.size ≤ 1000000000000) :
    Calls Tryd.prog 38 #[.pointer (some ⟨b, 0, none⟩), .int .u8 c.toNat] w fun e w' => (∃ v, e = .returned v) ∧ Bl w0 b (acc ++ ⟨#[c]⟩) w' ∧ Fr b w w' := by
  obtain ⟨i0, hi', hz0, hz1, hz2⟩ := info_parts Tryd.Builder_Extra_156.infoByte
  have hi : Tryd.prog.info? 5 = some i0 := hi'
  have mixed := Tryd.lays156.mixed
  have HL : Hid (Kept w0 w) := h.low
  have hsz : (Lib.strCells acc).length = acc.size := Lib.strCells_length acc
  have hBw := h.low.size
  have hout := h.out
  have HS : Hid (Lib.strCells (acc ++ ⟨#[c]⟩) = Lib.strCells acc ++ [.int .u8 (c.toNat : Nat)]) := by show _ = _; rw [str_app]; rfl
  clear h
  generalize (c.toNat : Int) = y at *
  go_enter Tryd.func38, Tryd.ntmps38
  go_wp2_with (go_at_call 46; refine (check_walk hout).mono ?_)
  rintro e w1 ⟨rfl, h1, hb1, hk1⟩
  obtain ⟨hB, v, hbk, hown, hne⟩ := h1
  have c0 : w1.cell? ⟨b, 0, none⟩ = some (.pointer (some ⟨b, 0, none⟩)) := by rw [Lib.cell_of_heap hbk]; rfl
  have c1 : w1.cell? ⟨b, 1, none⟩ = some v := by rw [Lib.cell_of_heap hbk]; rfl
  go_wp2_with (at_builtin; refine wpList_append_ownF _ rfl _ _ 50 rfl w0.heap.size 5 i0 (.int .u8 0) 1 1 Tryd.underlying50 hi hz0 hz1 hz2 rfl (by decide) _ _ _ rfl (hown.alloc _) ⟨w1.heap.size, 0, none⟩ 1 1 [.int .u8 y] rfl rfl ?c1 ?c2 ?c3 ?c4 ?c5 ?_)
  case c1 =>
    intro j u hj
    match j, hj with
    | 0, hj => simp at hj; subst hj; simp [Addr.add]
  case c2 => intro u hu; simp at hu; subst hu; rfl
  case c3 => unfold maxLen; omega
  case c4 => omega
  case c5 => have := hb1.size; simp; omega
  intro v' w2 hown' hgrow _
  have hlt : b < w1.heap.size := by
    rcases Nat.lt_or_ge b w1.heap.size with h' | h'
    · exact h'
    · simp [Array.getElem?_eq_none h'] at hbk
  have hb2 : w2.heap[b]? = some (.cells #[.pointer (some ⟨b, 0, none⟩), v] 54 (0, 0)) := by
    rw [hgrow.block b (by simp; omega) (fun e => hne e.symm), Lib.alloc_old w1 _ b hlt]
    exact hbk
  have d0 : w2.cell? ⟨b, 0, none⟩ = some (.pointer (some ⟨b, 0, none⟩)) := by rw [Lib.cell_of_heap hb2]; rfl
  have d1 : w2.cell? ⟨b, 1, none⟩ = some v := by rw [Lib.cell_of_heap hb2]; rfl
  have f1 : w2.frozen? ⟨b, 1, none⟩ = false := Lib.frozen_of_heap hb2 1
  obtain ⟨ao, n', cap, rfl⟩ : ∃ ao n' cap, v' = .slice ao n' cap := by
    rcases hown'.2 with ⟨hv, _⟩ | ⟨g, cap, cur, fz, hv, _⟩
    · exact ⟨_, _, _, hv⟩
    · exact ⟨_, _, _, hv⟩
  have HB : Hid (Lib.BuilderAtF 54 5 w0.heap.size b (.pointer (some ⟨b, 0, none⟩)) (Lib.strCells (acc ++ ⟨#[c]⟩)) (w2.setCell ⟨b, 1, none⟩ (.slice ao n' cap))) := by
    refine Lib.BuilderAtF.put (T := 54) (e := 5) hB hb2 ?_ (by decide)
    rw [HS.out, List.length_append, Lib.strCells_length acc]
    exact hown'
  have HF : Hid (Fr b w (w2.setCell ⟨b, 1, none⟩ (.slice ao n' cap))) := ((hk1.alloc _).grown hgrow (Lib.ownsRowF_kind (hown.alloc _))).setCell ⟨b, 1, none⟩ rfl _
  have HK : Hid (Kept w0 (w2.setCell ⟨b, 1, none⟩ (.slice ao n' cap))) := by
    have k1 : Kept w0 w1 := ⟨HL.out.out.trans hb1⟩
    exact ⟨((k1.alloc _).out.grown hgrow (k1.alloc _).size (fun k hk => (hown.lt k hk).1)).setCell (p := ⟨b, 1, none⟩) hB _⟩
  clear hown hown' hgrow hk1 hb1 hbk hb2
  go_wp2
  go_ret
  exact ⟨⟨_, rfl⟩, ⟨HK.out, .inr HB.out⟩, HF.out⟩
end Go.Proofs.YtgdafolidifdoaaDoor.Tp
