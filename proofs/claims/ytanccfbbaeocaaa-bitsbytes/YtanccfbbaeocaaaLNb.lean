/- The walk of the statements' set. Conditions: those that each row names. -/
import Derived.Test.YtanccfbbaeocaaaLN
namespace Go.Proofs.Ytanccfbbaeocaaa.Bt
open Go.RowKit Go.Shelf

theorem Il.take {w : World} {p : Option Addr} {n c mn : Nat} {zs : List Int} (h : Il w p n c zs) (h1 : mn ≤ n) (h2 : mn = min n 100) : Il w p mn c (zs.take 100) := by
  have hl := h.len
  refine ⟨⟨by rw [ic_length, List.length_take]; omega, Nat.le_trans h1 h.rw.le, h.rw.cap, ?_⟩⟩
  rcases h.rw.out with e2 | ⟨b, o, rfl, f⟩
  · exact .inl (by omega)
  · refine .inr ⟨b, o, rfl, fun j u hu => f j u ?_⟩
    have : ic (zs.take 100) = (ic zs).take 100 := by simp [ic, List.map_take]
    rw [this, List.getElem?_take] at hu
    split at hu
    · exact hu
    · cases hu
theorem Il.set {w : World} {p : Option Addr} {n c : Nat} {zs : List Int} (h : Il w p n c zs) {b : Nat} {q0 : Option Addr} {n0 c0 : Nat} {t : TypeId} (hb : w.heap[b]? = some (.cells #[.slice q0 n0 c0] t)) (u : Value) : Il (w.setCell ⟨b, 0, none⟩ u) p n c zs := by
  refine ⟨⟨h.rw.len, h.rw.le, h.rw.cap, ?_⟩⟩
  rcases h.rw.out with e | ⟨b', o, rfl, f⟩
  · exact .inl e
  · refine .inr ⟨b', o, rfl, fun j v hv => ?_⟩
    have hc := f j v hv
    have hne : b' ≠ b := by
      rintro rfl
      rw [cell_of_row _ _ _ _ _ _ hb] at hc
      obtain ⟨z, rfl⟩ : ∃ z, v = .int .i64 z := by
        have := List.mem_of_getElem? hv
        simp [ic] at this
        obtain ⟨z, _, rfl⟩ := this
        exact ⟨z, rfl⟩
      rcases Nat.eq_zero_or_pos (o + j) with e | e
      · rw [e] at hc; simp at hc
      · rw [Array.getElem?_eq_none (by simp; omega)] at hc; cases hc
    exact (World.cell?_of_block (heap_setCell_other _ ⟨b, 0, none⟩ b' _ hne)).trans hc
set_option maxRecDepth 100000 in
set_option maxHeartbeats 4000000 in
theorem set_core {w : World} {p : Option Addr} {n c mn : Nat} {ks : List Int} (hk : Il w p mn c ks) (hn : n ≤ c) (h1 : mn ≤ n) (h2 : min (n : Int) 100 = (mn : Int)) :
    Calls Try.prog 4 #[.slice p n c] w fun e w' => ∃ sp sn sc xp xn xc, e = .returned (.tuple #[.agg #[.slice sp sn sc], .slice xp xn xc]) ∧ St w' sp sn sc (pset ks) ∧ Il w' xp xn xc (ror [] ks) ∧ Kept w w' := by
  have hs := hk.small
  have h100 : mn ≤ 100 := by omega
  have HL : Hid (ks.length = mn) := hk.len
  have HI : Hid (Il w p mn c ks) := hk
  have HO : Hid (∀ W, Kept w W → Calls Try.prog 11 #[.slice p mn c] W fun e w' => ∃ q m cc, e = .returned (.slice q m cc) ∧ Il w' q m cc (ror [] ks) ∧ Kept W w') := fun W k => rof_walk (hk.kept k) (by omega)
  have Z0 : Sw w ((w.alloc (.cells #[.slice none 0 0] 25)).alloc (.cells #[.slice none 0 0] 25)) none 0 0 [] := by
    have e1 := alloc_at (w.alloc (.cells #[.slice none 0 0] 25)) (.cells #[.slice none 0 0] 25)
    rw [size_alloc] at e1
    exact ⟨((Kept.refl _).alloc _).block (alloc_at w _), e1, ⟨own_nil _ _ _ _, Okp.nil⟩, ((Kept.refl w).alloc _).alloc _, by simp only [size_alloc]; omega⟩
  have H0 : Hid (Sw w ((w.alloc (.cells #[.slice none 0 0] 25)).alloc (.cells #[.slice none 0 0] 25)) none 0 0 (pset (ks.take 0))) := Z0
  clear Z0 hk
  have h0m : (0 : Int) ≤ (mn : Int) := by omega
  have hmnc : (mn : Int) ≤ (c : Int) := by omega
  go_enter Try.func4, Try.ntmps4
  go_wp2
  go_loopg [6] mn (fun g s6 wr => ∃ (q : Option Addr) (m cc i : Nat), s6 = .int .i64 (i : Nat) ∧ i ≤ mn ∧ mn - i ≤ g ∧ Hid (Sw w wr q m cc (pset (ks.take i))))
  case atStart => exact ⟨none, 0, 0, 0, rfl, Nat.zero_le _, by omega, H0⟩
  case round =>
    obtain ⟨q, m, cc, i, rfl, hi, hg, H⟩ := hrel
    clear H0
    have y5 : wr.cell? ⟨w.heap.size + 1, 0, none⟩ = some (.slice q m cc) := by rw [cell_of_row _ _ 0 _ _ _ H.out.b5]; rfl
    have y5d : wr.drew.cell? ⟨w.heap.size + 1, 0, none⟩ = some (.slice q m cc) := y5
    by_cases hlt : i < mn
    · obtain ⟨x, hx⟩ : ∃ x, ks[i]? = some x := ⟨_, List.getElem?_eq_getElem (by rw [HL.out]; omega)⟩
      obtain ⟨b, o, rfl, c00⟩ := HI.out.at hx
      have c0 : wr.cell? ⟨b, o + i, none⟩ = some (.int .i64 x) := H.out.kept.cell c00
      have c0d : wr.drew.cell? ⟨b, o + i, none⟩ = some (.int .i64 x) := c0
      have hf := with_walk (H.out.so.st.kept (Kept.refl wr).drew) x
      rw [← pset_snoc, ← take_snoc hx] at hf
      have hsz : wr.drew.heap.size = wr.heap.size := rfl
      rw [hsz] at hf
      clear hx c00 hsz
      go_upto_region 6 with fail
      go_region_with (go_at_call 10; (with_reducible refine hf.mono ?_); rintro e w1 ⟨q1, m1, c1, rfl, S1, k1⟩; obtain ⟨⟨z0, z1⟩, S2⟩ := H.out.put ((Kept.refl wr).drew.trans k1) S1; have HN : Hid (Sw w (w1.setCell ⟨w.heap.size + 1, 0, none⟩ (.slice q1 m1 c1)) q1 m1 c1 (pset (ks.take (i + 1)))) := S2; clear S1 S2 k1)
      all_goals (try (go_wp2_with fail))
      all_goals go_roundg (mn - (i + 1))
      all_goals (first | (case measure => omega) | skip)
      all_goals (first | omega | exact ⟨q1, m1, c1, i + 1, by go_num, by omega, Nat.le_refl _, HN⟩)
    · obtain rfl : i = mn := by omega
      have he : ks.take i = ks := List.take_of_length_le (by rw [HL.out]; exact Nat.le_refl _)
      rw [he] at H
      have hf := HO.out wr.drew (H.out.kept.trans (Kept.refl wr).drew)
      have HY : Hid (∀ W, Kept wr W → W.cell? ⟨w.heap.size + 1, 0, none⟩ = some (.slice q m cc)) := fun W k => by rw [cell_of_row _ _ 0 _ _ _ (k.block H.out.b5)]; rfl
      clear he
      go_wp2
      go_region_with (go_at_call 11; (with_reducible refine hf.mono ?_); rintro e w1 ⟨q1, m1, c1, rfl, I1, k1⟩; have kk := (Kept.refl wr).drew.trans k1; have y6 := HY.out _ kk; obtain ⟨z0, z1, F1, F2, F3⟩ := (H.out.more kk).fin; have I2 : Il (w1.setCell ⟨w.heap.size, 0, none⟩ (.slice q m cc)) q1 m1 c1 (ror [] ks) := I1.set (kk.block H.out.b2) _; have HF : Hid (St (w1.setCell ⟨w.heap.size, 0, none⟩ (.slice q m cc)) q m cc (pset ks) ∧ Il (w1.setCell ⟨w.heap.size, 0, none⟩ (.slice q m cc)) q1 m1 c1 (ror [] ks) ∧ Kept w (w1.setCell ⟨w.heap.size, 0, none⟩ (.slice q m cc)) ∧ (w1.setCell ⟨w.heap.size, 0, none⟩ (.slice q m cc)).heap[w.heap.size]? = some (.cells #[.slice q m cc] 25)) := ⟨F1, I2, F2, F3⟩; clear F1 F2 F3 I2 I1 k1 kk)
      all_goals (go_wp2_with fail)
      all_goals (refine bodyPost_ret (v := .tuple #[.agg #[.slice q m cc], .slice q1 m1 c1]) ?_ rfl ⟨q, m, cc, q1, m1, c1, rfl, HF.out.1, HF.out.2.1, HF.out.2.2.1⟩)
      all_goals exact results_two (p := 2) (u := 3) (ty := 25) rfl _ _ w.heap.size 25 _ (0, 0) _ rfl HF.out.2.2.2 Try.underlying25 rfl size25
theorem set_walk {w : World} {p : Option Addr} {n c : Nat} {zs : List Int} (h : Il w p n c zs) :
    Calls Try.prog 4 #[.slice p n c] w fun e w' => ∃ sp sn sc xp xn xc, e = .returned (.tuple #[.agg #[.slice sp sn sc], .slice xp xn xc]) ∧ St w' sp sn sc (pset (zs.take 100)) ∧ Il w' xp xn xc (ni (pset (zs.take 100))) ∧ xn ≤ 100 ∧ Kept w w' := by
  have a := set_core (h.take (mn := min n 100) (by omega) rfl) h.rw.le (by omega) (by omega)
  refine a.mono ?_
  rintro e w' ⟨sp, sn, sc, xp, xn, xc, rfl, h1, h2, h3⟩
  rw [← pset_eq] at h2
  refine ⟨sp, sn, sc, xp, xn, xc, rfl, h1, h2, ?_, h3⟩
  have e1 := h2.len
  have e2 := ni_len_le (zs := zs.take 100)
  rw [List.length_take] at e2
  omega
end Go.Proofs.Ytanccfbbaeocaaa.Bt
