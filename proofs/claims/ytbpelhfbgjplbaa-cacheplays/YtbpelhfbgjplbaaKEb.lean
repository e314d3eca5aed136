/- The walk of the statement's Delete, whole. Conditions: those that each row names. -/
import Derived.Test.YtbpelhfbgjplbaaKE
namespace Go.Proofs.Ytbpelhfbgjplbaa.Q
open Go.ChangeShapes Go.WideShapes Go.ChangeAt Go.RowKit
open N (Kept)
variable {E : Nat → Prop}

/-- What a walk need not see. -/
structure Hd3 (p : Prop) : Prop where
  out : p
theorem own_ge {wr W : World} {g n c g1 : Nat} (hW : wr.heap.size ≤ W.heap.size) (hg : wr.heap.size ≤ g) (l : (Value.slice (some ⟨g, 0, none⟩) n c).ownBlock = some g1 ∨ g1 = W.heap.size) : wr.heap.size ≤ g1 := by
  rcases l with l | l
  · simp [Value.ownBlock] at l; omega
  · omega
theorem own_made (w : World) : (w.alloc (.cells #[] 9)).drew.ownsRow w.heap.size 9 1 (.slice (some ⟨w.heap.size, 0, none⟩) 0 0) 0 [] :=
  (World.ownsRow_made (base := w.heap.size) (e := 9) (size := 1) w #[] 0 (Nat.le_refl _) (Nat.zero_le _) rfl).kept (kept_grown ((Kept.refl _).drew) none) (.inr (by simp [Value.ownBlock]))
/-- Where the rest of a row behind a place lies. -/
theorem rest_at {w : World} {B g m c : Nat} {l : List ByteArray} (k : Own w B (some ⟨g, 0, none⟩) m c l) (i : Nat) (hi : i + 1 ≤ m) :
    ∃ ad, (if c = i + 1 then (some ⟨g, 0, none⟩ : Option Addr) else some ⟨g, i + 1, none⟩) = some ad ∧ Hid (∀ W, Kept w W → ∀ (j : Nat) (u : Value), (sc (l.drop (i + 1)))[j]? = some u → W.cell? (ad.add j) = some u) := by
  by_cases hc : c = i + 1
  · refine ⟨_, if_pos hc, ?_⟩
    intro W kW j u hu
    have h1 := k.len
    have h2 := k.small
    rw [List.drop_of_length_le (by omega)] at hu
    simp [sc] at hu
  · exact ⟨_, if_neg hc, fun W kW => del_news2 k kW i⟩

set_option maxRecDepth 100000 in
set_option maxHeartbeats 4000000 in
theorem del_no {w : World} {B b m : Nat} {M : List (ByteArray × ByteArray)} {p q : Option Addr} {c d : Nat} (h : Km E w B b m M p q c d) (k : ByteArray) (hl : ∀ e ∈ M, e.1 ≠ k) :
    Calls Try.prog 68 #[.pointer (some ⟨b, 0, none⟩), .string k] w fun e w' => e = .returned (.tuple #[.bool false, .int .i64 0]) ∧ w' = w := by
  have HL : Hid (M.length = m) := h.len
  have c0 := h.c0
  have sm := h.ks.small
  have H : Hid (Km E w B b m M p q c d) := h
  have HA : Hid (∀ e ∈ M, e.1 ≠ k) := hl
  clear h hl
  go_enter Try.func68, Try.ntmps68
  go_wp2
  go_loopg [6] m (fun gg iv wx => ∃ i : Nat, iv = .int .i64 (i : Nat) ∧ Hid (gg = m - i) ∧ i ≤ m ∧ wx = w)
  case atStart => exact ⟨0, rfl, rfl, Nat.zero_le _, rfl⟩
  case round =>
    obtain ⟨i, rfl, hg, hin, hw⟩ := hrel
    subst hw
    by_cases h1 : (i : Int) < (m : Int)
    · obtain ⟨y, hy⟩ : ∃ y, M[i]? = some y := ⟨_, List.getElem?_eq_getElem (by rw [HL.out]; omega)⟩
      have he : ¬ y.1 = k := HA.out y (List.mem_of_getElem? hy)
      obtain ⟨z, z', f1, f2, b1, b2, _⟩ := H.out.at hy
      subst f1
      subst f2
      have he' : (y.1.toList == k.toList) = false := by rw [seq_iff]; simpa using he
      clear hy he
      go_wp2
      go_roundg (m - (i + 1))
      case measure => rw [hg.out]; omega
      case rel => exact ⟨i + 1, by go_num, rfl, by omega, rfl⟩
    · obtain rfl : i = m := by omega
      go_wp2
      go_ret2
      exact ⟨rfl, rfl⟩

set_option maxRecDepth 100000 in
set_option maxHeartbeats 4000000 in
theorem del_yes {w : World} {B b m : Nat} {M : List (ByteArray × ByteArray)} {p q : Option Addr} {c d : Nat} (h : Km E w B b m M p q c d) (hm : m ≤ 100000) (hB : B ≤ w.heap.size) {i0 : Nat} {x : ByteArray × ByteArray} (hx : M[i0]? = some x) (hl : ∀ e ∈ M.take i0, e.1 ≠ x.1) :
    Calls Try.prog 68 #[.pointer (some ⟨b, 0, none⟩), .string x.1] w fun e w' => e = .returned (.tuple #[.bool true, .int .i64 0]) ∧ Kv E w' B b (m - 1) (del (fun k => got k M) x.1) ∧ Vn E B w w' := by
  obtain ⟨j0, hi0, hz0, hz1, hz2⟩ := info_parts info9
  have HL : Hid (M.length = m) := h.len
  have hi0' : i0 < m := by rw [← h.len]; exact (List.getElem?_eq_some_iff.1 hx).1
  have c0 := h.c0
  have sm := h.ks.small
  have sm2 := h.ts.small
  obtain ⟨g, g', e1, e2, a1, a2, a3⟩ := h.at hx
  subst e1
  subst e2
  have H : Hid (Km E w B b m M (some ⟨g, 0, none⟩) (some ⟨g', 0, none⟩) c d) := h
  have HA : Hid (∀ e ∈ M.take i0, e.1 ≠ x.1) := hl
  have HB : Hid (B ≤ w.heap.size) := hB
  have HX : Hid (M[i0]? = some x) := hx
  have seqx : (x.1.toList == x.1.toList) = true := by simp
  have HA4 : Hid (((sc ((M.map Prod.fst).take i0)).length = i0 * 1 ∧ (sc ((M.map Prod.fst).drop (i0 + 1))).length = (m - (i0 + 1)) * 1) ∧ (sc ((M.map Prod.snd).take i0)).length = i0 * 1 ∧ (sc ((M.map Prod.snd).drop (i0 + 1))).length = (m - (i0 + 1)) * 1) := by
    have h1 : M.length = m := h.len
    have h2 : (sc ((M.map Prod.fst).take i0)).length = i0 * 1 := by rw [sc_length, List.length_take, List.length_map, h1]; omega
    have h3 : (sc ((M.map Prod.fst).drop (i0 + 1))).length = (m - (i0 + 1)) * 1 := by rw [sc_length, List.length_drop, List.length_map, h1]; omega
    have h4 : (sc ((M.map Prod.snd).take i0)).length = i0 * 1 := by rw [sc_length, List.length_take, List.length_map, h1]; omega
    have h5 : (sc ((M.map Prod.snd).drop (i0 + 1))).length = (m - (i0 + 1)) * 1 := by rw [sc_length, List.length_drop, List.length_map, h1]; omega
    exact ⟨⟨h2, h3⟩, h4, h5⟩
  obtain ⟨r, hr⟩ : ∃ r, i0 + (m - (i0 + 1)) = r := ⟨_, rfl⟩
  have HR : Hid (i0 + (m - (i0 + 1)) = r) := hr
  have HF : Hid (∀ (W : World), Kv E W B b r (del (fun k => got k M) x.1) → Kv E W B b (m - 1) (del (fun k => got k M) x.1)) := by
    have : r = m - 1 := by omega
    subst this
    exact fun W h => h
  clear h hx hl hB hr
  generalize hk : x.1 = k at *
  have HK : Hid (x.1 = k) := hk
  clear hk
  go_enter Try.func68, Try.ntmps68
  go_wp2
  go_loopg [6] m (fun gg iv wx => ∃ i : Nat, iv = .int .i64 (i : Nat) ∧ Hid (gg = m - i) ∧ i ≤ i0 ∧ wx = w)
  case atStart => exact ⟨0, rfl, rfl, Nat.zero_le _, rfl⟩
  case round =>
    obtain ⟨i, rfl, hg, hin, hw⟩ := hrel
    subst hw
    by_cases h1 : i = i0
    · subst h1
      have hi1 : (0 : Int) ≤ (i : Int) := by omega
      have hi2 : (i : Int) ≤ (c : Int) := by omega
      have hi3 : (i : Int) + 1 ≤ (m : Int) := by omega
      have hi4 : (m : Int) ≤ (c : Int) := by omega
      have hi5 : (i : Int) ≤ (d : Int) := by omega
      have hi6 : (m : Int) ≤ (d : Int) := by omega
      clear hin hg
      have hw1 : IntKind.i64.wrap ((i : Int) + 1) = ((i + 1 : Nat) : Int) := by rw [IntKind.wrap_i64]; omega
      have hi7 : (0 : Int) ≤ (i : Int) + 1 := by omega
      go_upto_region 5 with fail
      go_cut [] from 7 to 62 (fun wx => ∃ g2 cap2, Hd3 (Dl E wr wx B b i m r M (some ⟨g', 0, none⟩) d g2 cap2))
      case first =>
        have kA : Kept wr (wr.alloc (.cells #[] 9)).drew := ((Kept.refl wr).alloc _).drew
        have HOM : Hid ((wr.alloc (.cells #[] 9)).drew.ownsRow wr.heap.size 9 1 (.slice (some ⟨wr.heap.size, 0, none⟩) 0 0) 0 []) := own_made wr
        have hs1 : wr.heap.size ≤ (wr.alloc (.cells #[] 9)).drew.heap.size := kA.size
        have d0 := fun o => kept_cell ((Kept.refl wr).alloc o) c0
        obtain ⟨ad, hsl, HAD⟩ := rest_at H.out.ks i (by omega)
        go_region_law (first
          | (refine step_append_sum (by rfl) _ _ 24 (by rfl) wr.heap.size 9 j0 _ 1 16 Try.underlying24 hi0 hz0 hz1 hz2 (by rfl) (by decide) (.slice (some ⟨wr.heap.size, 0, none⟩) 0 0) 0 [] (by rfl) HOM.out ⟨g, 0, none⟩ i c (sc ((M.map Prod.fst).take i)) (by rfl) (HA4.out.1).1 (del_news1 H.out.ks kA i) (sc_one _) (.inl (by simp)) (by unfold maxLen; omega) (by omega) hs1 i (Nat.zero_add i) ?_
             intro g1 cap1 w1 o1 gr1 l1
             have K1 : Hid (Kept wr w1) := grown_new kA (Nat.le_refl _) gr1
             have y1 := kept_cell K1.out c0
             have hge := own_ge hs1 (Nat.le_refl _) l1
             have O1 : Hid (w1.ownsRow wr.heap.size 9 1 (.slice (some ⟨g1, 0, none⟩) i cap1) i (sc ((M.map Prod.fst).take i))) := (by rwa [List.nil_append] at o1)
             clear o1 gr1 l1)
          | (refine step_append_sum (by rfl) _ _ 24 (by rfl) wr.heap.size 9 j0 _ 1 16 Try.underlying24 hi0 hz0 hz1 hz2 (by rfl) (by decide) (.slice (some ⟨g1, 0, none⟩) i cap1) i (sc ((M.map Prod.fst).take i)) (by rfl) O1.out ad (m - (i + 1)) (c - (i + 1)) (sc ((M.map Prod.fst).drop (i + 1))) (by rfl) (HA4.out.1).2 (HAD.out w1 K1.out) (sc_one _) (.inl (by simp)) (by unfold maxLen; omega) (by omega) K1.out.size r HR.out ?_
             intro g2 cap2 w2 o2 gr2 l2
             have K2 : Kept wr w2 := grown_new K1.out hge gr2
             obtain ⟨x1, x2⟩ := H.out.del1 HB.out K2 o2
             have FI := (⟨x2⟩ : Hd3 _)
             have y2 : w2.cell? ⟨b, 0, none⟩ = some (.slice (some ⟨g, 0, none⟩) m c) := (by rw [cell_of_row w2 b 0 _ _ _ x1]; rfl)
             have y3 := frozen_of_row w2 b 0 _ _ x1
             clear x1 x2
             clear o2 gr2 l2 K2 y1)
          | trace_state)
        all_goals (go_wp2_with fail; go_meet; exact ⟨g2, cap2, FI⟩)
      case rest =>
        obtain ⟨gk, capk, DD⟩ := hcut
        have D := DD.out
        have cc1 : wc.cell? ⟨b, 1, none⟩ = some (.slice (some ⟨g', 0, none⟩) m d) := by rw [cell_of_row wc b 1 _ _ _ D.at']; rfl
        go_wp2_with fail
        have kA : Kept wc (wc.alloc (.cells #[] 9)).drew := ((Kept.refl wc).alloc _).drew
        have HOM : Hid ((wc.alloc (.cells #[] 9)).drew.ownsRow wc.heap.size 9 1 (.slice (some ⟨wc.heap.size, 0, none⟩) 0 0) 0 []) := own_made wc
        have hs1 : wc.heap.size ≤ (wc.alloc (.cells #[] 9)).drew.heap.size := kA.size
        have d0 := fun o => kept_cell ((Kept.refl wc).alloc o) cc1
        obtain ⟨ad, hsl, HAD⟩ := rest_at D.ts i (by omega)
        go_region_law (first
          | (refine step_append_sum (by rfl) _ _ 24 (by rfl) wc.heap.size 9 j0 _ 1 16 Try.underlying24 hi0 hz0 hz1 hz2 (by rfl) (by decide) (.slice (some ⟨wc.heap.size, 0, none⟩) 0 0) 0 [] (by rfl) HOM.out ⟨g', 0, none⟩ i d (sc ((M.map Prod.snd).take i)) (by rfl) (HA4.out.2).1 (del_news1 D.ts kA i) (sc_one _) (.inl (by simp)) (by unfold maxLen; omega) (by omega) hs1 i (Nat.zero_add i) ?_
             intro g1 cap1 w1 o1 gr1 l1
             have K1 : Hid (Kept wc w1) := grown_new kA (Nat.le_refl _) gr1
             have y1 := kept_cell K1.out cc1
             have hge := own_ge hs1 (Nat.le_refl _) l1
             have O1 : Hid (w1.ownsRow wc.heap.size 9 1 (.slice (some ⟨g1, 0, none⟩) i cap1) i (sc ((M.map Prod.snd).take i))) := (by rwa [List.nil_append] at o1)
             clear o1 gr1 l1)
          | (refine step_append_sum (by rfl) _ _ 24 (by rfl) wc.heap.size 9 j0 _ 1 16 Try.underlying24 hi0 hz0 hz1 hz2 (by rfl) (by decide) (.slice (some ⟨g1, 0, none⟩) i cap1) i (sc ((M.map Prod.snd).take i)) (by rfl) O1.out ad (m - (i + 1)) (d - (i + 1)) (sc ((M.map Prod.snd).drop (i + 1))) (by rfl) (HA4.out.2).2 (HAD.out w1 K1.out) (sc_one _) (.inl (by simp)) (by unfold maxLen; omega) (by omega) K1.out.size r HR.out ?_
             intro g2 cap2 w2 o2 gr2 l2
             have K2 : Kept wc w2 := grown_new K1.out hge gr2
             obtain ⟨x1, x2⟩ := D.fin H.out HB.out HX.out K2 o2
             rw [HK.out] at x2
             have FI := (⟨x2⟩ : Hd3 _)
             have y2 : w2.cell? ⟨b, 1, none⟩ = some (.slice (some ⟨g', 0, none⟩) m d) := (by rw [cell_of_row w2 b 1 _ _ _ x1]; rfl)
             have y3 := frozen_of_row w2 b 1 _ _ x1
             clear x1 x2
             clear o2 gr2 l2 K2 y1)
          | trace_state)
        all_goals (go_wp2_with fail; go_ret2; exact ⟨rfl, HF.out _ FI.out.1, FI.out.2⟩)
    · have hlt : i < i0 := by omega
      obtain ⟨y, hy⟩ : ∃ y, M[i]? = some y := ⟨_, List.getElem?_eq_getElem (by rw [HL.out]; omega)⟩
      have he : ¬ y.1 = k := HA.out y (List.mem_of_getElem? (i := i) (by rw [List.getElem?_take, if_pos hlt]; exact hy))
      obtain ⟨z, z', f1, f2, b1, b2, _⟩ := H.out.at hy
      cases f1
      cases f2
      have he' : (y.1.toList == k.toList) = false := by rw [seq_iff]; simpa using he
      clear hy he a1 a2 a3
      go_wp2
      go_roundg (m - (i + 1))
      case measure => rw [hg.out]; omega
      case rel => exact ⟨i + 1, by go_num, rfl, by omega, rfl⟩
end Go.Proofs.Ytbpelhfbgjplbaa.Q
