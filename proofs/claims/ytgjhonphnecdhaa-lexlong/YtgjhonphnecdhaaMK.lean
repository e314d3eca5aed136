/- The walk of the reference's Lex. Conditions: a text has 32768 bytes at most. -/
import Derived.Test.YtgjhonphnecdhaaMJ
namespace Go.Proofs.Ytgjhonphnecdhaa.Lx
open Go.ChangeShapes Go.WideShapes Go.ChangeAt Go.RowKit

theorem size_set (w : World) (a : Addr) (v : Value) : (w.setCell a v).heap.size = w.heap.size := by simp
/-- A word more. -/
theorem step {s : ByteArray} {a j : Nat} {x : Tok} {ws : List Tok} (h : words s = pre ws (lx s a)) (ha : a < s.size) (hx : wd s a = some x) (hj : a + x.t.size = j) :
    words s = pre (ws ++ [x]) (lx s (gp false s j)) ∧ a + 1 ≤ gp false s j ∧ gp false s j ≤ s.size ∧ j ≤ s.size := by
  obtain ⟨_, x1, x2, _⟩ := wd_facts ha hx
  have := gp_ge false s j
  exact ⟨by rw [h, lx_word ha hx, pre_pre, hj], by omega, gp_le (by omega), by omega⟩
theorem own_empty (w : World) : (w.alloc (.cells #[] 33)).ownsRow w.heap.size 33 4 (.slice (some ⟨w.heap.size, 0, none⟩) 0 0) 0 (tc []) :=
  ⟨rfl, .inr ⟨w.heap.size, 0, #[], rfl, Nat.le_refl _, alloc_at w _, Nat.le_refl _, Nat.zero_le _, rfl, rfl⟩⟩
/-- The word that is made stands in the block behind those that were. -/
structure Mk (Wo W : World) (k a n : Int) (t : ByteArray) : Prop where
  m : T4 W Wo.heap.size k a n t
  ke : Kept Wo W
theorem Mk.set0 {Wo W : World} {k a n : Int} {t : ByteArray} (h : Mk Wo W k a n t) (y : Int) : Mk Wo (W.setCell ⟨Wo.heap.size, 0, none⟩ (.int .i64 y)) y a n t := ⟨h.m.set0 y, h.ke.setCell (p := ⟨Wo.heap.size, 0, none⟩) (Nat.le_refl _) _⟩
theorem Mk.set2 {Wo W : World} {k a n : Int} {t : ByteArray} (h : Mk Wo W k a n t) (y : Int) : Mk Wo (W.setCell ⟨Wo.heap.size, 2, none⟩ (.int .i64 y)) k a y t := ⟨h.m.set2 y, h.ke.setCell (p := ⟨Wo.heap.size, 2, none⟩) (Nat.le_refl _) _⟩
theorem Mk.set3 {Wo W : World} {k a n : Int} {t : ByteArray} (h : Mk Wo W k a n t) (y : ByteArray) : Mk Wo (W.setCell ⟨Wo.heap.size, 3, none⟩ (.string y)) k a n y := ⟨h.m.set3 y, h.ke.setCell (p := ⟨Wo.heap.size, 3, none⟩) (Nat.le_refl _) _⟩
theorem Mk.kept {Wo W W' : World} {k a n : Int} {t : ByteArray} (h : Mk Wo W k a n t) (q : Kept W W') : Mk Wo W' k a n t := ⟨h.m.kept q, h.ke.trans q⟩
theorem mk_made (w : World) (k a n : Int) (t : ByteArray) : Mk w (w.alloc (.cells #[.int .i64 k, .int .i64 a, .int .i64 n, .string t] 33)) k a n t := ⟨T4.made w k a n t, (Kept.refl w).alloc _⟩

set_option maxRecDepth 100000 in
set_option maxHeartbeats 4000000 in
theorem rlex_walk (s : ByteArray) (hs : s.size ≤ 32768) (w : World) :
    Calls Try.prog 9 #[.string s] w fun e w' => Ls s e w' ∧ Kept w w' := by
  have hs2 : ¬ 32768 < (s.size : Int) := by omega
  have HB : Hid (∀ k (h : k < s.size), s[k].toNat = bt s k) := bt_get s
  have fB : Hid (∀ j W, j ≤ s.size → Calls Try.prog 18 #[.string s, .int .i64 (j : Nat)] W fun e w' => e = .returned (.int .i64 (gp false s j : Nat)) ∧ w' = W) := fun j W hj => skip_walk s j hj (by omega) W
  have fS : Hid (∀ j W, j < s.size → Calls Try.prog 20 #[.string s, .int .i64 (j : Nat)] W fun e w' => e = .returned (.int .i64 (sr s j : Nat)) ∧ Kept W w') := fun j W hj => sign_walk s j hj (by omega) W
  have f0 : ∀ W, Calls Try.prog 18 #[.string s, .int .i64 0] W fun e w' => e = .returned (.int .i64 (gp false s 0 : Nat)) ∧ w' = W := fun W => fB.out 0 W (Nat.zero_le _)
  have hgp0 := gp_le (b := false) (Nat.zero_le s.size)
  have HW : Hid (words s = lx s (gp false s 0)) := rfl
  have HS : Hid (s.size ≤ 32768) := hs
  generalize gp false s 0 = a0 at *
  have z0 := F2.made w 0 0
  have kA := (Kept.refl w).alloc (.cells #[.int .i64 0, .int .i64 0] 25)
  generalize hW0 : w.alloc (.cells #[.int .i64 0, .int .i64 0] 25) = W0 at *
  have hsz : W0.heap.size = w.heap.size + 1 := by rw [← hW0]; exact size_alloc _ _
  have HZ : Hid (F2 W0 w.heap.size 0 0 ∧ Kept w W0 ∧ W0.heap.size = w.heap.size + 1) := ⟨z0, kA, hsz⟩
  have HE0 : Hid ((W0.alloc (.cells #[] 33)).ownsRow W0.heap.size 33 4 (.slice (some ⟨W0.heap.size, 0, none⟩) 0 0) 0 (tc [])) := own_empty W0
  clear z0 kA hsz
  obtain ⟨i0, hi, hz0, hz1, hz2⟩ := info_parts info33
  go_enter Try.func9, Try.ntmps9
  go_wp2_with (go_at_call 18; (with_reducible refine (f0 _).mono ?_); rintro e w1 ⟨rfl, hw1⟩; rw [hw1]; clear hw1)
  clear f0
  go_loopg [4, 5] (s.size - a0) (fun g wv_ av wx => ∃ (a n c : Nat) (p : Option Addr) (ws : List Tok), a + g = s.size ∧ n ≤ a ∧ Hid (words s = pre ws (lx s a) ∧ wx.ownsRow W0.heap.size 33 4 (.slice p n c) n (tc ws) ∧ Kept W0 wx) ∧ wv_ = .slice p n c ∧ av = .int .i64 (a : Nat))
  case atStart => exact ⟨a0, 0, 0, some ⟨W0.heap.size, 0, none⟩, [], by omega, Nat.zero_le _, ⟨by rw [HW.out, pre_nil], HE0.out, (Kept.refl _).alloc _⟩, rfl, rfl⟩
  case round =>
    obtain ⟨a, n, c, p, ws, hg, hn, HI, rfl, rfl⟩ := hrel
    have HG : Hid (a + gk = s.size) := hg
    obtain ⟨Wo, rfl⟩ : ∃ Wo, Wo = wr := ⟨_, rfl⟩
    by_cases ha : a < s.size
    · have HA : Hid (a < s.size) := ha
      have HN0 : Hid (n ≤ a) := hn
      have hn3 : n ≤ 32768 := by omega
      have hx0 := HB.out a ha
      have Z4 : Hid (Mk Wo (Wo.alloc (.cells #[.int .i64 4, .int .i64 (a : Nat), .int .i64 0, .string ⟨#[]⟩] 33)) 4 (a : Nat) 0 ⟨#[]⟩) := mk_made Wo _ _ _ _
      have HBAD : Hid (∀ W, Kept Wo W → F2 W w.heap.size 0 0 ∧ Kept w W) := fun W k => ⟨(HZ.out.1.kept HI.out.2.2).kept k, (HZ.out.2.1.trans HI.out.2.2).trans k⟩
      have hle := lt_le (bt s a)
      clear hn hg
      by_cases h1 : lt (bt s a) = 1
      · have hk3 : knd (bt s a) = 3 := lt_1.1 h1
        have HK3 : Hid (knd (bt s a) = 3) := hk3
        have fl := fun W => letter_walk (bt s a) W
        rw [h1] at fl
        generalize bt s a = y at fl hx0
        clear h1 hk3 hle
        go_wp2_with (go_at_call 19; (with_reducible refine (fl _).mono ?_); rintro e w1 ⟨rfl, hw1⟩; rw [hw1]; clear hw1)
        clear fl hx0
        go_loopg [5] (s.size - a) (fun g iv wx => ∃ j : Nat, j + g = s.size ∧ a ≤ j ∧ Hid (run isN s a = run isN s j ∧ Mk Wo wx 4 (a : Nat) 0 ⟨#[]⟩) ∧ iv = .int .i64 (j : Nat))
        case atStart => exact ⟨a, by omega, Nat.le_refl _, ⟨rfl, Z4.out⟩, rfl⟩
        case round =>
          obtain ⟨j, hjg, haj, HI2, rfl⟩ := hrel
          have HJG : Hid (j + gk = s.size) := hjg
          clear Z4
          have fl := fun W => letter_walk (bt s j) W
          by_cases hl : 0 < lt (bt s j)
          · have hjs : j < s.size := bt_in (fun e => by rw [e] at hl; exact absurd hl (by decide))
            have hx1 := HB.out j hjs
            have HR : Hid (run isN s j = run isN s (j + 1)) := run_go hjs (by rw [isN_lt]; simp; exact hl)
            have hl2 : (0 : Int) < (lt (bt s j) : Nat) := by omega
            generalize lt (bt s j) = l at *
            generalize bt s j = y at *
            clear hjg
            go_wp2_with (go_at_call 19; (with_reducible refine (fl _).mono ?_); rintro e w1 ⟨rfl, hw1⟩; rw [hw1]; clear hw1)
            go_roundg (s.size - (j + 1))
            case measure => have := HJG.out; omega
            case rel => exact ⟨j + 1, by omega, by omega, ⟨HI2.out.1.trans HR.out, HI2.out.2⟩, by go_num⟩
          · have hl0 : lt (bt s j) = 0 := by omega
            have HR : Hid (run isN s a = j) := by show _ = _; rw [HI2.out.1, run_stop (by rw [isN_lt, hl0]; rfl)]
            have HJ : Hid (a ≤ j ∧ j ≤ s.size) := ⟨haj, by omega⟩
            have fk := fun W => rkept_walk (s.extract a j) W
            rw [hl0] at fl
            have hx1 : (h : j < s.size) → s[j].toNat = bt s j := HB.out j
            generalize bt s j = y at *
            clear hl hl0 hjg haj
            cases hk : kept (s.extract a j) with
            | true =>
              have HX : Hid (wd s a = some ⟨3, a, 0, s.extract a j⟩) := by show _ = _; rw [wd_name HK3.out, HR.out, if_pos hk]
              rw [hk] at fk
              clear hk
              by_cases hjs : j < s.size
              · have hx2 := hx1 hjs
                clear hx1
                have hja0 : a ≤ j := HJ.out.1
                have hjs0 : j ≤ s.size := HJ.out.2
                obtain ⟨b0, b1, b2, b3⟩ := HI2.out.2.m.cs
                have bf0 := HI2.out.2.m.fz 0
                go_wp2_with (first
                  | (go_at_call 19; (with_reducible refine (fl _).mono ?_); rintro e w1 ⟨rfl, hw1⟩; rw [hw1]; clear hw1)
                  | (go_at_call 13; (with_reducible refine (fk _).mono ?_); rintro e w3 ⟨rfl, k3⟩; have Z5 : Hid (Mk Wo w3 1 (a : Nat) 0 ⟨#[]⟩) := (HI2.out.2.set0 1).kept k3; clear k3; obtain ⟨d0, d1, d2, d3⟩ := Z5.out.m.cs; have df0 := Z5.out.m.fz 0; have df3 := Z5.out.m.fz 3; have Z6 : Hid (Mk Wo (w3.setCell ⟨Wo.heap.size, 0, none⟩ (.int .i64 3)) 3 (a : Nat) 0 ⟨#[]⟩) := Z5.out.set0 3; obtain ⟨c0, c1, c2, c3⟩ := Z6.out.m.cs; have cf3 := Z6.out.m.fz 3; have Z7 : Hid (Mk Wo (((w3.setCell ⟨Wo.heap.size, 0, none⟩ (.int .i64 3))).setCell ⟨Wo.heap.size, 3, none⟩ (.string (s.extract a j))) (3 : Nat) (a : Nat) (0 : Nat) (s.extract a j)) := Z6.out.set3 (s.extract a j); obtain ⟨s0, s1, s2, s3⟩ := Z7.out.m.cs; have HSt := step HI.out.1 HA.out HX.out (show a + (s.extract a j).size = j by rw [size_extract]; have := HJ.out; omega); have hgj := HSt.2.2.1; have HX2 : Hid (words s = pre (ws ++ [⟨3, a, 0, s.extract a j⟩]) (lx s (gp false s j)) ∧ a + 1 ≤ gp false s j ∧ gp false s j ≤ s.size) := ⟨HSt.1, HSt.2.1, HSt.2.2.1⟩; have fb := fun W => fB.out j W HSt.2.2.2; generalize gp false s j = jj at *; have hja : a ≤ j := HJ.out.1; have hjs : j ≤ s.size := HJ.out.2; clear HSt hgj)
                  | (at_builtin; refine wpList_append_own _ rfl _ _ 22 rfl W0.heap.size 33 i0 _ 4 40 Try.underlying22 hi hz0 hz1 hz2 rfl (by decide) (.slice p n c) n (tc ws) rfl (own_kept HI.out.2.1 (Z7.out.ke.alloc _)) ⟨_, 0, none⟩ 1 1 (tc1 ⟨3, a, 0, s.extract a j⟩) rfl rfl (cells4 _ ⟨3, a, 0, s.extract a j⟩ _ ((size_set _ _ _).trans (size_set _ _ _))) (tc_cell _) (by unfold maxLen; omega) (by omega) (Nat.le_trans HI.out.2.2.size (Z7.out.ke.alloc _).size) ?_; intro v' w5 o5 g5 _; obtain ⟨q5, c5, rfl⟩ := owns_shape o5; have HO5 : Hid (w5.ownsRow W0.heap.size 33 4 (.slice q5 (n + 1) c5) (n + 1) (tc (ws ++ [⟨3, a, 0, s.extract a j⟩])) ∧ Kept W0 w5) := ⟨by rw [tc_append, tc_one]; exact o5, below_own HI.out.2.2 HI.out.2.1 (Z7.out.ke.alloc _) g5⟩; clear o5 g5)
                  | (go_at_call 18; (with_reducible refine (fb _).mono ?_); rintro e w6 ⟨rfl, hw6⟩; rw [hw6]; clear hw6))
                go_roundg (s.size - jj)
                case measure => have := HX2.out; have := HG.out; omega
                case rel => exact ⟨jj, n + 1, c5, q5, ws ++ [⟨3, a, 0, s.extract a j⟩], by have := HX2.out; omega, by have := HX2.out; have := HN0.out; omega, ⟨HX2.out.1, HO5.out.1, HO5.out.2⟩, rfl, rfl⟩
              · have hjs2 : ¬ (j : Int) < (s.size : Nat) := by omega
                clear hx1
                have hja0 : a ≤ j := HJ.out.1
                have hjs0 : j ≤ s.size := HJ.out.2
                obtain ⟨b0, b1, b2, b3⟩ := HI2.out.2.m.cs
                have bf0 := HI2.out.2.m.fz 0
                go_wp2_with (first
                  | (go_at_call 19; (with_reducible refine (fl _).mono ?_); rintro e w1 ⟨rfl, hw1⟩; rw [hw1]; clear hw1)
                  | (go_at_call 13; (with_reducible refine (fk _).mono ?_); rintro e w3 ⟨rfl, k3⟩; have Z5 : Hid (Mk Wo w3 1 (a : Nat) 0 ⟨#[]⟩) := (HI2.out.2.set0 1).kept k3; clear k3; obtain ⟨d0, d1, d2, d3⟩ := Z5.out.m.cs; have df0 := Z5.out.m.fz 0; have df3 := Z5.out.m.fz 3; have Z6 : Hid (Mk Wo (w3.setCell ⟨Wo.heap.size, 0, none⟩ (.int .i64 3)) 3 (a : Nat) 0 ⟨#[]⟩) := Z5.out.set0 3; obtain ⟨c0, c1, c2, c3⟩ := Z6.out.m.cs; have cf3 := Z6.out.m.fz 3; have Z7 : Hid (Mk Wo (((w3.setCell ⟨Wo.heap.size, 0, none⟩ (.int .i64 3))).setCell ⟨Wo.heap.size, 3, none⟩ (.string (s.extract a j))) (3 : Nat) (a : Nat) (0 : Nat) (s.extract a j)) := Z6.out.set3 (s.extract a j); obtain ⟨s0, s1, s2, s3⟩ := Z7.out.m.cs; have HSt := step HI.out.1 HA.out HX.out (show a + (s.extract a j).size = j by rw [size_extract]; have := HJ.out; omega); have hgj := HSt.2.2.1; have HX2 : Hid (words s = pre (ws ++ [⟨3, a, 0, s.extract a j⟩]) (lx s (gp false s j)) ∧ a + 1 ≤ gp false s j ∧ gp false s j ≤ s.size) := ⟨HSt.1, HSt.2.1, HSt.2.2.1⟩; have fb := fun W => fB.out j W HSt.2.2.2; generalize gp false s j = jj at *; have hja : a ≤ j := HJ.out.1; have hjs : j ≤ s.size := HJ.out.2; clear HSt hgj)
                  | (at_builtin; refine wpList_append_own _ rfl _ _ 22 rfl W0.heap.size 33 i0 _ 4 40 Try.underlying22 hi hz0 hz1 hz2 rfl (by decide) (.slice p n c) n (tc ws) rfl (own_kept HI.out.2.1 (Z7.out.ke.alloc _)) ⟨_, 0, none⟩ 1 1 (tc1 ⟨3, a, 0, s.extract a j⟩) rfl rfl (cells4 _ ⟨3, a, 0, s.extract a j⟩ _ ((size_set _ _ _).trans (size_set _ _ _))) (tc_cell _) (by unfold maxLen; omega) (by omega) (Nat.le_trans HI.out.2.2.size (Z7.out.ke.alloc _).size) ?_; intro v' w5 o5 g5 _; obtain ⟨q5, c5, rfl⟩ := owns_shape o5; have HO5 : Hid (w5.ownsRow W0.heap.size 33 4 (.slice q5 (n + 1) c5) (n + 1) (tc (ws ++ [⟨3, a, 0, s.extract a j⟩])) ∧ Kept W0 w5) := ⟨by rw [tc_append, tc_one]; exact o5, below_own HI.out.2.2 HI.out.2.1 (Z7.out.ke.alloc _) g5⟩; clear o5 g5)
                  | (go_at_call 18; (with_reducible refine (fb _).mono ?_); rintro e w6 ⟨rfl, hw6⟩; rw [hw6]; clear hw6))
                go_roundg (s.size - jj)
                case measure => have := HX2.out; have := HG.out; omega
                case rel => exact ⟨jj, n + 1, c5, q5, ws ++ [⟨3, a, 0, s.extract a j⟩], by have := HX2.out; omega, by have := HX2.out; have := HN0.out; omega, ⟨HX2.out.1, HO5.out.1, HO5.out.2⟩, rfl, rfl⟩
            | false =>
              have HX : Hid (wd s a = some ⟨1, a, 0, s.extract a j⟩) := by show _ = _; rw [wd_name HK3.out, HR.out, if_neg (by rw [hk]; simp)]
              rw [hk] at fk
              clear hk
              by_cases hjs : j < s.size
              · have hx2 := hx1 hjs
                clear hx1
                have hja0 : a ≤ j := HJ.out.1
                have hjs0 : j ≤ s.size := HJ.out.2
                obtain ⟨b0, b1, b2, b3⟩ := HI2.out.2.m.cs
                have bf0 := HI2.out.2.m.fz 0
                go_wp2_with (first
                  | (go_at_call 19; (with_reducible refine (fl _).mono ?_); rintro e w1 ⟨rfl, hw1⟩; rw [hw1]; clear hw1)
                  | (go_at_call 13; (with_reducible refine (fk _).mono ?_); rintro e w3 ⟨rfl, k3⟩; have Z5 : Hid (Mk Wo w3 1 (a : Nat) 0 ⟨#[]⟩) := (HI2.out.2.set0 1).kept k3; clear k3; obtain ⟨d0, d1, d2, d3⟩ := Z5.out.m.cs; have df0 := Z5.out.m.fz 0; have df3 := Z5.out.m.fz 3; have Z6 : Hid (Mk Wo (w3) 1 (a : Nat) 0 ⟨#[]⟩) := Z5.out; obtain ⟨c0, c1, c2, c3⟩ := Z6.out.m.cs; have cf3 := Z6.out.m.fz 3; have Z7 : Hid (Mk Wo ((w3).setCell ⟨Wo.heap.size, 3, none⟩ (.string (s.extract a j))) (1 : Nat) (a : Nat) (0 : Nat) (s.extract a j)) := Z6.out.set3 (s.extract a j); obtain ⟨s0, s1, s2, s3⟩ := Z7.out.m.cs; have HSt := step HI.out.1 HA.out HX.out (show a + (s.extract a j).size = j by rw [size_extract]; have := HJ.out; omega); have hgj := HSt.2.2.1; have HX2 : Hid (words s = pre (ws ++ [⟨1, a, 0, s.extract a j⟩]) (lx s (gp false s j)) ∧ a + 1 ≤ gp false s j ∧ gp false s j ≤ s.size) := ⟨HSt.1, HSt.2.1, HSt.2.2.1⟩; have fb := fun W => fB.out j W HSt.2.2.2; generalize gp false s j = jj at *; have hja : a ≤ j := HJ.out.1; have hjs : j ≤ s.size := HJ.out.2; clear HSt hgj)
                  | (at_builtin; refine wpList_append_own _ rfl _ _ 22 rfl W0.heap.size 33 i0 _ 4 40 Try.underlying22 hi hz0 hz1 hz2 rfl (by decide) (.slice p n c) n (tc ws) rfl (own_kept HI.out.2.1 (Z7.out.ke.alloc _)) ⟨_, 0, none⟩ 1 1 (tc1 ⟨1, a, 0, s.extract a j⟩) rfl rfl (cells4 _ ⟨1, a, 0, s.extract a j⟩ _ (size_set _ _ _)) (tc_cell _) (by unfold maxLen; omega) (by omega) (Nat.le_trans HI.out.2.2.size (Z7.out.ke.alloc _).size) ?_; intro v' w5 o5 g5 _; obtain ⟨q5, c5, rfl⟩ := owns_shape o5; have HO5 : Hid (w5.ownsRow W0.heap.size 33 4 (.slice q5 (n + 1) c5) (n + 1) (tc (ws ++ [⟨1, a, 0, s.extract a j⟩])) ∧ Kept W0 w5) := ⟨by rw [tc_append, tc_one]; exact o5, below_own HI.out.2.2 HI.out.2.1 (Z7.out.ke.alloc _) g5⟩; clear o5 g5)
                  | (go_at_call 18; (with_reducible refine (fb _).mono ?_); rintro e w6 ⟨rfl, hw6⟩; rw [hw6]; clear hw6))
                go_roundg (s.size - jj)
                case measure => have := HX2.out; have := HG.out; omega
                case rel => exact ⟨jj, n + 1, c5, q5, ws ++ [⟨1, a, 0, s.extract a j⟩], by have := HX2.out; omega, by have := HX2.out; have := HN0.out; omega, ⟨HX2.out.1, HO5.out.1, HO5.out.2⟩, rfl, rfl⟩
              · have hjs2 : ¬ (j : Int) < (s.size : Nat) := by omega
                clear hx1
                have hja0 : a ≤ j := HJ.out.1
                have hjs0 : j ≤ s.size := HJ.out.2
                obtain ⟨b0, b1, b2, b3⟩ := HI2.out.2.m.cs
                have bf0 := HI2.out.2.m.fz 0
                go_wp2_with (first
                  | (go_at_call 19; (with_reducible refine (fl _).mono ?_); rintro e w1 ⟨rfl, hw1⟩; rw [hw1]; clear hw1)
                  | (go_at_call 13; (with_reducible refine (fk _).mono ?_); rintro e w3 ⟨rfl, k3⟩; have Z5 : Hid (Mk Wo w3 1 (a : Nat) 0 ⟨#[]⟩) := (HI2.out.2.set0 1).kept k3; clear k3; obtain ⟨d0, d1, d2, d3⟩ := Z5.out.m.cs; have df0 := Z5.out.m.fz 0; have df3 := Z5.out.m.fz 3; have Z6 : Hid (Mk Wo (w3) 1 (a : Nat) 0 ⟨#[]⟩) := Z5.out; obtain ⟨c0, c1, c2, c3⟩ := Z6.out.m.cs; have cf3 := Z6.out.m.fz 3; have Z7 : Hid (Mk Wo ((w3).setCell ⟨Wo.heap.size, 3, none⟩ (.string (s.extract a j))) (1 : Nat) (a : Nat) (0 : Nat) (s.extract a j)) := Z6.out.set3 (s.extract a j); obtain ⟨s0, s1, s2, s3⟩ := Z7.out.m.cs; have HSt := step HI.out.1 HA.out HX.out (show a + (s.extract a j).size = j by rw [size_extract]; have := HJ.out; omega); have hgj := HSt.2.2.1; have HX2 : Hid (words s = pre (ws ++ [⟨1, a, 0, s.extract a j⟩]) (lx s (gp false s j)) ∧ a + 1 ≤ gp false s j ∧ gp false s j ≤ s.size) := ⟨HSt.1, HSt.2.1, HSt.2.2.1⟩; have fb := fun W => fB.out j W HSt.2.2.2; generalize gp false s j = jj at *; have hja : a ≤ j := HJ.out.1; have hjs : j ≤ s.size := HJ.out.2; clear HSt hgj)
                  | (at_builtin; refine wpList_append_own _ rfl _ _ 22 rfl W0.heap.size 33 i0 _ 4 40 Try.underlying22 hi hz0 hz1 hz2 rfl (by decide) (.slice p n c) n (tc ws) rfl (own_kept HI.out.2.1 (Z7.out.ke.alloc _)) ⟨_, 0, none⟩ 1 1 (tc1 ⟨1, a, 0, s.extract a j⟩) rfl rfl (cells4 _ ⟨1, a, 0, s.extract a j⟩ _ (size_set _ _ _)) (tc_cell _) (by unfold maxLen; omega) (by omega) (Nat.le_trans HI.out.2.2.size (Z7.out.ke.alloc _).size) ?_; intro v' w5 o5 g5 _; obtain ⟨q5, c5, rfl⟩ := owns_shape o5; have HO5 : Hid (w5.ownsRow W0.heap.size 33 4 (.slice q5 (n + 1) c5) (n + 1) (tc (ws ++ [⟨1, a, 0, s.extract a j⟩])) ∧ Kept W0 w5) := ⟨by rw [tc_append, tc_one]; exact o5, below_own HI.out.2.2 HI.out.2.1 (Z7.out.ke.alloc _) g5⟩; clear o5 g5)
                  | (go_at_call 18; (with_reducible refine (fb _).mono ?_); rintro e w6 ⟨rfl, hw6⟩; rw [hw6]; clear hw6))
                go_roundg (s.size - jj)
                case measure => have := HX2.out; have := HG.out; omega
                case rel => exact ⟨jj, n + 1, c5, q5, ws ++ [⟨1, a, 0, s.extract a j⟩], by have := HX2.out; omega, by have := HX2.out; have := HN0.out; omega, ⟨HX2.out.1, HO5.out.1, HO5.out.2⟩, rfl, rfl⟩
      · by_cases h2 : lt (bt s a) = 2
        · have HK4 : Hid (knd (bt s a) = 4) := lt_2.1 h2
          have fl := fun W => letter_walk (bt s a) W
          rw [h2] at fl
          have Z5 : Hid (Mk Wo ((Wo.alloc (.cells #[.int .i64 4, .int .i64 (a : Nat), .int .i64 0, .string ⟨#[]⟩] 33)).setCell ⟨Wo.heap.size, 0, none⟩ (.int .i64 2)) 2 (a : Nat) 0 ⟨#[]⟩) := Z4.out.set0 2
          generalize bt s a = y at fl hx0
          clear h1 h2 hle Z4
          go_wp2_with (go_at_call 19; (with_reducible refine (fl _).mono ?_); rintro e w1 ⟨rfl, hw1⟩; rw [hw1]; clear hw1)
          clear fl hx0
          go_loopg [5] (s.size - a) (fun g iv wx => ∃ j : Nat, j + g = s.size ∧ a ≤ j ∧ Hid (run isD s a = run isD s j ∧ Mk Wo wx 2 (a : Nat) (vl s a (j - a) : Nat) ⟨#[]⟩ ∧ vl s a (j - a) ≤ 2147483648) ∧ iv = .int .i64 (j : Nat))
          case atStart => exact ⟨a, by omega, Nat.le_refl _, ⟨rfl, by rw [Nat.sub_self]; exact mk_made Wo 2 (a : Nat) 0 ⟨#[]⟩, by rw [Nat.sub_self]; exact Nat.zero_le _⟩, rfl⟩
          case round =>
            obtain ⟨j, hjg, haj, HI2, rfl⟩ := hrel
            have HJG : Hid (j + gk = s.size) := hjg
            clear Z5
            have fl := fun W => letter_walk (bt s j) W
            by_cases hl : lt (bt s j) = 2
            · have hjs : j < s.size := bt_in (fun e => by rw [e] at hl; exact absurd hl (by decide))
              have hx1 := HB.out j hjs
              have HR : Hid (run isD s j = run isD s (j + 1)) := run_go hjs (by rw [isD_lt]; simp; exact hl)
              have HV : Hid (vl s a (j + 1 - a) = vl s a (j - a) * 10 + (bt s j - 48)) := by show _ = _; rw [show j + 1 - a = (j - a) + 1 by omega, vl, show a + (j - a) = j by omega]
              obtain ⟨y1, y2⟩ := knd_dig.1 (lt_2.1 hl)
              have HM : Hid (Mk Wo wr 2 (a : Nat) (vl s a (j - a) : Nat) ⟨#[]⟩) := HI2.out.2.1
              have hv := HI2.out.2.2
              have HR2 : Hid (run isD s a = run isD s (j + 1)) := HI2.out.1.trans HR.out
              rw [hl] at fl
              generalize bt s j = y at *
              obtain ⟨q, hq⟩ : ∃ q, q = y - 48 := ⟨_, rfl⟩
              have hq9 : q ≤ 9 := by omega
              have eq1 : (y : Int) - 48 = (q : Nat) := by omega
              rw [← hq] at HV
              obtain ⟨v, hvv⟩ : ∃ v, v = vl s a (j - a) := ⟨_, rfl⟩
              rw [← hvv] at HV HM hv
              obtain ⟨r, hr⟩ : ∃ r, r = v * 10 + q := ⟨_, rfl⟩
              have er : (v : Int) * 10 + (q : Nat) = (r : Nat) := by omega
              have hr2 : r ≤ 21474836489 := by omega
              have HRV : Hid (vl s a (j + 1 - a) = r) := HV.out.trans hr.symm
              obtain ⟨c0, c1, c2, c3⟩ := HM.out.m.cs
              have cf2 := HM.out.m.fz 2
              have Z6 : Hid (Mk Wo ((wr.setCell ⟨Wo.heap.size, 2, none⟩ (.int .i64 (r : Nat))).drew) 2 (a : Nat) (r : Nat) ⟨#[]⟩) := (HM.out.set2 (r : Nat)).kept (Kept.refl _).drew
              clear hr hvv hq HV HI2 hjg HR hl
              go_wp2_with (go_at_call 19; (with_reducible refine (fl _).mono ?_); rintro e w1 ⟨rfl, hw1⟩; rw [hw1]; clear hw1)
              go_region
              generalize hW6 : (wr.setCell ⟨Wo.heap.size, 2, none⟩ (.int .i64 (r : Nat))).drew = W6 at *
              clear hW6 c0 c1 c2 c3 cf2
              obtain ⟨d0, d1, d2, d3⟩ := Z6.out.m.cs
              by_cases hb : r ≤ 2147483648
              · have hb2 : ¬ 2147483648 < (r : Int) := by omega
                go_wp2
                go_roundg (s.size - (j + 1))
                case measure => have := HJG.out; omega
                case rel => exact ⟨j + 1, by omega, by omega, ⟨HR2.out, by rw [HRV.out]; exact Z6.out, by rw [HRV.out]; exact hb⟩, by go_num⟩
              · have hb2 : 2147483648 < (r : Int) := by omega
                have HE : Hid (words s = .error a) := by
                  show _ = _
                  rw [HI.out.1, lx_bad HA.out (wd_great HK4.out (fun h => by
                    have h1 := run_ge isD s (j + 1)
                    have h2 := vl_mono s a (show j + 1 - a ≤ run isD s a - a by rw [HR2.out]; omega)
                    rw [HRV.out] at h2
                    omega))]; rfl
                obtain ⟨⟨r0, q0⟩, r1, q1⟩ := (HBAD.out _ Z6.out.ke).1.ready 180
                go_wp2
                refine bodyPost_ret (v := .tuple #[.slice none 0 0, .agg #[.int .i64 180, .int .i64 (a : Nat)]]) ?_ rfl ⟨ls_bad HE.out _, ?_⟩
                · exact results_rev (p := 3) (u := 2) (ty := 25) rfl _ _ w.heap.size 25 _ (0, 0) _ rfl ((HBAD.out _ Z6.out.ke).1.fill 180 (a : Nat)).out Try.underlying25 rfl size25
                · exact kept_st2 (HBAD.out _ Z6.out.ke).2 (Nat.le_refl _) _ _
            · have HR : Hid (run isD s a = j) := by show _ = _; rw [HI2.out.1, run_stop (by rw [isD_lt]; simpa using hl)]
              have HJ : Hid (a ≤ j ∧ j ≤ s.size) := ⟨haj, by omega⟩
              have HX : Hid (wd s a = some ⟨2, a, vl s a (j - a), s.extract a j⟩) := by
                have hv := HI2.out.2.2
                show _ = _
                rw [← HR.out] at hv ⊢
                exact wd_num HK4.out hv
              have HM : Hid (Mk Wo wr 2 (a : Nat) (vl s a (j - a) : Nat) ⟨#[]⟩) := HI2.out.2.1
              have tl : ((lt (bt s j) : Nat) == (2 : Int)) = false := by simp; omega
              generalize vl s a (j - a) = v at *
              have hx1 : (h : j < s.size) → s[j].toNat = bt s j := HB.out j
              generalize lt (bt s j) = l at *
              generalize bt s j = y at *
              clear hl hjg haj HI2
              by_cases hjs : j < s.size
              · have hx2 := hx1 hjs
                clear hx1
                obtain ⟨c0, c1, c2, c3⟩ := HM.out.m.cs
                have cf3 := HM.out.m.fz 3
                have Z7 : Hid (Mk Wo ((wr).setCell ⟨Wo.heap.size, 3, none⟩ (.string (s.extract a j))) (2 : Nat) (a : Nat) (v : Nat) (s.extract a j)) := HM.out.set3 (s.extract a j)
                obtain ⟨s0, s1, s2, s3⟩ := Z7.out.m.cs
                have HSt := step HI.out.1 HA.out HX.out (show a + (s.extract a j).size = j by rw [size_extract]; have := HJ.out; omega)
                have hgj := HSt.2.2.1
                have HX2 : Hid (words s = pre (ws ++ [⟨2, a, v, s.extract a j⟩]) (lx s (gp false s j)) ∧ a + 1 ≤ gp false s j ∧ gp false s j ≤ s.size) := ⟨HSt.1, HSt.2.1, HSt.2.2.1⟩
                have fb := fun W => fB.out j W HSt.2.2.2
                generalize gp false s j = jj at *
                have hja : a ≤ j := HJ.out.1
                have hjs : j ≤ s.size := HJ.out.2
                clear HSt hgj
                go_wp2_with (first
                  | (go_at_call 19; (with_reducible refine (fl _).mono ?_); rintro e w1 ⟨rfl, hw1⟩; rw [hw1]; clear hw1)
                  | (at_builtin; refine wpList_append_own _ rfl _ _ 22 rfl W0.heap.size 33 i0 _ 4 40 Try.underlying22 hi hz0 hz1 hz2 rfl (by decide) (.slice p n c) n (tc ws) rfl (own_kept HI.out.2.1 (Z7.out.ke.alloc _)) ⟨_, 0, none⟩ 1 1 (tc1 ⟨2, a, v, s.extract a j⟩) rfl rfl (cells4 _ ⟨2, a, v, s.extract a j⟩ _ (size_set _ _ _)) (tc_cell _) (by unfold maxLen; omega) (by omega) (Nat.le_trans HI.out.2.2.size (Z7.out.ke.alloc _).size) ?_; intro v' w5 o5 g5 _; obtain ⟨q5, c5, rfl⟩ := owns_shape o5; have HO5 : Hid (w5.ownsRow W0.heap.size 33 4 (.slice q5 (n + 1) c5) (n + 1) (tc (ws ++ [⟨2, a, v, s.extract a j⟩])) ∧ Kept W0 w5) := ⟨by rw [tc_append, tc_one]; exact o5, below_own HI.out.2.2 HI.out.2.1 (Z7.out.ke.alloc _) g5⟩; clear o5 g5)
                  | (go_at_call 18; (with_reducible refine (fb _).mono ?_); rintro e w6 ⟨rfl, hw6⟩; rw [hw6]; clear hw6))
                go_roundg (s.size - jj)
                case measure => have := HX2.out; have := HG.out; omega
                case rel => exact ⟨jj, n + 1, c5, q5, ws ++ [⟨2, a, v, s.extract a j⟩], by have := HX2.out; omega, by have := HX2.out; have := HN0.out; omega, ⟨HX2.out.1, HO5.out.1, HO5.out.2⟩, rfl, rfl⟩
              · have hjs2 : ¬ (j : Int) < (s.size : Nat) := by omega
                clear hx1
                obtain ⟨c0, c1, c2, c3⟩ := HM.out.m.cs
                have cf3 := HM.out.m.fz 3
                have Z7 : Hid (Mk Wo ((wr).setCell ⟨Wo.heap.size, 3, none⟩ (.string (s.extract a j))) (2 : Nat) (a : Nat) (v : Nat) (s.extract a j)) := HM.out.set3 (s.extract a j)
                obtain ⟨s0, s1, s2, s3⟩ := Z7.out.m.cs
                have HSt := step HI.out.1 HA.out HX.out (show a + (s.extract a j).size = j by rw [size_extract]; have := HJ.out; omega)
                have hgj := HSt.2.2.1
                have HX2 : Hid (words s = pre (ws ++ [⟨2, a, v, s.extract a j⟩]) (lx s (gp false s j)) ∧ a + 1 ≤ gp false s j ∧ gp false s j ≤ s.size) := ⟨HSt.1, HSt.2.1, HSt.2.2.1⟩
                have fb := fun W => fB.out j W HSt.2.2.2
                generalize gp false s j = jj at *
                have hja : a ≤ j := HJ.out.1
                have hjs : j ≤ s.size := HJ.out.2
                clear HSt hgj
                go_wp2_with (first
                  | (go_at_call 19; (with_reducible refine (fl _).mono ?_); rintro e w1 ⟨rfl, hw1⟩; rw [hw1]; clear hw1)
                  | (at_builtin; refine wpList_append_own _ rfl _ _ 22 rfl W0.heap.size 33 i0 _ 4 40 Try.underlying22 hi hz0 hz1 hz2 rfl (by decide) (.slice p n c) n (tc ws) rfl (own_kept HI.out.2.1 (Z7.out.ke.alloc _)) ⟨_, 0, none⟩ 1 1 (tc1 ⟨2, a, v, s.extract a j⟩) rfl rfl (cells4 _ ⟨2, a, v, s.extract a j⟩ _ (size_set _ _ _)) (tc_cell _) (by unfold maxLen; omega) (by omega) (Nat.le_trans HI.out.2.2.size (Z7.out.ke.alloc _).size) ?_; intro v' w5 o5 g5 _; obtain ⟨q5, c5, rfl⟩ := owns_shape o5; have HO5 : Hid (w5.ownsRow W0.heap.size 33 4 (.slice q5 (n + 1) c5) (n + 1) (tc (ws ++ [⟨2, a, v, s.extract a j⟩])) ∧ Kept W0 w5) := ⟨by rw [tc_append, tc_one]; exact o5, below_own HI.out.2.2 HI.out.2.1 (Z7.out.ke.alloc _) g5⟩; clear o5 g5)
                  | (go_at_call 18; (with_reducible refine (fb _).mono ?_); rintro e w6 ⟨rfl, hw6⟩; rw [hw6]; clear hw6))
                go_roundg (s.size - jj)
                case measure => have := HX2.out; have := HG.out; omega
                case rel => exact ⟨jj, n + 1, c5, q5, ws ++ [⟨2, a, v, s.extract a j⟩], by have := HX2.out; omega, by have := HX2.out; have := HN0.out; omega, ⟨HX2.out.1, HO5.out.1, HO5.out.2⟩, rfl, rfl⟩
        · have hl0 : lt (bt s a) = 0 := by omega
          have fl := fun W => letter_walk (bt s a) W
          rw [hl0] at fl
          have fs := fun W => fS.out a W HA.out
          have h3 : knd (bt s a) ≠ 3 := fun h => h1 (lt_1.2 h)
          have h4 : knd (bt s a) ≠ 4 := fun h => h2 (lt_2.2 h)
          have hsl := sl_in HA.out
          by_cases h5 : knd (bt s a) = 5
          · have hsr : sr s a = sl s a := by unfold sr; rw [if_pos h5]
            rw [hsr] at fs
            obtain ⟨j, hj⟩ : ∃ j, j = a + sl s a := ⟨_, rfl⟩
            have ej : (a : Int) + (sl s a : Nat) = (j : Nat) := by omega
            have HX : Hid (wd s a = some ⟨4, a, 0, s.extract a j⟩) := by show _ = _; rw [wd_sign h5, hj]
            have HJ : Hid (a ≤ j ∧ j ≤ s.size) := ⟨by omega, by omega⟩
            have t0 : ((sl s a : Nat) == (0 : Int)) = false := by simp; omega
            have hs3 : sl s a ≤ 2 := by omega
            generalize sl s a = l at *
            generalize bt s a = y at *
            clear h1 h2 hl0 h3 h4 h5 hsr hj hle hsl
            go_wp2_with (first
              | (go_at_call 19; (with_reducible refine (fl _).mono ?_); rintro e w1 ⟨rfl, hw1⟩; rw [hw1]; clear hw1)
              | (go_at_call 20; (with_reducible refine (fs _).mono ?_); rintro e w3 ⟨rfl, k3⟩; have Z5 : Hid (Mk Wo w3 4 (a : Nat) 0 ⟨#[]⟩) := Z4.out.kept k3; clear k3; obtain ⟨c0, c1, c2, c3⟩ := Z5.out.m.cs; have cf3 := Z5.out.m.fz 3; have Z7 : Hid (Mk Wo ((w3).setCell ⟨Wo.heap.size, 3, none⟩ (.string (s.extract a j))) (4 : Nat) (a : Nat) (0 : Nat) (s.extract a j)) := Z5.out.set3 (s.extract a j); obtain ⟨s0, s1, s2, s3⟩ := Z7.out.m.cs; have HSt := step HI.out.1 HA.out HX.out (show a + (s.extract a j).size = j by rw [size_extract]; have := HJ.out; omega); have hgj := HSt.2.2.1; have HX2 : Hid (words s = pre (ws ++ [⟨4, a, 0, s.extract a j⟩]) (lx s (gp false s j)) ∧ a + 1 ≤ gp false s j ∧ gp false s j ≤ s.size) := ⟨HSt.1, HSt.2.1, HSt.2.2.1⟩; have fb := fun W => fB.out j W HSt.2.2.2; generalize gp false s j = jj at *; have hja : a ≤ j := HJ.out.1; have hjs : j ≤ s.size := HJ.out.2; clear HSt hgj)
              | (at_builtin; refine wpList_append_own _ rfl _ _ 22 rfl W0.heap.size 33 i0 _ 4 40 Try.underlying22 hi hz0 hz1 hz2 rfl (by decide) (.slice p n c) n (tc ws) rfl (own_kept HI.out.2.1 (Z7.out.ke.alloc _)) ⟨_, 0, none⟩ 1 1 (tc1 ⟨4, a, 0, s.extract a j⟩) rfl rfl (cells4 _ ⟨4, a, 0, s.extract a j⟩ _ (size_set _ _ _)) (tc_cell _) (by unfold maxLen; omega) (by omega) (Nat.le_trans HI.out.2.2.size (Z7.out.ke.alloc _).size) ?_; intro v' w5 o5 g5 _; obtain ⟨q5, c5, rfl⟩ := owns_shape o5; have HO5 : Hid (w5.ownsRow W0.heap.size 33 4 (.slice q5 (n + 1) c5) (n + 1) (tc (ws ++ [⟨4, a, 0, s.extract a j⟩])) ∧ Kept W0 w5) := ⟨by rw [tc_append, tc_one]; exact o5, below_own HI.out.2.2 HI.out.2.1 (Z7.out.ke.alloc _) g5⟩; clear o5 g5)
              | (go_at_call 18; (with_reducible refine (fb _).mono ?_); rintro e w6 ⟨rfl, hw6⟩; rw [hw6]; clear hw6))
            go_roundg (s.size - jj)
            case measure => have := HX2.out; have := HG.out; omega
            case rel => exact ⟨jj, n + 1, c5, q5, ws ++ [⟨4, a, 0, s.extract a j⟩], by have := HX2.out; omega, by have := HX2.out; have := HN0.out; omega, ⟨HX2.out.1, HO5.out.1, HO5.out.2⟩, rfl, rfl⟩
          · have hsr : sr s a = 0 := by unfold sr; rw [if_neg h5]
            rw [hsr] at fs
            have HE : Hid (words s = .error a) := by show _ = _; rw [HI.out.1, lx_bad HA.out (wd_none h3 h4 h5)]; rfl
            generalize bt s a = y at *
            clear h1 h2 hl0 h3 h4 h5 hsr hle hsl
            go_wp2_with (first
              | (go_at_call 19; (with_reducible refine (fl _).mono ?_); rintro e w1 ⟨rfl, hw1⟩; rw [hw1]; clear hw1)
              | (go_at_call 20; (with_reducible refine (fs _).mono ?_); rintro e w3 ⟨rfl, k3⟩; have Z5 : Hid (Mk Wo w3 4 (a : Nat) 0 ⟨#[]⟩) := Z4.out.kept k3; clear k3; obtain ⟨⟨r0, q0⟩, r1, q1⟩ := (HBAD.out _ Z5.out.ke).1.ready 180))
            refine bodyPost_ret (v := .tuple #[.slice none 0 0, .agg #[.int .i64 180, .int .i64 (a : Nat)]]) ?_ rfl ⟨ls_bad HE.out _, ?_⟩
            · exact results_rev (p := 3) (u := 2) (ty := 25) rfl _ _ w.heap.size 25 _ (0, 0) _ rfl ((HBAD.out _ Z5.out.ke).1.fill 180 (a : Nat)).out Try.underlying25 rfl size25
            · exact kept_st2 (HBAD.out _ Z5.out.ke).2 (Nat.le_refl _) _ _
    · have hla : ¬ (a : Int) < (s.size : Nat) := by omega
      have HE : Hid (words s = .ok (ws ++ [fin s])) := by show _ = _; rw [HI.out.1, lx_end (by omega)]; rfl
      have hn3 : n ≤ 32768 := by have := HS.out; omega
      have HL : Hid (ws.length = n) := by have := HI.out.2.1.1; rw [tc_length] at this; show ws.length = n; omega
      clear hg hn ha
      go_wp2_with (at_builtin; refine wpList_append_own _ rfl _ _ 22 rfl W0.heap.size 33 i0 _ 4 40 Try.underlying22 hi hz0 hz1 hz2 rfl (by decide) (.slice p n c) n (tc ws) rfl (own_kept HI.out.2.1 ((Kept.refl Wo).alloc _)) ⟨_, 0, none⟩ 1 1 (tc1 (fin s)) rfl rfl (cells4 _ (fin s) _ rfl) (tc_cell _) (by unfold maxLen; omega) (by omega) (Nat.le_trans HI.out.2.2.size ((Kept.refl Wo).alloc _).size) ?_; intro v' w5 o5 g5 _; obtain ⟨q5, c5, rfl⟩ := owns_shape o5; have HO5 : Hid (w5.ownsRow W0.heap.size 33 4 (.slice q5 (n + 1) c5) (n + 1) (tc (ws ++ [fin s])) ∧ Kept W0 w5) := ⟨by rw [tc_append, tc_one]; exact o5, below_own HI.out.2.2 HI.out.2.1 ((Kept.refl Wo).alloc _) g5⟩; have Q5 : Hid (F2 w5 w.heap.size 0 0) := HZ.out.1.kept HO5.out.2; obtain ⟨⟨r0, q0⟩, r1, q1⟩ := Q5.out.ready 0; clear o5 g5)
      obtain ⟨g5, rfl, hg5⟩ := own_ptr HO5.out.1 (Nat.succ_pos n)
      refine bodyPost_ret (v := .tuple #[.slice (some ⟨g5, 0, none⟩) (n + 1) c5, .agg #[.int .i64 0, .int .i64 0]]) ?_ rfl ⟨ls_good HE.out (by rw [List.length_append, HL.out]; rfl) ((tw_of HO5.out.1).aside (by have := HZ.out.2.2; omega) 0 0), ?_⟩
      · exact results_rev (p := 3) (u := 2) (ty := 25) rfl _ _ w.heap.size 25 _ (0, 0) _ rfl (Q5.out.fill 0 0).out Try.underlying25 rfl size25
      · exact kept_st2 (HZ.out.2.1.trans HO5.out.2) (Nat.le_refl _) _ _
end Go.Proofs.Ytgjhonphnecdhaa.Lx
