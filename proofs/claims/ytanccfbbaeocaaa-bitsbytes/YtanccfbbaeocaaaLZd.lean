/- The walk of the reference's Put. Conditions: those that each row names. -/
import Derived.Test.YtanccfbbaeocaaaLZc
namespace Go.Proofs.Ytanccfbbaeocaaa.Bt
open Go.RowKit Go.Shelf
open N (bs bs_size bs_append Small numL fixL cellsOf numL_ten fixL_length)

theorem Own.small' {w : World} {B : Nat} {e : TypeId} {sz : Nat} {p : Option Addr} {n c : Nat} {cs : List Value} (k : Own w B e sz p n c cs) : c ≤ 9223372036854775807 := k.rw.small
set_option maxRecDepth 100000 in
set_option maxHeartbeats 8000000 in
theorem rput_walk {w : World} {p : Option Addr} {n c : Nat} {P : List Pt} (hP : Okp P) (h : Il w p n c (ni P)) (hn : n ≤ 200) :
    Calls Try.prog 8 #[.slice p n c] w fun e w' => e = .returned (.string (bs (putL P))) ∧ Kept w w' := by
  obtain ⟨i0, hi0, hz0, hz1, hz2⟩ := info_parts info3
  obtain ⟨j0, hj0, hy0, hy1, hy2⟩ := info_parts infoU
  have hsm := h.small
  have H : Hid (Il w p n c (ni P)) := h
  have HL : Hid ((nm P).length = n) := by have := h.len; rw [ni_length] at this; exact this
  have HOk : Hid (Okp P) := hP
  have H0 : Hid (Pp w ((w.alloc (.cells #[] 3)).alloc (.cells #[] 40)) (some ⟨w.heap.size, 0, none⟩) 0 0 (some ⟨w.heap.size + 1, 0, none⟩) 0 (((nm P).take 0).foldl gp [])) := by
    have e := World.ownsRow_made (e := 40) (size := 1) (w.alloc (.cells #[] 3)) #[] 0 (Nat.le_refl _) (Nat.zero_le _) (by simp)
    rw [size_alloc] at e
    exact ⟨(own_begun w).kept ((Kept.refl _).alloc _), Own.mono (B := w.heap.size + 1) ⟨e⟩ (by omega), ((Kept.refl w).alloc _).alloc _⟩
  clear h hP
  go_enter Try.func8, Try.ntmps8
  go_wp2
  go_loopg [3, 4, 5] n (fun gg s3 s4 s5 wr => ∃ (i : Nat) (p3 : Option Addr) (m c3 : Nat) (p4 : Option Addr) (c4 : Nat), s3 = .slice p3 m c3 ∧ s4 = .slice p4 m c4 ∧ s5 = .int .i64 (i : Nat) ∧ i ≤ n ∧ n - i ≤ gg ∧ m ≤ i ∧ Hid (Pp w wr p3 m c3 p4 c4 (((nm P).take i).foldl gp [])))
  case atStart => exact ⟨0, some ⟨w.heap.size, 0, none⟩, 0, 0, some ⟨w.heap.size + 1, 0, none⟩, 0, rfl, rfl, rfl, Nat.zero_le _, by omega, Nat.le_refl _, H0⟩
  case round =>
    obtain ⟨i, p3, m, c3, p4, c4, rfl, rfl, rfl, hi, hg, hmi, HP⟩ := hrel
    clear H0
    have hc3 := HP.out.a.rw.small
    have hc4 := HP.out.b.rw.small
    by_cases hlt : i < n
    · obtain ⟨y, hy⟩ : ∃ y, (nm P)[i]? = some y := ⟨_, List.getElem?_eq_getElem (by rw [HL.out]; omega)⟩
      have hniy : (ni P)[i]? = some (y : Int) := by unfold ni; rw [List.getElem?_map, hy]; rfl
      obtain ⟨b, o, rfl, c00⟩ := H.out.at hniy
      have c0 := HP.out.k.cell c00
      have hy20 : y < 1048576 := nm_lt HOk.out (List.mem_of_getElem? hy)
      have HT : Hid (((nm P).take (i + 1)).foldl gp [] = gp (((nm P).take i).foldl gp []) y) := gp_take hy
      have HB : Hid (Wb (gp (((nm P).take i).foldl gp []) y)) := by have := gp_bound HOk.out (i + 1); rw [HT.out] at this; exact this
      have HWb : Hid (Wb (((nm P).take i).foldl gp [])) := gp_bound HOk.out i
      clear hy hniy
      generalize ((nm P).take i).foldl gp [] = G at *
      obtain ⟨k, hk⟩ : ∃ k, k = y / 64 := ⟨_, rfl⟩
      obtain ⟨r, hr⟩ : ∃ r, r = y % 64 := ⟨_, rfl⟩
      have q1 : (y : Int) / 64 = (k : Int) := by omega
      have q2 : (y : Int) % 64 = (r : Int) := by omega
      have q3 : (y : Int).tdiv 64 = (k : Int) := by rw [Int.tdiv_eq_ediv_of_nonneg (by omega)]; omega
      have q4 : (y : Int).tmod 64 = (r : Int) := by rw [Int.tmod_eq_emod_of_nonneg (by omega)]; omega
      have hr64 : r < 64 := by omega
      have hk14 : k < 16384 := by omega
      have hpw := pw_wrap r hr64
      have hpl := pw_lt r hr64
      obtain ⟨pw, hpq⟩ : ∃ pw, pw = 2 ^ r := ⟨_, rfl⟩
      rw [← hpq] at hpw hpl
      have HPW : Hid (pw = 2 ^ r) := hpq
      have HKq : Hid (k = y / 64) := hk
      have HRq : Hid (r = y % 64) := hr
      clear hpq hk hr
      rcases List.eq_nil_or_concat G with hG | ⟨G', ax, hG⟩
      rotate_left
      rw [List.concat_eq_append] at hG
      rotate_left
      · subst hG
        obtain rfl : m = 0 := by have := HP.out.len; simpa using this.symm
        go_wp2
        go_quiet (fail)
        obtain ⟨W5, hW5⟩ : ∃ W5, wr.drewN nq = W5 := ⟨_, rfl⟩
        rw [hW5]
        have k5 : Kept wr W5 := by rw [← hW5]; exact (Kept.refl wr).drewN nq
        clear hW5
        have c05 := k5.cell c0
        have HP5 : Hid (Pp w W5 p3 0 c3 p4 c4 []) := HP.out.kept k5
        have ka : Kept W5 (W5.alloc (.cells #[.int .i64 (k : Nat)] 3)) := (Kept.refl W5).alloc _
        have OA := HP5.out.a.kept ka
        have hz4 := int_cells W5 (k : Nat) 3
        have hBE : w.heap.size ≤ (W5.alloc (.cells #[.int .i64 (k : Nat)] 3)).heap.size := (HP5.out.k.trans ka).size
        clear HP
        go_wp2_with (first | (at_builtin; refine wpList_append_own _ rfl _ _ 22 rfl w.heap.size 3 i0 _ 1 8 Try.underlying22 hi0 hz0 hz1 hz2 rfl (by decide) (.slice p3 0 c3) 0 (ic (fs ([]))) rfl OA.out ⟨W5.heap.size, 0, none⟩ 1 1 [.int .i64 (k : Nat)] rfl rfl hz4 (int_one (k : Nat)) (by unfold maxLen; omega) (by omega) hBE ?_; intro v' w2 o2 g2 _; obtain ⟨q3, d3, rfl⟩ := shape_of o2; obtain ⟨ob2, k2⟩ := HP5.out.moreA g2; have HO2 : Hid (w2.ownsRow w.heap.size 3 1 (.slice q3 (0 + 1) d3) (0 + 1) (ic (fs ([])) ++ [.int .i64 (k : Nat)]) ∧ Own w2 w.heap.size 40 1 p4 0 c4 (uc (sd ([]))) ∧ Kept w w2) := ⟨o2, ob2, k2⟩; have OB := ob2.kept ((Kept.refl w2).alloc (.cells #[.int .u64 0] 40)); have hu4 := u_cells w2 40; have hBE2 : w.heap.size ≤ (w2.alloc (.cells #[.int .u64 0] 40)).heap.size := (k2.alloc _).size; have hd3 : d3 ≤ 9223372036854775807 := Own.small' ⟨o2⟩; clear OA hz4 hBE o2 g2 ob2 k2) | (at_builtin; refine wpList_append_own _ rfl _ _ 52 rfl w.heap.size 40 j0 _ 1 8 Try.underlying52 hj0 hy0 hy1 hy2 rfl (by decide) (.slice p4 0 c4) 0 (uc (sd ([]))) rfl OB.out ⟨w2.heap.size, 0, none⟩ 1 1 [.int .u64 0] rfl rfl hu4 u_one (by unfold maxLen; omega) (by omega) hBE2 ?_; intro v' w4 o4 g4 _; obtain ⟨q4, d4, rfl⟩ := shape_of o4; have HP4 : Hid (Pp w w4 q3 (0 + 1) d3 q4 d4 ([] ++ [(k, 0)])) := Pp.moreB HO2.out.2.2 HO2.out.1 HO2.out.2.1 o4 g4; have c04 : w4.cell? ⟨b, o + i, none⟩ = some (.int .i64 (y : Nat)) := HP4.out.k.cell c00; clear OB hu4 hBE2 o4 g4 HO2))
        obtain ⟨⟨g3, hq3⟩, g4, hq4⟩ := HP4.out.ptr (by omega)
        subst hq3 hq4
        have HPz : Hid (Pp w w4 (some ⟨g3, 0, none⟩) (0 + 1) d3 (some ⟨g4, 0, none⟩) d4 ([] ++ [(k, 0)])) := HP4.out
        clear HP4
        obtain ⟨e1, e3, e4, e5⟩ := HPz.out.cells
        have HP6 : Hid (Pp w (w4.setCell ⟨g4, 0, none⟩ (.int .u64 (pw : Nat))).drew (some ⟨g3, 0, none⟩) (0 + 1) d3 (some ⟨g4, 0, none⟩) d4 (((nm P).take (i + 1)).foldl gp [])) := by
          have h7 := (HPz.out.put pw).kept (Kept.refl _).drew
          rw [HT.out]
          rw [gp_nil, ← HKq.out, ← HRq.out, ← HPW.out]
          exact h7
        (try simp only [show ((0 : Nat) : Int) = 0 from rfl] at e4)
        have hpp : IntKind.u64.wrap (pw : Int) = (pw : Int) := by rw [IntKind.wrap_u64]; omega
        clear e1 e3 HPz
        go_region
        all_goals (try (go_wp2_with fail))
        go_roundg (n - (i + 1))
        case measure => omega
        case rel => exact ⟨i + 1, some ⟨g3, 0, none⟩, 0 + 1, d3, some ⟨g4, 0, none⟩, d4, rfl, rfl, by go_num, by omega, Nat.le_refl _, by omega, HP6⟩
      · obtain ⟨a, x⟩ := ax
        subst hG
        obtain ⟨j, rfl⟩ : ∃ j, m = j + 1 := ⟨G'.length, by have := HP.out.len; simpa using this.symm⟩
        obtain ⟨⟨g3, rfl⟩, g4, rfl⟩ := HP.out.ptr (by omega)
        have hax := HWb.out.out (a, x) (by simp)
        obtain ⟨ha14, hx64⟩ := hax
        simp only at ha14 hx64
        obtain ⟨e1, e3, e4, e5⟩ := HP.out.cells
        clear e1 e4 e5
        have hj1 : ((j : Int) + 1 == 0) = false := by simp; omega
        have hjw : IntKind.i64.wrap (j : Int) = (j : Int) := by rw [IntKind.wrap_i64]; omega
        by_cases hak : a = k
        · have hak2 : ((a : Int) == (k : Int)) = true := by simp; omega
          have hak3 : ((a : Int) != (k : Int)) = false := by simp; omega
          have HAk : Hid (a = k) := hak
          clear hak
          go_wp2
          go_quiet (fail)
          obtain ⟨W5, hW5⟩ : ∃ W5, wr.drewN nq = W5 := ⟨_, rfl⟩
          rw [hW5]
          have k5 : Kept wr W5 := by rw [← hW5]; exact (Kept.refl wr).drewN nq
          clear hW5
          have c05 := k5.cell c0
          have HPz : Hid (Pp w W5 (some ⟨g3, 0, none⟩) (j + 1) c3 (some ⟨g4, 0, none⟩) c4 (G' ++ [(a, x)])) := HP.out.kept k5
          clear HP e3
          go_wp2
          obtain ⟨e1, e3, e4, e5⟩ := HPz.out.cells
          obtain ⟨xo, hxo⟩ : ∃ xo, xo = x + pw := ⟨_, rfl⟩
          have HP6 : Hid (Pp w (W5.setCell ⟨g4, j, none⟩ (.int .u64 (xo : Nat))).drew (some ⟨g3, 0, none⟩) (j + 1) c3 (some ⟨g4, 0, none⟩) c4 (((nm P).take (i + 1)).foldl gp [])) := by
            have h7 := (HPz.out.put xo).kept (Kept.refl _).drew
            rw [HT.out]
            rw [gp_same (HAk.out.trans HKq.out), ← HRq.out, ← HPW.out, ← hxo]
            exact h7
          have hxl : xo < 18446744073709551616 := by
            have := HB.out.out (a, xo) (by rw [gp_same (HAk.out.trans HKq.out), ← HRq.out, ← HPW.out, ← hxo]; simp)
            exact this.2
          have hsum : IntKind.u64.wrap ((x : Int) + (pw : Int)) = (xo : Int) := by rw [IntKind.wrap_u64, hxo]; push_cast; omega
          clear hxo
          (try simp only [show ((0 : Nat) : Int) = 0 from rfl] at e4)
          have hpp : IntKind.u64.wrap (pw : Int) = (pw : Int) := by rw [IntKind.wrap_u64]; omega
          clear e1 e3 HPz
          go_region
          all_goals (try (go_wp2_with fail))
          go_roundg (n - (i + 1))
          case measure => omega
          case rel => exact ⟨i + 1, some ⟨g3, 0, none⟩, j + 1, c3, some ⟨g4, 0, none⟩, c4, rfl, rfl, by go_num, by omega, Nat.le_refl _, by omega, HP6⟩
        · have hak2 : ((a : Int) == (k : Int)) = false := by simp; omega
          have hak3 : ((a : Int) != (k : Int)) = true := by simp; omega
          have hak4 : ¬ ((a : Int) = (k : Int)) := by omega
          go_wp2
          go_quiet (fail)
          obtain ⟨W5, hW5⟩ : ∃ W5, wr.drewN nq = W5 := ⟨_, rfl⟩
          rw [hW5]
          have k5 : Kept wr W5 := by rw [← hW5]; exact (Kept.refl wr).drewN nq
          clear hW5
          have c05 := k5.cell c0
          have HP5 : Hid (Pp w W5 (some ⟨g3, 0, none⟩) (j + 1) c3 (some ⟨g4, 0, none⟩) c4 (G' ++ [(a, x)])) := HP.out.kept k5
          have ka : Kept W5 (W5.alloc (.cells #[.int .i64 (k : Nat)] 3)) := (Kept.refl W5).alloc _
          have OA := HP5.out.a.kept ka
          have hz4 := int_cells W5 (k : Nat) 3
          have hBE : w.heap.size ≤ (W5.alloc (.cells #[.int .i64 (k : Nat)] 3)).heap.size := (HP5.out.k.trans ka).size
          clear HP e3
          go_wp2_with (first | (at_builtin; refine wpList_append_own _ rfl _ _ 22 rfl w.heap.size 3 i0 _ 1 8 Try.underlying22 hi0 hz0 hz1 hz2 rfl (by decide) (.slice (some ⟨g3, 0, none⟩) (j + 1) c3) (j + 1) (ic (fs (G' ++ [(a, x)]))) rfl OA.out ⟨W5.heap.size, 0, none⟩ 1 1 [.int .i64 (k : Nat)] rfl rfl hz4 (int_one (k : Nat)) (by unfold maxLen; omega) (by omega) hBE ?_; intro v' w2 o2 g2 _; obtain ⟨q3, d3, rfl⟩ := shape_of o2; obtain ⟨ob2, k2⟩ := HP5.out.moreA g2; have HO2 : Hid (w2.ownsRow w.heap.size 3 1 (.slice q3 ((j + 1) + 1) d3) ((j + 1) + 1) (ic (fs (G' ++ [(a, x)])) ++ [.int .i64 (k : Nat)]) ∧ Own w2 w.heap.size 40 1 (some ⟨g4, 0, none⟩) (j + 1) c4 (uc (sd (G' ++ [(a, x)]))) ∧ Kept w w2) := ⟨o2, ob2, k2⟩; have OB := ob2.kept ((Kept.refl w2).alloc (.cells #[.int .u64 0] 40)); have hu4 := u_cells w2 40; have hBE2 : w.heap.size ≤ (w2.alloc (.cells #[.int .u64 0] 40)).heap.size := (k2.alloc _).size; have hd3 : d3 ≤ 9223372036854775807 := Own.small' ⟨o2⟩; clear OA hz4 hBE o2 g2 ob2 k2) | (at_builtin; refine wpList_append_own _ rfl _ _ 52 rfl w.heap.size 40 j0 _ 1 8 Try.underlying52 hj0 hy0 hy1 hy2 rfl (by decide) (.slice (some ⟨g4, 0, none⟩) (j + 1) c4) (j + 1) (uc (sd (G' ++ [(a, x)]))) rfl OB.out ⟨w2.heap.size, 0, none⟩ 1 1 [.int .u64 0] rfl rfl hu4 u_one (by unfold maxLen; omega) (by omega) hBE2 ?_; intro v' w4 o4 g4 _; obtain ⟨q4, d4, rfl⟩ := shape_of o4; have HP4 : Hid (Pp w w4 q3 ((j + 1) + 1) d3 q4 d4 (G' ++ [(a, x)] ++ [(k, 0)])) := Pp.moreB HO2.out.2.2 HO2.out.1 HO2.out.2.1 o4 g4; have c04 : w4.cell? ⟨b, o + i, none⟩ = some (.int .i64 (y : Nat)) := HP4.out.k.cell c00; clear OB hu4 hBE2 o4 g4 HO2))
          obtain ⟨⟨h3, hq3⟩, h4, hq4⟩ := HP4.out.ptr (by omega)
          subst hq3 hq4
          have HPz : Hid (Pp w w4 (some ⟨h3, 0, none⟩) ((j + 1) + 1) d3 (some ⟨h4, 0, none⟩) d4 ((G' ++ [(a, x)]) ++ [(k, 0)])) := HP4.out
          clear HP4
          obtain ⟨e1, e3, e4, e5⟩ := HPz.out.cells
          have HP6 : Hid (Pp w (w4.setCell ⟨h4, (j + 1), none⟩ (.int .u64 (pw : Nat))).drew (some ⟨h3, 0, none⟩) ((j + 1) + 1) d3 (some ⟨h4, 0, none⟩) d4 (((nm P).take (i + 1)).foldl gp [])) := by
            have h7 := (HPz.out.put pw).kept (Kept.refl _).drew
            rw [HT.out]
            rw [gp_other (by rw [← HKq.out]; exact hak), ← HKq.out, ← HRq.out, ← HPW.out]
            exact h7
          (try simp only [show ((0 : Nat) : Int) = 0 from rfl] at e4)
          have hpp : IntKind.u64.wrap (pw : Int) = (pw : Int) := by rw [IntKind.wrap_u64]; omega
          clear e1 e3 HPz
          go_region
          all_goals (try (go_wp2_with fail))
          go_roundg (n - (i + 1))
          case measure => omega
          case rel => exact ⟨i + 1, some ⟨h3, 0, none⟩, (j + 1) + 1, d3, some ⟨h4, 0, none⟩, d4, rfl, rfl, by go_num, by omega, Nat.le_refl _, by omega, HP6⟩
    · obtain rfl : i = n := by omega
      have hT : ((nm P).take i).foldl gp [] = P := by rw [List.take_of_length_le (by rw [HL.out]; exact Nat.le_refl _), gp_parts HOk.out]
      rw [hT] at HP
      have HM : Hid (P.length = m) := HP.out.len
      have hpl := prt_len 0 P HOk.out
      rw [HM.out] at hpl
      have HPl : Hid ((prt 0 P).length ≤ m * 18) := hpl
      have fN0 := fun W => N.refnum_walk m (by omega) W
      have hs := bs_size
      have h10 := numL_ten m (by omega)
      have HKw : Hid (Kept w wr) := HP.out.k
      clear hT hpl
      go_wp2_with (go_at_call 22; (with_reducible refine (fN0 _).mono ?_); clear fN0; rintro e w9 ⟨rfl, k9'⟩; have k9 : Kept wr w9 := ⟨k9'.out⟩; have HP9 : Hid (Pp w w9 p3 m c3 p4 c4 P) := HP.out.kept k9; clear k9')
      clear HP
      have H00 : Hid (numL m ++ prt 0 (P.drop 0) = putL P ∧ 0 = nxt P 0 ∧ Kept w9 w9) := ⟨by unfold putL; rw [HM.out]; rfl, rfl, Kept.refl _⟩
      go_loopg [6, 7, 8] m (fun gg s6 s7 s8 wq => ∃ (i2 nx : Nat) (l : List Nat), s6 = .string (bs l) ∧ s7 = .int .i64 (nx : Nat) ∧ s8 = .int .i64 (i2 : Nat) ∧ i2 ≤ m ∧ m - i2 ≤ gg ∧ Hid (l ++ prt nx (P.drop i2) = putL P ∧ nx = nxt P i2 ∧ Kept w9 wq))
      case atStart => exact ⟨0, 0, numL m, rfl, rfl, rfl, Nat.zero_le _, by omega, H00⟩
      case round =>
        obtain ⟨i2, nx, l, rfl, rfl, rfl, hi2, hg2, HI⟩ := hrel
        clear H00
        by_cases hlt2 : i2 < m
        · obtain ⟨x, hx⟩ : ∃ x, P[i2]? = some x := ⟨_, List.getElem?_eq_getElem (by rw [HM.out]; omega)⟩
          have hok := HOk.out.may x (List.mem_of_getElem? hx)
          have hnx : nx ≤ x.1 := by rw [HI.out.2.1]; exact nxt_le HOk.out hx
          have HE : Hid (l ++ (numL (x.1 - nx) ++ (fixL x.2 8 ++ prt (x.1 + 1) (P.drop (i2 + 1)))) = putL P ∧ x.1 + 1 = nxt P (i2 + 1)) := by
            have e := HI.out.1
            rw [HI.out.2.1, prt_drop hx, ← HI.out.2.1] at e
            have e2 : nxt P (i2 + 1) = x.1 + 1 := by simp only [nxt, hx]
            rw [e2] at e
            exact ⟨e, e2.symm⟩
          have hll : l.length ≤ 4000 := by
            have e := congrArg List.length HE.out.1
            have e2 := HPl.out
            unfold putL at e
            rw [HM.out] at e
            simp only [List.length_append] at e
            omega
          obtain ⟨x1, x2⟩ := x
          simp only at hok hnx HE
          obtain ⟨hx1, hx20, hx2⟩ := hok
          obtain ⟨⟨g3, rfl⟩, g4, rfl⟩ := HP9.out.ptr (by omega)
          have HC : Hid (∀ W, Kept wr W → W.cell? ⟨g3, i2, none⟩ = some (.int .i64 (x1 : Nat)) ∧ W.cell? ⟨g4, i2, none⟩ = some (.int .u64 (x2 : Nat))) := fun W kW => by
            have kk := HI.out.2.2.trans kW
            have e3 : (ic (fs P))[i2]? = some (.int .i64 (x1 : Nat)) := by simp [ic, fs, hx]
            have e4 : (uc (sd P))[i2]? = some (.int .u64 (x2 : Nat)) := by simp [uc, sd, hx]
            constructor
            · rcases HP9.out.a.rw.out with e | ⟨b, o, e, f⟩
              · exact absurd e (by omega)
              · cases e; have := f _ _ e3; rw [Nat.zero_add] at this; exact kk.cell this
            · rcases HP9.out.b.rw.out with e | ⟨b, o, e, f⟩
              · exact absurd e (by omega)
              · cases e; have := f _ _ e4; rw [Nat.zero_add] at this; exact kk.cell this
          obtain ⟨y3, y4⟩ := HC.out wr (Kept.refl wr)
          obtain ⟨y3d, y4d⟩ := HC.out wr.drew (Kept.refl wr).drew
          obtain ⟨dd, hdd⟩ : ∃ dd, dd = x1 - nx := ⟨_, rfl⟩
          have hd14 : dd < 16384 := by omega
          have ed : (x1 : Int) - (nx : Int) = (dd : Int) := by omega
          rw [← hdd] at HE
          have wd1 : IntKind.i64.wrap (dd : Int) = (dd : Int) := by rw [IntKind.wrap_i64]; omega
          have wd2 : IntKind.u64.wrap (dd : Int) = (dd : Int) := by rw [IntKind.wrap_u64]; omega
          have fN := N.refnum_walk dd (by omega) wr.drew
          have HFx : Hid (∀ W, Calls Try.prog 23 #[.int .u64 (x2 : Nat), .int .i64 8] W fun e w' => e = .returned (.string (bs (fixL x2 8))) ∧ N.Kept W w') := fun W => N.reffixed_walk x2 hx2 8 (by omega) W
          have hl10 := numL_ten dd (by omega)
          have hl8 := fixL_length 8 x2
          have cat1 := bs_append (numL dd) (fixL x2 8)
          have cat2 := bs_append l (numL dd ++ fixL x2 8)
          have HKq : Hid (Kept w9 wr) := HI.out.2.2
          clear hx HI hdd hnx
          go_wp2
          go_region_with (first
            | (go_at_call 22; (with_reducible refine fN.mono ?_); clear fN; rintro e w5 ⟨rfl, k5'⟩; have k5 : Kept wr w5 := (Kept.refl wr).drew.trans ⟨k5'.out⟩; obtain ⟨y35, y45⟩ := HC.out w5 k5; have fF := HFx.out w5; clear k5')
            | (go_at_call 23; (with_reducible refine fF.mono ?_); clear fF; rintro e w6 ⟨rfl, k6'⟩; have k6 : Kept wr w6 := k5.trans ⟨k6'.out⟩; obtain ⟨y36, y46⟩ := HC.out w6 k6; clear k6'))
          all_goals go_wp2
          all_goals go_roundg (m - (i2 + 1))
          all_goals (first | (case measure => omega) | skip)
          all_goals (first | omega | exact ⟨i2 + 1, x1 + 1, l ++ (numL dd ++ fixL x2 8), rfl, by go_num, by go_num, by omega, Nat.le_refl _, ⟨by rw [List.append_assoc, List.append_assoc]; exact HE.out.1, HE.out.2, HKq.out.trans k6⟩⟩)
        · obtain rfl : i2 = m := by omega
          have he : l = putL P := by
            have := HI.out.1
            rwa [List.drop_of_length_le (by rw [HM.out]; exact Nat.le_refl _), show prt nx [] = [] by cases nx <;> rfl, List.append_nil] at this
          have HEq : Hid (l = putL P) := he
          have hk := (HKw.out.trans k9).trans HI.out.2.2
          clear HI he
          go_wp2
          go_ret
          exact ⟨by rw [← HEq.out]; rfl, hk⟩
end Go.Proofs.Ytanccfbbaeocaaa.Bt
