/- The iterator over the parts of two sets beside one another. Conditions: those that each row names. -/
import Derived.Deep.RegionHeld3
import Derived.Deep.RegionWith
import Derived.Deep.DrawnRows
import Derived.Test.YtanccfbbaeocaaaLD
namespace Go.Proofs.Ytanccfbbaeocaaa.Bt
open Go.RowKit Go.Shelf
attribute [local go_sem] Oper.semAt_some
set_option maxRecDepth 100000 in
set_option maxHeartbeats 4000000 in
theorem beside_in (n : Nat) {w₀ : World} {ps : Option Addr} {ns cs : Nat} {P : List Pt} {pt : Option Addr} {nt ct : Nat} {Q : List Pt} (hs : St w₀ ps ns cs P) (ht : St w₀ pt nt ct Q) (n1 b0 bs bt l' : Nat) (J Jx : List Pr → World → Prop)
    (W : World) (hB : Bi w₀ n1 b0 bs bt (.slice ps ns cs) (.slice pt nt ct) W) (hJ : Hid (AbidesFrom W.heap.size J))
    (hY : Hid (∀ pre x W, Sm x → J pre W → pre.length < (bes P Q).length → YieldAt Fence.wide (n - 1) Try.prog l' (enp x) W fun e W' =>
      (e = .returned (.bool true) ∧ J (pre ++ [x]) W' ∧ Kb w₀.heap.size n1 b0 W W') ∨ (e = .returned (.bool false) ∧ Jx (pre ++ [x]) W'))) (h0 : J [] W) :
    CallsIn Fence.wide n Try.prog 58 #[.func (.yield l') #[] #[], .pointer (some ⟨bs, 0, none⟩), .pointer (some ⟨bt, 0, none⟩)] W fun e W' => (∃ v, e = .returned v) ∧
      ((∃ ys, ys = bes P Q ∧ J ys W') ∨ (∃ pre, pre <+: bes P Q ∧ Jx pre W')) := by
  have hdd : ∀ k : Nat, (Fence.wide.depth.isSome = true → 1 ≤ k) := fun k h => by cases h
  have HS : Hid (St w₀ ps ns cs P) := hs
  have HT : Hid (St w₀ pt nt ct Q) := ht
  have fs := hs.few
  have ft := ht.few
  have HL : Hid (P.length = ns ∧ Q.length = nt) := ⟨hs.len, ht.len⟩
  have H0 : Hid (J [] W ∧ Bi w₀ n1 b0 bs bt (.slice ps ns cs) (.slice pt nt ct) W ∧ [] ++ bes (P.drop 0) (Q.drop 0) = bes P Q) := ⟨h0, hB, by simp⟩
  clear hs ht hB h0
  refine callsIn_wide.2 ?_
  go_enter Try.func58, Try.ntmps58
  go_wp2
  go_loopg [4, 5] (ns + nt) (fun g iv jv wr => ∃ (i j : Nat) (pre : List Pr), iv = .int .i64 (i : Nat) ∧ jv = .int .i64 (j : Nat) ∧ i ≤ ns ∧ j ≤ nt ∧ (ns - i) + (nt - j) ≤ g ∧ Hid (J pre wr ∧ Bi w₀ n1 b0 bs bt (.slice ps ns cs) (.slice pt nt ct) wr ∧ pre ++ bes (P.drop i) (Q.drop j) = bes P Q))
  case atStart => exact ⟨0, 0, [], rfl, rfl, Nat.zero_le _, Nat.zero_le _, by omega, H0⟩
  case round =>
    obtain ⟨i, j, pre, rfl, rfl, hi, hj, hg, H⟩ := hrel
    clear H0
    have cs0 : wr.cell? ⟨bs, 0, none⟩ = some (.slice ps ns cs) := by rw [cell_of_row _ bs 0 _ _ _ H.out.2.1.s]; rfl
    have ct0 : wr.cell? ⟨bt, 0, none⟩ = some (.slice pt nt ct) := by rw [cell_of_row _ bt 0 _ _ _ H.out.2.1.t]; rfl
    by_cases hend : i = ns ∧ j = nt
    · obtain ⟨rfl, rfl⟩ := hend
      have he : pre = bes P Q := by
        have := H.out.2.2
        rwa [List.drop_of_length_le (by have := HL.out.1; omega), List.drop_of_length_le (by have := HL.out.2; omega), bes_nil, List.append_nil] at this
      have hj1 := H.out.1
      clear H
      go_wp2
      go_end0
      exact ⟨⟨_, rfl⟩, .inl ⟨pre, he, hj1⟩⟩
    · have hne : (P.drop i).length + (Q.drop j).length ≠ 0 := by rw [List.length_drop, List.length_drop, HL.out.1, HL.out.2]; omega
      have okP := HS.out.ok.drop i
      have okQ := HT.out.ok.drop j
      obtain ⟨a, ha⟩ : ∃ a, a = pl (P.drop i) := ⟨_, rfl⟩
      obtain ⟨b, hb⟩ : ∃ b, b = pl (Q.drop j) := ⟨_, rfl⟩
      have la : a ≤ 16384 := by rw [ha]; exact pl_le okP
      have lb : b ≤ 16384 := by rw [hb]; exact pl_le okQ
      obtain ⟨k, hk⟩ : ∃ k, k = min a b := ⟨_, rfl⟩
      have HB0 : Hid (bes (P.drop i) (Q.drop j) = (k, fw (P.drop i) k, fw (Q.drop j) k) :: bes (tl (P.drop i) k) (tl (Q.drop j) k)) := bes_step okP okQ hne (by rw [← ha, ← hb, hk])
      have hmin : min (a : Int) (b : Int) = (k : Int) := by rw [hk]; omega
      have HP : Hid (∀ W, Kept wr W → Calls Try.prog 59 #[.agg #[.slice ps ns cs], .int .i64 (i : Nat)] W fun e w' => e = .returned (.int .i64 (a : Nat)) ∧ w' = W.alloc (.cells #[.slice ps ns cs] 25)) := fun W kW => by rw [ha]; exact place_walk ((HS.out.kept H.out.2.1.kept).kept kW) i hi
      have HQ : Hid (∀ W, Kept wr W → Calls Try.prog 59 #[.agg #[.slice pt nt ct], .int .i64 (j : Nat)] W fun e w' => e = .returned (.int .i64 (b : Nat)) ∧ w' = W.alloc (.cells #[.slice pt nt ct] 25)) := fun W kW => by rw [hb]; exact place_walk ((HT.out.kept H.out.2.1.kept).kept kW) j hj
      have HPk : Hid (∀ W, Kept wr W → Calls Try.prog 59 #[.agg #[.slice ps ns cs], .int .i64 (i : Nat)] W fun e w' => e = .returned (.int .i64 (a : Nat)) ∧ Kept W w') := fun W kW => by rw [ha]; exact (place_walk ((HS.out.kept H.out.2.1.kept).kept kW) i hi).mono fun e w' ⟨h1, h2⟩ => ⟨h1, h2 ▸ (Kept.refl W).alloc _⟩
      have HQk : Hid (∀ W, Kept wr W → Calls Try.prog 59 #[.agg #[.slice pt nt ct], .int .i64 (j : Nat)] W fun e w' => e = .returned (.int .i64 (b : Nat)) ∧ Kept W w') := fun W kW => by rw [hb]; exact (place_walk ((HT.out.kept H.out.2.1.kept).kept kW) j hj).mono fun e w' ⟨h1, h2⟩ => ⟨h1, h2 ▸ (Kept.refl W).alloc _⟩
      rcases Nat.lt_trichotomy a b with hab | hab | hab
      · have hin : i < ns := by rcases Nat.lt_or_ge i ns with h | h; exact h; rw [List.drop_of_length_le (by have := HL.out.1; omega)] at ha; have : a = 16384 := ha; omega
        obtain ⟨x, hx⟩ : ∃ x, P[i]? = some x := ⟨_, List.getElem?_eq_getElem (by rw [HL.out.1]; omega)⟩
        obtain ⟨sb, so, rfl, _, xw0⟩ := HS.out.at hx
        have xw := H.out.2.1.kept.cell xw0
        have ex := drop_at hx
        have eax : x.1 = a := by rw [ha, ex]; rfl
        have hka : k = a := by omega
        have hb2 : fw (Q.drop j) k = 0 ∧ tl (Q.drop j) k = Q.drop j := off_no hb (by omega)
        have ha2 : fw (P.drop i) k = x.2 ∧ tl (P.drop i) k = P.drop (i + 1) := off_yes ex (by omega)
        have HE : Hid (pre ++ ([(k, x.2, 0)] ++ bes (P.drop (i + 1)) (Q.drop (j))) = bes P Q) := by
          have := H.out.2.2
          rw [HB0.out] at this
          rw [ha2.1, ha2.2, hb2.1, hb2.2] at this
          exact this
        have HPre : Hid (pre ++ [(k, x.2, 0)] <+: bes P Q) := ⟨bes (P.drop (i + 1)) (Q.drop (j)), by rw [← HE.out, List.append_assoc]⟩
        have n1' : ¬ b = k := by omega
        have q1' : ((a : Int) == (k : Int)) = true := by simp; omega
        have q2' : ((b : Int) == (k : Int)) = false := by simp; omega
        have hil : (i : Int) < (ns : Int) := by omega
        have kA : a = k := hka.symm
        clear hka ha2 hb2 hx ex eax xw0 ha hb hk hne okP okQ HB0 hend
        have HSA : Hid (∀ W, Kept wr W → W.cell? ⟨bs, 0, none⟩ = some (.slice (some ⟨sb, so, none⟩) ns cs) ∧ W.cell? ⟨bt, 0, none⟩ = some (.slice pt nt ct)) := fun W h => ⟨h.cell cs0, h.cell ct0⟩
        go_upto_region 2 with fail
        go_cut [6] from 7 to 60 (fun pv wx => ∃ bp, pv = .pointer (some ⟨bp, 0, none⟩) ∧ wx.heap[bp]? = some (.cells #[.int .i64 (k : Nat), .int .u64 0, .int .u64 0] 80) ∧ wr.heap.size ≤ bp ∧ Kept wr wx)
        case first =>
          have kr : Kept wr wr := Kept.refl wr
          go_region_held3 (fun W => W.cell? ⟨bs, 0, none⟩ = some (.slice (some ⟨sb, so, none⟩) ns cs) ∧ W.cell? ⟨bt, 0, none⟩ = some (.slice pt nt ct)) (exact HSA.out _ (by (repeat (first | (refine Kept.setCell ?_ (Kept.size ?_) _) | assumption | exact Kept.refl _ | apply Kept.drew | apply Kept.alloc | exact Kept.new (by assumption) _)))) (first | (go_at_call 59; (with_reducible refine (HP.out _ ?_).mono ?_); (repeat (first | (refine Kept.setCell ?_ (Kept.size ?_) _) | assumption | exact Kept.refl _ | apply Kept.drew | apply Kept.alloc | exact Kept.new (by assumption) _)); rintro e w' ⟨rfl, rfl⟩) | (go_at_call 59; (with_reducible refine (HQ.out _ ?_).mono ?_); (repeat (first | (refine Kept.setCell ?_ (Kept.size ?_) _) | assumption | exact Kept.refl _ | apply Kept.drew | apply Kept.alloc | exact Kept.new (by assumption) _)); rintro e w' ⟨rfl, rfl⟩))
          all_goals (try (go_wp2_with fail))
          all_goals (try go_meet)
          all_goals (first | exact ⟨_, rfl, at3a wr _ _ _, by omega, kept3 wr _ _ _⟩ | exact ⟨_, rfl, at3b wr _ _ _, by omega, kept3 wr _ _ _⟩ | exact ⟨_, rfl, at3c wr _ _ _, Nat.le_refl _, kept3 wr _ _ _⟩)
        case rest =>
          obtain ⟨bp, rfl, hp, hbp, kp⟩ := hcut
          rename World => w2
          have HSB : Hid (∀ W, Kept w2 W → W.cell? ⟨bs, 0, none⟩ = some (.slice (some ⟨sb, so, none⟩) ns cs) ∧ W.cell? ⟨bt, 0, none⟩ = some (.slice pt nt ct) ∧ W.cell? ⟨bp, 0, none⟩ = some (.int .i64 (k : Nat))) := fun W h => ⟨(kp.trans h).cell cs0, (kp.trans h).cell ct0, h.cell (cells3 hp).1⟩
          have HP2 : Hid (∀ W, Kept w2 W → Kept wr W ∧ W.heap[bp]? = _) := fun W h => ⟨kp.trans h, h.block hp⟩
          have HP3 : Hid (∀ W, Kept w2 W → Calls Try.prog 59 #[.agg #[.slice (some ⟨sb, so, none⟩) ns cs], .int .i64 (i : Nat)] W fun e w' => e = .returned (.int .i64 (a : Nat)) ∧ Kept w2 w') := fun W h => (HPk.out W (kp.trans h)).mono fun e w' ⟨h1, h2⟩ => ⟨h1, h.trans h2⟩
          have HQ3 : Hid (∀ W, Kept w2 W → Calls Try.prog 59 #[.agg #[.slice pt nt ct], .int .i64 (j : Nat)] W fun e w' => e = .returned (.int .i64 (b : Nat)) ∧ Kept w2 w') := fun W h => (HQk.out W (kp.trans h)).mono fun e w' ⟨h1, h2⟩ => ⟨h1, h.trans h2⟩
          clear kp hp
          go_upto_region 3 with fail
          go_cut [32] from 7 to 60 (fun v wx => v = .bool true ∧ Kept wr wx ∧ wx.heap[bp]? = some (.cells #[.int .i64 (k : Nat), .int .u64 0, .int .u64 0] 80))
          case first =>
            have kr : Kept w2 w2 := Kept.refl w2
            go_region_held3 (fun W => W.cell? ⟨bs, 0, none⟩ = some (.slice (some ⟨sb, so, none⟩) ns cs) ∧ W.cell? ⟨bt, 0, none⟩ = some (.slice pt nt ct) ∧ W.cell? ⟨bp, 0, none⟩ = some (.int .i64 (k : Nat))) (exact HSB.out _ (by (repeat (first | (refine Kept.setCell ?_ (Kept.size ?_) _) | assumption | exact Kept.refl _ | apply Kept.drew | apply Kept.alloc | exact Kept.new (by assumption) _)))) (first | (go_at_call 59; (with_reducible refine (HP3.out _ ?_).mono ?_); (repeat (first | (refine Kept.setCell ?_ (Kept.size ?_) _) | assumption | exact Kept.refl _ | apply Kept.drew | apply Kept.alloc | exact Kept.new (by assumption) _)); rintro e w' ⟨rfl, hk⟩) | (go_at_call 59; (with_reducible refine (HQ3.out _ ?_).mono ?_); (repeat (first | (refine Kept.setCell ?_ (Kept.size ?_) _) | assumption | exact Kept.refl _ | apply Kept.drew | apply Kept.alloc | exact Kept.new (by assumption) _)); rintro e w' ⟨rfl, hk⟩))
            all_goals (try (go_wp2_with fail))
            all_goals (try go_meet)
            all_goals (first | exact ⟨rfl, HP2.out _ (by assumption)⟩)
          case rest =>
            obtain ⟨rfl, kp3, hp3⟩ := hcut
            clear HSB HP2 HP3 HQ3
            rename World => w3
            obtain ⟨p0, p1, p2⟩ := cells3 hp3
            have z1 := frozen_of_row _ bp 1 _ _ hp3
            have s3 := kp3.cell cs0
            have t3 := kp3.cell ct0
            have x3 := kp3.cell xw
            have hp4 : (w3.setCell ⟨bp, 1, none⟩ (.int .u64 (x.2 : Nat))).heap[bp]? = some (.cells #[.int .i64 (k : Nat), .int .u64 (x.2 : Nat), .int .u64 0] 80) := by rw [heap_setCell_same _ bp 1 _ _ _ hp3]; rfl
            have kp4 : Kept wr (w3.setCell ⟨bp, 1, none⟩ (.int .u64 (x.2 : Nat))) := kp3.setCell hbp _
            have HSB : Hid (∀ W, Kept (w3.setCell ⟨bp, 1, none⟩ (.int .u64 (x.2 : Nat))) W → W.cell? ⟨bs, 0, none⟩ = some (.slice (some ⟨sb, so, none⟩) ns cs) ∧ W.cell? ⟨bt, 0, none⟩ = some (.slice pt nt ct) ∧ W.cell? ⟨bp, 0, none⟩ = some (.int .i64 (k : Nat))) := fun W h => ⟨(kp4.trans h).cell cs0, (kp4.trans h).cell ct0, h.cell (cells3 hp4).1⟩
            have HP2 : Hid (∀ W, Kept (w3.setCell ⟨bp, 1, none⟩ (.int .u64 (x.2 : Nat))) W → Kept wr W ∧ W.heap[bp]? = _) := fun W h => ⟨kp4.trans h, h.block hp4⟩
            have HQ3 : Hid (∀ W, Kept (w3.setCell ⟨bp, 1, none⟩ (.int .u64 (x.2 : Nat))) W → Calls Try.prog 59 #[.agg #[.slice pt nt ct], .int .i64 (j : Nat)] W fun e w' => e = .returned (.int .i64 (b : Nat)) ∧ Kept (w3.setCell ⟨bp, 1, none⟩ (.int .u64 (x.2 : Nat))) w') := fun W h => (HQk.out W (kp4.trans h)).mono fun e w' ⟨h1, h2⟩ => ⟨h1, h.trans h2⟩
            clear hp4 kp4
            go_upto_region 6 with fail
            go_cut [47] from 7 to 60 (fun v wx => v = .bool false ∧ Kept wr wx ∧ wx.heap[bp]? = some (.cells #[.int .i64 (k : Nat), .int .u64 (x.2 : Nat), .int .u64 0] 80))
            case first =>
              clear p0 p1 p2 z1 s3 t3 x3
              have kr : Kept (w3.setCell ⟨bp, 1, none⟩ (.int .u64 (x.2 : Nat))) (w3.setCell ⟨bp, 1, none⟩ (.int .u64 (x.2 : Nat))) := Kept.refl _
              go_region_held3 (fun W => W.cell? ⟨bs, 0, none⟩ = some (.slice (some ⟨sb, so, none⟩) ns cs) ∧ W.cell? ⟨bt, 0, none⟩ = some (.slice pt nt ct) ∧ W.cell? ⟨bp, 0, none⟩ = some (.int .i64 (k : Nat))) (exact HSB.out _ (by (repeat (first | (refine Kept.setCell ?_ (Kept.size ?_) _) | assumption | exact Kept.refl _ | apply Kept.drew | apply Kept.alloc | exact Kept.new (by assumption) _)))) ((go_at_call 59; (with_reducible refine (HQ3.out _ ?_).mono ?_); (repeat (first | (refine Kept.setCell ?_ (Kept.size ?_) _) | assumption | exact Kept.refl _ | apply Kept.drew | apply Kept.alloc | exact Kept.new (by assumption) _)); rintro e w' ⟨rfl, hk⟩))
              all_goals (try (go_wp2_with fail))
              all_goals (try go_meet)
              all_goals (first | exact ⟨rfl, HP2.out _ (by assumption)⟩)
            case rest =>
              obtain ⟨rfl, kp5, hp5⟩ := hcut
              clear p0 p1 p2 s3 t3 z1 hp3 kp3 HSB HP2 HQ3 x3
              rename World => w5
              obtain ⟨p0, p1, p2⟩ := cells3 hp5
              have z2 := frozen_of_row _ bp 2 _ _ hp5
              have t5 := kp5.cell ct0
              have hp6 := hp5
              have kp6 := kp5
              have hJ6 : J pre w5 := hJ.out pre wr _ none H.out.1 (kp6.grown none) (fun r e => by cases e)
              have hyy := yield_any n (hY.out pre (k, x.2, 0) _ (bes_small HS.out.ok HT.out.ok (by rw [← HE.out]; simp)) hJ6 (by have := congrArg List.length HE.out; rw [List.length_append] at this; simp at this; omega))
              obtain ⟨fn, tmps, assign, body, hy, hR⟩ := hyy
              dsimp only [enp] at hy
              (try simp only [show ((0 : Nat) : Int) = 0 from rfl] at hy)
              obtain ⟨g0, g1, g2⟩ := cells3 hp6
              have HB6 : Hid (Bi w₀ n1 b0 bs bt (.slice (some ⟨sb, so, none⟩) ns cs) (.slice pt nt ct) w5) := H.out.2.1.more kp6
              clear hJ6 kp6 hp6
              go_upto_region 9 with fail
              refine (wpIn_wide (n := n + 1)).1 ?_
              gi_wp2
              (try refine ⟨hdd _, ?_⟩)
              refine hR.mono ?_
              rintro e W3 (⟨rfl, hJ3, hk3⟩ | ⟨rfl, hJx3⟩)
              · gi_wp2
                go_wp2
                go_roundg ((ns - (i + 1)) + (nt - j))
                case measure => omega
                case rel => exact ⟨i + 1, j, pre ++ [(k, x.2, 0)], by go_num, by go_num, by omega, by omega, by omega, ⟨hJ3, HB6.out.kb hk3, by rw [List.append_assoc]; exact HE.out⟩⟩
              · gi_wp2
                go_wp2
                refine bodyPost_ret (results_none rfl _ _ _) rfl ?_
                exact ⟨⟨_, rfl⟩, .inr ⟨_, HPre.out, hJx3⟩⟩
      · have hin : i < ns := by rcases Nat.lt_or_ge i ns with h | h; exact h; have e1 : a = 16384 := (by rw [ha, List.drop_of_length_le (by have := HL.out.1; omega)]; rfl); rcases Nat.lt_or_ge j nt with h2 | h2; have e2 := pl_lt okQ (by rw [List.length_drop, HL.out.2]; omega); omega; exact absurd ⟨Nat.le_antisymm hi h, Nat.le_antisymm hj h2⟩ hend
        have hjn : j < nt := by rcases Nat.lt_or_ge j nt with h | h; exact h; have e1 : b = 16384 := (by rw [hb, List.drop_of_length_le (by have := HL.out.2; omega)]; rfl); have e2 := pl_lt okP (by rw [List.length_drop, HL.out.1]; omega); omega
        obtain ⟨x, hx⟩ : ∃ x, P[i]? = some x := ⟨_, List.getElem?_eq_getElem (by rw [HL.out.1]; omega)⟩
        obtain ⟨sb, so, rfl, _, xw0⟩ := HS.out.at hx
        have xw := H.out.2.1.kept.cell xw0
        have ex := drop_at hx
        have eax : x.1 = a := by rw [ha, ex]; rfl
        obtain ⟨y, hy0⟩ : ∃ y, Q[j]? = some y := ⟨_, List.getElem?_eq_getElem (by rw [HL.out.2]; omega)⟩
        obtain ⟨tb, to', rfl, _, yw0⟩ := HT.out.at hy0
        have yw := H.out.2.1.kept.cell yw0
        have ey := drop_at hy0
        have eby : y.1 = b := by rw [hb, ey]; rfl
        have hka : k = a := by omega
        have hb2 : fw (Q.drop j) k = y.2 ∧ tl (Q.drop j) k = Q.drop (j + 1) := off_yes ey (by omega)
        have ha2 : fw (P.drop i) k = x.2 ∧ tl (P.drop i) k = P.drop (i + 1) := off_yes ex (by omega)
        have HE : Hid (pre ++ ([(k, x.2, y.2)] ++ bes (P.drop (i + 1)) (Q.drop (j + 1))) = bes P Q) := by
          have := H.out.2.2
          rw [HB0.out] at this
          rw [ha2.1, ha2.2, hb2.1, hb2.2] at this
          exact this
        have HPre : Hid (pre ++ [(k, x.2, y.2)] <+: bes P Q) := ⟨bes (P.drop (i + 1)) (Q.drop (j + 1)), by rw [← HE.out, List.append_assoc]⟩
        have q1' : ((a : Int) == (k : Int)) = true := by simp; omega
        have q2' : ((b : Int) == (k : Int)) = true := by simp; omega
        have hil : (i : Int) < (ns : Int) := by omega
        have hjl : (j : Int) < (nt : Int) := by omega
        have kA : a = k := hka.symm
        have kB : b = k := by omega
        clear hka ha2 hb2 hx ex eax xw0 hy0 ey eby yw0 ha hb hk hne okP okQ HB0 hend
        have HSA : Hid (∀ W, Kept wr W → W.cell? ⟨bs, 0, none⟩ = some (.slice (some ⟨sb, so, none⟩) ns cs) ∧ W.cell? ⟨bt, 0, none⟩ = some (.slice (some ⟨tb, to', none⟩) nt ct)) := fun W h => ⟨h.cell cs0, h.cell ct0⟩
        go_upto_region 2 with fail
        go_cut [6] from 7 to 60 (fun pv wx => ∃ bp, pv = .pointer (some ⟨bp, 0, none⟩) ∧ wx.heap[bp]? = some (.cells #[.int .i64 (k : Nat), .int .u64 0, .int .u64 0] 80) ∧ wr.heap.size ≤ bp ∧ Kept wr wx)
        case first =>
          have kr : Kept wr wr := Kept.refl wr
          go_region_held3 (fun W => W.cell? ⟨bs, 0, none⟩ = some (.slice (some ⟨sb, so, none⟩) ns cs) ∧ W.cell? ⟨bt, 0, none⟩ = some (.slice (some ⟨tb, to', none⟩) nt ct)) (exact HSA.out _ (by (repeat (first | (refine Kept.setCell ?_ (Kept.size ?_) _) | assumption | exact Kept.refl _ | apply Kept.drew | apply Kept.alloc | exact Kept.new (by assumption) _)))) (first | (go_at_call 59; (with_reducible refine (HP.out _ ?_).mono ?_); (repeat (first | (refine Kept.setCell ?_ (Kept.size ?_) _) | assumption | exact Kept.refl _ | apply Kept.drew | apply Kept.alloc | exact Kept.new (by assumption) _)); rintro e w' ⟨rfl, rfl⟩) | (go_at_call 59; (with_reducible refine (HQ.out _ ?_).mono ?_); (repeat (first | (refine Kept.setCell ?_ (Kept.size ?_) _) | assumption | exact Kept.refl _ | apply Kept.drew | apply Kept.alloc | exact Kept.new (by assumption) _)); rintro e w' ⟨rfl, rfl⟩))
          all_goals (try (go_wp2_with fail))
          all_goals (try go_meet)
          all_goals (first | exact ⟨_, rfl, at3a wr _ _ _, by omega, kept3 wr _ _ _⟩ | exact ⟨_, rfl, at3b wr _ _ _, by omega, kept3 wr _ _ _⟩ | exact ⟨_, rfl, at3c wr _ _ _, Nat.le_refl _, kept3 wr _ _ _⟩)
        case rest =>
          obtain ⟨bp, rfl, hp, hbp, kp⟩ := hcut
          rename World => w2
          have HSB : Hid (∀ W, Kept w2 W → W.cell? ⟨bs, 0, none⟩ = some (.slice (some ⟨sb, so, none⟩) ns cs) ∧ W.cell? ⟨bt, 0, none⟩ = some (.slice (some ⟨tb, to', none⟩) nt ct) ∧ W.cell? ⟨bp, 0, none⟩ = some (.int .i64 (k : Nat))) := fun W h => ⟨(kp.trans h).cell cs0, (kp.trans h).cell ct0, h.cell (cells3 hp).1⟩
          have HP2 : Hid (∀ W, Kept w2 W → Kept wr W ∧ W.heap[bp]? = _) := fun W h => ⟨kp.trans h, h.block hp⟩
          have HP3 : Hid (∀ W, Kept w2 W → Calls Try.prog 59 #[.agg #[.slice (some ⟨sb, so, none⟩) ns cs], .int .i64 (i : Nat)] W fun e w' => e = .returned (.int .i64 (a : Nat)) ∧ Kept w2 w') := fun W h => (HPk.out W (kp.trans h)).mono fun e w' ⟨h1, h2⟩ => ⟨h1, h.trans h2⟩
          have HQ3 : Hid (∀ W, Kept w2 W → Calls Try.prog 59 #[.agg #[.slice (some ⟨tb, to', none⟩) nt ct], .int .i64 (j : Nat)] W fun e w' => e = .returned (.int .i64 (b : Nat)) ∧ Kept w2 w') := fun W h => (HQk.out W (kp.trans h)).mono fun e w' ⟨h1, h2⟩ => ⟨h1, h.trans h2⟩
          clear kp hp
          go_upto_region 3 with fail
          go_cut [32] from 7 to 60 (fun v wx => v = .bool true ∧ Kept wr wx ∧ wx.heap[bp]? = some (.cells #[.int .i64 (k : Nat), .int .u64 0, .int .u64 0] 80))
          case first =>
            have kr : Kept w2 w2 := Kept.refl w2
            go_region_held3 (fun W => W.cell? ⟨bs, 0, none⟩ = some (.slice (some ⟨sb, so, none⟩) ns cs) ∧ W.cell? ⟨bt, 0, none⟩ = some (.slice (some ⟨tb, to', none⟩) nt ct) ∧ W.cell? ⟨bp, 0, none⟩ = some (.int .i64 (k : Nat))) (exact HSB.out _ (by (repeat (first | (refine Kept.setCell ?_ (Kept.size ?_) _) | assumption | exact Kept.refl _ | apply Kept.drew | apply Kept.alloc | exact Kept.new (by assumption) _)))) (first | (go_at_call 59; (with_reducible refine (HP3.out _ ?_).mono ?_); (repeat (first | (refine Kept.setCell ?_ (Kept.size ?_) _) | assumption | exact Kept.refl _ | apply Kept.drew | apply Kept.alloc | exact Kept.new (by assumption) _)); rintro e w' ⟨rfl, hk⟩) | (go_at_call 59; (with_reducible refine (HQ3.out _ ?_).mono ?_); (repeat (first | (refine Kept.setCell ?_ (Kept.size ?_) _) | assumption | exact Kept.refl _ | apply Kept.drew | apply Kept.alloc | exact Kept.new (by assumption) _)); rintro e w' ⟨rfl, hk⟩))
            all_goals (try (go_wp2_with fail))
            all_goals (try go_meet)
            all_goals (first | exact ⟨rfl, HP2.out _ (by assumption)⟩)
          case rest =>
            obtain ⟨rfl, kp3, hp3⟩ := hcut
            clear HSB HP2 HP3 HQ3
            rename World => w3
            obtain ⟨p0, p1, p2⟩ := cells3 hp3
            have z1 := frozen_of_row _ bp 1 _ _ hp3
            have s3 := kp3.cell cs0
            have t3 := kp3.cell ct0
            have x3 := kp3.cell xw
            have hp4 : (w3.setCell ⟨bp, 1, none⟩ (.int .u64 (x.2 : Nat))).heap[bp]? = some (.cells #[.int .i64 (k : Nat), .int .u64 (x.2 : Nat), .int .u64 0] 80) := by rw [heap_setCell_same _ bp 1 _ _ _ hp3]; rfl
            have kp4 : Kept wr (w3.setCell ⟨bp, 1, none⟩ (.int .u64 (x.2 : Nat))) := kp3.setCell hbp _
            have HSB : Hid (∀ W, Kept (w3.setCell ⟨bp, 1, none⟩ (.int .u64 (x.2 : Nat))) W → W.cell? ⟨bs, 0, none⟩ = some (.slice (some ⟨sb, so, none⟩) ns cs) ∧ W.cell? ⟨bt, 0, none⟩ = some (.slice (some ⟨tb, to', none⟩) nt ct) ∧ W.cell? ⟨bp, 0, none⟩ = some (.int .i64 (k : Nat))) := fun W h => ⟨(kp4.trans h).cell cs0, (kp4.trans h).cell ct0, h.cell (cells3 hp4).1⟩
            have HP2 : Hid (∀ W, Kept (w3.setCell ⟨bp, 1, none⟩ (.int .u64 (x.2 : Nat))) W → Kept wr W ∧ W.heap[bp]? = _) := fun W h => ⟨kp4.trans h, h.block hp4⟩
            have HQ3 : Hid (∀ W, Kept (w3.setCell ⟨bp, 1, none⟩ (.int .u64 (x.2 : Nat))) W → Calls Try.prog 59 #[.agg #[.slice (some ⟨tb, to', none⟩) nt ct], .int .i64 (j : Nat)] W fun e w' => e = .returned (.int .i64 (b : Nat)) ∧ Kept (w3.setCell ⟨bp, 1, none⟩ (.int .u64 (x.2 : Nat))) w') := fun W h => (HQk.out W (kp4.trans h)).mono fun e w' ⟨h1, h2⟩ => ⟨h1, h.trans h2⟩
            clear hp4 kp4
            go_upto_region 6 with fail
            go_cut [47] from 7 to 60 (fun v wx => v = .bool true ∧ Kept wr wx ∧ wx.heap[bp]? = some (.cells #[.int .i64 (k : Nat), .int .u64 (x.2 : Nat), .int .u64 0] 80))
            case first =>
              clear p0 p1 p2 z1 s3 t3 x3
              have kr : Kept (w3.setCell ⟨bp, 1, none⟩ (.int .u64 (x.2 : Nat))) (w3.setCell ⟨bp, 1, none⟩ (.int .u64 (x.2 : Nat))) := Kept.refl _
              go_region_held3 (fun W => W.cell? ⟨bs, 0, none⟩ = some (.slice (some ⟨sb, so, none⟩) ns cs) ∧ W.cell? ⟨bt, 0, none⟩ = some (.slice (some ⟨tb, to', none⟩) nt ct) ∧ W.cell? ⟨bp, 0, none⟩ = some (.int .i64 (k : Nat))) (exact HSB.out _ (by (repeat (first | (refine Kept.setCell ?_ (Kept.size ?_) _) | assumption | exact Kept.refl _ | apply Kept.drew | apply Kept.alloc | exact Kept.new (by assumption) _)))) ((go_at_call 59; (with_reducible refine (HQ3.out _ ?_).mono ?_); (repeat (first | (refine Kept.setCell ?_ (Kept.size ?_) _) | assumption | exact Kept.refl _ | apply Kept.drew | apply Kept.alloc | exact Kept.new (by assumption) _)); rintro e w' ⟨rfl, hk⟩))
              all_goals (try (go_wp2_with fail))
              all_goals (try go_meet)
              all_goals (first | exact ⟨rfl, HP2.out _ (by assumption)⟩)
            case rest =>
              obtain ⟨rfl, kp5, hp5⟩ := hcut
              clear p0 p1 p2 s3 t3 z1 hp3 kp3 HSB HP2 HQ3 x3
              rename World => w5
              obtain ⟨p0, p1, p2⟩ := cells3 hp5
              have z2 := frozen_of_row _ bp 2 _ _ hp5
              have t5 := kp5.cell ct0
              have y5 := kp5.cell yw
              have hp6 : (w5.setCell ⟨bp, 2, none⟩ (.int .u64 (y.2 : Nat))).heap[bp]? = some (.cells #[.int .i64 (k : Nat), .int .u64 (x.2 : Nat), .int .u64 (y.2 : Nat)] 80) := by rw [heap_setCell_same _ bp 2 _ _ _ hp5]; rfl
              have kp6 : Kept wr (w5.setCell ⟨bp, 2, none⟩ (.int .u64 (y.2 : Nat))) := kp5.setCell hbp _
              have hJ6 : J pre (w5.setCell ⟨bp, 2, none⟩ (.int .u64 (y.2 : Nat))) := hJ.out pre wr _ none H.out.1 (kp6.grown none) (fun r e => by cases e)
              have hyy := yield_any n (hY.out pre (k, x.2, y.2) _ (bes_small HS.out.ok HT.out.ok (by rw [← HE.out]; simp)) hJ6 (by have := congrArg List.length HE.out; rw [List.length_append] at this; simp at this; omega))
              obtain ⟨fn, tmps, assign, body, hy, hR⟩ := hyy
              dsimp only [enp] at hy
              (try simp only [show ((0 : Nat) : Int) = 0 from rfl] at hy)
              obtain ⟨g0, g1, g2⟩ := cells3 hp6
              have HB6 : Hid (Bi w₀ n1 b0 bs bt (.slice (some ⟨sb, so, none⟩) ns cs) (.slice (some ⟨tb, to', none⟩) nt ct) (w5.setCell ⟨bp, 2, none⟩ (.int .u64 (y.2 : Nat)))) := H.out.2.1.more kp6
              clear hJ6 kp6 hp6
              go_upto_region 9 with fail
              refine (wpIn_wide (n := n + 1)).1 ?_
              gi_wp2
              (try refine ⟨hdd _, ?_⟩)
              refine hR.mono ?_
              rintro e W3 (⟨rfl, hJ3, hk3⟩ | ⟨rfl, hJx3⟩)
              · gi_wp2
                go_wp2
                go_roundg ((ns - (i + 1)) + (nt - (j + 1)))
                case measure => omega
                case rel => exact ⟨i + 1, j + 1, pre ++ [(k, x.2, y.2)], by go_num, by go_num, by omega, by omega, by omega, ⟨hJ3, HB6.out.kb hk3, by rw [List.append_assoc]; exact HE.out⟩⟩
              · gi_wp2
                go_wp2
                refine bodyPost_ret (results_none rfl _ _ _) rfl ?_
                exact ⟨⟨_, rfl⟩, .inr ⟨_, HPre.out, hJx3⟩⟩
      · by_cases hii : (i : Int) < (ns : Int)
        · have hjn : j < nt := by rcases Nat.lt_or_ge j nt with h | h; exact h; rw [List.drop_of_length_le (by have := HL.out.2; omega)] at hb; have : b = 16384 := hb; omega
          obtain ⟨y, hy0⟩ : ∃ y, Q[j]? = some y := ⟨_, List.getElem?_eq_getElem (by rw [HL.out.2]; omega)⟩
          obtain ⟨tb, to', rfl, _, yw0⟩ := HT.out.at hy0
          have yw := H.out.2.1.kept.cell yw0
          have ey := drop_at hy0
          have eby : y.1 = b := by rw [hb, ey]; rfl
          have hkb : k = b := by omega
          have ha2 : fw (P.drop i) k = 0 ∧ tl (P.drop i) k = P.drop i := off_no ha (by omega)
          have hb2 : fw (Q.drop j) k = y.2 ∧ tl (Q.drop j) k = Q.drop (j + 1) := off_yes ey (by omega)
          have HE : Hid (pre ++ ([(k, 0, y.2)] ++ bes (P.drop (i)) (Q.drop (j + 1))) = bes P Q) := by
            have := H.out.2.2
            rw [HB0.out] at this
            rw [ha2.1, ha2.2, hb2.1, hb2.2] at this
            exact this
          have HPre : Hid (pre ++ [(k, 0, y.2)] <+: bes P Q) := ⟨bes (P.drop (i)) (Q.drop (j + 1)), by rw [← HE.out, List.append_assoc]⟩
          have q1' : ((a : Int) == (k : Int)) = false := by simp; omega
          have q2' : ((b : Int) == (k : Int)) = true := by simp; omega
          have hjl : (j : Int) < (nt : Int) := by omega
          have n1' : ¬ a = k := by omega
          have kB : b = k := hkb.symm
          clear hkb ha2 hb2 hy0 ey eby yw0 ha hb hk hne okP okQ HB0 hend
          have HSA : Hid (∀ W, Kept wr W → W.cell? ⟨bs, 0, none⟩ = some (.slice ps ns cs) ∧ W.cell? ⟨bt, 0, none⟩ = some (.slice (some ⟨tb, to', none⟩) nt ct)) := fun W h => ⟨h.cell cs0, h.cell ct0⟩
          go_upto_region 2 with fail
          go_cut [6] from 7 to 60 (fun pv wx => ∃ bp, pv = .pointer (some ⟨bp, 0, none⟩) ∧ wx.heap[bp]? = some (.cells #[.int .i64 (k : Nat), .int .u64 0, .int .u64 0] 80) ∧ wr.heap.size ≤ bp ∧ Kept wr wx)
          case first =>
            have kr : Kept wr wr := Kept.refl wr
            go_region_held3 (fun W => W.cell? ⟨bs, 0, none⟩ = some (.slice ps ns cs) ∧ W.cell? ⟨bt, 0, none⟩ = some (.slice (some ⟨tb, to', none⟩) nt ct)) (exact HSA.out _ (by (repeat (first | (refine Kept.setCell ?_ (Kept.size ?_) _) | assumption | exact Kept.refl _ | apply Kept.drew | apply Kept.alloc | exact Kept.new (by assumption) _)))) (first | (go_at_call 59; (with_reducible refine (HP.out _ ?_).mono ?_); (repeat (first | (refine Kept.setCell ?_ (Kept.size ?_) _) | assumption | exact Kept.refl _ | apply Kept.drew | apply Kept.alloc | exact Kept.new (by assumption) _)); rintro e w' ⟨rfl, rfl⟩) | (go_at_call 59; (with_reducible refine (HQ.out _ ?_).mono ?_); (repeat (first | (refine Kept.setCell ?_ (Kept.size ?_) _) | assumption | exact Kept.refl _ | apply Kept.drew | apply Kept.alloc | exact Kept.new (by assumption) _)); rintro e w' ⟨rfl, rfl⟩))
            all_goals (try (go_wp2_with fail))
            all_goals (try go_meet)
            all_goals (first | exact ⟨_, rfl, at3a wr _ _ _, by omega, kept3 wr _ _ _⟩ | exact ⟨_, rfl, at3b wr _ _ _, by omega, kept3 wr _ _ _⟩ | exact ⟨_, rfl, at3c wr _ _ _, Nat.le_refl _, kept3 wr _ _ _⟩)
          case rest =>
            obtain ⟨bp, rfl, hp, hbp, kp⟩ := hcut
            rename World => w2
            have HSB : Hid (∀ W, Kept w2 W → W.cell? ⟨bs, 0, none⟩ = some (.slice ps ns cs) ∧ W.cell? ⟨bt, 0, none⟩ = some (.slice (some ⟨tb, to', none⟩) nt ct) ∧ W.cell? ⟨bp, 0, none⟩ = some (.int .i64 (k : Nat))) := fun W h => ⟨(kp.trans h).cell cs0, (kp.trans h).cell ct0, h.cell (cells3 hp).1⟩
            have HP2 : Hid (∀ W, Kept w2 W → Kept wr W ∧ W.heap[bp]? = _) := fun W h => ⟨kp.trans h, h.block hp⟩
            have HP3 : Hid (∀ W, Kept w2 W → Calls Try.prog 59 #[.agg #[.slice ps ns cs], .int .i64 (i : Nat)] W fun e w' => e = .returned (.int .i64 (a : Nat)) ∧ Kept w2 w') := fun W h => (HPk.out W (kp.trans h)).mono fun e w' ⟨h1, h2⟩ => ⟨h1, h.trans h2⟩
            have HQ3 : Hid (∀ W, Kept w2 W → Calls Try.prog 59 #[.agg #[.slice (some ⟨tb, to', none⟩) nt ct], .int .i64 (j : Nat)] W fun e w' => e = .returned (.int .i64 (b : Nat)) ∧ Kept w2 w') := fun W h => (HQk.out W (kp.trans h)).mono fun e w' ⟨h1, h2⟩ => ⟨h1, h.trans h2⟩
            clear kp hp
            go_upto_region 3 with fail
            go_cut [32] from 7 to 60 (fun v wx => v = .bool false ∧ Kept wr wx ∧ wx.heap[bp]? = some (.cells #[.int .i64 (k : Nat), .int .u64 0, .int .u64 0] 80))
            case first =>
              have kr : Kept w2 w2 := Kept.refl w2
              go_region_held3 (fun W => W.cell? ⟨bs, 0, none⟩ = some (.slice ps ns cs) ∧ W.cell? ⟨bt, 0, none⟩ = some (.slice (some ⟨tb, to', none⟩) nt ct) ∧ W.cell? ⟨bp, 0, none⟩ = some (.int .i64 (k : Nat))) (exact HSB.out _ (by (repeat (first | (refine Kept.setCell ?_ (Kept.size ?_) _) | assumption | exact Kept.refl _ | apply Kept.drew | apply Kept.alloc | exact Kept.new (by assumption) _)))) (first | (go_at_call 59; (with_reducible refine (HP3.out _ ?_).mono ?_); (repeat (first | (refine Kept.setCell ?_ (Kept.size ?_) _) | assumption | exact Kept.refl _ | apply Kept.drew | apply Kept.alloc | exact Kept.new (by assumption) _)); rintro e w' ⟨rfl, hk⟩) | (go_at_call 59; (with_reducible refine (HQ3.out _ ?_).mono ?_); (repeat (first | (refine Kept.setCell ?_ (Kept.size ?_) _) | assumption | exact Kept.refl _ | apply Kept.drew | apply Kept.alloc | exact Kept.new (by assumption) _)); rintro e w' ⟨rfl, hk⟩))
              all_goals (try (go_wp2_with fail))
              all_goals (try go_meet)
              all_goals (first | exact ⟨rfl, HP2.out _ (by assumption)⟩)
            case rest =>
              obtain ⟨rfl, kp3, hp3⟩ := hcut
              clear HSB HP2 HP3 HQ3
              rename World => w3
              obtain ⟨p0, p1, p2⟩ := cells3 hp3
              have z1 := frozen_of_row _ bp 1 _ _ hp3
              have s3 := kp3.cell cs0
              have t3 := kp3.cell ct0
              have hp4 := hp3
              have kp4 := kp3
              have HSB : Hid (∀ W, Kept w3 W → W.cell? ⟨bs, 0, none⟩ = some (.slice ps ns cs) ∧ W.cell? ⟨bt, 0, none⟩ = some (.slice (some ⟨tb, to', none⟩) nt ct) ∧ W.cell? ⟨bp, 0, none⟩ = some (.int .i64 (k : Nat))) := fun W h => ⟨(kp4.trans h).cell cs0, (kp4.trans h).cell ct0, h.cell (cells3 hp4).1⟩
              have HP2 : Hid (∀ W, Kept w3 W → Kept wr W ∧ W.heap[bp]? = _) := fun W h => ⟨kp4.trans h, h.block hp4⟩
              have HQ3 : Hid (∀ W, Kept w3 W → Calls Try.prog 59 #[.agg #[.slice (some ⟨tb, to', none⟩) nt ct], .int .i64 (j : Nat)] W fun e w' => e = .returned (.int .i64 (b : Nat)) ∧ Kept w3 w') := fun W h => (HQk.out W (kp4.trans h)).mono fun e w' ⟨h1, h2⟩ => ⟨h1, h.trans h2⟩
              clear hp4 kp4
              go_upto_region 6 with fail
              go_cut [47] from 7 to 60 (fun v wx => v = .bool true ∧ Kept wr wx ∧ wx.heap[bp]? = some (.cells #[.int .i64 (k : Nat), .int .u64 (0 : Nat), .int .u64 0] 80))
              case first =>
                clear p0 p1 p2 z1 s3 t3
                have kr : Kept w3 w3 := Kept.refl _
                go_region_held3 (fun W => W.cell? ⟨bs, 0, none⟩ = some (.slice ps ns cs) ∧ W.cell? ⟨bt, 0, none⟩ = some (.slice (some ⟨tb, to', none⟩) nt ct) ∧ W.cell? ⟨bp, 0, none⟩ = some (.int .i64 (k : Nat))) (exact HSB.out _ (by (repeat (first | (refine Kept.setCell ?_ (Kept.size ?_) _) | assumption | exact Kept.refl _ | apply Kept.drew | apply Kept.alloc | exact Kept.new (by assumption) _)))) ((go_at_call 59; (with_reducible refine (HQ3.out _ ?_).mono ?_); (repeat (first | (refine Kept.setCell ?_ (Kept.size ?_) _) | assumption | exact Kept.refl _ | apply Kept.drew | apply Kept.alloc | exact Kept.new (by assumption) _)); rintro e w' ⟨rfl, hk⟩))
                all_goals (try (go_wp2_with fail))
                all_goals (try go_meet)
                all_goals (first | exact ⟨rfl, HP2.out _ (by assumption)⟩)
              case rest =>
                obtain ⟨rfl, kp5, hp5⟩ := hcut
                clear p0 p1 p2 s3 t3 z1 hp3 kp3 HSB HP2 HQ3
                rename World => w5
                obtain ⟨p0, p1, p2⟩ := cells3 hp5
                have z2 := frozen_of_row _ bp 2 _ _ hp5
                have t5 := kp5.cell ct0
                have y5 := kp5.cell yw
                have hp6 : (w5.setCell ⟨bp, 2, none⟩ (.int .u64 (y.2 : Nat))).heap[bp]? = some (.cells #[.int .i64 (k : Nat), .int .u64 (0 : Nat), .int .u64 (y.2 : Nat)] 80) := by rw [heap_setCell_same _ bp 2 _ _ _ hp5]; rfl
                have kp6 : Kept wr (w5.setCell ⟨bp, 2, none⟩ (.int .u64 (y.2 : Nat))) := kp5.setCell hbp _
                have hJ6 : J pre (w5.setCell ⟨bp, 2, none⟩ (.int .u64 (y.2 : Nat))) := hJ.out pre wr _ none H.out.1 (kp6.grown none) (fun r e => by cases e)
                have hyy := yield_any n (hY.out pre (k, 0, y.2) _ (bes_small HS.out.ok HT.out.ok (by rw [← HE.out]; simp)) hJ6 (by have := congrArg List.length HE.out; rw [List.length_append] at this; simp at this; omega))
                obtain ⟨fn, tmps, assign, body, hy, hR⟩ := hyy
                dsimp only [enp] at hy
                (try simp only [show ((0 : Nat) : Int) = 0 from rfl] at hy)
                obtain ⟨g0, g1, g2⟩ := cells3 hp6
                have HB6 : Hid (Bi w₀ n1 b0 bs bt (.slice ps ns cs) (.slice (some ⟨tb, to', none⟩) nt ct) (w5.setCell ⟨bp, 2, none⟩ (.int .u64 (y.2 : Nat)))) := H.out.2.1.more kp6
                clear hJ6 kp6 hp6
                go_upto_region 9 with fail
                refine (wpIn_wide (n := n + 1)).1 ?_
                gi_wp2
                (try refine ⟨hdd _, ?_⟩)
                refine hR.mono ?_
                rintro e W3 (⟨rfl, hJ3, hk3⟩ | ⟨rfl, hJx3⟩)
                · gi_wp2
                  go_wp2
                  go_roundg ((ns - i) + (nt - (j + 1)))
                  case measure => omega
                  case rel => exact ⟨i, j + 1, pre ++ [(k, 0, y.2)], by go_num, by go_num, by omega, by omega, by omega, ⟨hJ3, HB6.out.kb hk3, by rw [List.append_assoc]; exact HE.out⟩⟩
                · gi_wp2
                  go_wp2
                  refine bodyPost_ret (results_none rfl _ _ _) rfl ?_
                  exact ⟨⟨_, rfl⟩, .inr ⟨_, HPre.out, hJx3⟩⟩
        · have hjn : j < nt := by rcases Nat.lt_or_ge j nt with h | h; exact h; rw [List.drop_of_length_le (by have := HL.out.2; omega)] at hb; have : b = 16384 := hb; omega
          obtain ⟨y, hy0⟩ : ∃ y, Q[j]? = some y := ⟨_, List.getElem?_eq_getElem (by rw [HL.out.2]; omega)⟩
          obtain ⟨tb, to', rfl, _, yw0⟩ := HT.out.at hy0
          have yw := H.out.2.1.kept.cell yw0
          have ey := drop_at hy0
          have eby : y.1 = b := by rw [hb, ey]; rfl
          have hkb : k = b := by omega
          have ha2 : fw (P.drop i) k = 0 ∧ tl (P.drop i) k = P.drop i := off_no ha (by omega)
          have hb2 : fw (Q.drop j) k = y.2 ∧ tl (Q.drop j) k = Q.drop (j + 1) := off_yes ey (by omega)
          have HE : Hid (pre ++ ([(k, 0, y.2)] ++ bes (P.drop (i)) (Q.drop (j + 1))) = bes P Q) := by
            have := H.out.2.2
            rw [HB0.out] at this
            rw [ha2.1, ha2.2, hb2.1, hb2.2] at this
            exact this
          have HPre : Hid (pre ++ [(k, 0, y.2)] <+: bes P Q) := ⟨bes (P.drop (i)) (Q.drop (j + 1)), by rw [← HE.out, List.append_assoc]⟩
          have q1' : ((a : Int) == (k : Int)) = false := by simp; omega
          have q2' : ((b : Int) == (k : Int)) = true := by simp; omega
          have hjl : (j : Int) < (nt : Int) := by omega
          have n1' : ¬ a = k := by omega
          have kB : b = k := hkb.symm
          clear hkb ha2 hb2 hy0 ey eby yw0 ha hb hk hne okP okQ HB0 hend
          have HSA : Hid (∀ W, Kept wr W → W.cell? ⟨bs, 0, none⟩ = some (.slice ps ns cs) ∧ W.cell? ⟨bt, 0, none⟩ = some (.slice (some ⟨tb, to', none⟩) nt ct)) := fun W h => ⟨h.cell cs0, h.cell ct0⟩
          go_upto_region 2 with fail
          go_cut [6] from 7 to 60 (fun pv wx => ∃ bp, pv = .pointer (some ⟨bp, 0, none⟩) ∧ wx.heap[bp]? = some (.cells #[.int .i64 (k : Nat), .int .u64 0, .int .u64 0] 80) ∧ wr.heap.size ≤ bp ∧ Kept wr wx)
          case first =>
            have kr : Kept wr wr := Kept.refl wr
            go_region_held3 (fun W => W.cell? ⟨bs, 0, none⟩ = some (.slice ps ns cs) ∧ W.cell? ⟨bt, 0, none⟩ = some (.slice (some ⟨tb, to', none⟩) nt ct)) (exact HSA.out _ (by (repeat (first | (refine Kept.setCell ?_ (Kept.size ?_) _) | assumption | exact Kept.refl _ | apply Kept.drew | apply Kept.alloc | exact Kept.new (by assumption) _)))) (first | (go_at_call 59; (with_reducible refine (HP.out _ ?_).mono ?_); (repeat (first | (refine Kept.setCell ?_ (Kept.size ?_) _) | assumption | exact Kept.refl _ | apply Kept.drew | apply Kept.alloc | exact Kept.new (by assumption) _)); rintro e w' ⟨rfl, rfl⟩) | (go_at_call 59; (with_reducible refine (HQ.out _ ?_).mono ?_); (repeat (first | (refine Kept.setCell ?_ (Kept.size ?_) _) | assumption | exact Kept.refl _ | apply Kept.drew | apply Kept.alloc | exact Kept.new (by assumption) _)); rintro e w' ⟨rfl, rfl⟩))
            all_goals (try (go_wp2_with fail))
            all_goals (try go_meet)
            all_goals (first | exact ⟨_, rfl, at3a wr _ _ _, by omega, kept3 wr _ _ _⟩ | exact ⟨_, rfl, at3b wr _ _ _, by omega, kept3 wr _ _ _⟩ | exact ⟨_, rfl, at3c wr _ _ _, Nat.le_refl _, kept3 wr _ _ _⟩)
          case rest =>
            obtain ⟨bp, rfl, hp, hbp, kp⟩ := hcut
            rename World => w2
            have HSB : Hid (∀ W, Kept w2 W → W.cell? ⟨bs, 0, none⟩ = some (.slice ps ns cs) ∧ W.cell? ⟨bt, 0, none⟩ = some (.slice (some ⟨tb, to', none⟩) nt ct) ∧ W.cell? ⟨bp, 0, none⟩ = some (.int .i64 (k : Nat))) := fun W h => ⟨(kp.trans h).cell cs0, (kp.trans h).cell ct0, h.cell (cells3 hp).1⟩
            have HP2 : Hid (∀ W, Kept w2 W → Kept wr W ∧ W.heap[bp]? = _) := fun W h => ⟨kp.trans h, h.block hp⟩
            have HP3 : Hid (∀ W, Kept w2 W → Calls Try.prog 59 #[.agg #[.slice ps ns cs], .int .i64 (i : Nat)] W fun e w' => e = .returned (.int .i64 (a : Nat)) ∧ Kept w2 w') := fun W h => (HPk.out W (kp.trans h)).mono fun e w' ⟨h1, h2⟩ => ⟨h1, h.trans h2⟩
            have HQ3 : Hid (∀ W, Kept w2 W → Calls Try.prog 59 #[.agg #[.slice (some ⟨tb, to', none⟩) nt ct], .int .i64 (j : Nat)] W fun e w' => e = .returned (.int .i64 (b : Nat)) ∧ Kept w2 w') := fun W h => (HQk.out W (kp.trans h)).mono fun e w' ⟨h1, h2⟩ => ⟨h1, h.trans h2⟩
            clear kp hp
            go_upto_region 3 with fail
            go_cut [32] from 7 to 60 (fun v wx => v = .bool false ∧ Kept wr wx ∧ wx.heap[bp]? = some (.cells #[.int .i64 (k : Nat), .int .u64 0, .int .u64 0] 80))
            case first =>
              have kr : Kept w2 w2 := Kept.refl w2
              go_region_held3 (fun W => W.cell? ⟨bs, 0, none⟩ = some (.slice ps ns cs) ∧ W.cell? ⟨bt, 0, none⟩ = some (.slice (some ⟨tb, to', none⟩) nt ct) ∧ W.cell? ⟨bp, 0, none⟩ = some (.int .i64 (k : Nat))) (exact HSB.out _ (by (repeat (first | (refine Kept.setCell ?_ (Kept.size ?_) _) | assumption | exact Kept.refl _ | apply Kept.drew | apply Kept.alloc | exact Kept.new (by assumption) _)))) (first | (go_at_call 59; (with_reducible refine (HP3.out _ ?_).mono ?_); (repeat (first | (refine Kept.setCell ?_ (Kept.size ?_) _) | assumption | exact Kept.refl _ | apply Kept.drew | apply Kept.alloc | exact Kept.new (by assumption) _)); rintro e w' ⟨rfl, hk⟩) | (go_at_call 59; (with_reducible refine (HQ3.out _ ?_).mono ?_); (repeat (first | (refine Kept.setCell ?_ (Kept.size ?_) _) | assumption | exact Kept.refl _ | apply Kept.drew | apply Kept.alloc | exact Kept.new (by assumption) _)); rintro e w' ⟨rfl, hk⟩))
              all_goals (try (go_wp2_with fail))
              all_goals (try go_meet)
              all_goals (first | exact ⟨rfl, HP2.out _ (by assumption)⟩)
            case rest =>
              obtain ⟨rfl, kp3, hp3⟩ := hcut
              clear HSB HP2 HP3 HQ3
              rename World => w3
              obtain ⟨p0, p1, p2⟩ := cells3 hp3
              have z1 := frozen_of_row _ bp 1 _ _ hp3
              have s3 := kp3.cell cs0
              have t3 := kp3.cell ct0
              have hp4 := hp3
              have kp4 := kp3
              have HSB : Hid (∀ W, Kept w3 W → W.cell? ⟨bs, 0, none⟩ = some (.slice ps ns cs) ∧ W.cell? ⟨bt, 0, none⟩ = some (.slice (some ⟨tb, to', none⟩) nt ct) ∧ W.cell? ⟨bp, 0, none⟩ = some (.int .i64 (k : Nat))) := fun W h => ⟨(kp4.trans h).cell cs0, (kp4.trans h).cell ct0, h.cell (cells3 hp4).1⟩
              have HP2 : Hid (∀ W, Kept w3 W → Kept wr W ∧ W.heap[bp]? = _) := fun W h => ⟨kp4.trans h, h.block hp4⟩
              have HQ3 : Hid (∀ W, Kept w3 W → Calls Try.prog 59 #[.agg #[.slice (some ⟨tb, to', none⟩) nt ct], .int .i64 (j : Nat)] W fun e w' => e = .returned (.int .i64 (b : Nat)) ∧ Kept w3 w') := fun W h => (HQk.out W (kp4.trans h)).mono fun e w' ⟨h1, h2⟩ => ⟨h1, h.trans h2⟩
              clear hp4 kp4
              go_upto_region 6 with fail
              go_cut [47] from 7 to 60 (fun v wx => v = .bool true ∧ Kept wr wx ∧ wx.heap[bp]? = some (.cells #[.int .i64 (k : Nat), .int .u64 (0 : Nat), .int .u64 0] 80))
              case first =>
                clear p0 p1 p2 z1 s3 t3
                have kr : Kept w3 w3 := Kept.refl _
                go_region_held3 (fun W => W.cell? ⟨bs, 0, none⟩ = some (.slice ps ns cs) ∧ W.cell? ⟨bt, 0, none⟩ = some (.slice (some ⟨tb, to', none⟩) nt ct) ∧ W.cell? ⟨bp, 0, none⟩ = some (.int .i64 (k : Nat))) (exact HSB.out _ (by (repeat (first | (refine Kept.setCell ?_ (Kept.size ?_) _) | assumption | exact Kept.refl _ | apply Kept.drew | apply Kept.alloc | exact Kept.new (by assumption) _)))) ((go_at_call 59; (with_reducible refine (HQ3.out _ ?_).mono ?_); (repeat (first | (refine Kept.setCell ?_ (Kept.size ?_) _) | assumption | exact Kept.refl _ | apply Kept.drew | apply Kept.alloc | exact Kept.new (by assumption) _)); rintro e w' ⟨rfl, hk⟩))
                all_goals (try (go_wp2_with fail))
                all_goals (try go_meet)
                all_goals (first | exact ⟨rfl, HP2.out _ (by assumption)⟩)
              case rest =>
                obtain ⟨rfl, kp5, hp5⟩ := hcut
                clear p0 p1 p2 s3 t3 z1 hp3 kp3 HSB HP2 HQ3
                rename World => w5
                obtain ⟨p0, p1, p2⟩ := cells3 hp5
                have z2 := frozen_of_row _ bp 2 _ _ hp5
                have t5 := kp5.cell ct0
                have y5 := kp5.cell yw
                have hp6 : (w5.setCell ⟨bp, 2, none⟩ (.int .u64 (y.2 : Nat))).heap[bp]? = some (.cells #[.int .i64 (k : Nat), .int .u64 (0 : Nat), .int .u64 (y.2 : Nat)] 80) := by rw [heap_setCell_same _ bp 2 _ _ _ hp5]; rfl
                have kp6 : Kept wr (w5.setCell ⟨bp, 2, none⟩ (.int .u64 (y.2 : Nat))) := kp5.setCell hbp _
                have hJ6 : J pre (w5.setCell ⟨bp, 2, none⟩ (.int .u64 (y.2 : Nat))) := hJ.out pre wr _ none H.out.1 (kp6.grown none) (fun r e => by cases e)
                have hyy := yield_any n (hY.out pre (k, 0, y.2) _ (bes_small HS.out.ok HT.out.ok (by rw [← HE.out]; simp)) hJ6 (by have := congrArg List.length HE.out; rw [List.length_append] at this; simp at this; omega))
                obtain ⟨fn, tmps, assign, body, hy, hR⟩ := hyy
                dsimp only [enp] at hy
                (try simp only [show ((0 : Nat) : Int) = 0 from rfl] at hy)
                obtain ⟨g0, g1, g2⟩ := cells3 hp6
                have HB6 : Hid (Bi w₀ n1 b0 bs bt (.slice ps ns cs) (.slice (some ⟨tb, to', none⟩) nt ct) (w5.setCell ⟨bp, 2, none⟩ (.int .u64 (y.2 : Nat)))) := H.out.2.1.more kp6
                clear hJ6 kp6 hp6
                go_upto_region 9 with fail
                refine (wpIn_wide (n := n + 1)).1 ?_
                gi_wp2
                (try refine ⟨hdd _, ?_⟩)
                refine hR.mono ?_
                rintro e W3 (⟨rfl, hJ3, hk3⟩ | ⟨rfl, hJx3⟩)
                · gi_wp2
                  go_wp2
                  go_roundg ((ns - i) + (nt - (j + 1)))
                  case measure => omega
                  case rel => exact ⟨i, j + 1, pre ++ [(k, 0, y.2)], by go_num, by go_num, by omega, by omega, by omega, ⟨hJ3, HB6.out.kb hk3, by rw [List.append_assoc]; exact HE.out⟩⟩
                · gi_wp2
                  go_wp2
                  refine bodyPost_ret (results_none rfl _ _ _) rfl ?_
                  exact ⟨⟨_, rfl⟩, .inr ⟨_, HPre.out, hJx3⟩⟩

/-- The parts of two sets. -/
theorem beside_stops (n : Nat) {w₀ w : World} {ps : Option Addr} {ns cs : Nat} {P : List Pt} {pt : Option Addr} {nt ct : Nat} {Q : List Pt} (hs : St w₀ ps ns cs P) (ht : St w₀ pt nt ct Q) (hw : Kept w₀ w) (n1 b0 bs bt : Nat) (hn : n1 ≤ w.heap.size)
    (h1 : w.heap[bs]? = some (.cells #[.slice ps ns cs] 25)) (h2 : w.heap[bt]? = some (.cells #[.slice pt nt ct] 25)) (ls : bs < n1 ∧ bs ≠ b0) (lt : bt < n1 ∧ bt ≠ b0) :
    SeqStopsK Fence.wide n Try.prog 58 #[.pointer (some ⟨bs, 0, none⟩), .pointer (some ⟨bt, 0, none⟩)] (fun x => enp (md x)) (Kb w₀.heap.size n1 b0) (fun ys => ys = bes P Q) (fun pre => pre <+: bes P Q) (bes P Q).length w := fun l' J Jx W hW hJ _ hY h0 => by
  have kW : Kept w W := ⟨hW⟩
  exact beside_in n hs ht n1 b0 bs bt l' J Jx W ⟨hw.trans kW, Nat.le_trans hn kW.size, kW.block h1, kW.block h2, ls, lt⟩ hJ (fun pre x W hx hj hl => by
    have h := hY pre x W hj hl
    simp only [md_eq hx] at h
    exact h) h0
end Go.Proofs.Ytanccfbbaeocaaa.Bt
