/- The walks of the document's bytes and Part: where a node is parted. Conditions: the node may be. -/
import Derived.Test.YtgcfollelefmcaaPA
namespace Go.Proofs.Ytgcfollelefmcaa
open Go.ChangeShapes Go.WideShapes Go.ChangeAt Go.RowKit

theorem put_len {x : Nd} : x.put.length = x.head.length + x.tot x.ks.length := by
  unfold Nd.put Nd.tot
  rw [List.length_append]
theorem great_few {x : Nd} (g : Good x) (h : 237 < x.put.length) : 3 ≤ x.ks.length := by
  rw [put_len] at h
  have a := head_length g
  have b := items_length g x.ks.length (Nat.le_refl _)
  unfold Nd.tot at h
  omega

set_option maxHeartbeats 1000000 in
set_option maxRecDepth 100000 in
theorem bytes_walk {w : World} {l : Bool} {kp : Option Addr} {nk kc : Nat} {vp : Option Addr} {nv vc : Nat} {ip : Option Addr} {ni ic : Nat} {x : Nd} (h : NV w l kp nk kc vp nv vc ip ni ic x) (g : Good x) (f t : Nat) (hft : f ≤ t) (ht : t ≤ nk) :
    Calls Try.prog 50 #[.agg #[.bool l, .slice kp nk kc, .slice vp nv vc, .slice ip ni ic], .int .i64 (f : Nat), .int .i64 (t : Nat)] w fun e w' => e = .returned (.int .i64 ((x.tot t - x.tot f : Nat) : Int)) ∧ Kept w w' := by
  have hf : nk ≤ 100 := by have := g.few; have := h.nk; omega
  have G : Hid (Good x) := g
  have HV : Hid (NV w l kp nk kc vp nv vc ip ni ic x) := h
  have HTB : Hid (∀ i, i ≤ nk → x.tot i ≤ 11500) := fun i hi => tot_bound g i (by have := h.nk; omega)
  have K0 : Kept w (w.alloc (.cells #[.bool l, .slice kp nk kc, .slice vp nv vc, .slice ip ni ic] 37)) := (Kept.refl w).alloc _
  have X0 := C4.alloc w 37 (.bool l) (.slice kp nk kc) (.slice vp nv vc) (.slice ip ni ic)
  clear h g
  go_enter Try.func50, Try.ntmps50
  go_wp2
  go_loopg [7, 8] (t - f) (fun gg av iv wx => ∃ i a : Nat, av = .int .i64 (a : Nat) ∧ iv = .int .i64 (i : Nat) ∧ Hid (gg = t - i) ∧ i ≤ t ∧ f ≤ i ∧ Hid (a + x.tot f = x.tot i) ∧ C4 wx w.heap.size 37 (.bool l) (.slice kp nk kc) (.slice vp nv vc) (.slice ip ni ic) ∧ Kept w wx)
  case atStart => exact ⟨f, 0, rfl, rfl, rfl, hft, Nat.le_refl _, Nat.zero_add _, X0, K0⟩
  case round =>
    obtain ⟨i, a, rfl, rfl, hg, hin, hfi, HA, X, K⟩ := hrel
    obtain ⟨b0, b1, b2, b3⟩ := X.cs
    clear X0 K0
    by_cases h1 : i < t
    · have h1' : (i : Int) < (t : Int) := by omega
      have HI : Hid (∀ W, Kept w W → Calls Try.prog 36 #[.agg #[.bool l, .slice kp nk kc, .slice vp nv vc, .slice ip ni ic], .int .i64 (i : Nat)] W fun e w' => e = .returned (.string (bs (x.item i))) ∧ Kept W w') := fun W hW => piece_walk (HV.out.kept hW) G.out i (by omega)
      have HE : Hid (a + (bs (x.item i)).size + x.tot f = x.tot (i + 1)) := by have := HA.out; show _ = _; rw [sz_eq, Nd.tot_succ]; omega
      have hle := HTB.out (i + 1) (by omega)
      rw [← HE.out] at hle
      generalize bs (x.item i) = s at *
      have u1 : IntKind.i64.wrap ((a : Int) + (s.size : Int)) = (a : Int) + (s.size : Int) := by rw [IntKind.wrap_i64]; omega
      go_wp2_with (first
        | (go_at_call 36
           (with_reducible refine (HI.out _ K).mono ?_)
           rintro e v5 ⟨rfl, k5⟩))
      go_roundg (t - (i + 1))
      case measure => rw [hg.out]; omega
      case rel => exact ⟨i + 1, a + s.size, by go_num, by go_num, rfl, by omega, by omega, HE.out, X.kept k5, K.trans k5⟩
    · obtain rfl : t = i := by omega
      have h1' : ¬ ((t : Int) < (t : Int)) := by omega
      go_wp2
      go_ret
      refine ⟨?_, K⟩
      have : x.tot t - x.tot f = a := by have := HA.out; omega
      rw [this]
      rfl

theorem Lst.neg {x : Nd} {a i m : Nat} {l : Int} (h : Lst x a i m l (-1)) (hl : l < 0) : l = -1 ∧ i = a := by
  rcases h with ⟨e, _, e2⟩ | ⟨p1, p2, p3, p4, p5⟩
  · exact ⟨e2, e⟩
  · omega

set_option maxHeartbeats 4000000 in
set_option maxRecDepth 100000 in
theorem refpart_true {w : World} {kp : Option Addr} {nk kc : Nat} {vp : Option Addr} {nv vc : Nat} {ip : Option Addr} {ni ic : Nat} {x : Nd} (h : NV w true kp nk kc vp nv vc ip ni ic x) (g : Good x) (hbig : 237 < x.put.length) :
    Calls Try.prog 22 #[.agg #[.bool true, .slice kp nk kc, .slice vp nv vc, .slice ip ni ic]] w fun e w' => ∃ m : Nat, e = .returned (.int .i64 (m : Nat)) ∧ Mid x 1 m ∧ Kept w w' := by
  have hn3 : 3 ≤ nk := by have := great_few g hbig; have := h.nk; omega
  have hf : nk ≤ 100 := by have := g.few; have := h.nk; omega
  have HKL : Hid (x.ks.length = nk) := h.nk
  have HLF : Hid (x.leaf = true) := h.hl
  have HTB : Hid (∀ i, i ≤ nk → x.tot i ≤ 11500) := fun i hi => tot_bound g i (by have := h.nk; omega)
  have HBY : Hid (∀ W, Kept w W → ∀ f t : Nat, f ≤ t → t ≤ nk → Calls Try.prog 50 #[.agg #[.bool true, .slice kp nk kc, .slice vp nv vc, .slice ip ni ic], .int .i64 (f : Nat), .int .i64 (t : Nat)] W fun e w' => e = .returned (.int .i64 ((x.tot t - x.tot f : Nat) : Int)) ∧ Kept W w') := fun W hW f t h1 h2 => bytes_walk (h.kept hW) g f t h1 h2
  have K0 : Kept w (w.alloc (.cells #[.bool true, .slice kp nk kc, .slice vp nv vc, .slice ip ni ic] 37)) := (Kept.refl w).alloc _
  have X0 := C4.alloc w 37 (.bool true) (.slice kp nk kc) (.slice vp nv vc) (.slice ip ni ic)
  have HP := refput_walk (h.kept K0) g
  have hs := bs_size x.put
  rw [← hs] at hbig
  generalize bs x.put = s at *
  have hs2 : ¬ (s.size : Int) ≤ 237 := by omega
  clear h g hs
  go_enter Try.func22, Try.ntmps22
  go_wp2_with (first
    | (go_at_call 12
       (with_reducible refine HP.mono ?_)
       rintro e v1 ⟨rfl, k1⟩
       have X1 := X0.kept k1
       have K1 := K0.trans k1))
  go_loopg [3, 4, 5] nk (fun gg lv mv iv wx => ∃ (i m : Nat) (l : Int), lv = .int .i64 l ∧ mv = .int .i64 (m : Nat) ∧ iv = .int .i64 (i : Nat) ∧ Hid (gg = nk + 1 - i) ∧ i ≤ nk ∧ 1 ≤ i ∧ Hid (Lst x 1 i m l (-1)) ∧ C4 wx w.heap.size 37 (.bool true) (.slice kp nk kc) (.slice vp nv vc) (.slice ip ni ic) ∧ Kept w wx)
  case atStart => exact ⟨1, 0, -1, rfl, rfl, rfl, by show _ = _; omega, by omega, Nat.le_refl _, .inl ⟨rfl, rfl, rfl⟩, X1, K1⟩
  case round =>
    obtain ⟨i, m, l, rfl, rfl, rfl, hg, hin, h0, HL, X, K⟩ := hrel
    obtain ⟨b0, b1, b2, b3⟩ := X.cs
    clear X0 K0 X1 K1
    by_cases h1 : i < nk
    · have h1' : (i : Int) < (nk : Int) := by omega
      have HB1 : Hid (∀ W, Kept w W → Calls Try.prog 50 #[.agg #[.bool true, .slice kp nk kc, .slice vp nv vc, .slice ip ni ic], .int .i64 0, .int .i64 (i : Nat)] W fun e w' => e = .returned (.int .i64 ((x.tot i : Nat) : Int)) ∧ Kept W w') := fun W hW => HBY.out W hW 0 i (Nat.zero_le _) hin
      have HB2 : Hid (∀ W, Kept w W → Calls Try.prog 50 #[.agg #[.bool true, .slice kp nk kc, .slice vp nv vc, .slice ip ni ic], .int .i64 (i : Nat), .int .i64 (nk : Nat)] W fun e w' => e = .returned (.int .i64 ((x.tot nk - x.tot i : Nat) : Int)) ∧ Kept W w') := fun W hW => HBY.out W hW i nk (by omega) (Nat.le_refl _)
      have u1 : IntKind.i64.wrap ((i : Int) + 1) = (i : Int) + 1 := by rw [IntKind.wrap_i64]; omega
      have hgr := Nd.gr_leaf HLF.out i
      rw [HKL.out] at hgr
      generalize x.tot nk - x.tot i = b at *
      generalize x.tot i = a at *
      by_cases hk : (b : Int) > (a : Int)
      · have HGR : Hid (((x.gr i : Nat) : Int) = (b : Int)) := by show _ = _; omega
        clear hgr
        by_cases hl0 : l < 0
        · have HT : Hid (l = -1 ∧ i = 1) := HL.out.neg hl0
          go_wp2_with (first
            | (go_at_call 50
               (with_reducible refine (HB1.out _ K).mono ?_)
               rintro e v5 ⟨rfl, k5⟩
               have X5 := X.kept k5
               have K5 := K.trans k5
               clear HB1
               obtain ⟨d0, d1, d2, d3⟩ := X5.cs)
            | (go_at_call 50
               (with_reducible refine (HB2.out _ K5).mono ?_)
               rintro e v6 ⟨rfl, k6⟩
               have X6 := X5.kept k6
               have K6 := K5.trans k6
               clear HB2
               obtain ⟨f0, f1, f2, f3⟩ := X6.cs))
          go_roundg (nk + 1 - (i + 1))
          case measure => rw [hg.out]; omega
          case rel => exact ⟨i + 1, i, (b : Int), rfl, rfl, by go_num, rfl, by omega, by omega, by rw [← HGR.out]; exact HL.out.less h0 (.inl HT.out), X6, K6⟩
        · by_cases hlt : (b : Int) < l
          · go_wp2_with (first
              | (go_at_call 50
                 (with_reducible refine (HB1.out _ K).mono ?_)
                 rintro e v5 ⟨rfl, k5⟩
                 have X5 := X.kept k5
                 have K5 := K.trans k5
                 clear HB1
                 obtain ⟨d0, d1, d2, d3⟩ := X5.cs)
              | (go_at_call 50
                 (with_reducible refine (HB2.out _ K5).mono ?_)
                 rintro e v6 ⟨rfl, k6⟩
                 have X6 := X5.kept k6
                 have K6 := K5.trans k6
                 clear HB2
                 obtain ⟨f0, f1, f2, f3⟩ := X6.cs))
            go_roundg (nk + 1 - (i + 1))
            case measure => rw [hg.out]; omega
            case rel => exact ⟨i + 1, i, (b : Int), rfl, rfl, by go_num, rfl, by omega, by omega, by rw [← HGR.out]; exact HL.out.less h0 (.inr (by rw [HGR.out]; exact hlt)), X6, K6⟩
          · go_wp2_with (first
              | (go_at_call 50
                 (with_reducible refine (HB1.out _ K).mono ?_)
                 rintro e v5 ⟨rfl, k5⟩
                 have X5 := X.kept k5
                 have K5 := K.trans k5
                 clear HB1
                 obtain ⟨d0, d1, d2, d3⟩ := X5.cs)
              | (go_at_call 50
                 (with_reducible refine (HB2.out _ K5).mono ?_)
                 rintro e v6 ⟨rfl, k6⟩
                 have X6 := X5.kept k6
                 have K6 := K5.trans k6
                 clear HB2
                 obtain ⟨f0, f1, f2, f3⟩ := X6.cs))
            go_roundg (nk + 1 - (i + 1))
            case measure => rw [hg.out]; omega
            case rel => exact ⟨i + 1, m, l, rfl, rfl, by go_num, rfl, by omega, by omega, HL.out.more (by rw [HGR.out]; omega) (by rintro ⟨e1, _⟩; omega), X6, K6⟩
      · have HGR : Hid (((x.gr i : Nat) : Int) = (a : Int)) := by show _ = _; omega
        clear hgr
        by_cases hl0 : l < 0
        · have HT : Hid (l = -1 ∧ i = 1) := HL.out.neg hl0
          go_wp2_with (first
            | (go_at_call 50
               (with_reducible refine (HB1.out _ K).mono ?_)
               rintro e v5 ⟨rfl, k5⟩
               have X5 := X.kept k5
               have K5 := K.trans k5
               clear HB1
               obtain ⟨d0, d1, d2, d3⟩ := X5.cs)
            | (go_at_call 50
               (with_reducible refine (HB2.out _ K5).mono ?_)
               rintro e v6 ⟨rfl, k6⟩
               have X6 := X5.kept k6
               have K6 := K5.trans k6
               clear HB2
               obtain ⟨f0, f1, f2, f3⟩ := X6.cs))
          go_roundg (nk + 1 - (i + 1))
          case measure => rw [hg.out]; omega
          case rel => exact ⟨i + 1, i, (a : Int), rfl, rfl, by go_num, rfl, by omega, by omega, by rw [← HGR.out]; exact HL.out.less h0 (.inl HT.out), X6, K6⟩
        · by_cases hlt : (a : Int) < l
          · go_wp2_with (first
              | (go_at_call 50
                 (with_reducible refine (HB1.out _ K).mono ?_)
                 rintro e v5 ⟨rfl, k5⟩
                 have X5 := X.kept k5
                 have K5 := K.trans k5
                 clear HB1
                 obtain ⟨d0, d1, d2, d3⟩ := X5.cs)
              | (go_at_call 50
                 (with_reducible refine (HB2.out _ K5).mono ?_)
                 rintro e v6 ⟨rfl, k6⟩
                 have X6 := X5.kept k6
                 have K6 := K5.trans k6
                 clear HB2
                 obtain ⟨f0, f1, f2, f3⟩ := X6.cs))
            go_roundg (nk + 1 - (i + 1))
            case measure => rw [hg.out]; omega
            case rel => exact ⟨i + 1, i, (a : Int), rfl, rfl, by go_num, rfl, by omega, by omega, by rw [← HGR.out]; exact HL.out.less h0 (.inr (by rw [HGR.out]; exact hlt)), X6, K6⟩
          · go_wp2_with (first
              | (go_at_call 50
                 (with_reducible refine (HB1.out _ K).mono ?_)
                 rintro e v5 ⟨rfl, k5⟩
                 have X5 := X.kept k5
                 have K5 := K.trans k5
                 clear HB1
                 obtain ⟨d0, d1, d2, d3⟩ := X5.cs)
              | (go_at_call 50
                 (with_reducible refine (HB2.out _ K5).mono ?_)
                 rintro e v6 ⟨rfl, k6⟩
                 have X6 := X5.kept k6
                 have K6 := K5.trans k6
                 clear HB2
                 obtain ⟨f0, f1, f2, f3⟩ := X6.cs))
            go_roundg (nk + 1 - (i + 1))
            case measure => rw [hg.out]; omega
            case rel => exact ⟨i + 1, m, l, rfl, rfl, by go_num, rfl, by omega, by omega, HL.out.more (by rw [HGR.out]; omega) (by rintro ⟨e1, _⟩; omega), X6, K6⟩
    · obtain rfl : nk = i := by omega
      have h1' : ¬ ((nk : Int) < (nk : Int)) := by omega
      go_wp2
      go_ret
      exact ⟨m, rfl, by have q := HL.out; rw [← HKL.out] at q; exact q.done (by rw [HKL.out]; omega), K⟩

set_option maxHeartbeats 4000000 in
set_option maxRecDepth 100000 in
theorem refpart_false {w : World} {kp : Option Addr} {nk kc : Nat} {vp : Option Addr} {nv vc : Nat} {ip : Option Addr} {ni ic : Nat} {x : Nd} (h : NV w false kp nk kc vp nv vc ip ni ic x) (g : Good x) (hbig : 237 < x.put.length) :
    Calls Try.prog 22 #[.agg #[.bool false, .slice kp nk kc, .slice vp nv vc, .slice ip ni ic]] w fun e w' => ∃ m : Nat, e = .returned (.int .i64 (m : Nat)) ∧ Mid x 1 m ∧ Kept w w' := by
  have hn3 : 3 ≤ nk := by have := great_few g hbig; have := h.nk; omega
  have hf : nk ≤ 100 := by have := g.few; have := h.nk; omega
  have HKL : Hid (x.ks.length = nk) := h.nk
  have HLF : Hid (x.leaf = false) := h.hl
  have HTB : Hid (∀ i, i ≤ nk → x.tot i ≤ 11500) := fun i hi => tot_bound g i (by have := h.nk; omega)
  have HBY : Hid (∀ W, Kept w W → ∀ f t : Nat, f ≤ t → t ≤ nk → Calls Try.prog 50 #[.agg #[.bool false, .slice kp nk kc, .slice vp nv vc, .slice ip ni ic], .int .i64 (f : Nat), .int .i64 (t : Nat)] W fun e w' => e = .returned (.int .i64 ((x.tot t - x.tot f : Nat) : Int)) ∧ Kept W w') := fun W hW f t h1 h2 => bytes_walk (h.kept hW) g f t h1 h2
  have K0 : Kept w (w.alloc (.cells #[.bool false, .slice kp nk kc, .slice vp nv vc, .slice ip ni ic] 37)) := (Kept.refl w).alloc _
  have X0 := C4.alloc w 37 (.bool false) (.slice kp nk kc) (.slice vp nv vc) (.slice ip ni ic)
  have HP := refput_walk (h.kept K0) g
  have hs := bs_size x.put
  rw [← hs] at hbig
  generalize bs x.put = s at *
  have hs2 : ¬ (s.size : Int) ≤ 237 := by omega
  clear h g hs
  go_enter Try.func22, Try.ntmps22
  go_wp2_with (first
    | (go_at_call 12
       (with_reducible refine HP.mono ?_)
       rintro e v1 ⟨rfl, k1⟩
       have X1 := X0.kept k1
       have K1 := K0.trans k1))
  go_loopg [3, 4, 5] nk (fun gg lv mv iv wx => ∃ (i m : Nat) (l : Int), lv = .int .i64 l ∧ mv = .int .i64 (m : Nat) ∧ iv = .int .i64 (i : Nat) ∧ Hid (gg = nk + 1 - i) ∧ i ≤ nk ∧ 1 ≤ i ∧ Hid (Lst x 1 i m l (-1)) ∧ C4 wx w.heap.size 37 (.bool false) (.slice kp nk kc) (.slice vp nv vc) (.slice ip ni ic) ∧ Kept w wx)
  case atStart => exact ⟨1, 0, -1, rfl, rfl, rfl, by show _ = _; omega, by omega, Nat.le_refl _, .inl ⟨rfl, rfl, rfl⟩, X1, K1⟩
  case round =>
    obtain ⟨i, m, l, rfl, rfl, rfl, hg, hin, h0, HL, X, K⟩ := hrel
    obtain ⟨b0, b1, b2, b3⟩ := X.cs
    clear X0 K0 X1 K1
    by_cases h1 : i < nk
    · have h1' : (i : Int) < (nk : Int) := by omega
      have HB1 : Hid (∀ W, Kept w W → Calls Try.prog 50 #[.agg #[.bool false, .slice kp nk kc, .slice vp nv vc, .slice ip ni ic], .int .i64 0, .int .i64 (i : Nat)] W fun e w' => e = .returned (.int .i64 ((x.tot i : Nat) : Int)) ∧ Kept W w') := fun W hW => HBY.out W hW 0 i (Nat.zero_le _) hin
      have HB2 : Hid (∀ W, Kept w W → Calls Try.prog 50 #[.agg #[.bool false, .slice kp nk kc, .slice vp nv vc, .slice ip ni ic], .int .i64 ((i : Int) + 1), .int .i64 (nk : Nat)] W fun e w' => e = .returned (.int .i64 ((x.tot nk - x.tot (i + 1) : Nat) : Int)) ∧ Kept W w') := fun W hW => HBY.out W hW (i + 1) nk (by omega) (Nat.le_refl _)
      have u1 : IntKind.i64.wrap ((i : Int) + 1) = (i : Int) + 1 := by rw [IntKind.wrap_i64]; omega
      have hgr := Nd.gr_inner HLF.out i
      rw [HKL.out] at hgr
      generalize x.tot nk - x.tot (i + 1) = b at *
      generalize x.tot i = a at *
      by_cases hk : (b : Int) > (a : Int)
      · have HGR : Hid (((x.gr i : Nat) : Int) = (b : Int)) := by show _ = _; omega
        clear hgr
        by_cases hl0 : l < 0
        · have HT : Hid (l = -1 ∧ i = 1) := HL.out.neg hl0
          go_wp2_with (first
            | (go_at_call 50
               (with_reducible refine (HB1.out _ K).mono ?_)
               rintro e v5 ⟨rfl, k5⟩
               have X5 := X.kept k5
               have K5 := K.trans k5
               clear HB1
               obtain ⟨d0, d1, d2, d3⟩ := X5.cs)
            | (go_at_call 50
               (with_reducible refine (HB2.out _ K5).mono ?_)
               rintro e v6 ⟨rfl, k6⟩
               have X6 := X5.kept k6
               have K6 := K5.trans k6
               clear HB2
               obtain ⟨f0, f1, f2, f3⟩ := X6.cs))
          go_roundg (nk + 1 - (i + 1))
          case measure => rw [hg.out]; omega
          case rel => exact ⟨i + 1, i, (b : Int), rfl, rfl, by go_num, rfl, by omega, by omega, by rw [← HGR.out]; exact HL.out.less h0 (.inl HT.out), X6, K6⟩
        · by_cases hlt : (b : Int) < l
          · go_wp2_with (first
              | (go_at_call 50
                 (with_reducible refine (HB1.out _ K).mono ?_)
                 rintro e v5 ⟨rfl, k5⟩
                 have X5 := X.kept k5
                 have K5 := K.trans k5
                 clear HB1
                 obtain ⟨d0, d1, d2, d3⟩ := X5.cs)
              | (go_at_call 50
                 (with_reducible refine (HB2.out _ K5).mono ?_)
                 rintro e v6 ⟨rfl, k6⟩
                 have X6 := X5.kept k6
                 have K6 := K5.trans k6
                 clear HB2
                 obtain ⟨f0, f1, f2, f3⟩ := X6.cs))
            go_roundg (nk + 1 - (i + 1))
            case measure => rw [hg.out]; omega
            case rel => exact ⟨i + 1, i, (b : Int), rfl, rfl, by go_num, rfl, by omega, by omega, by rw [← HGR.out]; exact HL.out.less h0 (.inr (by rw [HGR.out]; exact hlt)), X6, K6⟩
          · go_wp2_with (first
              | (go_at_call 50
                 (with_reducible refine (HB1.out _ K).mono ?_)
                 rintro e v5 ⟨rfl, k5⟩
                 have X5 := X.kept k5
                 have K5 := K.trans k5
                 clear HB1
                 obtain ⟨d0, d1, d2, d3⟩ := X5.cs)
              | (go_at_call 50
                 (with_reducible refine (HB2.out _ K5).mono ?_)
                 rintro e v6 ⟨rfl, k6⟩
                 have X6 := X5.kept k6
                 have K6 := K5.trans k6
                 clear HB2
                 obtain ⟨f0, f1, f2, f3⟩ := X6.cs))
            go_roundg (nk + 1 - (i + 1))
            case measure => rw [hg.out]; omega
            case rel => exact ⟨i + 1, m, l, rfl, rfl, by go_num, rfl, by omega, by omega, HL.out.more (by rw [HGR.out]; omega) (by rintro ⟨e1, _⟩; omega), X6, K6⟩
      · have HGR : Hid (((x.gr i : Nat) : Int) = (a : Int)) := by show _ = _; omega
        clear hgr
        by_cases hl0 : l < 0
        · have HT : Hid (l = -1 ∧ i = 1) := HL.out.neg hl0
          go_wp2_with (first
            | (go_at_call 50
               (with_reducible refine (HB1.out _ K).mono ?_)
               rintro e v5 ⟨rfl, k5⟩
               have X5 := X.kept k5
               have K5 := K.trans k5
               clear HB1
               obtain ⟨d0, d1, d2, d3⟩ := X5.cs)
            | (go_at_call 50
               (with_reducible refine (HB2.out _ K5).mono ?_)
               rintro e v6 ⟨rfl, k6⟩
               have X6 := X5.kept k6
               have K6 := K5.trans k6
               clear HB2
               obtain ⟨f0, f1, f2, f3⟩ := X6.cs))
          go_roundg (nk + 1 - (i + 1))
          case measure => rw [hg.out]; omega
          case rel => exact ⟨i + 1, i, (a : Int), rfl, rfl, by go_num, rfl, by omega, by omega, by rw [← HGR.out]; exact HL.out.less h0 (.inl HT.out), X6, K6⟩
        · by_cases hlt : (a : Int) < l
          · go_wp2_with (first
              | (go_at_call 50
                 (with_reducible refine (HB1.out _ K).mono ?_)
                 rintro e v5 ⟨rfl, k5⟩
                 have X5 := X.kept k5
                 have K5 := K.trans k5
                 clear HB1
                 obtain ⟨d0, d1, d2, d3⟩ := X5.cs)
              | (go_at_call 50
                 (with_reducible refine (HB2.out _ K5).mono ?_)
                 rintro e v6 ⟨rfl, k6⟩
                 have X6 := X5.kept k6
                 have K6 := K5.trans k6
                 clear HB2
                 obtain ⟨f0, f1, f2, f3⟩ := X6.cs))
            go_roundg (nk + 1 - (i + 1))
            case measure => rw [hg.out]; omega
            case rel => exact ⟨i + 1, i, (a : Int), rfl, rfl, by go_num, rfl, by omega, by omega, by rw [← HGR.out]; exact HL.out.less h0 (.inr (by rw [HGR.out]; exact hlt)), X6, K6⟩
          · go_wp2_with (first
              | (go_at_call 50
                 (with_reducible refine (HB1.out _ K).mono ?_)
                 rintro e v5 ⟨rfl, k5⟩
                 have X5 := X.kept k5
                 have K5 := K.trans k5
                 clear HB1
                 obtain ⟨d0, d1, d2, d3⟩ := X5.cs)
              | (go_at_call 50
                 (with_reducible refine (HB2.out _ K5).mono ?_)
                 rintro e v6 ⟨rfl, k6⟩
                 have X6 := X5.kept k6
                 have K6 := K5.trans k6
                 clear HB2
                 obtain ⟨f0, f1, f2, f3⟩ := X6.cs))
            go_roundg (nk + 1 - (i + 1))
            case measure => rw [hg.out]; omega
            case rel => exact ⟨i + 1, m, l, rfl, rfl, by go_num, rfl, by omega, by omega, HL.out.more (by rw [HGR.out]; omega) (by rintro ⟨e1, _⟩; omega), X6, K6⟩
    · obtain rfl : nk = i := by omega
      have h1' : ¬ ((nk : Int) < (nk : Int)) := by omega
      go_wp2
      go_ret
      exact ⟨m, rfl, by have q := HL.out; rw [← HKL.out] at q; exact q.done (by rw [HKL.out]; omega), K⟩

set_option maxHeartbeats 1000000 in
set_option maxRecDepth 100000 in
theorem refpart_small {w : World} {l : Bool} {kp : Option Addr} {nk kc : Nat} {vp : Option Addr} {nv vc : Nat} {ip : Option Addr} {ni ic : Nat} {x : Nd} (h : NV w l kp nk kc vp nv vc ip ni ic x) (g : Good x) (hs : x.put.length ≤ 237) :
    Calls Try.prog 22 #[.agg #[.bool l, .slice kp nk kc, .slice vp nv vc, .slice ip ni ic]] w fun e w' => e = .returned (.int .i64 (-1)) ∧ Kept w w' := by
  have K0 : Kept w (w.alloc (.cells #[.bool l, .slice kp nk kc, .slice vp nv vc, .slice ip ni ic] 37)) := (Kept.refl w).alloc _
  have HP := refput_walk (h.kept K0) g
  have hz := bs_size x.put
  rw [← hz] at hs
  generalize bs x.put = s at *
  have hs2 : (s.size : Int) ≤ 237 := by omega
  clear h g hz
  go_enter Try.func22, Try.ntmps22
  go_wp2_with (first
    | (go_at_call 12
       (with_reducible refine HP.mono ?_)
       rintro e v1 ⟨rfl, k1⟩))
  go_ret
  exact ⟨rfl, K0.trans k1⟩

theorem refpart_walk {w : World} {l : Bool} {kp : Option Addr} {nk kc : Nat} {vp : Option Addr} {nv vc : Nat} {ip : Option Addr} {ni ic : Nat} {x : Nd} (h : NV w l kp nk kc vp nv vc ip ni ic x) (g : Good x) (hbig : 237 < x.put.length) :
    Calls Try.prog 22 #[.agg #[.bool l, .slice kp nk kc, .slice vp nv vc, .slice ip ni ic]] w fun e w' => ∃ m : Nat, e = .returned (.int .i64 (m : Nat)) ∧ Mid x 1 m ∧ Kept w w' := by
  cases l with
  | true => exact refpart_true h g hbig
  | false => exact refpart_false h g hbig
end Go.Proofs.Ytgcfollelefmcaa
