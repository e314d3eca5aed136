/- The walk of BitsHas. Conditions: the library's table is laid. -/
import Derived.Test.YtanccfbbaeocaaaDoorLNb
namespace Go.Proofs.YtanccfbbaeocaaaDoor.Bt
open Go.RowKit Go.Shelf

theorem has_may {P : List Pt} (hP : Okp P) (z : Int) : decide (z ∈ ni (mrg orf P (one z))) = decide (0 ≤ z ∧ z < 1048576) := by
  rw [with_eq hP]
  congr 1
  rw [mem_rwt]
  apply propext
  constructor
  · rintro (h | h)
    · have := ni_range hP h; exact this
    · exact h.2
  · intro h; exact .inr ⟨rfl, h⟩
set_option maxRecDepth 100000 in
set_option maxHeartbeats 4000000 in
theorem has_core {w : World} (hL : Lds w) {p : Option Addr} {n c : Nat} {zs : List Int} (h : Il w p n c zs) (z : Int) (g0 g1 : Bool) (hg0 : decide (0 ≤ z) = g0) (hg1 : decide (z < 1048576) = g1) (hne : g0 = false → g1 = true) :
    Calls Tryd.prog 4 #[.slice p n c, .int .i64 z] w fun e w' => e = .returned (.bool true) ∧ Kept w w' := by
  have f1 := set_walk h
  have HLd : Hid (Lds w) := hL
  have hmay : decide (0 ≤ z ∧ z < 1048576) = (g0 && g1) := by rw [← hg0, ← hg1]; simp
  obtain ⟨P, hP⟩ : ∃ P, P = pset (zs.take 100) := ⟨_, rfl⟩
  have HPo : Hid (Okp P) := by rw [hP]; exact pset_ok _
  rw [← hP] at f1
  have HT : Hid (∀ W sp sn sc, St W sp sn sc P → Calls Tryd.prog 18 #[.agg #[.slice sp sn sc], .int .i64 z] W fun e w' => ∃ q n c, e = .returned (.agg #[.slice q n c]) ∧ So w' W.heap.size q n c (mrg orf P (one z)) ∧ Kept W w') := fun W sp sn sc hs => with_walk hs z
  obtain ⟨Q, hQ⟩ : ∃ Q, Q = mrg orf P (one z) := ⟨_, rfl⟩
  have HQ : Hid (decide (z ∈ ni Q) = (g0 && g1) ∧ rwt (ni P) z = ni Q) := ⟨by rw [hQ, has_may HPo.out, hmay], by rw [hQ, with_eq HPo.out]⟩
  rw [← hQ] at HT
  clear hP hQ hmay h hL
  obtain ⟨d, hd⟩ : ∃ d, d = decide (z ∈ ni P) := ⟨_, rfl⟩
  have HD : Hid (d = decide (z ∈ ni P)) := hd
  clear hd
  have HAll : Hid (∀ (w1 w2 : World) (sp : Option Addr) (sn sc : Nat) (xp : Option Addr) (xn xc : Nat) (tp : Option Addr) (tn tc : Nat), St w1 sp sn sc P → Il w1 xp xn xc (ni P) → xn ≤ 100 → Kept w w1 → So w2 (w1.heap.size + 1) tp tn tc Q → Kept (w1.alloc (.cells #[.slice sp sn sc] 25)) w2 →
      Kept w (w2.alloc (.cells #[.slice tp tn tc] 25)) ∧
      (∀ W, Kept (w2.alloc (.cells #[.slice tp tn tc] 25)) W → W.cell? ⟨w1.heap.size, 0, none⟩ = some (.slice sp sn sc) ∧ W.cell? ⟨w2.heap.size, 0, none⟩ = some (.slice tp tn tc)) ∧
      (∀ W, Kept (w2.alloc (.cells #[.slice tp tn tc] 25)) W → Calls Tryd.prog 8 #[] W fun e w' => e = .returned (.bool true) ∧ Kept (w2.alloc (.cells #[.slice tp tn tc] 25)) w') ∧
      (∀ W, Kept (w2.alloc (.cells #[.slice tp tn tc] 25)) W → Calls Tryd.prog 19 #[.agg #[.slice sp sn sc], .int .i64 z] W fun e w' => e = .returned (.bool d) ∧ Kept (w2.alloc (.cells #[.slice tp tn tc] 25)) w') ∧
      (∀ W, Kept (w2.alloc (.cells #[.slice tp tn tc] 25)) W → Calls Tryd.prog 20 #[.slice xp xn xc, .int .i64 z] W fun e w' => e = .returned (.bool d) ∧ Kept (w2.alloc (.cells #[.slice tp tn tc] 25)) w') ∧
      (∀ W, Kept (w2.alloc (.cells #[.slice tp tn tc] 25)) W → Calls Tryd.prog 19 #[.agg #[.slice tp tn tc], .int .i64 z] W fun e w' => e = .returned (.bool (g0 && g1)) ∧ Kept (w2.alloc (.cells #[.slice tp tn tc] 25)) w') ∧
      (∀ W, Kept (w2.alloc (.cells #[.slice tp tn tc] 25)) W → Calls Tryd.prog 21 #[.slice xp xn xc, .int .i64 z] W fun e w' => ∃ yp yn yc, e = .returned (.slice yp yn yc) ∧ Il w' yp yn yc (ni Q) ∧ Kept (w2.alloc (.cells #[.slice tp tn tc] 25)) w') ∧
      (∀ W yp yn yc, Kept (w2.alloc (.cells #[.slice tp tn tc] 25)) W → Il W yp yn yc (ni Q) → Calls Tryd.prog 9 #[.agg #[.slice tp tn tc], .slice yp yn yc] W fun e w' => e = .returned (.bool true) ∧ Kept (w2.alloc (.cells #[.slice tp tn tc] 25)) w') ∧
      (∀ W, Kept (w2.alloc (.cells #[.slice tp tn tc] 25)) W → Calls Tryd.prog 9 #[.agg #[.slice sp sn sc], .slice xp xn xc] W fun e w' => e = .returned (.bool true) ∧ Kept (w2.alloc (.cells #[.slice tp tn tc] 25)) w')) := by
    intro w1 w2 sp sn sc xp xn xc tp tn tc S1 X1 hx K1 S2 K2
    have ka : Kept w1 (w1.alloc (.cells #[.slice sp sn sc] 25)) := (Kept.refl w1).alloc _
    have kb : Kept w2 (w2.alloc (.cells #[.slice tp tn tc] 25)) := (Kept.refl w2).alloc _
    have k12 : Kept w1 (w2.alloc (.cells #[.slice tp tn tc] 25)) := (ka.trans K2).trans kb
    have b1 := (K2.trans kb).block (alloc_at w1 (.cells #[.slice sp sn sc] 25))
    have b2 := alloc_at w2 (.cells #[.slice tp tn tc] 25)
    have tr : ∀ {W w' : World}, Kept (w2.alloc (.cells #[.slice tp tn tc] 25)) W → Kept W w' → Kept (w2.alloc (.cells #[.slice tp tn tc] 25)) w' := fun a b => a.trans b
    generalize w2.alloc (.cells #[.slice tp tn tc] 25) = W2 at *
    refine ⟨K1.trans k12, fun W k => ⟨by rw [cell_of_row _ _ 0 _ _ _ (k.block b1)]; rfl, by rw [cell_of_row _ _ 0 _ _ _ (k.block b2)]; rfl⟩, fun W k => ?_, fun W k => ?_, fun W k => ?_, fun W k => ?_, fun W k => ?_, fun W yp yn yc k hy => ?_, fun W k => ?_⟩
    · exact (awake_walk W).mono fun e w' ⟨a, b⟩ => ⟨a, k.trans b⟩
    · refine (has_walk (S1.kept (k12.trans k)) z).mono fun e w' ⟨a, b⟩ => ⟨?_, k.trans b⟩
      rw [HD.out]; exact a
    · refine (rhas_walk (X1.kept (k12.trans k)) z).mono fun e w' ⟨a, b⟩ => ⟨?_, by rw [b]; exact k⟩
      rw [HD.out]; exact a
    · refine (has_walk (S2.st.kept (kb.trans k)) z).mono fun e w' ⟨a, b⟩ => ⟨?_, k.trans b⟩
      rw [← HQ.out.1]; exact a
    · refine (rwith_walk (X1.kept (k12.trans k)) (by omega) z).mono fun e w' ⟨yp, yn, yc, a, b, c⟩ => ⟨yp, yn, yc, a, ?_, k.trans c⟩
      rw [← HQ.out.2]; exact b
    · exact (same_walk' (HLd.out.kept ((K1.trans k12).trans k)) (S2.st.kept (kb.trans k)) hy).mono fun e w' ⟨a, b⟩ => ⟨a, k.trans b⟩
    · exact (same_walk' (HLd.out.kept ((K1.trans k12).trans k)) (S1.kept (k12.trans k)) (X1.kept (k12.trans k))).mono fun e w' ⟨a, b⟩ => ⟨a, k.trans b⟩
  clear HPo HQ HD HLd
  have hneq := hne
  clear hne
  cases g0 with
  | false =>
    obtain rfl : g1 = true := hneq rfl
    have hz0 : ¬ 0 ≤ z := of_decide_eq_false hg0
    clear hg0 hg1 hneq
    simp only [Bool.false_and] at HAll
    go_enter Tryd.func4, Tryd.ntmps4
    go_wp2_with (first
      | (go_at_call 6; (with_reducible refine f1.mono ?_); clear f1; rintro e w1 ⟨sp, sn, sc, xp, xn, xc, rfl, S1, X1, hx, K1⟩; have g1' := HT.out (w1.alloc (.cells #[.slice sp sn sc] 25)) sp sn sc (S1.kept ((Kept.refl w1).alloc _)); rw [size_alloc] at g1'; have HS1 : Hid (St w1 sp sn sc P ∧ Il w1 xp xn xc (ni P) ∧ xn ≤ 100 ∧ Kept w w1) := ⟨S1, X1, hx, K1⟩; clear S1 X1 hx K1)
      | (go_at_call 18; (with_reducible refine g1'.mono ?_); clear g1'; rintro e w2 ⟨tp, tn, tc, rfl, S2, K2⟩; have HZ : Hid _ := HAll.out w1 w2 sp sn sc xp xn xc tp tn tc HS1.out.1 HS1.out.2.1 HS1.out.2.2.1 HS1.out.2.2.2 S2 K2; clear S2 K2))
    obtain ⟨W2, hW2⟩ : ∃ W2, w2.alloc (.cells #[.slice tp tn tc] 25) = W2 := ⟨_, rfl⟩
    rw [hW2] at HZ ⊢
    clear hW2 HAll HT HS1
    have HK : Hid (Kept w W2) := HZ.out.1
    have HC : Hid (∀ W, Kept W2 W → _ ∧ _) := HZ.out.2.1
    have HA : Hid (∀ W, Kept W2 W → Calls _ _ _ _ _) := HZ.out.2.2.1
    have HH : Hid (∀ W, Kept W2 W → Calls _ _ _ _ _) := HZ.out.2.2.2.1
    have HR : Hid (∀ W, Kept W2 W → Calls _ _ _ _ _) := HZ.out.2.2.2.2.1
    have HHt : Hid (∀ W, Kept W2 W → Calls _ _ _ _ _) := HZ.out.2.2.2.2.2.1
    have HW : Hid (∀ W, Kept W2 W → Calls _ _ _ _ _) := HZ.out.2.2.2.2.2.2.1
    have HSt : Hid (∀ W yp yn yc, Kept W2 W → Il W yp yn yc (ni Q) → Calls _ _ _ _ _) := HZ.out.2.2.2.2.2.2.2.1
    have HSs : Hid (∀ W, Kept W2 W → Calls _ _ _ _ _) := HZ.out.2.2.2.2.2.2.2.2
    clear HZ
    have kr : Kept W2 W2 := Kept.refl W2
    cases d <;> (
    go_region_held3 (fun W => W.cell? ⟨w1.heap.size, 0, none⟩ = some (.slice sp sn sc) ∧ W.cell? ⟨w2.heap.size, 0, none⟩ = some (.slice tp tn tc)) (exact HC.out _ (by (repeat (first | assumption | exact Kept.refl _ | apply Kept.drew)))) (first
      | (go_at_call 8; (with_reducible refine (HA.out _ (by (repeat (first | assumption | exact Kept.refl _ | apply Kept.drew)))).mono ?_); rintro e w' ⟨rfl, hk⟩)
      | (go_at_call 19; (with_reducible refine (HH.out _ (by (repeat (first | assumption | exact Kept.refl _ | apply Kept.drew)))).mono ?_); rintro e w' ⟨rfl, hk⟩)
      | (go_at_call 20; (with_reducible refine (HR.out _ (by (repeat (first | assumption | exact Kept.refl _ | apply Kept.drew)))).mono ?_); rintro e w' ⟨rfl, hk⟩)
      | (go_at_call 19; (with_reducible refine (HHt.out _ (by (repeat (first | assumption | exact Kept.refl _ | apply Kept.drew)))).mono ?_); rintro e w' ⟨rfl, hk⟩)
      | (go_at_call 21; (with_reducible refine (HW.out _ (by (repeat (first | assumption | exact Kept.refl _ | apply Kept.drew)))).mono ?_); rintro e w' ⟨yp, yn, yc, rfl, I5, hk⟩; have g5 := HSt.out _ _ _ _ hk I5; clear I5)
      | (go_at_call 9; (with_reducible refine g5.mono ?_); clear g5; rintro e w' ⟨rfl, hk⟩)
      | (go_at_call 9; (with_reducible refine (HSs.out _ (by (repeat (first | assumption | exact Kept.refl _ | apply Kept.drew)))).mono ?_); rintro e w' ⟨rfl, hk⟩))
    all_goals (try (go_wp2_with fail))
    all_goals go_ret
    all_goals exact ⟨rfl, HK.out.trans (by assumption)⟩)
  | true =>
    have hz0 : 0 ≤ z := of_decide_eq_true hg0
    cases g1 with
    | false =>
      have hz1 : ¬ z < 1048576 := of_decide_eq_false hg1
      have hz2 : decide (z < 1048576) = false := hg1
      clear hg0 hg1 hneq
      simp only [Bool.and_false] at HAll
      go_enter Tryd.func4, Tryd.ntmps4
      go_wp2_with (first
        | (go_at_call 6; (with_reducible refine f1.mono ?_); clear f1; rintro e w1 ⟨sp, sn, sc, xp, xn, xc, rfl, S1, X1, hx, K1⟩; have g1' := HT.out (w1.alloc (.cells #[.slice sp sn sc] 25)) sp sn sc (S1.kept ((Kept.refl w1).alloc _)); rw [size_alloc] at g1'; have HS1 : Hid (St w1 sp sn sc P ∧ Il w1 xp xn xc (ni P) ∧ xn ≤ 100 ∧ Kept w w1) := ⟨S1, X1, hx, K1⟩; clear S1 X1 hx K1)
        | (go_at_call 18; (with_reducible refine g1'.mono ?_); clear g1'; rintro e w2 ⟨tp, tn, tc, rfl, S2, K2⟩; have HZ : Hid _ := HAll.out w1 w2 sp sn sc xp xn xc tp tn tc HS1.out.1 HS1.out.2.1 HS1.out.2.2.1 HS1.out.2.2.2 S2 K2; clear S2 K2))
      obtain ⟨W2, hW2⟩ : ∃ W2, w2.alloc (.cells #[.slice tp tn tc] 25) = W2 := ⟨_, rfl⟩
      rw [hW2] at HZ ⊢
      clear hW2 HAll HT HS1
      have HK : Hid (Kept w W2) := HZ.out.1
      have HC : Hid (∀ W, Kept W2 W → _ ∧ _) := HZ.out.2.1
      have HA : Hid (∀ W, Kept W2 W → Calls _ _ _ _ _) := HZ.out.2.2.1
      have HH : Hid (∀ W, Kept W2 W → Calls _ _ _ _ _) := HZ.out.2.2.2.1
      have HR : Hid (∀ W, Kept W2 W → Calls _ _ _ _ _) := HZ.out.2.2.2.2.1
      have HHt : Hid (∀ W, Kept W2 W → Calls _ _ _ _ _) := HZ.out.2.2.2.2.2.1
      have HW : Hid (∀ W, Kept W2 W → Calls _ _ _ _ _) := HZ.out.2.2.2.2.2.2.1
      have HSt : Hid (∀ W yp yn yc, Kept W2 W → Il W yp yn yc (ni Q) → Calls _ _ _ _ _) := HZ.out.2.2.2.2.2.2.2.1
      have HSs : Hid (∀ W, Kept W2 W → Calls _ _ _ _ _) := HZ.out.2.2.2.2.2.2.2.2
      clear HZ
      have kr : Kept W2 W2 := Kept.refl W2
      cases d <;> (
      go_region_held3 (fun W => W.cell? ⟨w1.heap.size, 0, none⟩ = some (.slice sp sn sc) ∧ W.cell? ⟨w2.heap.size, 0, none⟩ = some (.slice tp tn tc)) (exact HC.out _ (by (repeat (first | assumption | exact Kept.refl _ | apply Kept.drew)))) (first
        | (go_at_call 8; (with_reducible refine (HA.out _ (by (repeat (first | assumption | exact Kept.refl _ | apply Kept.drew)))).mono ?_); rintro e w' ⟨rfl, hk⟩)
        | (go_at_call 19; (with_reducible refine (HH.out _ (by (repeat (first | assumption | exact Kept.refl _ | apply Kept.drew)))).mono ?_); rintro e w' ⟨rfl, hk⟩)
        | (go_at_call 20; (with_reducible refine (HR.out _ (by (repeat (first | assumption | exact Kept.refl _ | apply Kept.drew)))).mono ?_); rintro e w' ⟨rfl, hk⟩)
        | (go_at_call 19; (with_reducible refine (HHt.out _ (by (repeat (first | assumption | exact Kept.refl _ | apply Kept.drew)))).mono ?_); rintro e w' ⟨rfl, hk⟩)
        | (go_at_call 21; (with_reducible refine (HW.out _ (by (repeat (first | assumption | exact Kept.refl _ | apply Kept.drew)))).mono ?_); rintro e w' ⟨yp, yn, yc, rfl, I5, hk⟩; have g5 := HSt.out _ _ _ _ hk I5; clear I5)
        | (go_at_call 9; (with_reducible refine g5.mono ?_); clear g5; rintro e w' ⟨rfl, hk⟩)
        | (go_at_call 9; (with_reducible refine (HSs.out _ (by (repeat (first | assumption | exact Kept.refl _ | apply Kept.drew)))).mono ?_); rintro e w' ⟨rfl, hk⟩))
      all_goals (try (go_wp2_with fail))
      all_goals go_ret
      all_goals exact ⟨rfl, HK.out.trans (by assumption)⟩)
    | true =>
      have hz1 : z < 1048576 := of_decide_eq_true hg1
      have hz2 : decide (z < 1048576) = true := hg1
      clear hg0 hg1 hneq
      simp only [Bool.and_true] at HAll
      go_enter Tryd.func4, Tryd.ntmps4
      go_wp2_with (first
        | (go_at_call 6; (with_reducible refine f1.mono ?_); clear f1; rintro e w1 ⟨sp, sn, sc, xp, xn, xc, rfl, S1, X1, hx, K1⟩; have g1' := HT.out (w1.alloc (.cells #[.slice sp sn sc] 25)) sp sn sc (S1.kept ((Kept.refl w1).alloc _)); rw [size_alloc] at g1'; have HS1 : Hid (St w1 sp sn sc P ∧ Il w1 xp xn xc (ni P) ∧ xn ≤ 100 ∧ Kept w w1) := ⟨S1, X1, hx, K1⟩; clear S1 X1 hx K1)
        | (go_at_call 18; (with_reducible refine g1'.mono ?_); clear g1'; rintro e w2 ⟨tp, tn, tc, rfl, S2, K2⟩; have HZ : Hid _ := HAll.out w1 w2 sp sn sc xp xn xc tp tn tc HS1.out.1 HS1.out.2.1 HS1.out.2.2.1 HS1.out.2.2.2 S2 K2; clear S2 K2))
      obtain ⟨W2, hW2⟩ : ∃ W2, w2.alloc (.cells #[.slice tp tn tc] 25) = W2 := ⟨_, rfl⟩
      rw [hW2] at HZ ⊢
      clear hW2 HAll HT HS1
      have HK : Hid (Kept w W2) := HZ.out.1
      have HC : Hid (∀ W, Kept W2 W → _ ∧ _) := HZ.out.2.1
      have HA : Hid (∀ W, Kept W2 W → Calls _ _ _ _ _) := HZ.out.2.2.1
      have HH : Hid (∀ W, Kept W2 W → Calls _ _ _ _ _) := HZ.out.2.2.2.1
      have HR : Hid (∀ W, Kept W2 W → Calls _ _ _ _ _) := HZ.out.2.2.2.2.1
      have HHt : Hid (∀ W, Kept W2 W → Calls _ _ _ _ _) := HZ.out.2.2.2.2.2.1
      have HW : Hid (∀ W, Kept W2 W → Calls _ _ _ _ _) := HZ.out.2.2.2.2.2.2.1
      have HSt : Hid (∀ W yp yn yc, Kept W2 W → Il W yp yn yc (ni Q) → Calls _ _ _ _ _) := HZ.out.2.2.2.2.2.2.2.1
      have HSs : Hid (∀ W, Kept W2 W → Calls _ _ _ _ _) := HZ.out.2.2.2.2.2.2.2.2
      clear HZ
      have kr : Kept W2 W2 := Kept.refl W2
      cases d <;> (
      go_region_held3 (fun W => W.cell? ⟨w1.heap.size, 0, none⟩ = some (.slice sp sn sc) ∧ W.cell? ⟨w2.heap.size, 0, none⟩ = some (.slice tp tn tc)) (exact HC.out _ (by (repeat (first | assumption | exact Kept.refl _ | apply Kept.drew)))) (first
        | (go_at_call 8; (with_reducible refine (HA.out _ (by (repeat (first | assumption | exact Kept.refl _ | apply Kept.drew)))).mono ?_); rintro e w' ⟨rfl, hk⟩)
        | (go_at_call 19; (with_reducible refine (HH.out _ (by (repeat (first | assumption | exact Kept.refl _ | apply Kept.drew)))).mono ?_); rintro e w' ⟨rfl, hk⟩)
        | (go_at_call 20; (with_reducible refine (HR.out _ (by (repeat (first | assumption | exact Kept.refl _ | apply Kept.drew)))).mono ?_); rintro e w' ⟨rfl, hk⟩)
        | (go_at_call 19; (with_reducible refine (HHt.out _ (by (repeat (first | assumption | exact Kept.refl _ | apply Kept.drew)))).mono ?_); rintro e w' ⟨rfl, hk⟩)
        | (go_at_call 21; (with_reducible refine (HW.out _ (by (repeat (first | assumption | exact Kept.refl _ | apply Kept.drew)))).mono ?_); rintro e w' ⟨yp, yn, yc, rfl, I5, hk⟩; have g5 := HSt.out _ _ _ _ hk I5; clear I5)
        | (go_at_call 9; (with_reducible refine g5.mono ?_); clear g5; rintro e w' ⟨rfl, hk⟩)
        | (go_at_call 9; (with_reducible refine (HSs.out _ (by (repeat (first | assumption | exact Kept.refl _ | apply Kept.drew)))).mono ?_); rintro e w' ⟨rfl, hk⟩))
      all_goals (try (go_wp2_with fail))
      all_goals go_ret
      all_goals exact ⟨rfl, HK.out.trans (by assumption)⟩)
theorem has_law {w : World} (hL : Lds w) {p : Option Addr} {n c : Nat} {zs : List Int} (h : Il w p n c zs) (z : Int) :
    Calls Tryd.prog 4 #[.slice p n c, .int .i64 z] w fun e w' => e = .returned (.bool true) ∧ Kept w w' :=
  has_core hL h z _ _ rfl rfl fun h0 => by
    have := of_decide_eq_false h0
    exact decide_eq_true (by omega)
end Go.Proofs.YtanccfbbaeocaaaDoor.Bt
