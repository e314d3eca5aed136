/- The walk of BitsOps. Conditions: the library's table is laid. -/
import Derived.Test.YtanccfbbaeocaaaDoorLKb
import Derived.Test.YtanccfbbaeocaaaDoorLNb
namespace Go.Proofs.YtanccfbbaeocaaaDoor.Bt
open Go.RowKit Go.Shelf

theorem or_comm {P Q : List Pt} (hP : Okp P) (hQ : Okp Q) : mrg orf P Q = mrg orf Q P := by
  refine okp_ext (or_ok hP hQ) (or_ok hQ hP) fun k => ?_
  rw [wd_mrg orf_lt rfl hP hQ, wd_mrg orf_lt rfl hQ hP]
  exact Nat.or_comm _ _
/-- What is called while the law's last sentence is asked. -/
structure Oa (w3 : World) (P Q : List Pt) (sp : Option Addr) (sn sc : Nat) (tp : Option Addr) (tn tc : Nat) (xp : Option Addr) (xn xc : Nat) (yp : Option Addr) (yn yc : Nat) (ln : Nat) (de : Bool) : Prop where
  HA : ∀ W, Kept w3 W → Calls Tryd.prog 8 #[] W fun e w' => e = .returned (.bool true) ∧ Kept W w'
  HSs : ∀ W, Kept w3 W → Calls Tryd.prog 9 #[.agg #[.slice sp sn sc], .slice xp xn xc] W fun e w' => e = .returned (.bool true) ∧ Kept W w'
  HSt : ∀ W, Kept w3 W → Calls Tryd.prog 9 #[.agg #[.slice tp tn tc], .slice yp yn yc] W fun e w' => e = .returned (.bool true) ∧ Kept W w'
  HOr : ∀ W, Kept w3 W → Calls Tryd.prog 10 #[.agg #[.slice sp sn sc], .agg #[.slice tp tn tc]] W fun e w' => ∃ q m k, e = .returned (.agg #[.slice q m k]) ∧ St w' q m k (mrg orf P Q) ∧ Kept W w'
  HROr : ∀ W, Kept w3 W → Calls Tryd.prog 11 #[.slice xp xn xc, .slice yp yn yc] W fun e w' => ∃ q m k, e = .returned (.slice q m k) ∧ Il w' q m k (ni (mrg orf P Q)) ∧ Kept W w'
  HSOr : ∀ W q m k q' m' k', Kept w3 W → St W q m k (mrg orf P Q) → Il W q' m' k' (ni (mrg orf P Q)) → Calls Tryd.prog 9 #[.agg #[.slice q m k], .slice q' m' k'] W fun e w' => e = .returned (.bool true) ∧ Kept W w'
  HAn : ∀ W, Kept w3 W → Calls Tryd.prog 12 #[.agg #[.slice sp sn sc], .agg #[.slice tp tn tc]] W fun e w' => ∃ q m k, e = .returned (.agg #[.slice q m k]) ∧ St w' q m k (mrg anf P Q) ∧ Kept W w'
  HRAn : ∀ W, Kept w3 W → Calls Tryd.prog 13 #[.slice xp xn xc, .slice yp yn yc] W fun e w' => ∃ q m k, e = .returned (.slice q m k) ∧ Il w' q m k (ni (mrg anf P Q)) ∧ Kept W w'
  HSAn : ∀ W q m k q' m' k', Kept w3 W → St W q m k (mrg anf P Q) → Il W q' m' k' (ni (mrg anf P Q)) → Calls Tryd.prog 9 #[.agg #[.slice q m k], .slice q' m' k'] W fun e w' => e = .returned (.bool true) ∧ Kept W w'
  HLe : ∀ W, Kept w3 W → Calls Tryd.prog 14 #[.agg #[.slice sp sn sc], .agg #[.slice tp tn tc]] W fun e w' => ∃ q m k, e = .returned (.agg #[.slice q m k]) ∧ St w' q m k (mrg lef P Q) ∧ Kept W w'
  HRLe : ∀ W, Kept w3 W → Calls Tryd.prog 7 #[.slice xp xn xc, .slice yp yn yc] W fun e w' => ∃ q m k, e = .returned (.slice q m k) ∧ Il w' q m k (ni (mrg lef P Q)) ∧ Kept W w'
  HSLe : ∀ W q m k q' m' k', Kept w3 W → St W q m k (mrg lef P Q) → Il W q' m' k' (ni (mrg lef P Q)) → Calls Tryd.prog 9 #[.agg #[.slice q m k], .slice q' m' k'] W fun e w' => e = .returned (.bool true) ∧ Kept W w'
  HWi : ∀ W, Kept w3 W → Calls Tryd.prog 15 #[.agg #[.slice sp sn sc], .agg #[.slice tp tn tc]] W fun e w' => e = .returned (.bool ((ln : Int) == 0)) ∧ Kept W w'
  HSm : ∀ W, Kept w3 W → Calls Tryd.prog 16 #[.agg #[.slice sp sn sc], .agg #[.slice tp tn tc]] W fun e w' => e = .returned (.bool de) ∧ Kept W w'
  HRm : ∀ W, Kept w3 W → Calls Tryd.prog 17 #[.slice xp xn xc, .slice yp yn yc] W fun e w' => e = .returned (.bool de) ∧ Kept W w'
  HO2 : ∀ W, Kept w3 W → Calls Tryd.prog 10 #[.agg #[.slice tp tn tc], .agg #[.slice sp sn sc]] W fun e w' => ∃ q m k, e = .returned (.agg #[.slice q m k]) ∧ St w' q m k (mrg orf Q P) ∧ Kept W w'
  HE2 : ∀ W q m k q' m' k', Kept w3 W → St W q m k (mrg orf P Q) → St W q' m' k' (mrg orf Q P) → Calls Tryd.prog 16 #[.agg #[.slice q m k], .agg #[.slice q' m' k']] W fun e w' => e = .returned (.bool true) ∧ Kept W w'
theorem oa_of {w w1 w2 w3 : World} (hL : Lds w) {P Q : List Pt} {sp : Option Addr} {sn sc : Nat} {tp : Option Addr} {tn tc : Nat} {xp : Option Addr} {xn xc : Nat} {yp : Option Addr} {yn yc : Nat} {ln : Nat}
    (S1 : St w1 sp sn sc P) (X1 : Il w1 xp xn xc (ni P)) (hx : xn ≤ 100) (K1 : Kept w w1) (S2 : St w2 tp tn tc Q) (X2 : Il w2 yp yn yc (ni Q)) (hy : yn ≤ 100) (K2 : Kept w1 w2) (K3 : Kept w2 w3) (hln : (rle (ni P) (ni Q)).length = ln) :
    Oa w3 P Q sp sn sc tp tn tc xp xn xc yp yn yc ln (decide (P = Q)) := by
  have s1 := fun W (k : Kept w3 W) => S1.kept ((K2.trans K3).trans k)
  have x1 := fun W (k : Kept w3 W) => X1.kept ((K2.trans K3).trans k)
  have s2 := fun W (k : Kept w3 W) => S2.kept (K3.trans k)
  have x2 := fun W (k : Kept w3 W) => X2.kept (K3.trans k)
  have ld := fun W (k : Kept w3 W) => hL.kept ((K1.trans (K2.trans K3)).trans k)
  refine ⟨fun W k => awake_walk W, fun W k => same_walk' (ld W k) (s1 W k) (x1 W k), fun W k => same_walk' (ld W k) (s2 W k) (x2 W k), ?_, ?_, ?_, ?_, ?_, ?_, ?_, ?_, ?_, ?_, ?_, ?_, ?_, ?_⟩
  · exact fun W k => (or_walk (s1 W k) (s2 W k)).mono fun e w' ⟨q, m, c, a, b, d⟩ => ⟨q, m, c, a, b.st, d⟩
  · exact fun W k => (ror_walk (x1 W k) (x2 W k) (by omega)).mono fun e w' ⟨q, m, c, a, b, d⟩ => ⟨q, m, c, a, by rw [or_eq S1.ok S2.ok]; exact b, d⟩
  · exact fun W q m c q' m' c' k h1 h2 => same_walk' (ld W k) h1 h2
  · exact fun W k => (and_walk (s1 W k) (s2 W k)).mono fun e w' ⟨q, m, c, a, b, d⟩ => ⟨q, m, c, a, b.st, d⟩
  · exact fun W k => (rand_walk (x1 W k) (x2 W k) (by omega)).mono fun e w' ⟨q, m, c, a, b, d⟩ => ⟨q, m, c, a, by rw [and_eq S1.ok S2.ok]; exact b, d⟩
  · exact fun W q m c q' m' c' k h1 h2 => same_walk' (ld W k) h1 h2
  · exact fun W k => (less_walk (s1 W k) (s2 W k)).mono fun e w' ⟨q, m, c, a, b, d⟩ => ⟨q, m, c, a, b.st, d⟩
  · exact fun W k => (rless_walk (x1 W k) (x2 W k) (by omega)).mono fun e w' ⟨q, m, c, a, b, d⟩ => ⟨q, m, c, a, by rw [less_eq S1.ok S2.ok]; exact b, d⟩
  · exact fun W q m c q' m' c' k h1 h2 => same_walk' (ld W k) h1 h2
  · intro W k
    have := within_walk (s1 W k) (s2 W k)
    rwa [show decide (mrg lef P Q = []) = ((ln : Int) == 0) by
      rw [Bool.eq_iff_iff, decide_eq_true_iff, beq_iff_eq, ← ni_nil (less_ok S1.ok S2.ok), less_eq S1.ok S2.ok, ← List.length_eq_zero_iff, hln]; omega] at this
  · exact fun W k => same_walk (s1 W k) (s2 W k)
  · intro W k
    have := rsame_walk (x1 W k) (x2 W k)
    rwa [show decide (ni P = ni Q) = decide (P = Q) by simp [ni_inj S1.ok S2.ok]] at this
  · exact fun W k => (or_walk (s2 W k) (s1 W k)).mono fun e w' ⟨q, m, c, a, b, d⟩ => ⟨q, m, c, a, b.st, d⟩
  · intro W q m c q' m' c' k h1 h2
    have := same_walk h1 h2
    rwa [decide_eq_true (or_comm S1.ok S2.ok)] at this

set_option maxRecDepth 100000 in
set_option maxHeartbeats 8000000 in
theorem ops_law {w : World} (hL : Lds w) {p : Option Addr} {n c : Nat} {zs : List Int} (h : Il w p n c zs) {p' : Option Addr} {n' c' : Nat} {zs' : List Int} (h' : Il w p' n' c' zs') :
    Calls Tryd.prog 3 #[.slice p n c, .slice p' n' c'] w fun e w' => e = .returned (.bool true) ∧ Kept w w' := by
  have f1 := set_walk h
  have HLd : Hid (Lds w) := hL
  have HB : Hid (∀ W, Kept w W → Calls Tryd.prog 6 #[.slice p' n' c'] W fun e w' => ∃ sp sn sc xp xn xc, e = .returned (.tuple #[.agg #[.slice sp sn sc], .slice xp xn xc]) ∧ St w' sp sn sc (pset (zs'.take 100)) ∧ Il w' xp xn xc (ni (pset (zs'.take 100))) ∧ xn ≤ 100 ∧ Kept W w') := fun W k => set_walk (h'.kept k)
  generalize pset (zs.take 100) = P at *
  generalize pset (zs'.take 100) = Q at *
  clear h h' hL
  obtain ⟨de, hde⟩ : ∃ de, de = decide (P = Q) := ⟨_, rfl⟩
  have HDe : Hid (de = decide (P = Q)) := hde
  clear hde
  go_enter Tryd.func3, Tryd.ntmps3
  go_wp2_with (first
    | (go_at_call 6; (with_reducible refine f1.mono ?_); clear f1; rintro e w1 ⟨sp, sn, sc, xp, xn, xc, rfl, S1, X1, hx, K1⟩; have ka : Kept w1 (w1.alloc (.cells #[.slice sp sn sc] 25)) := (Kept.refl w1).alloc _; have f2 := HB.out _ (K1.trans ka); have HS1 : Hid (St w1 sp sn sc P ∧ Il w1 xp xn xc (ni P) ∧ xn ≤ 100 ∧ Kept w w1) := ⟨S1, X1, hx, K1⟩; clear S1 X1 hx K1 HB)
    | (go_at_call 6; (with_reducible refine f2.mono ?_); clear f2; rintro e w2 ⟨tp, tn, tc, yp, yn, yc, rfl, S2, X2, hy, K2⟩; have kb : Kept w2 (w2.alloc (.cells #[.slice tp tn tc] 25)) := (Kept.refl w2).alloc _; have HS2 : Hid (St w2 tp tn tc Q ∧ Il w2 yp yn yc (ni Q) ∧ yn ≤ 100 ∧ Kept (w1.alloc (.cells #[.slice sp sn sc] 25)) w2) := ⟨S2, X2, hy, K2⟩; have f3 := rless_walk (HS1.out.2.1.kept ((ka.trans K2).trans kb)) (X2.kept kb) (by have := HS1.out.2.2.1; omega); clear S2 X2 hy K2)
    | (go_at_call 7; (with_reducible refine f3.mono ?_); clear f3; rintro e w3 ⟨lp, ln, lc, rfl, I3, K3⟩; have HZ : Hid (Oa w3 P Q sp sn sc tp tn tc xp xn xc yp yn yc ln de ∧ Kept w w3 ∧ (∀ W, Kept w3 W → W.cell? ⟨w1.heap.size, 0, none⟩ = some (.slice sp sn sc) ∧ W.cell? ⟨w2.heap.size, 0, none⟩ = some (.slice tp tn tc))) := ⟨(by rw [HDe.out]; exact oa_of HLd.out HS1.out.1 HS1.out.2.1 HS1.out.2.2.1 HS1.out.2.2.2 HS2.out.1 HS2.out.2.1 HS2.out.2.2.1 (ka.trans HS2.out.2.2.2) (kb.trans K3) I3.len), HS1.out.2.2.2.trans ((ka.trans HS2.out.2.2.2).trans (kb.trans K3)), fun W k => ⟨(by rw [cell_of_row _ _ 0 _ _ _ ((((HS2.out.2.2.2).trans kb).trans K3).trans k |>.block (alloc_at w1 _))]; rfl), (by rw [cell_of_row _ _ 0 _ _ _ ((K3.trans k).block (alloc_at w2 _))]; rfl)⟩⟩; have hls := I3.small; clear I3 K3))
  clear HS1 HS2 ka kb HDe HLd
  have HA : Hid (∀ W, Kept w3 W → Calls Tryd.prog 8 #[] W fun e w' => e = .returned (.bool true) ∧ Kept W w') := HZ.out.1.HA
  have HSs : Hid (∀ W, Kept w3 W → Calls Tryd.prog 9 #[.agg #[.slice sp sn sc], .slice xp xn xc] W fun e w' => e = .returned (.bool true) ∧ Kept W w') := HZ.out.1.HSs
  have HSt : Hid (∀ W, Kept w3 W → Calls Tryd.prog 9 #[.agg #[.slice tp tn tc], .slice yp yn yc] W fun e w' => e = .returned (.bool true) ∧ Kept W w') := HZ.out.1.HSt
  have HOr : Hid (∀ W, Kept w3 W → Calls Tryd.prog 10 #[.agg #[.slice sp sn sc], .agg #[.slice tp tn tc]] W fun e w' => ∃ q m k, e = .returned (.agg #[.slice q m k]) ∧ St w' q m k (mrg orf P Q) ∧ Kept W w') := HZ.out.1.HOr
  have HROr : Hid (∀ W, Kept w3 W → Calls Tryd.prog 11 #[.slice xp xn xc, .slice yp yn yc] W fun e w' => ∃ q m k, e = .returned (.slice q m k) ∧ Il w' q m k (ni (mrg orf P Q)) ∧ Kept W w') := HZ.out.1.HROr
  have HSOr : Hid (∀ W q m k q' m' k', Kept w3 W → St W q m k (mrg orf P Q) → Il W q' m' k' (ni (mrg orf P Q)) → Calls Tryd.prog 9 #[.agg #[.slice q m k], .slice q' m' k'] W fun e w' => e = .returned (.bool true) ∧ Kept W w') := HZ.out.1.HSOr
  have HAn : Hid (∀ W, Kept w3 W → Calls Tryd.prog 12 #[.agg #[.slice sp sn sc], .agg #[.slice tp tn tc]] W fun e w' => ∃ q m k, e = .returned (.agg #[.slice q m k]) ∧ St w' q m k (mrg anf P Q) ∧ Kept W w') := HZ.out.1.HAn
  have HRAn : Hid (∀ W, Kept w3 W → Calls Tryd.prog 13 #[.slice xp xn xc, .slice yp yn yc] W fun e w' => ∃ q m k, e = .returned (.slice q m k) ∧ Il w' q m k (ni (mrg anf P Q)) ∧ Kept W w') := HZ.out.1.HRAn
  have HSAn : Hid (∀ W q m k q' m' k', Kept w3 W → St W q m k (mrg anf P Q) → Il W q' m' k' (ni (mrg anf P Q)) → Calls Tryd.prog 9 #[.agg #[.slice q m k], .slice q' m' k'] W fun e w' => e = .returned (.bool true) ∧ Kept W w') := HZ.out.1.HSAn
  have HLe : Hid (∀ W, Kept w3 W → Calls Tryd.prog 14 #[.agg #[.slice sp sn sc], .agg #[.slice tp tn tc]] W fun e w' => ∃ q m k, e = .returned (.agg #[.slice q m k]) ∧ St w' q m k (mrg lef P Q) ∧ Kept W w') := HZ.out.1.HLe
  have HRLe : Hid (∀ W, Kept w3 W → Calls Tryd.prog 7 #[.slice xp xn xc, .slice yp yn yc] W fun e w' => ∃ q m k, e = .returned (.slice q m k) ∧ Il w' q m k (ni (mrg lef P Q)) ∧ Kept W w') := HZ.out.1.HRLe
  have HSLe : Hid (∀ W q m k q' m' k', Kept w3 W → St W q m k (mrg lef P Q) → Il W q' m' k' (ni (mrg lef P Q)) → Calls Tryd.prog 9 #[.agg #[.slice q m k], .slice q' m' k'] W fun e w' => e = .returned (.bool true) ∧ Kept W w') := HZ.out.1.HSLe
  have HWi : Hid (∀ W, Kept w3 W → Calls Tryd.prog 15 #[.agg #[.slice sp sn sc], .agg #[.slice tp tn tc]] W fun e w' => e = .returned (.bool ((ln : Int) == 0)) ∧ Kept W w') := HZ.out.1.HWi
  have HSm : Hid (∀ W, Kept w3 W → Calls Tryd.prog 16 #[.agg #[.slice sp sn sc], .agg #[.slice tp tn tc]] W fun e w' => e = .returned (.bool de) ∧ Kept W w') := HZ.out.1.HSm
  have HRm : Hid (∀ W, Kept w3 W → Calls Tryd.prog 17 #[.slice xp xn xc, .slice yp yn yc] W fun e w' => e = .returned (.bool de) ∧ Kept W w') := HZ.out.1.HRm
  have HO2 : Hid (∀ W, Kept w3 W → Calls Tryd.prog 10 #[.agg #[.slice tp tn tc], .agg #[.slice sp sn sc]] W fun e w' => ∃ q m k, e = .returned (.agg #[.slice q m k]) ∧ St w' q m k (mrg orf Q P) ∧ Kept W w') := HZ.out.1.HO2
  have HE2 : Hid (∀ W q m k q' m' k', Kept w3 W → St W q m k (mrg orf P Q) → St W q' m' k' (mrg orf Q P) → Calls Tryd.prog 16 #[.agg #[.slice q m k], .agg #[.slice q' m' k']] W fun e w' => e = .returned (.bool true) ∧ Kept W w') := HZ.out.1.HE2
  have HC : Hid (∀ W, Kept w3 W → W.cell? ⟨w1.heap.size, 0, none⟩ = some (.slice sp sn sc) ∧ W.cell? ⟨w2.heap.size, 0, none⟩ = some (.slice tp tn tc)) := HZ.out.2.2
  have HK : Hid (Kept w w3) := HZ.out.2.1
  clear HZ
  have TOr : Hid True := trivial
  have TAn : Hid True := trivial
  have TLe : Hid True := trivial
  have kr : Kept w3 w3 := Kept.refl w3
  dsimp only [List.append_eq, List.cons_append, List.nil_append]
  go_region_held3 (fun W => W.cell? ⟨w1.heap.size, 0, none⟩ = some (.slice sp sn sc) ∧ W.cell? ⟨w2.heap.size, 0, none⟩ = some (.slice tp tn tc)) (exact HC.out _ (by (repeat (first | assumption | exact Kept.refl _ | apply Kept.drew)))) (first
    | (go_at_call 8; (with_reducible refine (HA.out _ (by (repeat (first | assumption | exact Kept.refl _ | apply Kept.drew)))).mono ?_); rintro e w' ⟨rfl, hl⟩; have hk : Kept w3 w' := Kept.trans (by (repeat (first | assumption | exact Kept.refl _ | apply Kept.drew))) hl; clear hl)
    | (go_at_call 10; (with_reducible refine (HOr.out _ (by (repeat (first | assumption | exact Kept.refl _ | apply Kept.drew)))).mono ?_); rintro e wa ⟨qOr, mOr, kOr, rfl, SOOr, hl⟩; have hk : Kept w3 wa := Kept.trans (by (repeat (first | assumption | exact Kept.refl _ | apply Kept.drew))) hl; clear hl TOr)
    | (go_at_call 11; (with_reducible refine (HROr.out _ (by (repeat (first | assumption | exact Kept.refl _ | apply Kept.drew)))).mono ?_); rintro e w' ⟨q', m', k', rfl, I5, hl⟩; have hk : Kept w3 w' := Kept.trans (by (repeat (first | assumption | exact Kept.refl _ | apply Kept.drew))) hl; have g5 := HSOr.out _ _ _ _ _ _ _ hk (SOOr.kept hl) I5; clear hl I5 SOOr)
    | (go_at_call 12; (with_reducible refine (HAn.out _ (by (repeat (first | assumption | exact Kept.refl _ | apply Kept.drew)))).mono ?_); rintro e wa ⟨qAn, mAn, kAn, rfl, SOAn, hl⟩; have hk : Kept w3 wa := Kept.trans (by (repeat (first | assumption | exact Kept.refl _ | apply Kept.drew))) hl; clear hl TAn)
    | (go_at_call 13; (with_reducible refine (HRAn.out _ (by (repeat (first | assumption | exact Kept.refl _ | apply Kept.drew)))).mono ?_); rintro e w' ⟨q', m', k', rfl, I5, hl⟩; have hk : Kept w3 w' := Kept.trans (by (repeat (first | assumption | exact Kept.refl _ | apply Kept.drew))) hl; have g5 := HSAn.out _ _ _ _ _ _ _ hk (SOAn.kept hl) I5; clear hl I5 SOAn)
    | (go_at_call 14; (with_reducible refine (HLe.out _ (by (repeat (first | assumption | exact Kept.refl _ | apply Kept.drew)))).mono ?_); rintro e wa ⟨qLe, mLe, kLe, rfl, SOLe, hl⟩; have hk : Kept w3 wa := Kept.trans (by (repeat (first | assumption | exact Kept.refl _ | apply Kept.drew))) hl; clear hl TLe)
    | (go_at_call 7; (with_reducible refine (HRLe.out _ (by (repeat (first | assumption | exact Kept.refl _ | apply Kept.drew)))).mono ?_); rintro e w' ⟨q', m', k', rfl, I5, hl⟩; have hk : Kept w3 w' := Kept.trans (by (repeat (first | assumption | exact Kept.refl _ | apply Kept.drew))) hl; have g5 := HSLe.out _ _ _ _ _ _ _ hk (SOLe.kept hl) I5; clear hl I5 SOLe)
    | (go_at_call 9; (with_reducible refine g5.mono ?_); clear g5; rintro e w' ⟨rfl, hl⟩; have hk : Kept w3 w' := Kept.trans (by (repeat (first | assumption | exact Kept.refl _ | apply Kept.drew))) hl; clear hl)
    | (go_at_call 15; (with_reducible refine (HWi.out _ (by (repeat (first | assumption | exact Kept.refl _ | apply Kept.drew)))).mono ?_); rintro e w' ⟨rfl, hl⟩; have hk : Kept w3 w' := Kept.trans (by (repeat (first | assumption | exact Kept.refl _ | apply Kept.drew))) hl; clear hl)
    | (go_at_call 16; (with_reducible refine g6.mono ?_); clear g6; rintro e w' ⟨rfl, hl⟩; have hk : Kept w3 w' := Kept.trans (by (repeat (first | assumption | exact Kept.refl _ | apply Kept.drew))) hl; clear hl)
    | (go_at_call 16; (with_reducible refine (HSm.out _ (by (repeat (first | assumption | exact Kept.refl _ | apply Kept.drew)))).mono ?_); rintro e w' ⟨rfl, hl⟩; have hk : Kept w3 w' := Kept.trans (by (repeat (first | assumption | exact Kept.refl _ | apply Kept.drew))) hl; clear hl)
    | (go_at_call 17; (with_reducible refine (HRm.out _ (by (repeat (first | assumption | exact Kept.refl _ | apply Kept.drew)))).mono ?_); rintro e w' ⟨rfl, hl⟩; have hk : Kept w3 w' := Kept.trans (by (repeat (first | assumption | exact Kept.refl _ | apply Kept.drew))) hl; clear hl)
    | (go_at_call 10; (with_reducible refine (HO2.out _ (by (repeat (first | assumption | exact Kept.refl _ | apply Kept.drew)))).mono ?_); rintro e w' ⟨q', m', k', rfl, S5, hl⟩; have hk : Kept w3 w' := Kept.trans (by (repeat (first | assumption | exact Kept.refl _ | apply Kept.drew))) hl; have g6 := HE2.out _ _ _ _ _ _ _ hk (SOb.kept hl) S5; clear hl S5 SOb)
    | (go_at_call 10; (with_reducible refine (HOr.out _ (by (repeat (first | assumption | exact Kept.refl _ | apply Kept.drew)))).mono ?_); rintro e wb ⟨qb, mb, kb', rfl, SOb, hl⟩; have hk : Kept w3 wb := Kept.trans (by (repeat (first | assumption | exact Kept.refl _ | apply Kept.drew))) hl; clear hl)
    | (go_at_call 9; (with_reducible refine (HSs.out _ (by (repeat (first | assumption | exact Kept.refl _ | apply Kept.drew)))).mono ?_); rintro e w' ⟨rfl, hl⟩; have hk : Kept w3 w' := Kept.trans (by (repeat (first | assumption | exact Kept.refl _ | apply Kept.drew))) hl; clear hl)
    | (go_at_call 9; (with_reducible refine (HSt.out _ (by (repeat (first | assumption | exact Kept.refl _ | apply Kept.drew)))).mono ?_); rintro e w' ⟨rfl, hl⟩; have hk : Kept w3 w' := Kept.trans (by (repeat (first | assumption | exact Kept.refl _ | apply Kept.drew))) hl; clear hl))
  all_goals (try (go_wp2_with fail))
  all_goals go_ret
  all_goals exact ⟨rfl, HK.out.trans (by assumption)⟩
end Go.Proofs.YtanccfbbaeocaaaDoor.Bt
