/- The walk of BitsBytes. No condition. -/
import Derived.Test.YtanccfbbaeocaaaLZd
namespace Go.Proofs.Ytanccfbbaeocaaa.Bt
open Go.RowKit Go.Shelf
open N (bs)

theorem len_nm : ∀ {P : List Pt}, Okp P → P.length ≤ (nm P).length
  | [], _ => Nat.le_refl _
  | p :: r, h => by
    obtain ⟨_, h0, h1⟩ := h.may p List.mem_cons_self
    have := len_nm h.tail
    have hb : 0 < (bsw p.2).length := by
      rcases Nat.eq_zero_or_pos (bsw p.2).length with e | e
      · have hs := bsw_sum h1
        rw [List.length_eq_zero_iff.1 e] at hs; simp at hs; omega
      · exact e
    rw [nm_cons, List.length_append, List.length_map, List.length_cons]
    omega
set_option maxRecDepth 100000 in
set_option maxHeartbeats 4000000 in
theorem bytes_law {w : World} {p : Option Addr} {n c : Nat} {zs : List Int} (h : Il w p n c zs) :
    Calls Try.prog 3 #[.slice p n c] w fun e w' => e = .returned (.bool true) ∧ Kept w w' := by
  have f1 := set_walk h
  have HOk : Hid (Okp (pset (zs.take 100))) := pset_ok _
  generalize pset (zs.take 100) = P at *
  clear h
  have HP : Hid (∀ W sp sn sc, St W sp sn sc P → sn ≤ 100 → Calls Try.prog 5 #[.agg #[.slice sp sn sc]] W fun e w' => e = .returned (.string (bs (putL P))) ∧ Kept W w') := fun W sp sn sc hs hn => put_walk hs (by omega)
  have HG : Hid (∀ W, P.length ≤ 100 → Calls Try.prog 6 #[.string (bs (putL P))] W fun e w' => ∃ q n c, e = .returned (.tuple #[.agg #[.slice q n c], .int .i64 0]) ∧ St w' q n c P ∧ Kept W w') := fun W hl => get_walk HOk.out (by omega) W
  have HR : Hid (∀ W xp xn xc, Il W xp xn xc (ni P) → xn ≤ 100 → Calls Try.prog 8 #[.slice xp xn xc] W fun e w' => e = .returned (.string (bs (putL P))) ∧ Kept W w') := fun W xp xn xc hx hn => rput_walk HOk.out hx (by omega)
  have HSm : Hid (∀ W tp tn tc sp sn sc, St W tp tn tc P → St W sp sn sc P → Calls Try.prog 9 #[.agg #[.slice tp tn tc], .agg #[.slice sp sn sc]] W fun e w' => e = .returned (.bool true) ∧ Kept W w') := fun W tp tn tc sp sn sc h1 h2 => by have := same_walk h1 h2; rwa [decide_eq_true rfl] at this
  have HLn : Hid (P.length ≤ (nm P).length) := len_nm HOk.out
  go_enter Try.func3, Try.ntmps3
  go_wp2_with (first
    | (go_at_call 4; (with_reducible refine f1.mono ?_); clear f1; rintro e w1 ⟨sp, sn, sc, xp, xn, xc, rfl, S1, X1, hx, K1⟩; have ka : Kept w1 (w1.alloc (.cells #[.slice sp sn sc] 25)) := (Kept.refl w1).alloc _; have hl : P.length ≤ 100 := (by have e1 := X1.len; rw [ni_length] at e1; have := HLn.out; omega); have f2 := HP.out _ _ _ _ (S1.kept ka) (by rw [← S1.len]; exact hl); have HS1 : Hid (St w1 sp sn sc P ∧ Il w1 xp xn xc (ni P) ∧ xn ≤ 100 ∧ Kept w w1 ∧ P.length ≤ 100) := ⟨S1, X1, hx, K1, hl⟩; clear S1 X1 hx K1 hl)
    | (go_at_call 5; (with_reducible refine f2.mono ?_); clear f2; rintro e w2 ⟨rfl, k2⟩; have f3 := HG.out w2 HS1.out.2.2.2.2)
    | (go_at_call 6; (with_reducible refine f3.mono ?_); clear f3; rintro e w3 ⟨tp, tn, tc, rfl, S3, k3⟩; have kb : Kept w3 (w3.alloc (.cells #[.slice tp tn tc] 25)) := (Kept.refl w3).alloc _; have HS3 : Hid (St w3 tp tn tc P ∧ Kept w1 (w3.alloc (.cells #[.slice tp tn tc] 25))) := ⟨S3, ((ka.trans k2).trans k3).trans kb⟩; have f4 := awake_walk (w3.alloc (.cells #[.slice tp tn tc] 25)); clear S3)
    | (go_at_call 7; (with_reducible refine f4.mono ?_); clear f4; rintro e w4 ⟨rfl, k4⟩; have f5 := HR.out w4 _ _ _ (HS1.out.2.1.kept (HS3.out.2.trans k4)) HS1.out.2.2.1)
    | (go_at_call 8; (with_reducible refine f5.mono ?_); clear f5; rintro e w5 ⟨rfl, k5⟩; have f6 := HSm.out w5 _ _ _ _ _ _ (HS3.out.1.kept ((kb.trans k4).trans k5)) (HS1.out.1.kept ((HS3.out.2.trans k4).trans k5)); have c3 : w5.cell? ⟨w1.heap.size, 0, none⟩ = some (.slice sp sn sc) := (by rw [cell_of_row _ _ 0 _ _ _ ((((((k2.trans k3).trans kb).trans k4).trans k5)).block (alloc_at w1 _))]; rfl); have c6 : w5.cell? ⟨w3.heap.size, 0, none⟩ = some (.slice tp tn tc) := (by rw [cell_of_row _ _ 0 _ _ _ ((k4.trans k5).block (alloc_at w3 _))]; rfl))
    | (go_at_call 9; (with_reducible refine f6.mono ?_); clear f6; rintro e w6 ⟨rfl, k6⟩))
  go_ret
  exact ⟨rfl, HS1.out.2.2.2.1.trans (((HS3.out.2.trans k4).trans k5).trans k6)⟩
end Go.Proofs.Ytanccfbbaeocaaa.Bt
