/- The walks of Of over whatever bytes, and of awake. Conditions: all bytes are below 256; there are at most 100000. -/
import Derived.Test.YtpefmoddglpbfaaFB
import Derived.Test.YtpefmoddglpbfaaFC
namespace Go.Proofs.Ytpefmoddglpbfaa.Ph
open Go.ChangeShapes Go.WideShapes Go.ChangeAt Go.RowKit
open N (bs numL Small Kept Rd On)

theorem kept_on {w1 w3 w4 : World} (k3 : Kept w1 w3) (o4 : On w1.heap.size w3 w4) : Kept w1 w4 := ⟨k3.out.trans o4.out⟩

set_option maxRecDepth 100000 in
set_option maxHeartbeats 2000000 in
theorem of_any (l l1 l2 l3 : List Nat) (x1 x2 x3 : Int) (n1 n2 n3 : Nat) (hl : Small l) (ht : l.length ≤ 100000) (h1 : pass 7 l 0 = (l1, x1, n1)) (h2 : pass 4611686018427387903 l1 x1 = (l2, x2, n2)) (h3 : pass 4611686018427387903 l2 x2 = (l3, x3, n3)) (w : World) :
    Calls Try.prog 7 #[.string (bs l)] w fun e w' => (fin l3 x3 ≠ 0 → e = .returned (.tuple #[.agg #[.int .i64 0, .int .u64 0, .int .u64 0], .int .i64 (fin l3 x3)])) ∧ (fin l3 x3 = 0 → e = .returned (.tuple #[.agg #[.int .i64 (n1 : Nat), .int .u64 (n2 : Nat), .int .u64 (n3 : Nat)], .int .i64 0])) ∧ Kept w w' := by
  have sl1 : Small l1 := by have := pass_small 7 hl 0; rwa [h1] at this
  have sl2 : Small l2 := by have := pass_small 4611686018427387903 sl1 x1; rwa [h2] at this
  have ln1 : l1.length ≤ 100000 := by have := pass_len 7 l 0; rw [h1] at this; simp only at this; omega
  have ln2 : l2.length ≤ 100000 := by have := pass_len 4611686018427387903 l1 x1; rw [h2] at this; simp only at this; omega
  have hm1 : n1 ≤ 7 := by have := pass_most 7 l 0; rw [h1] at this; exact this
  have HN1 : Hid (∀ W c, Rd W c (bs l) 0 → Calls Try.prog 17 #[.pointer (some ⟨c, 0, none⟩), .int .u64 7] W fun e w' => e = .returned (.int .u64 (n1 : Nat)) ∧ Rd w' c (bs l1) x1 ∧ On c W w') := fun W c k => by
    have := num_pass hl ht 7 k; rw [h1] at this; exact this
  have HN2 : Hid (∀ W c, Rd W c (bs l1) x1 → Calls Try.prog 17 #[.pointer (some ⟨c, 0, none⟩), .int .u64 4611686018427387903] W fun e w' => e = .returned (.int .u64 (n2 : Nat)) ∧ Rd w' c (bs l2) x2 ∧ On c W w') := fun W c k => by
    have := num_pass sl1 ln1 4611686018427387903 k; rw [h2] at this; exact this
  have HN3 : Hid (∀ W c, Rd W c (bs l2) x2 → Calls Try.prog 17 #[.pointer (some ⟨c, 0, none⟩), .int .u64 4611686018427387903] W fun e w' => e = .returned (.int .u64 (n3 : Nat)) ∧ Rd w' c (bs l3) x3 ∧ On c W w') := fun W c k => by
    have := num_pass sl2 ln2 4611686018427387903 k; rw [h3] at this; exact this
  have HE : Hid (∀ W c, Rd W c (bs l3) x3 → Calls Try.prog 18 #[.pointer (some ⟨c, 0, none⟩)] W fun e w' => e = .returned (.int .i64 (fin l3 x3)) ∧ w' = W) := fun W c k => end_is k
  have kA : Kept w (w.alloc (.cells #[.int .i64 0, .int .u64 0, .int .u64 0] 24)) := (Kept.refl w).alloc _
  have Z0 : Hid (L3 (w.alloc (.cells #[.int .i64 0, .int .u64 0, .int .u64 0] 24)) w.heap.size 0 0 0) := L3.made w 0 0 0
  have wr : IntKind.i64.wrap (n1 : Int) = (n1 : Int) := by rw [IntKind.wrap_i64]; omega
  clear hl ht h1 h2 h3 sl1 sl2 ln1 ln2
  generalize fin l3 x3 = y at *
  generalize bs l = t0 at *
  generalize bs l1 = t1 at *
  generalize bs l2 = t2 at *
  generalize bs l3 = t3 at *
  generalize hW0 : w.alloc (.cells #[.int .i64 0, .int .u64 0, .int .u64 0] 24) = W0 at *
  by_cases hy : y = 0
  · subst hy
    go_enter Try.func7, Try.ntmps7
    go_wp2_with (first
      | (go_at_call 16; (with_reducible refine (N.new_walk _ _).mono ?_); rintro e w3 ⟨rfl, r3, k3⟩; have K3 : Hid (Kept W0 w3) := k3; have hn1 := HN1.out _ _ r3; clear k3 r3)
      | (go_at_call 17; (with_reducible refine hn1.mono ?_); rintro e w4 ⟨rfl, r4, o4⟩; have K4 : Hid (Kept W0 w4) := kept_on K3.out o4; have hn2 := HN2.out _ _ r4; clear r4 o4 hn1)
      | (go_at_call 17; (with_reducible refine hn2.mono ?_); rintro e w5 ⟨rfl, r5, o5⟩; have K5 : Hid (Kept W0 w5) := kept_on K4.out o5; have hn3 := HN3.out _ _ r5; clear r5 o5 hn2)
      | (go_at_call 17; (with_reducible refine hn3.mono ?_); rintro e w6 ⟨rfl, r6, o6⟩; have K6 : Hid (Kept W0 w6) := kept_on K5.out o6; have L6 := L3.made w6 (n1 : Nat) (n2 : Nat) (n3 : Nat); have K7 : Hid (Kept W0 (w6.alloc (.cells #[.int .i64 (n1 : Nat), .int .u64 (n2 : Nat), .int .u64 (n3 : Nat)] 24))) := K6.out.alloc _; have he := HE.out _ _ ((Kept.refl w6).alloc (.cells #[.int .i64 (n1 : Nat), .int .u64 (n2 : Nat), .int .u64 (n3 : Nat)] 24) |>.rd r6); obtain ⟨v0, v1, v2⟩ := L6.cs; obtain ⟨⟨g0, h0⟩, ⟨g1, h1⟩, g2, h2⟩ := (Z0.out.kept K7.out).ready (n1 : Nat) (n2 : Nat); clear r6 o6 hn3 L6)
      | (go_at_call 18; (with_reducible refine he.mono ?_); rintro e w7 ⟨rfl, hw7⟩; subst hw7))
    refine bodyPost_ret (v := .tuple #[.agg #[.int .i64 (n1 : Nat), .int .u64 (n2 : Nat), .int .u64 (n3 : Nat)], .int .i64 0]) ?_ rfl ⟨fun h => absurd rfl h, fun _ => rfl, ?_⟩
    · exact results_two (p := 2) (u := 3) (ty := 24) rfl _ _ w.heap.size 24 #[.int .i64 (n1 : Nat), .int .u64 (n2 : Nat), .int .u64 (n3 : Nat)] (0, 0) _ rfl ((Z0.out.kept K7.out).fill (n1 : Nat) (n2 : Nat) (n3 : Nat)).out Try.underlying24 rfl size24
    · exact kept_st (kA.trans K7.out) (Nat.le_refl _) _ _ _
  · have ty : (y == 0) = false := by simp [hy]
    go_enter Try.func7, Try.ntmps7
    go_wp2_with (first
      | (go_at_call 16; (with_reducible refine (N.new_walk _ _).mono ?_); rintro e w3 ⟨rfl, r3, k3⟩; have K3 : Hid (Kept W0 w3) := k3; have hn1 := HN1.out _ _ r3; clear k3 r3)
      | (go_at_call 17; (with_reducible refine hn1.mono ?_); rintro e w4 ⟨rfl, r4, o4⟩; have K4 : Hid (Kept W0 w4) := kept_on K3.out o4; have hn2 := HN2.out _ _ r4; clear r4 o4 hn1)
      | (go_at_call 17; (with_reducible refine hn2.mono ?_); rintro e w5 ⟨rfl, r5, o5⟩; have K5 : Hid (Kept W0 w5) := kept_on K4.out o5; have hn3 := HN3.out _ _ r5; clear r5 o5 hn2)
      | (go_at_call 17; (with_reducible refine hn3.mono ?_); rintro e w6 ⟨rfl, r6, o6⟩; have K6 : Hid (Kept W0 w6) := kept_on K5.out o6; have K7 : Hid (Kept W0 (w6.alloc (.cells #[.int .i64 (n1 : Nat), .int .u64 (n2 : Nat), .int .u64 (n3 : Nat)] 24))) := K6.out.alloc _; have he := HE.out _ _ ((Kept.refl w6).alloc (.cells #[.int .i64 (n1 : Nat), .int .u64 (n2 : Nat), .int .u64 (n3 : Nat)] 24) |>.rd r6); obtain ⟨⟨g0, h0⟩, ⟨g1, h1⟩, g2, h2⟩ := (Z0.out.kept K7.out).ready 0 0; clear r6 o6 hn3)
      | (go_at_call 18; (with_reducible refine he.mono ?_); rintro e w7 ⟨rfl, hw7⟩; subst hw7))
    refine bodyPost_ret (v := .tuple #[.agg #[.int .i64 0, .int .u64 0, .int .u64 0], .int .i64 y]) ?_ rfl ⟨fun _ => rfl, fun h => absurd h hy, ?_⟩
    · exact results_two (p := 2) (u := 3) (ty := 24) rfl _ _ w.heap.size 24 #[.int .i64 0, .int .u64 0, .int .u64 0] (0, 0) _ rfl ((Z0.out.kept K7.out).fill 0 0 0).out Try.underlying24 rfl size24
    · exact kept_st (kA.trans K7.out) (Nat.le_refl _) _ _ _

theorem of_walk (l : List Nat) (hl : Small l) (ht : l.length ≤ 100000) (w : World) :
    Calls Try.prog 7 #[.string (bs l)] w fun e w' => e = .returned (.tuple #[.agg #[.int .i64 ((rec l).2.1 : Nat), .int .u64 ((rec l).2.2.1 : Nat), .int .u64 ((rec l).2.2.2 : Nat)], .int .i64 (rec l).1]) ∧ Kept w w' := by
  rcases h1 : pass 7 l 0 with ⟨l1, x1, n1⟩
  rcases h2 : pass 4611686018427387903 l1 x1 with ⟨l2, x2, n2⟩
  rcases h3 : pass 4611686018427387903 l2 x2 with ⟨l3, x3, n3⟩
  have e1 : x1 ≠ 0 → l1 = [] := by have := pass_none 7 (l := l) (x := 0) (fun h => absurd rfl h); rw [h1] at this; exact this
  have e2 : x2 ≠ 0 → l2 = [] := by have := pass_none 4611686018427387903 e1; rw [h2] at this; exact this
  have e3 : x3 ≠ 0 → l3 = [] := by have := pass_none 4611686018427387903 e2; rw [h3] at this; exact this
  have f := of_any l l1 l2 l3 x1 x2 x3 n1 n2 n3 hl ht h1 h2 h3 w
  by_cases hx : x3 = 0
  · by_cases hn : l3 = []
    · have hf : fin l3 x3 = 0 := by rw [fin, if_pos hn, hx]
      rw [rec_in h1 h2 h3 hx hn]
      exact f.mono fun e w' h => ⟨h.2.1 hf, h.2.2⟩
    · have hf : fin l3 x3 = 5 := by rw [fin, if_neg hn]
      rw [hf] at f
      rw [rec_more h1 h2 h3 hx hn]
      exact f.mono fun e w' h => ⟨h.1 (by decide), h.2.2⟩
  · have hf : fin l3 x3 = x3 := by rw [fin, if_pos (e3 hx)]
    rw [hf] at f
    rw [rec_wrong h1 h2 h3 hx]
    exact f.mono fun e w' h => ⟨h.1 hx, h.2.2⟩

theorem txt_small (a : Int) (s c : Nat) : Small (txt a s c) := by
  unfold txt
  split
  · exact ((N.numL_small _).append ((N.numL_small _).append (N.numL_small _)))
  · exact fun x hx => by cases hx
theorem txt_len (a : Int) (s c : Nat) : (txt a s c).length ≤ 30 := by
  unfold txt
  split
  · next h =>
    obtain ⟨h0, ha, hs, hc⟩ := h
    have z1 := N.numL_ten a.toNat (by omega)
    have z2 := N.numL_ten s (by omega)
    have z3 := N.numL_ten c (by omega)
    rw [List.length_append, List.length_append]; omega
  · exact Nat.zero_le _
theorem rec_txt {a : Int} {s c : Nat} (h : Okr a s c) : rec (txt a s c) = (0, a.toNat, s, c) := by
  unfold txt
  rw [if_pos h]
  exact rec_own (by have := h.2.1; omega) h.2.2.1 h.2.2.2
theorem rec_no {a : Int} {s c : Nat} (h : ¬ Okr a s c) : rec (txt a s c) = (2, 0, 0, 0) := by
  unfold txt
  rw [if_neg h]
  exact rec_nil

set_option maxRecDepth 100000 in
theorem awake_walk (w : World) : Calls Try.prog 8 #[] w fun e w' => e = .returned (.bool true) ∧ Kept w w' := by
  have f1 : ∀ W, Calls Try.prog 6 #[.agg #[.int .i64 1, .int .u64 5, .int .u64 2]] W fun e w' => e = .returned (.string (bs (txt 1 5 2))) ∧ Kept W w' := fun W => text_walk 1 5 2 W
  have f2 : ∀ W, Calls Try.prog 7 #[.string (bs (txt 1 5 2))] W fun e w' => e = .returned (.tuple #[.agg #[.int .i64 1, .int .u64 5, .int .u64 2], .int .i64 0]) ∧ Kept W w' := fun W => by
    have := of_walk (txt 1 5 2) (txt_small 1 5 2) (Nat.le_trans (txt_len 1 5 2) (by decide)) W
    rw [rec_txt (by decide)] at this
    exact this
  generalize bs (txt 1 5 2) = T at *
  go_enter Try.func8, Try.ntmps8
  go_wp2_with (first
    | (go_at_call 6; (with_reducible refine (f1 _).mono ?_); rintro e w1 ⟨rfl, k1⟩; have K1 : Hid (Kept w w1) := k1; clear k1)
    | (go_at_call 7; (with_reducible refine (f2 _).mono ?_); rintro e w2 ⟨rfl, k2⟩; have K2 : Hid (Kept w w2) := K1.out.trans k2; obtain ⟨c0, c1, c2⟩ := (L3.made w2 1 5 2).cs; clear k2))
  go_ret
  exact ⟨rfl, K2.out.alloc _⟩
end Go.Proofs.Ytpefmoddglpbfaa.Ph
