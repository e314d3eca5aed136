/- The walk of a queue's said where numbers wait. Conditions: those that each row names. -/
import Derived.Test.YtabbfoaojmhajaaQH
namespace Go.Proofs.Ytabbfoaojmhajaa.Q
open Go.ChangeShapes Go.WideShapes Go.ChangeAt Go.RowKit
open N (Kept bs numL keyL Small Rd On)

/-- A token that an arm of a walk takes away. -/
structure Tok (k : Nat) : Prop where
  out : True

set_option maxRecDepth 100000 in
set_option maxHeartbeats 4000000 in
theorem said_one {w : World} {B a b m' : Nat} {nm : List Nat} {f : ByteArray → Option ByteArray} (h : Qs w B a b m' nm f) (x : Nat) (hx : x ≤ 4611686018427387904) (hf : f (bs nm) = some (bs (numL 1 ++ (numL x ++ numL x)))) :
    Calls Try.prog 22 #[.pointer (some ⟨a, 0, none⟩)] w fun e w' => e = .returned (.tuple #[.agg #[.int .u64 1, .int .u64 (x : Nat), .int .u64 (x : Nat), .int .u64 0], .int .i64 0]) ∧ Kept w w' := by

  have hx10 := N.numL_ten x (by omega)
  have hz10 := N.numL_ten x (by omega)
  have HC : Hid (∀ W, Kept w W → W.cell? ⟨a, 0, none⟩ = some (.iface 23 (.pointer (some ⟨b, 0, none⟩))) ∧ W.cell? ⟨a, 1, none⟩ = some (.string (bs nm))) := fun W k => ⟨(h.qa.kept k).c0, (h.qa.kept k).c1⟩
  have kA : Kept w (w.alloc (.cells #[.int .u64 0, .int .u64 0, .int .u64 0, .int .u64 0] 53)).drew := ((Kept.refl w).alloc _).drew
  have hg : Calls Try.prog 49 #[.pointer (some ⟨b, 0, none⟩), .string (bs nm)] (w.alloc (.cells #[.int .u64 0, .int .u64 0, .int .u64 0, .int .u64 0] 53)).drew fun e w' => e = .returned (.tuple #[.string (bs (numL 1 ++ (numL x ++ numL x))), .bool true, .int .i64 0]) ∧ w' = (w.alloc (.cells #[.int .u64 0, .int .u64 0, .int .u64 0, .int .u64 0] 53)).drew := by
    have := get_walk (h.kv.kept kA) (bs nm)
    rw [hf] at this
    exact this
  have HN1 : Hid (∀ W c, Rd W c (bs (numL 1 ++ (numL x ++ numL x))) 0 → Calls Try.prog 25 #[.pointer (some ⟨c, 0, none⟩), .int .u64 4611686018427387905] W fun e w' => e = .returned (.int .u64 1) ∧ Rd w' c (bs (numL x ++ numL x)) 0 ∧ On c W w') := fun W c k => N.rnum_walk 1 (by omega) _ (by rw [List.length_append]; omega) 4611686018427387905 (by omega) k
  have HN2 : Hid (∀ W c, Rd W c (bs (numL x ++ numL x)) 0 → Calls Try.prog 25 #[.pointer (some ⟨c, 0, none⟩), .int .u64 4611686018427387904] W fun e w' => e = .returned (.int .u64 (x : Nat)) ∧ Rd w' c (bs (numL x)) 0 ∧ On c W w') := fun W c k => N.rnum_walk x (by omega) _ (by omega) 4611686018427387904 (by omega) k
  have HN3 : Hid (∀ W c, Rd W c (bs (numL x)) 0 → Calls Try.prog 25 #[.pointer (some ⟨c, 0, none⟩), .int .u64 4611686018427387904] W fun e w' => e = .returned (.int .u64 (x : Nat)) ∧ Rd w' c ⟨#[]⟩ 0 ∧ On c W w') := fun W c k => rnum_in x (by omega) 4611686018427387904 (by omega) k
  have mg := fun w => m_get w b
  have Z0 : Hid (L4 (w.alloc (.cells #[.int .u64 0, .int .u64 0, .int .u64 0, .int .u64 0] 53)).drew w.heap.size 0 0 0 0) := (L4.made w 0 0 0 0).kept (Kept.refl _).drew
  clear h hf hx10 hz10
  generalize bs nm = ky at *
  generalize bs (numL 1 ++ (numL x ++ numL x)) = t1 at *
  generalize bs (numL x ++ numL x) = t2 at *
  generalize bs (numL x) = t3 at *
  go_enter Try.func22, Try.ntmps22
  go_wp2_with fail
  obtain ⟨c0, c1⟩ := HC.out _ (Kept.refl w)
  obtain ⟨d0, d1⟩ := HC.out _ kA
  go_region_held3 (fun W => W.cell? ⟨a, 0, none⟩ = some (.iface 23 (.pointer (some ⟨b, 0, none⟩))) ∧ W.cell? ⟨a, 1, none⟩ = some (.string ky)) (first | exact ⟨d0, d1⟩ | go_keep) (first
    | (go_at_call 49; (with_reducible refine hg.mono ?_); rintro e w2 ⟨rfl, hw2⟩; subst hw2))
  all_goals clear hg c0 c1 d0 d1 mg HC
  all_goals generalize (w.alloc (.cells #[.int .u64 0, .int .u64 0, .int .u64 0, .int .u64 0] 53)).drew = W0 at *
  all_goals have T1 : Tok 1 := ⟨trivial⟩
  all_goals go_wp2_with (first
    | (go_at_call 24; (with_reducible refine (N.new_walk _ _).mono ?_); rintro e w3 ⟨rfl, r3, k3⟩; have K3 : Hid (Kept W0 w3) := k3; have hn1 := HN1.out _ _ r3; clear k3 r3)
    | (go_at_call 25; (with_reducible refine hn1.mono ?_); rintro e w4 ⟨rfl, r4, o4⟩; have K4 : Hid (Kept W0 w4) := kept_on K3.out o4; have O4 : Hid (On W0.heap.size w3 w4) := o4; have hn2 := HN2.out _ _ r4; clear r4 o4 hn1)
    | (go_at_call 25; (with_reducible refine hn2.mono ?_); rintro e w5 ⟨rfl, r5, o5⟩; have K5 : Hid (Kept W0 w5) := kept_on K4.out o5; have hn3 := HN3.out _ _ r5; clear r5 o5 hn2)
    | (go_at_call 25; (with_reducible refine hn3.mono ?_); rintro e w6 ⟨rfl, r6, o6⟩; have K6 : Hid (Kept W0 w6) := kept_on K5.out o6; have L6 := L4.made w6 1 (x : Nat) (x : Nat) 0; have K7 : Hid (Kept W0 (w6.alloc (.cells #[.int .u64 1, .int .u64 (x : Nat), .int .u64 (x : Nat), .int .u64 0] 53))) := K6.out.alloc _; have he := N.end_walk ((Kept.refl w6).alloc (.cells #[.int .u64 1, .int .u64 (x : Nat), .int .u64 (x : Nat), .int .u64 0] 53) |>.rd r6); obtain ⟨x0, x1, x2, x3⟩ := L6.cs; obtain ⟨⟨g0, h0⟩, ⟨g1, h1⟩, ⟨g2, h2⟩, g3, h3⟩ := (Z0.out.kept K7.out).ready 1 (x : Nat) (x : Nat); clear r6 o6 hn3 L6)
    | (go_at_call 26; (with_reducible refine he.mono ?_); rintro e w7 ⟨rfl, hw7⟩; subst hw7))
  all_goals refine bodyPost_ret (v := .tuple #[.agg #[.int .u64 1, .int .u64 (x : Nat), .int .u64 (x : Nat), .int .u64 0], .int .i64 0]) ?_ rfl ⟨rfl, ?_⟩
  · exact results_two (p := 2) (u := 3) (ty := 53) rfl _ _ w.heap.size 53 #[.int .u64 1, .int .u64 (x : Nat), .int .u64 (x : Nat), .int .u64 0] (0, 0) _ rfl ((Z0.out.kept K7.out).fill 1 (x : Nat) (x : Nat) 0).out Try.underlying53 rfl size53
  · exact kept_st (kA.trans K7.out) (Nat.le_refl _) _ _ _ _
set_option maxRecDepth 100000 in
set_option maxHeartbeats 4000000 in
theorem said_more {w : World} {B a b m' : Nat} {nm : List Nat} {f : ByteArray → Option ByteArray} (h : Qs w B a b m' nm f) (x m z : Nat) (hm : 1 < m) (hm2 : m ≤ 4611686018427387905) (hz : z ≤ 4611686018427387904) (hne : x ≠ z) (hx : x ≤ 4611686018427387904) (hf : f (bs nm) = some (bs (numL m ++ (numL x ++ numL z)))) :
    Calls Try.prog 22 #[.pointer (some ⟨a, 0, none⟩)] w fun e w' => e = .returned (.tuple #[.agg #[.int .u64 (m : Nat), .int .u64 (x : Nat), .int .u64 (z : Nat), .int .u64 0], .int .i64 0]) ∧ Kept w w' := by
  have q0 : ((m : Int) == 0) = false := by simp; omega
  have q1 : ((m : Int) == 1) = false := by simp; omega
  have q2 : ((x : Int) == (z : Int)) = false := by simp; omega
  have hx10 := N.numL_ten x (by omega)
  have hz10 := N.numL_ten z (by omega)
  have HC : Hid (∀ W, Kept w W → W.cell? ⟨a, 0, none⟩ = some (.iface 23 (.pointer (some ⟨b, 0, none⟩))) ∧ W.cell? ⟨a, 1, none⟩ = some (.string (bs nm))) := fun W k => ⟨(h.qa.kept k).c0, (h.qa.kept k).c1⟩
  have kA : Kept w (w.alloc (.cells #[.int .u64 0, .int .u64 0, .int .u64 0, .int .u64 0] 53)).drew := ((Kept.refl w).alloc _).drew
  have hg : Calls Try.prog 49 #[.pointer (some ⟨b, 0, none⟩), .string (bs nm)] (w.alloc (.cells #[.int .u64 0, .int .u64 0, .int .u64 0, .int .u64 0] 53)).drew fun e w' => e = .returned (.tuple #[.string (bs (numL m ++ (numL x ++ numL z))), .bool true, .int .i64 0]) ∧ w' = (w.alloc (.cells #[.int .u64 0, .int .u64 0, .int .u64 0, .int .u64 0] 53)).drew := by
    have := get_walk (h.kv.kept kA) (bs nm)
    rw [hf] at this
    exact this
  have HN1 : Hid (∀ W c, Rd W c (bs (numL m ++ (numL x ++ numL z))) 0 → Calls Try.prog 25 #[.pointer (some ⟨c, 0, none⟩), .int .u64 4611686018427387905] W fun e w' => e = .returned (.int .u64 (m : Nat)) ∧ Rd w' c (bs (numL x ++ numL z)) 0 ∧ On c W w') := fun W c k => N.rnum_walk m (by omega) _ (by rw [List.length_append]; omega) 4611686018427387905 (by omega) k
  have HN2 : Hid (∀ W c, Rd W c (bs (numL x ++ numL z)) 0 → Calls Try.prog 25 #[.pointer (some ⟨c, 0, none⟩), .int .u64 4611686018427387904] W fun e w' => e = .returned (.int .u64 (x : Nat)) ∧ Rd w' c (bs (numL z)) 0 ∧ On c W w') := fun W c k => N.rnum_walk x (by omega) _ (by omega) 4611686018427387904 (by omega) k
  have HN3 : Hid (∀ W c, Rd W c (bs (numL z)) 0 → Calls Try.prog 25 #[.pointer (some ⟨c, 0, none⟩), .int .u64 4611686018427387904] W fun e w' => e = .returned (.int .u64 (z : Nat)) ∧ Rd w' c ⟨#[]⟩ 0 ∧ On c W w') := fun W c k => rnum_in z (by omega) 4611686018427387904 (by omega) k
  have mg := fun w => m_get w b
  have Z0 : Hid (L4 (w.alloc (.cells #[.int .u64 0, .int .u64 0, .int .u64 0, .int .u64 0] 53)).drew w.heap.size 0 0 0 0) := (L4.made w 0 0 0 0).kept (Kept.refl _).drew
  clear h hf hx10 hz10
  generalize bs nm = ky at *
  generalize bs (numL m ++ (numL x ++ numL z)) = t1 at *
  generalize bs (numL x ++ numL z) = t2 at *
  generalize bs (numL z) = t3 at *
  go_enter Try.func22, Try.ntmps22
  go_wp2_with fail
  obtain ⟨c0, c1⟩ := HC.out _ (Kept.refl w)
  obtain ⟨d0, d1⟩ := HC.out _ kA
  go_region_held3 (fun W => W.cell? ⟨a, 0, none⟩ = some (.iface 23 (.pointer (some ⟨b, 0, none⟩))) ∧ W.cell? ⟨a, 1, none⟩ = some (.string ky)) (first | exact ⟨d0, d1⟩ | go_keep) (first
    | (go_at_call 49; (with_reducible refine hg.mono ?_); rintro e w2 ⟨rfl, hw2⟩; subst hw2))
  all_goals clear hg c0 c1 d0 d1 mg HC
  all_goals generalize (w.alloc (.cells #[.int .u64 0, .int .u64 0, .int .u64 0, .int .u64 0] 53)).drew = W0 at *
  all_goals have T1 : Tok 1 := ⟨trivial⟩
  all_goals go_wp2_with (first
    | (go_at_call 24; (with_reducible refine (N.new_walk _ _).mono ?_); rintro e w3 ⟨rfl, r3, k3⟩; have K3 : Hid (Kept W0 w3) := k3; have hn1 := HN1.out _ _ r3; clear k3 r3)
    | (go_at_call 25; (with_reducible refine hn1.mono ?_); rintro e w4 ⟨rfl, r4, o4⟩; have K4 : Hid (Kept W0 w4) := kept_on K3.out o4; have O4 : Hid (On W0.heap.size w3 w4) := o4; have hn2 := HN2.out _ _ r4; clear r4 o4 hn1)
    | (go_at_call 25; (with_reducible refine hn2.mono ?_); rintro e w5 ⟨rfl, r5, o5⟩; have K5 : Hid (Kept W0 w5) := kept_on K4.out o5; have hn3 := HN3.out _ _ r5; clear r5 o5 hn2)
    | (go_at_call 25; (with_reducible refine hn3.mono ?_); rintro e w6 ⟨rfl, r6, o6⟩; have K6 : Hid (Kept W0 w6) := kept_on K5.out o6; have L6 := L4.made w6 (m : Nat) (x : Nat) (z : Nat) 0; have K7 : Hid (Kept W0 (w6.alloc (.cells #[.int .u64 (m : Nat), .int .u64 (x : Nat), .int .u64 (z : Nat), .int .u64 0] 53))) := K6.out.alloc _; have he := N.end_walk ((Kept.refl w6).alloc (.cells #[.int .u64 (m : Nat), .int .u64 (x : Nat), .int .u64 (z : Nat), .int .u64 0] 53) |>.rd r6); obtain ⟨x0, x1, x2, x3⟩ := L6.cs; obtain ⟨⟨g0, h0⟩, ⟨g1, h1⟩, ⟨g2, h2⟩, g3, h3⟩ := (Z0.out.kept K7.out).ready (m : Nat) (x : Nat) (z : Nat); clear r6 o6 hn3 L6)
    | (go_at_call 26; (with_reducible refine he.mono ?_); rintro e w7 ⟨rfl, hw7⟩; subst hw7))
  all_goals refine bodyPost_ret (v := .tuple #[.agg #[.int .u64 (m : Nat), .int .u64 (x : Nat), .int .u64 (z : Nat), .int .u64 0], .int .i64 0]) ?_ rfl ⟨rfl, ?_⟩
  · exact results_two (p := 2) (u := 3) (ty := 53) rfl _ _ w.heap.size 53 #[.int .u64 (m : Nat), .int .u64 (x : Nat), .int .u64 (z : Nat), .int .u64 0] (0, 0) _ rfl ((Z0.out.kept K7.out).fill (m : Nat) (x : Nat) (z : Nat) 0).out Try.underlying53 rfl size53
  · exact kept_st (kA.trans K7.out) (Nat.le_refl _) _ _ _ _
end Go.Proofs.Ytabbfoaojmhajaa.Q
