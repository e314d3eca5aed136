/- The walk of word. Conditions: texts are within a bound. -/
import Derived.Test.YtgjhonphnecdhaaMH
namespace Go.Proofs.Ytgjhonphnecdhaa.Lx
open Go.ChangeShapes Go.WideShapes Go.ChangeAt Go.RowKit

/-- A word stored whole. -/
def st4 (w : World) (b : Nat) (k a n : Int) (t : ByteArray) : World := (((w.setCell ⟨b, 0, none⟩ (.int .i64 k)).setCell ⟨b, 1, none⟩ (.int .i64 a)).setCell ⟨b, 2, none⟩ (.int .i64 n)).setCell ⟨b, 3, none⟩ (.string t)
theorem T4.fill {w : World} {b : Nat} {x y z : Int} {u : ByteArray} (h : T4 w b x y z u) (k a n : Int) (t : ByteArray) : T4 (st4 w b k a n t) b k a n t := (((h.set0 k).set1 a).set2 n).set3 t
theorem kept_st4 {v w : World} (h : Kept v w) {b : Nat} (hb : v.heap.size ≤ b) (k a n : Int) (t : ByteArray) : Kept v (st4 w b k a n t) :=
  (((h.setCell (p := ⟨b, 0, none⟩) hb _).setCell (p := ⟨b, 1, none⟩) hb _).setCell (p := ⟨b, 2, none⟩) hb _).setCell (p := ⟨b, 3, none⟩) hb _
theorem T4.ready {w : World} {b : Nat} {x y z : Int} {u : ByteArray} (h : T4 w b x y z u) (k a n : Int) :
    (w.cell? ⟨b, 0, none⟩ = some (.int .i64 x) ∧ w.frozen? ⟨b, 0, none⟩ = false) ∧
    ((w.setCell ⟨b, 0, none⟩ (.int .i64 k)).cell? ⟨b, 1, none⟩ = some (.int .i64 y) ∧ (w.setCell ⟨b, 0, none⟩ (.int .i64 k)).frozen? ⟨b, 1, none⟩ = false) ∧
    (((w.setCell ⟨b, 0, none⟩ (.int .i64 k)).setCell ⟨b, 1, none⟩ (.int .i64 a)).cell? ⟨b, 2, none⟩ = some (.int .i64 z) ∧ ((w.setCell ⟨b, 0, none⟩ (.int .i64 k)).setCell ⟨b, 1, none⟩ (.int .i64 a)).frozen? ⟨b, 2, none⟩ = false) ∧
    ((((w.setCell ⟨b, 0, none⟩ (.int .i64 k)).setCell ⟨b, 1, none⟩ (.int .i64 a)).setCell ⟨b, 2, none⟩ (.int .i64 n)).cell? ⟨b, 3, none⟩ = some (.string u) ∧ (((w.setCell ⟨b, 0, none⟩ (.int .i64 k)).setCell ⟨b, 1, none⟩ (.int .i64 a)).setCell ⟨b, 2, none⟩ (.int .i64 n)).frozen? ⟨b, 3, none⟩ = false) :=
  ⟨⟨h.cs.1, h.fz 0⟩, ⟨(h.set0 k).cs.2.1, (h.set0 k).fz 1⟩, ⟨((h.set0 k).set1 a).cs.2.2.1, ((h.set0 k).set1 a).fz 2⟩, ⟨(((h.set0 k).set1 a).set2 n).cs.2.2.2, (((h.set0 k).set1 a).set2 n).fz 3⟩⟩
theorem T4.drew {w : World} {b : Nat} {k a n : Int} {t : ByteArray} (h : T4 w b k a n t) : T4 w.drew b k a n t := h.kept (Kept.refl _).drew

/-- The two words that word holds: the one that it makes, and the one that it returns. -/
structure Two (w : World) (b0 b1 : Nat) (W : World) (k a n : Int) (t : ByteArray) : Prop where
  r : T4 W b0 0 0 0 ⟨#[]⟩
  m : T4 W b1 k a n t
  ke : Kept w W
  ne : b0 ≠ b1
  ge : w.heap.size ≤ b0 ∧ w.heap.size ≤ b1
theorem oth {w : World} {b b' j : Nat} {k a n : Int} {t : ByteArray} (h : T4 w b k a n t) (hne : b ≠ b') (v : Value) : T4 (w.setCell ⟨b', j, none⟩ v) b k a n t := ⟨by rw [heap_setCell_other w ⟨b', j, none⟩ b v hne]; exact h.out⟩
theorem Two.set0 {w W : World} {b0 b1 : Nat} {k a n : Int} {t : ByteArray} (h : Two w b0 b1 W k a n t) (y : Int) : Two w b0 b1 (W.setCell ⟨b1, 0, none⟩ (.int .i64 y)) y a n t := ⟨oth h.r h.ne _, h.m.set0 y, h.ke.setCell (p := ⟨b1, 0, none⟩) h.ge.2 _, h.ne, h.ge⟩
theorem Two.set2 {w W : World} {b0 b1 : Nat} {k a n : Int} {t : ByteArray} (h : Two w b0 b1 W k a n t) (y : Int) : Two w b0 b1 (W.setCell ⟨b1, 2, none⟩ (.int .i64 y)) k a y t := ⟨oth h.r h.ne _, h.m.set2 y, h.ke.setCell (p := ⟨b1, 2, none⟩) h.ge.2 _, h.ne, h.ge⟩
theorem Two.set3 {w W : World} {b0 b1 : Nat} {k a n : Int} {t : ByteArray} (h : Two w b0 b1 W k a n t) (y : ByteArray) : Two w b0 b1 (W.setCell ⟨b1, 3, none⟩ (.string y)) k a n y := ⟨oth h.r h.ne _, h.m.set3 y, h.ke.setCell (p := ⟨b1, 3, none⟩) h.ge.2 _, h.ne, h.ge⟩
theorem Two.kept {w W W' : World} {b0 b1 : Nat} {k a n : Int} {t : ByteArray} (h : Two w b0 b1 W k a n t) (q : Kept W W') : Two w b0 b1 W' k a n t := ⟨h.r.kept q, h.m.kept q, h.ke.trans q, h.ne, h.ge⟩
theorem two_made (w : World) (a : Int) : Two w w.heap.size (w.alloc (.cells #[.int .i64 0, .int .i64 0, .int .i64 0, .string ⟨#[]⟩] 33)).heap.size ((w.alloc (.cells #[.int .i64 0, .int .i64 0, .int .i64 0, .string ⟨#[]⟩] 33)).alloc (.cells #[.int .i64 0, .int .i64 a, .int .i64 0, .string ⟨#[]⟩] 33)) 0 a 0 ⟨#[]⟩ :=
  ⟨(T4.made w 0 0 0 ⟨#[]⟩).kept ((Kept.refl _).alloc _), T4.made _ 0 a 0 ⟨#[]⟩, ((Kept.refl w).alloc _).alloc _, by rw [size_alloc]; omega, ⟨Nat.le_refl _, by rw [size_alloc]; omega⟩⟩

set_option maxRecDepth 100000 in
set_option maxHeartbeats 1000000 in
theorem word_name_kept (s : ByteArray) (i : Nat) (hi : i < s.size) (hs : s.size ≤ 1000000) (h3 : knd (bt s i) = 3) (hk : kept (s.extract i (run isN s i)) = true) (w : World) :
    Calls Try.prog 17 #[.string s, .int .i64 (i : Nat)] w fun e w' => e = .returned (.agg #[.int .i64 3, .int .i64 (i : Nat), .int .i64 0, .string (s.extract i (run isN s i))]) ∧ Kept w w' := by
  have hx0 := bt_get s i hi
  have f1 := fun W => kind_walk (bt s i) W
  have f2 : ∀ W, Calls Try.prog 23 #[.string s, .int .i64 (i : Nat), .func (.func 24) #[] #[]] W fun e w' => e = .returned (.int .i64 (run isN s i : Nat)) ∧ w' = W := fun W => past_name s i hs W
  have hle := run_le (p := isN) (Nat.le_of_lt hi)
  have hge := run_ge isN s i
  have f3 := fun W => kept_walk (s.extract i (run isN s i)) W
  rw [hk] at f3
  rw [h3] at f1
  generalize run isN s i = r at *
  generalize hy : bt s i = y at *
  clear hy h3 hk
  have z := two_made w i
  generalize hW1 : w.alloc (.cells #[.int .i64 0, .int .i64 0, .int .i64 0, .string ⟨#[]⟩] 33) = W1 at *
  have Z0 : Hid (Two w w.heap.size W1.heap.size (W1.alloc (.cells #[.int .i64 0, .int .i64 (i : Nat), .int .i64 0, .string ⟨#[]⟩] 33)) 0 (i : Nat) 0 ⟨#[]⟩) := z
  clear z
  go_enter Try.func17, Try.ntmps17
  go_wp2_with (go_at_call 22; (with_reducible refine (f1 _).mono ?_); rintro e w1 ⟨rfl, hw1⟩; subst hw1)
  generalize hW2 : W1.alloc (.cells #[.int .i64 0, .int .i64 (i : Nat), .int .i64 0, .string ⟨#[]⟩] 33) = W2 at *
  clear hW2
  obtain ⟨c0, c1, c2, c3⟩ := Z0.out.m.cs
  have cf0 := Z0.out.m.fz 0
  have cf2 := Z0.out.m.fz 2
  have cf3 := Z0.out.m.fz 3
  go_region_with (first
    | ((go_at_call 23; (with_reducible refine (f2 _).mono ?_); rintro e w1 ⟨rfl, hw1⟩; subst hw1)))
  generalize hW3 : ((W2.setCell ⟨W1.heap.size, 0, none⟩ (.int .i64 1)).setCell ⟨W1.heap.size, 3, none⟩ (.string (s.extract i r))).drew = W3
  have Z3 : Hid (Two w w.heap.size W1.heap.size W3 1 (i : Nat) 0 (s.extract i r)) := by show Two _ _ _ _ _ _ _ _; rw [← hW3]; exact ((Z0.out.set0 1).set3 (s.extract i r)).kept (Kept.refl _).drew
  clear hW3 c0 c1 c2 c3 cf0 cf2 cf3
  obtain ⟨d0, d1, d2, d3⟩ := Z3.out.m.cs
  have df0 := Z3.out.m.fz 0
  have df2 := Z3.out.m.fz 2
  have df3 := Z3.out.m.fz 3
  have Z4 : Hid (Two w w.heap.size W1.heap.size (W3.setCell ⟨W1.heap.size, 0, none⟩ (.int .i64 3)) 3 (i : Nat) 0 (s.extract i r)) := Z3.out.set0 3
  obtain ⟨x0, x1, x2, x3⟩ := Z4.out.m.cs
  obtain ⟨⟨r0, q0⟩, ⟨r1, q1⟩, ⟨r2, q2⟩, r3, q3⟩ := Z4.out.r.ready 3 (i : Nat) 0
  go_wp2_with (go_at_call 12; (with_reducible refine (f3 _).mono ?_); rintro e w1 ⟨rfl, hw1⟩; subst hw1)
  refine bodyPost_ret (v := .agg #[.int .i64 3, .int .i64 (i : Nat), .int .i64 0, .string (s.extract i r)]) ?_ rfl ⟨rfl, ?_⟩
  · exact results_cell_row rfl _ _ w.heap.size 33 _ (0, 0) _ rfl (Z4.out.r.fill 3 (i : Nat) 0 (s.extract i r)).out Try.underlying33 rfl size33
  · exact kept_st4 Z4.out.ke (Nat.le_refl _) _ _ _ _

set_option maxRecDepth 100000 in
set_option maxHeartbeats 1000000 in
theorem word_name_free (s : ByteArray) (i : Nat) (hi : i < s.size) (hs : s.size ≤ 1000000) (h3 : knd (bt s i) = 3) (hk : kept (s.extract i (run isN s i)) = false) (w : World) :
    Calls Try.prog 17 #[.string s, .int .i64 (i : Nat)] w fun e w' => e = .returned (.agg #[.int .i64 1, .int .i64 (i : Nat), .int .i64 0, .string (s.extract i (run isN s i))]) ∧ Kept w w' := by
  have hx0 := bt_get s i hi
  have f1 := fun W => kind_walk (bt s i) W
  have f2 : ∀ W, Calls Try.prog 23 #[.string s, .int .i64 (i : Nat), .func (.func 24) #[] #[]] W fun e w' => e = .returned (.int .i64 (run isN s i : Nat)) ∧ w' = W := fun W => past_name s i hs W
  have hle := run_le (p := isN) (Nat.le_of_lt hi)
  have hge := run_ge isN s i
  have f3 := fun W => kept_walk (s.extract i (run isN s i)) W
  rw [hk] at f3
  rw [h3] at f1
  generalize run isN s i = r at *
  generalize hy : bt s i = y at *
  clear hy h3 hk
  have z := two_made w i
  generalize hW1 : w.alloc (.cells #[.int .i64 0, .int .i64 0, .int .i64 0, .string ⟨#[]⟩] 33) = W1 at *
  have Z0 : Hid (Two w w.heap.size W1.heap.size (W1.alloc (.cells #[.int .i64 0, .int .i64 (i : Nat), .int .i64 0, .string ⟨#[]⟩] 33)) 0 (i : Nat) 0 ⟨#[]⟩) := z
  clear z
  go_enter Try.func17, Try.ntmps17
  go_wp2_with (go_at_call 22; (with_reducible refine (f1 _).mono ?_); rintro e w1 ⟨rfl, hw1⟩; subst hw1)
  generalize hW2 : W1.alloc (.cells #[.int .i64 0, .int .i64 (i : Nat), .int .i64 0, .string ⟨#[]⟩] 33) = W2 at *
  clear hW2
  obtain ⟨c0, c1, c2, c3⟩ := Z0.out.m.cs
  have cf0 := Z0.out.m.fz 0
  have cf2 := Z0.out.m.fz 2
  have cf3 := Z0.out.m.fz 3
  go_region_with (first
    | ((go_at_call 23; (with_reducible refine (f2 _).mono ?_); rintro e w1 ⟨rfl, hw1⟩; subst hw1)))
  generalize hW3 : ((W2.setCell ⟨W1.heap.size, 0, none⟩ (.int .i64 1)).setCell ⟨W1.heap.size, 3, none⟩ (.string (s.extract i r))).drew = W3
  have Z3 : Hid (Two w w.heap.size W1.heap.size W3 1 (i : Nat) 0 (s.extract i r)) := by show Two _ _ _ _ _ _ _ _; rw [← hW3]; exact ((Z0.out.set0 1).set3 (s.extract i r)).kept (Kept.refl _).drew
  clear hW3 c0 c1 c2 c3 cf0 cf2 cf3
  obtain ⟨d0, d1, d2, d3⟩ := Z3.out.m.cs
  have df0 := Z3.out.m.fz 0
  have df2 := Z3.out.m.fz 2
  have df3 := Z3.out.m.fz 3
  obtain ⟨⟨r0, q0⟩, ⟨r1, q1⟩, ⟨r2, q2⟩, r3, q3⟩ := Z3.out.r.ready 1 (i : Nat) 0
  go_wp2_with (go_at_call 12; (with_reducible refine (f3 _).mono ?_); rintro e w1 ⟨rfl, hw1⟩; subst hw1)
  refine bodyPost_ret (v := .agg #[.int .i64 1, .int .i64 (i : Nat), .int .i64 0, .string (s.extract i r)]) ?_ rfl ⟨rfl, ?_⟩
  · exact results_cell_row rfl _ _ w.heap.size 33 _ (0, 0) _ rfl (Z3.out.r.fill 1 (i : Nat) 0 (s.extract i r)).out Try.underlying33 rfl size33
  · exact kept_st4 Z3.out.ke (Nat.le_refl _) _ _ _ _

set_option maxRecDepth 100000 in
set_option maxHeartbeats 1000000 in
theorem word_num_fits (s : ByteArray) (i : Nat) (hi : i < s.size) (hs : s.size ≤ 1000000) (h4 : knd (bt s i) = 4) (hv : vl s i (run isD s i - i) ≤ 2147483648) (w : World) :
    Calls Try.prog 17 #[.string s, .int .i64 (i : Nat)] w fun e w' => e = .returned (.agg #[.int .i64 2, .int .i64 (i : Nat), .int .i64 (vl s i (run isD s i - i) : Nat), .string (s.extract i (run isD s i))]) ∧ Kept w w' := by
  have hx0 := bt_get s i hi
  have f1 := fun W => kind_walk (bt s i) W
  have f2 : ∀ W, Calls Try.prog 23 #[.string s, .int .i64 (i : Nat), .func (.func 26) #[] #[]] W fun e w' => e = .returned (.int .i64 (run isD s i : Nat)) ∧ w' = W := fun W => past_number s i hs W
  have hle := run_le (p := isD) (Nat.le_of_lt hi)
  have hge := run_ge isD s i
  have hsz : (s.extract i (run isD s i)).size = run isD s i - i := by rw [size_extract]; omega
  have f3 := fun W => number_walk (s.extract i (run isD s i)) (by omega) (fun k hk => by
    rw [bt_extract, if_pos (by omega)]
    have := run_all (p := isD) (s := s) (i := i) (k := i + k) (by omega) (by omega)
    exact knd_dig.1 (by simpa [isD] using this)) W
  rw [hsz, vl_part s i _ _ (by omega)] at f3
  rw [h4] at f1
  generalize vl s i (run isD s i - i) = v at *
  obtain ⟨m, hm⟩ : ∃ m, m = min v 2147483649 := ⟨_, rfl⟩
  rw [← hm] at f3
  obtain rfl : m = v := by omega
  have hm2 : (m : Int) ≤ 2147483648 := by omega
  generalize run isD s i = r at *
  generalize hy : bt s i = y at *
  clear hy h4 hm hsz hv
  have z := two_made w i
  generalize hW1 : w.alloc (.cells #[.int .i64 0, .int .i64 0, .int .i64 0, .string ⟨#[]⟩] 33) = W1 at *
  have Z0 : Hid (Two w w.heap.size W1.heap.size (W1.alloc (.cells #[.int .i64 0, .int .i64 (i : Nat), .int .i64 0, .string ⟨#[]⟩] 33)) 0 (i : Nat) 0 ⟨#[]⟩) := z
  clear z
  go_enter Try.func17, Try.ntmps17
  go_wp2_with (first
    | (go_at_call 22; (with_reducible refine (f1 _).mono ?_); rintro e w1 ⟨rfl, hw1⟩; subst hw1)
    | (go_at_call 23; (with_reducible refine (f2 _).mono ?_); rintro e w1 ⟨rfl, hw1⟩; subst hw1)
    | (go_at_call 27; (with_reducible refine (f3 _).mono ?_); rintro e w3 ⟨rfl, k3⟩; have Z3 : Hid _ := Z0.out.kept k3; clear k3; obtain ⟨d0, d1, d2, d3⟩ := Z3.out.m.cs; have e0 := Z3.out.m.fz 0; obtain ⟨_, _, _, x3⟩ := (Z3.out.set0 2).m.cs; have e3 := (Z3.out.set0 2).m.fz 3; obtain ⟨_, _, y2, _⟩ := ((Z3.out.set0 2).set3 (s.extract i r)).m.cs; have e2 := ((Z3.out.set0 2).set3 (s.extract i r)).m.fz 2; have Z4 : Hid _ := ((Z3.out.set0 2).set3 (s.extract i r)).set2 (m : Nat); obtain ⟨z0, z1, z2, z3⟩ := Z4.out.m.cs; obtain ⟨⟨r0, q0⟩, ⟨r1, q1⟩, ⟨r2, q2⟩, r3, q3⟩ := Z4.out.r.ready 2 (i : Nat) (m : Nat)))
  refine bodyPost_ret (v := .agg #[.int .i64 2, .int .i64 (i : Nat), .int .i64 (m : Nat), .string (s.extract i r)]) ?_ rfl ⟨rfl, ?_⟩
  · exact results_cell_row rfl _ _ w.heap.size 33 _ (0, 0) _ rfl (Z4.out.r.fill 2 (i : Nat) (m : Nat) (s.extract i r)).out Try.underlying33 rfl size33
  · exact kept_st4 Z4.out.ke (Nat.le_refl _) _ _ _ _

set_option maxRecDepth 100000 in
set_option maxHeartbeats 1000000 in
theorem word_num_great (s : ByteArray) (i : Nat) (hi : i < s.size) (hs : s.size ≤ 1000000) (h4 : knd (bt s i) = 4) (hv : ¬ vl s i (run isD s i - i) ≤ 2147483648) (w : World) :
    Calls Try.prog 17 #[.string s, .int .i64 (i : Nat)] w fun e w' => e = .returned (.agg #[.int .i64 0, .int .i64 (i : Nat), .int .i64 0, .string ⟨#[]⟩]) ∧ Kept w w' := by
  have hx0 := bt_get s i hi
  have f1 := fun W => kind_walk (bt s i) W
  have f2 : ∀ W, Calls Try.prog 23 #[.string s, .int .i64 (i : Nat), .func (.func 26) #[] #[]] W fun e w' => e = .returned (.int .i64 (run isD s i : Nat)) ∧ w' = W := fun W => past_number s i hs W
  have hle := run_le (p := isD) (Nat.le_of_lt hi)
  have hge := run_ge isD s i
  have hsz : (s.extract i (run isD s i)).size = run isD s i - i := by rw [size_extract]; omega
  have f3 := fun W => number_walk (s.extract i (run isD s i)) (by omega) (fun k hk => by
    rw [bt_extract, if_pos (by omega)]
    have := run_all (p := isD) (s := s) (i := i) (k := i + k) (by omega) (by omega)
    exact knd_dig.1 (by simpa [isD] using this)) W
  rw [hsz, vl_part s i _ _ (by omega)] at f3
  rw [h4] at f1
  generalize vl s i (run isD s i - i) = v at *
  obtain ⟨m, hm⟩ : ∃ m, m = min v 2147483649 := ⟨_, rfl⟩
  rw [← hm] at f3
  have hm2 : ¬ (m : Int) ≤ 2147483648 := by omega
  generalize run isD s i = r at *
  generalize hy : bt s i = y at *
  clear hy h4 hm hsz hv
  have z := two_made w i
  generalize hW1 : w.alloc (.cells #[.int .i64 0, .int .i64 0, .int .i64 0, .string ⟨#[]⟩] 33) = W1 at *
  have Z0 : Hid (Two w w.heap.size W1.heap.size (W1.alloc (.cells #[.int .i64 0, .int .i64 (i : Nat), .int .i64 0, .string ⟨#[]⟩] 33)) 0 (i : Nat) 0 ⟨#[]⟩) := z
  clear z
  go_enter Try.func17, Try.ntmps17
  go_wp2_with (first
    | (go_at_call 22; (with_reducible refine (f1 _).mono ?_); rintro e w1 ⟨rfl, hw1⟩; subst hw1)
    | (go_at_call 23; (with_reducible refine (f2 _).mono ?_); rintro e w1 ⟨rfl, hw1⟩; subst hw1)
    | (go_at_call 27; (with_reducible refine (f3 _).mono ?_); rintro e w3 ⟨rfl, k3⟩; have Z3 : Hid _ := Z0.out.kept k3; clear k3; obtain ⟨d0, d1, d2, d3⟩ := Z3.out.m.cs; have e0 := Z3.out.m.fz 0; obtain ⟨⟨r0, q0⟩, ⟨r1, q1⟩, ⟨r2, q2⟩, r3, q3⟩ := Z3.out.r.ready 0 (i : Nat) 0))
  refine bodyPost_ret (v := .agg #[.int .i64 0, .int .i64 (i : Nat), .int .i64 0, .string ⟨#[]⟩]) ?_ rfl ⟨rfl, ?_⟩
  · exact results_cell_row rfl _ _ w.heap.size 33 _ (0, 0) _ rfl (Z3.out.r.fill 0 (i : Nat) 0 ⟨#[]⟩).out Try.underlying33 rfl size33
  · exact kept_st4 Z3.out.ke (Nat.le_refl _) _ _ _ _

set_option maxRecDepth 100000 in
set_option maxHeartbeats 1000000 in
theorem word_sign_two (s : ByteArray) (i : Nat) (hi : i < s.size) (hs : s.size ≤ 1000000) (h5 : knd (bt s i) = 5) (h2 : sl s i = 2) (w : World) :
    Calls Try.prog 17 #[.string s, .int .i64 (i : Nat)] w fun e w' => e = .returned (.agg #[.int .i64 4, .int .i64 (i : Nat), .int .i64 0, .string (s.extract i (i + sl s i))]) ∧ Kept w w' := by
  have hx0 := bt_get s i hi
  have f1 := fun W => kind_walk (bt s i) W
  have f2 := fun W => prefix_walk s i hi hs W
  rw [decide_eq_true h2] at f2
  have e2 : s.extract i (i + 2) = ⟨#[61, 61]⟩ := (two_iff s i).2 (by unfold sl at h2; split at h2; assumption; omega)
  rw [h2, e2]
  clear e2
  have hle : i + 1 ≤ s.size := hi
  rw [h5] at f1
  generalize hy : bt s i = y at *
  clear hy h5 h2
  have z := two_made w i
  generalize hW1 : w.alloc (.cells #[.int .i64 0, .int .i64 0, .int .i64 0, .string ⟨#[]⟩] 33) = W1 at *
  have Z0 : Hid (Two w w.heap.size W1.heap.size (W1.alloc (.cells #[.int .i64 0, .int .i64 (i : Nat), .int .i64 0, .string ⟨#[]⟩] 33)) 0 (i : Nat) 0 ⟨#[]⟩) := z
  clear z
  go_enter Try.func17, Try.ntmps17
  go_wp2_with (go_at_call 22; (with_reducible refine (f1 _).mono ?_); rintro e w1 ⟨rfl, hw1⟩; subst hw1)
  generalize hW2 : W1.alloc (.cells #[.int .i64 0, .int .i64 (i : Nat), .int .i64 0, .string ⟨#[]⟩] 33) = W2 at *
  clear hW2
  obtain ⟨c0, c1, c2, c3⟩ := Z0.out.m.cs
  have cf0 := Z0.out.m.fz 0
  have cf2 := Z0.out.m.fz 2
  have cf3 := Z0.out.m.fz 3
  go_region
  generalize hW3 : ((W2.setCell ⟨W1.heap.size, 0, none⟩ (.int .i64 4)).setCell ⟨W1.heap.size, 3, none⟩ (.string (s.extract i (i + 1)))).drew = W3
  have Z3 : Hid (Two w w.heap.size W1.heap.size W3 4 (i : Nat) 0 (s.extract i (i + 1))) := by show Two _ _ _ _ _ _ _ _; rw [← hW3]; exact ((Z0.out.set0 4).set3 (s.extract i (i + 1))).kept (Kept.refl _).drew
  clear hW3 c0 c1 c2 c3 cf0 cf2 cf3
  obtain ⟨d0, d1, d2, d3⟩ := Z3.out.m.cs
  have df0 := Z3.out.m.fz 0
  have df2 := Z3.out.m.fz 2
  have df3 := Z3.out.m.fz 3
  have Z4 : Hid (Two w w.heap.size W1.heap.size (W3.setCell ⟨W1.heap.size, 3, none⟩ (.string ⟨#[61, 61]⟩)) 4 (i : Nat) 0 ⟨#[61, 61]⟩) := Z3.out.set3 ⟨#[61, 61]⟩
  obtain ⟨x0, x1, x2, x3⟩ := Z4.out.m.cs
  obtain ⟨⟨r0, q0⟩, ⟨r1, q1⟩, ⟨r2, q2⟩, r3, q3⟩ := Z4.out.r.ready 4 (i : Nat) 0
  go_wp2_with (go_at_call 28; (with_reducible refine (f2 _).mono ?_); rintro e w1 ⟨rfl, hw1⟩; subst hw1)
  refine bodyPost_ret (v := .agg #[.int .i64 4, .int .i64 (i : Nat), .int .i64 0, .string ⟨#[61, 61]⟩]) ?_ rfl ⟨rfl, ?_⟩
  · exact results_cell_row rfl _ _ w.heap.size 33 _ (0, 0) _ rfl (Z4.out.r.fill 4 (i : Nat) 0 ⟨#[61, 61]⟩).out Try.underlying33 rfl size33
  · exact kept_st4 Z4.out.ke (Nat.le_refl _) _ _ _ _

set_option maxRecDepth 100000 in
set_option maxHeartbeats 1000000 in
theorem word_sign_one (s : ByteArray) (i : Nat) (hi : i < s.size) (hs : s.size ≤ 1000000) (h5 : knd (bt s i) = 5) (h2 : sl s i ≠ 2) (w : World) :
    Calls Try.prog 17 #[.string s, .int .i64 (i : Nat)] w fun e w' => e = .returned (.agg #[.int .i64 4, .int .i64 (i : Nat), .int .i64 0, .string (s.extract i (i + sl s i))]) ∧ Kept w w' := by
  have hx0 := bt_get s i hi
  have f1 := fun W => kind_walk (bt s i) W
  have f2 := fun W => prefix_walk s i hi hs W
  rw [decide_eq_false h2] at f2
  rw [show sl s i = 1 by have := sl_in hi; omega]
  have hle : i + 1 ≤ s.size := hi
  rw [h5] at f1
  generalize hy : bt s i = y at *
  clear hy h5 h2
  have z := two_made w i
  generalize hW1 : w.alloc (.cells #[.int .i64 0, .int .i64 0, .int .i64 0, .string ⟨#[]⟩] 33) = W1 at *
  have Z0 : Hid (Two w w.heap.size W1.heap.size (W1.alloc (.cells #[.int .i64 0, .int .i64 (i : Nat), .int .i64 0, .string ⟨#[]⟩] 33)) 0 (i : Nat) 0 ⟨#[]⟩) := z
  clear z
  go_enter Try.func17, Try.ntmps17
  go_wp2_with (go_at_call 22; (with_reducible refine (f1 _).mono ?_); rintro e w1 ⟨rfl, hw1⟩; subst hw1)
  generalize hW2 : W1.alloc (.cells #[.int .i64 0, .int .i64 (i : Nat), .int .i64 0, .string ⟨#[]⟩] 33) = W2 at *
  clear hW2
  obtain ⟨c0, c1, c2, c3⟩ := Z0.out.m.cs
  have cf0 := Z0.out.m.fz 0
  have cf2 := Z0.out.m.fz 2
  have cf3 := Z0.out.m.fz 3
  go_region
  generalize hW3 : ((W2.setCell ⟨W1.heap.size, 0, none⟩ (.int .i64 4)).setCell ⟨W1.heap.size, 3, none⟩ (.string (s.extract i (i + 1)))).drew = W3
  have Z3 : Hid (Two w w.heap.size W1.heap.size W3 4 (i : Nat) 0 (s.extract i (i + 1))) := by show Two _ _ _ _ _ _ _ _; rw [← hW3]; exact ((Z0.out.set0 4).set3 (s.extract i (i + 1))).kept (Kept.refl _).drew
  clear hW3 c0 c1 c2 c3 cf0 cf2 cf3
  obtain ⟨d0, d1, d2, d3⟩ := Z3.out.m.cs
  have df0 := Z3.out.m.fz 0
  have df2 := Z3.out.m.fz 2
  have df3 := Z3.out.m.fz 3
  obtain ⟨⟨r0, q0⟩, ⟨r1, q1⟩, ⟨r2, q2⟩, r3, q3⟩ := Z3.out.r.ready 4 (i : Nat) 0
  go_wp2_with (go_at_call 28; (with_reducible refine (f2 _).mono ?_); rintro e w1 ⟨rfl, hw1⟩; subst hw1)
  refine bodyPost_ret (v := .agg #[.int .i64 4, .int .i64 (i : Nat), .int .i64 0, .string (s.extract i (i + 1))]) ?_ rfl ⟨rfl, ?_⟩
  · exact results_cell_row rfl _ _ w.heap.size 33 _ (0, 0) _ rfl (Z3.out.r.fill 4 (i : Nat) 0 (s.extract i (i + 1))).out Try.underlying33 rfl size33
  · exact kept_st4 Z3.out.ke (Nat.le_refl _) _ _ _ _

set_option maxRecDepth 100000 in
set_option maxHeartbeats 1000000 in
theorem word_none (s : ByteArray) (i : Nat) (hi : i < s.size) (h3 : knd (bt s i) ≠ 3) (h4 : knd (bt s i) ≠ 4) (h5 : knd (bt s i) ≠ 5) (w : World) :
    Calls Try.prog 17 #[.string s, .int .i64 (i : Nat)] w fun e w' => e = .returned (.agg #[.int .i64 0, .int .i64 (i : Nat), .int .i64 0, .string ⟨#[]⟩]) ∧ Kept w w' := by
  have hx0 := bt_get s i hi
  have f1 := fun W => kind_walk (bt s i) W
  have t3 : ((knd (bt s i) : Nat) == (3 : Int)) = false := by simp; omega
  have t4 : ((knd (bt s i) : Nat) == (4 : Int)) = false := by simp; omega
  have t5 : ((knd (bt s i) : Nat) == (5 : Int)) = false := by simp; omega
  generalize knd (bt s i) = z at *
  generalize hy : bt s i = y at *
  clear hy h3 h4 h5
  have z := two_made w i
  generalize hW1 : w.alloc (.cells #[.int .i64 0, .int .i64 0, .int .i64 0, .string ⟨#[]⟩] 33) = W1 at *
  have Z0 : Hid (Two w w.heap.size W1.heap.size (W1.alloc (.cells #[.int .i64 0, .int .i64 (i : Nat), .int .i64 0, .string ⟨#[]⟩] 33)) 0 (i : Nat) 0 ⟨#[]⟩) := z
  clear z
  obtain ⟨d0, d1, d2, d3⟩ := Z0.out.m.cs
  obtain ⟨⟨r0, q0⟩, ⟨r1, q1⟩, ⟨r2, q2⟩, r3, q3⟩ := Z0.out.r.ready 0 (i : Nat) 0
  go_enter Try.func17, Try.ntmps17
  go_wp2_with (go_at_call 22; (with_reducible refine (f1 _).mono ?_); rintro e w1 ⟨rfl, hw1⟩; subst hw1)
  refine bodyPost_ret (v := .agg #[.int .i64 0, .int .i64 (i : Nat), .int .i64 0, .string ⟨#[]⟩]) ?_ rfl ⟨rfl, ?_⟩
  · exact results_cell_row rfl _ _ w.heap.size 33 _ (0, 0) _ rfl (Z0.out.r.fill 0 (i : Nat) 0 ⟨#[]⟩).out Try.underlying33 rfl size33
  · exact kept_st4 Z0.out.ke (Nat.le_refl _) _ _ _ _

/-- What word says: the word, or one of no kind. -/
def wv (s : ByteArray) (i : Nat) : Tok := (wd s i).getD ⟨0, i, 0, ⟨#[]⟩⟩
theorem word_walk (s : ByteArray) (i : Nat) (hi : i < s.size) (hs : s.size ≤ 1000000) (w : World) :
    Calls Try.prog 17 #[.string s, .int .i64 (i : Nat)] w fun e w' => e = .returned (.agg #[.int .i64 ((wv s i).k : Nat), .int .i64 (i : Nat), .int .i64 ((wv s i).n : Nat), .string (wv s i).t]) ∧ Kept w w' := by
  unfold wv
  by_cases h3 : knd (bt s i) = 3
  · rw [wd_name h3]
    cases hk : kept (s.extract i (run isN s i)) with
    | true => exact word_name_kept s i hi hs h3 hk w
    | false => exact word_name_free s i hi hs h3 hk w
  · by_cases h4 : knd (bt s i) = 4
    · by_cases hv : vl s i (run isD s i - i) ≤ 2147483648
      · rw [wd_num h4 hv]; exact word_num_fits s i hi hs h4 hv w
      · rw [wd_great h4 hv]; exact word_num_great s i hi hs h4 hv w
    · by_cases h5 : knd (bt s i) = 5
      · rw [wd_sign h5]
        by_cases h2 : sl s i = 2
        · exact word_sign_two s i hi hs h5 h2 w
        · exact word_sign_one s i hi hs h5 h2 w
      · rw [wd_none h3 h4 h5]; exact word_none s i hi h3 h4 h5 w
end Go.Proofs.Ytgjhonphnecdhaa.Lx
