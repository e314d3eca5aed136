/- The walk of the reference's Get: the page that bytes say, and whether its sector is these bytes. Conditions: bytes are below 256. -/
import Derived.Test.YtgpjnmimicoeoaaWalkJ
namespace Go.Proofs.Ytgpjnmimicoeoaa
open Go.ChangeShapes Go.WideShapes Go.ChangeAt Go.RowKit
attribute [local go_sem ↓] Go.wp_at_zero Go.wp_at_succ

/-- While the reference reads: what is left lies there, and the result is empty. -/
structure St (w W : World) (A : ByteArray) : Prop where
  rr : Rr W (w.heap.size + 1) A 0
  pg : Pg W w.heap.size 0 0 0 ⟨#[]⟩ 34
  k : Kept w W

theorem St.start (w : World) (S : ByteArray) : St w ((w.alloc (.cells #[.int .i64 0, .int .i64 0, .int .u64 0, .string ⟨#[]⟩] 34)).alloc (.cells #[.string S, .int .i64 0] 53)) S := by
  refine ⟨?_, ((Kept.refl _).alloc _).pg (Pg.alloc w 0 0 0 ⟨#[]⟩ 34), ((Kept.refl w).alloc _).alloc _⟩
  have := Rr.alloc (w.alloc (.cells #[.int .i64 0, .int .i64 0, .int .u64 0, .string ⟨#[]⟩] 34)) S 0
  rwa [show (w.alloc (.cells #[.int .i64 0, .int .i64 0, .int .u64 0, .string ⟨#[]⟩] 34)).heap.size = w.heap.size + 1 by simp] at this

theorem St.step {w W V : World} {A : ByteArray} (h : St w W A) (q : Kept W V) : St w V A := ⟨q.rr h.rr, q.pg h.pg, h.k.trans q⟩

theorem Pg.far {w : World} {b : Nat} {kd nm g : Int} {s : ByteArray} {t : TypeId} (k : Pg w b kd nm g s t) (a : Addr) (v : Value) (h : b ≠ a.block) : Pg (w.setCell a v) b kd nm g s t :=
  ⟨(heap_setCell_other w a b v h).trans k.out⟩

theorem St.turn {w V : World} {A : ByteArray} (h : St w V A) (A' : ByteArray) :
    St w ((V.setCell ⟨w.heap.size + 1, 0, none⟩ (.string A')).setCell ⟨w.heap.size + 1, 1, none⟩ (.int .i64 0)) A' :=
  ⟨h.rr.fill A' 0, (h.pg.far _ _ (by show w.heap.size ≠ w.heap.size + 1; omega)).far _ _ (by show w.heap.size ≠ w.heap.size + 1; omega),
    (h.k.set (by show w.heap.size ≤ w.heap.size + 1; omega) _).set (by show w.heap.size ≤ w.heap.size + 1; omega) _⟩

set_option maxRecDepth 100000 in
theorem rget_len (S : ByteArray) (h : ¬ (S.size : Int) = 256) (w : World) :
    Calls Try.prog 24 #[.string S] w fun e w' => e = .returned (.tuple #[.agg #[.int .i64 0, .int .i64 0, .int .u64 0, .string ⟨#[]⟩], .bool false]) ∧ Kept w w' := by
  go_enter Try.func24, Try.ntmps24
  go_wp2
  refine bodyPost_ret (v := .tuple #[.agg #[.int .i64 0, .int .i64 0, .int .u64 0, .string ⟨#[]⟩], .bool false]) ?_ rfl ⟨rfl, (Kept.refl w).alloc _⟩
  exact results_two (p := 2) (u := 3) (ty := 34) rfl _ _ w.heap.size 34 _ (0, 0) _ rfl (Pg.alloc w 0 0 0 ⟨#[]⟩ 34).out Try.underlying34 rfl size34

set_option maxRecDepth 100000 in
set_option maxHeartbeats 2000000 in
theorem rget_big (S A1 A2 A3 A4 : ByteArray) (K N G C : Nat) (hz : S.size = 256) (hC : ¬ C ≤ 237)
    (f1 : ∀ W, Calls Try.prog 36 #[.agg #[.string S, .int .i64 0], .int .i64 1] W fun e w' => e = .returned (.tuple #[.agg #[.string A1, .int .i64 0], .int .u64 (K : Nat)]) ∧ Kept W w')
    (f2 : ∀ W, Calls Try.prog 36 #[.agg #[.string A1, .int .i64 0], .int .i64 4] W fun e w' => e = .returned (.tuple #[.agg #[.string A2, .int .i64 0], .int .u64 (N : Nat)]) ∧ Kept W w')
    (f3 : ∀ W, Calls Try.prog 36 #[.agg #[.string A2, .int .i64 0], .int .i64 8] W fun e w' => e = .returned (.tuple #[.agg #[.string A3, .int .i64 0], .int .u64 (G : Nat)]) ∧ Kept W w')
    (f4 : ∀ W, Calls Try.prog 36 #[.agg #[.string A3, .int .i64 0], .int .i64 2] W fun e w' => e = .returned (.tuple #[.agg #[.string A4, .int .i64 0], .int .u64 (C : Nat)]) ∧ Kept W w') (w : World) :
    Calls Try.prog 24 #[.string S] w fun e w' => e = .returned (.tuple #[.agg #[.int .i64 0, .int .i64 0, .int .u64 0, .string ⟨#[]⟩], .bool false]) ∧ Kept w w' := by
  have hC2 : ¬ (C : Int) ≤ 237 := by omega
  go_enter Try.func24, Try.ntmps24
  go_wp2_with (first
    | (go_at_call 36; with_reducible refine (f1 _).mono ?_; rintro e v1 ⟨rfl, q1⟩; have s1 := (St.start w S).step q1; obtain ⟨⟨g10, h10⟩, g11, h11⟩ := s1.rr.ready A1; have t1 := s1.turn A1; have d10 := t1.rr.c0; have d11 := t1.rr.c1)
    | (go_at_call 36; with_reducible refine (f2 _).mono ?_; rintro e v2 ⟨rfl, q2⟩; have s2 := t1.step q2; obtain ⟨⟨g20, h20⟩, g21, h21⟩ := s2.rr.ready A2; have t2 := s2.turn A2; have d20 := t2.rr.c0; have d21 := t2.rr.c1)
    | (go_at_call 36; with_reducible refine (f3 _).mono ?_; rintro e v3 ⟨rfl, q3⟩; have s3 := t2.step q3; obtain ⟨⟨g30, h30⟩, g31, h31⟩ := s3.rr.ready A3; have t3 := s3.turn A3; have d30 := t3.rr.c0; have d31 := t3.rr.c1)
    | (go_at_call 36; with_reducible refine (f4 _).mono ?_; rintro e v4 ⟨rfl, q4⟩; have s4 := t3.step q4; obtain ⟨⟨g40, h40⟩, g41, h41⟩ := s4.rr.ready A4; have t4 := s4.turn A4; obtain ⟨⟨z0, y0⟩, ⟨z1, y1⟩, ⟨z2, y2⟩, z3, y3⟩ := t4.pg.ready 0 0 0))
  refine bodyPost_ret (v := .tuple #[.agg #[.int .i64 0, .int .i64 0, .int .u64 0, .string ⟨#[]⟩], .bool false]) ?_ rfl ⟨rfl, (((t4.k.set (Nat.le_refl _) _).set (Nat.le_refl _) _).set (Nat.le_refl _) _).set (Nat.le_refl _) _⟩
  exact results_two (p := 2) (u := 3) (ty := 34) rfl _ _ w.heap.size 34 _ (0, 0) _ rfl (t4.pg.fill 0 0 0 ⟨#[]⟩).out Try.underlying34 rfl size34

set_option maxRecDepth 100000 in
set_option maxHeartbeats 4000000 in
theorem rget_in (S A1 A2 A3 A4 A5 D P : ByteArray) (K N G C : Nat) (b : Bool) (hz : S.size = 256) (hC : C ≤ 237) (hK : K < 256) (hN : N < 4294967296) (hb : (P.toList == S.toList) = b)
    (f1 : ∀ W, Calls Try.prog 36 #[.agg #[.string S, .int .i64 0], .int .i64 1] W fun e w' => e = .returned (.tuple #[.agg #[.string A1, .int .i64 0], .int .u64 (K : Nat)]) ∧ Kept W w')
    (f2 : ∀ W, Calls Try.prog 36 #[.agg #[.string A1, .int .i64 0], .int .i64 4] W fun e w' => e = .returned (.tuple #[.agg #[.string A2, .int .i64 0], .int .u64 (N : Nat)]) ∧ Kept W w')
    (f3 : ∀ W, Calls Try.prog 36 #[.agg #[.string A2, .int .i64 0], .int .i64 8] W fun e w' => e = .returned (.tuple #[.agg #[.string A3, .int .i64 0], .int .u64 (G : Nat)]) ∧ Kept W w')
    (f4 : ∀ W, Calls Try.prog 36 #[.agg #[.string A3, .int .i64 0], .int .i64 2] W fun e w' => e = .returned (.tuple #[.agg #[.string A4, .int .i64 0], .int .u64 (C : Nat)]) ∧ Kept W w')
    (f5 : ∀ W, Calls Try.prog 37 #[.agg #[.string A4, .int .i64 0], .int .i64 (C : Nat)] W fun e w' => e = .returned (.tuple #[.agg #[.string A5, .int .i64 0], .string D]) ∧ Kept W w')
    (f7 : ∀ W, Calls Try.prog 12 #[.agg #[.int .i64 (K : Nat), .int .i64 (N : Nat), .int .u64 (G : Nat), .string D]] W fun e w' => e = .returned (.string P) ∧ Kept W w') (w : World) :
    Calls Try.prog 24 #[.string S] w fun e w' => e = .returned (.tuple #[.agg #[.int .i64 (K : Nat), .int .i64 (N : Nat), .int .u64 (G : Nat), .string D], .bool b]) ∧ Kept w w' := by
  have hC2 : (C : Int) ≤ 237 := by omega
  go_enter Try.func24, Try.ntmps24
  go_wp2_with (first
    | (go_at_call 36; with_reducible refine (f1 _).mono ?_; rintro e v1 ⟨rfl, q1⟩; have s1 := (St.start w S).step q1; obtain ⟨⟨g10, h10⟩, g11, h11⟩ := s1.rr.ready A1; have t1 := s1.turn A1; have d10 := t1.rr.c0; have d11 := t1.rr.c1)
    | (go_at_call 36; with_reducible refine (f2 _).mono ?_; rintro e v2 ⟨rfl, q2⟩; have s2 := t1.step q2; obtain ⟨⟨g20, h20⟩, g21, h21⟩ := s2.rr.ready A2; have t2 := s2.turn A2; have d20 := t2.rr.c0; have d21 := t2.rr.c1)
    | (go_at_call 36; with_reducible refine (f3 _).mono ?_; rintro e v3 ⟨rfl, q3⟩; have s3 := t2.step q3; obtain ⟨⟨g30, h30⟩, g31, h31⟩ := s3.rr.ready A3; have t3 := s3.turn A3; have d30 := t3.rr.c0; have d31 := t3.rr.c1)
    | (go_at_call 36; with_reducible refine (f4 _).mono ?_; rintro e v4 ⟨rfl, q4⟩; have s4 := t3.step q4; obtain ⟨⟨g40, h40⟩, g41, h41⟩ := s4.rr.ready A4; have t4 := s4.turn A4; have d40 := t4.rr.c0; have d41 := t4.rr.c1)
    | (go_at_call 37; with_reducible refine (f5 _).mono ?_; rintro e v5 ⟨rfl, q5⟩; have s5 := t4.step q5))
  have s6 := s5.step (((Kept.refl v5).alloc (.cells #[.string A5, .int .i64 0] 53)).alloc (.cells #[.int .i64 (K : Nat), .int .i64 (N : Nat), .int .u64 (G : Nat), .string D] 34)).drew
  have P6 := Pg.alloc (v5.alloc (.cells #[.string A5, .int .i64 0] 53)) K N G D 34
  rw [show (v5.alloc (.cells #[.string A5, .int .i64 0] 53)).heap.size = v5.heap.size + 1 by simp] at P6
  have P6 := ((Kept.refl _).drew).pg P6
  have hlt := s5.pg.lt
  have n1 : ¬ v5.heap.size + 1 = w.heap.size := by omega
  have n2 : ¬ w.heap.size = v5.heap.size + 1 := by omega
  obtain ⟨p0, p1, p2, p3⟩ := P6.cs
  clear g10 h10 g11 h11 d10 d11 g20 h20 g21 h21 d20 d21 g30 h30 g31 h31 d30 d31 g40 h40 g41 h41 d40 d41 s1 t1 s2 t2 s3 t3 s4 t4 s5 q1 q2 q3 q4 q5 f1 f2 f3 f4 f5
  generalize ((v5.alloc (.cells #[.string A5, .int .i64 0] 53)).alloc (.cells #[.int .i64 (K : Nat), .int .i64 (N : Nat), .int .u64 (G : Nat), .string D] 34)) = W6 at *
  generalize v5.heap.size + 1 = B at *
  go_region_held3 (fun W => W.cell? ⟨B, 0, none⟩ = some (.int .i64 (K : Nat)) ∧ W.cell? ⟨B, 1, none⟩ = some (.int .i64 (N : Nat)) ∧ W.cell? ⟨B, 2, none⟩ = some (.int .u64 (G : Nat)) ∧ W.cell? ⟨B, 3, none⟩ = some (.string D)) (go_keep) (first
    | (go_at_call 12; with_reducible refine (f7 _).mono ?_; rintro e v7 ⟨rfl, q7⟩; have s7 := s6.step q7; have P7 := q7.pg P6; obtain ⟨p70, p71, p72, p73⟩ := P7.cs; obtain ⟨⟨z0, y0⟩, ⟨z1, y1⟩, ⟨z2, y2⟩, z3, y3⟩ := s7.pg.ready K N G))
  go_wp2
  refine bodyPost_ret (v := .tuple #[.agg #[.int .i64 (K : Nat), .int .i64 (N : Nat), .int .u64 (G : Nat), .string D], .bool b]) ?_ rfl ⟨rfl, (((s7.k.set (Nat.le_refl _) _).set (Nat.le_refl _) _).set (Nat.le_refl _) _).set (Nat.le_refl _) _⟩
  exact results_two (p := 2) (u := 3) (ty := 34) rfl _ _ w.heap.size 34 _ (0, 0) _ rfl (s7.pg.fill K N G D).out Try.underlying34 rfl size34

/-- The reference's answer: the page that bytes say, and whether they are its sector. -/
theorem rget_walk (s : List Nat) (hs : Small s) :
    ∃ v, (∀ w, Calls Try.prog 24 #[.string (bs s)] w (fun e w' => e = .returned (.tuple #[v, .bool (decide (s.length = 256 ∧ fC s ≤ 237 ∧ said s = s))]) ∧ Kept w w')) ∧
      (s.length = 256 ∧ fC s ≤ 237 ∧ said s = s → v = .agg #[.int .i64 (fK s : Nat), .int .i64 (fN s : Nat), .int .u64 (fG s : Nat), .string (bs (fD s))]) ∧
      ∃ a b c d, v = .agg #[.int .i64 a, .int .i64 b, .int .u64 c, .string d] := by
  by_cases hz : s.length = 256
  · have z0 : (bs s).size = 256 := by rw [bs_size, hz]
    have f1 : ∀ W, Calls Try.prog 36 #[.agg #[.string (bs s), .int .i64 0], .int .i64 1] W fun e w' => e = .returned (.tuple #[.agg #[.string (bs (s.drop 1)), .int .i64 0], .int .u64 (fK s : Nat)]) ∧ Kept W w' :=
      fun W => rrfixed_walk 1 (by omega) s hs (by omega) W
    have f2 : ∀ W, Calls Try.prog 36 #[.agg #[.string (bs (s.drop 1)), .int .i64 0], .int .i64 4] W fun e w' => e = .returned (.tuple #[.agg #[.string (bs (s.drop 5)), .int .i64 0], .int .u64 (fN s : Nat)]) ∧ Kept W w' :=
      fun W => by have := rrfixed_walk 4 (by omega) (s.drop 1) (hs.drop 1) (by simp; omega) W; rwa [List.drop_drop] at this
    have f3 : ∀ W, Calls Try.prog 36 #[.agg #[.string (bs (s.drop 5)), .int .i64 0], .int .i64 8] W fun e w' => e = .returned (.tuple #[.agg #[.string (bs (s.drop 13)), .int .i64 0], .int .u64 (fG s : Nat)]) ∧ Kept W w' :=
      fun W => by have := rrfixed_walk 8 (by omega) (s.drop 5) (hs.drop 5) (by simp; omega) W; rwa [List.drop_drop] at this
    have f4 : ∀ W, Calls Try.prog 36 #[.agg #[.string (bs (s.drop 13)), .int .i64 0], .int .i64 2] W fun e w' => e = .returned (.tuple #[.agg #[.string (bs (s.drop 15)), .int .i64 0], .int .u64 (fC s : Nat)]) ∧ Kept W w' :=
      fun W => by have := rrfixed_walk 2 (by omega) (s.drop 13) (hs.drop 13) (by simp; omega) W; rwa [List.drop_drop] at this
    by_cases hc : fC s ≤ 237
    · have hG : fG s < 18446744073709551616 := pow_fits (k := 8) ((hs.drop 5).take 8) (by simp; omega)
      have hq := bs_eq (putL_small (fK s : Int) (fN s : Int) (fG s) ((hs.drop 15).take (fC s))) hs
      have h := rget_in (bs s) _ _ _ _ (bs ((s.drop 15).drop (fC s))) (bs (fD s)) (bs (said s)) (fK s) (fN s) (fG s) (fC s) _ z0 hc
        (pow_fits (k := 1) (hs.take 1) (by simp; omega)) (pow_fits (k := 4) ((hs.drop 1).take 4) (by simp; omega)) hq f1 f2 f3 f4
        (fun W => rtake_walk (bs (s.drop 15)) _ _ (fC s) (by rw [bs_size]; simp; omega) (by rw [bs_extract, bs_size, List.take_of_length_le (by simp only [List.length_drop]; omega)]) (by rw [bs_extract]; simp [fD]) W)
        (fun W => rput_walk _ _ _ hG _ W)
      refine ⟨_, ?_, fun _ => rfl, ⟨_, _, _, _, rfl⟩⟩
      have e : decide (putL (fK s : Int) (fN s : Int) (fG s) ((s.drop 15).take (fC s)) = s) = decide (s.length = 256 ∧ fC s ≤ 237 ∧ said s = s) := by
        apply decide_eq_decide.2
        exact ⟨fun h => ⟨hz, hc, h⟩, fun h => h.2.2⟩
      rw [← e]
      exact h
    · have h := rget_big (bs s) _ _ _ _ (fK s) (fN s) (fG s) (fC s) z0 hc f1 f2 f3 f4
      refine ⟨.agg #[.int .i64 0, .int .i64 0, .int .u64 0, .string ⟨#[]⟩], ?_, fun h => absurd h.2.1 hc, ⟨0, 0, 0, ⟨#[]⟩, rfl⟩⟩
      have hn : ¬ (s.length = 256 ∧ fC s ≤ 237 ∧ said s = s) := fun h => hc h.2.1
      rw [decide_eq_false hn]
      exact h
  · have h := rget_len (bs s) (by rw [bs_size]; omega)
    refine ⟨.agg #[.int .i64 0, .int .i64 0, .int .u64 0, .string ⟨#[]⟩], ?_, fun h => absurd h.1 hz, ⟨0, 0, 0, ⟨#[]⟩, rfl⟩⟩
    have hn : ¬ (s.length = 256 ∧ fC s ≤ 237 ∧ said s = s) := fun h => hz h.1
    rw [decide_eq_false hn]
    exact h
end Go.Proofs.Ytgpjnmimicoeoaa
