/- The walks of slices.Contains over one number, and of Read, given what look does. No condition. -/
import Derived.Test.YthlhnjjofefgcaaGreatDoorGWalkE
import Derived.LoopN
namespace Go.Proofs.YthlhnjjofefgcaaGreatDoor.G
open Go.ChangeShapes Go.WideShapes Go.ChangeAt Go.RowKit
open D (Dk Ok DiskAt)
open P (bs supL Sup supP Small)

theorem index_yes {w : World} {b : Nat} {k : Int} (hc : w.cell? ⟨b, 0, none⟩ = some (.int .i64 k)) : Calls Tryz.prog 57 #[.slice (some ⟨b, 0, none⟩) 1 1, .int .i64 k] w fun e w' => e = .returned (.int .i64 0) ∧ w' = w := by
  go_enter Tryz.func57, Tryz.ntmps57
  go_wp2
  refine wp_loop_rounds 1 ?_
  rw [rounds_succ]
  go_wp2
  go_ret
  exact ⟨rfl, rfl⟩
theorem index_no {w : World} {b : Nat} {k v : Int} (hc : w.cell? ⟨b, 0, none⟩ = some (.int .i64 k)) (hv : ¬ v = k) : Calls Tryz.prog 57 #[.slice (some ⟨b, 0, none⟩) 1 1, .int .i64 v] w fun e w' => e = .returned (.int .i64 (-1)) ∧ w' = w := by
  go_enter Tryz.func57, Tryz.ntmps57
  go_wp2
  refine wp_loop_rounds 2 ?_
  rw [rounds_succ]
  go_wp2
  rw [rounds_succ]
  go_wp2
  go_ret
  exact ⟨rfl, rfl⟩
theorem contains_yes {w : World} {b : Nat} {k : Int} (hc : w.cell? ⟨b, 0, none⟩ = some (.int .i64 k)) : Calls Tryz.prog 37 #[.slice (some ⟨b, 0, none⟩) 1 1, .int .i64 k] w fun e w' => e = .returned (.bool true) ∧ w' = w := by
  have f := index_yes hc
  go_enter Tryz.func37, Tryz.ntmps37
  go_wp2_with (go_at_call 57; (with_reducible refine f.mono ?_); rintro e w1 ⟨rfl, hw1⟩; rw [hw1]; clear hw1)
  go_ret
  exact ⟨rfl, rfl⟩
theorem contains_no {w : World} {b : Nat} {k v : Int} (hc : w.cell? ⟨b, 0, none⟩ = some (.int .i64 k)) (hv : ¬ v = k) : Calls Tryz.prog 37 #[.slice (some ⟨b, 0, none⟩) 1 1, .int .i64 v] w fun e w' => e = .returned (.bool false) ∧ w' = w := by
  have f := index_no hc hv
  go_enter Tryz.func37, Tryz.ntmps37
  go_wp2_with (go_at_call 57; (with_reducible refine f.mono ?_); rintro e w1 ⟨rfl, hw1⟩; rw [hw1]; clear hw1)
  go_ret
  exact ⟨rfl, rfl⟩

theorem calm3' : Calm 3 := by unfold Calm D.Calm; decide

set_option maxRecDepth 100000 in
set_option maxHeartbeats 1000000 in
theorem read_yes {B : Nat} {w : World} {p kb n : Nat} {a : Ad} {q' : Pq} {kd : Int} {fr : Nat × Nat} (hB : B ≤ w.heap.size) (hk : w.heap[kb]? = some (.cells #[.int .i64 kd] 3 fr)) (x : Pag)
    (f : ∀ W, D.Kept w W → Calls Tryz.prog 36 #[.pointer (some ⟨p, 0, none⟩), .int .i64 (n : Nat)] W fun e w' => e = .returned (.tuple #[x.val, .int .i64 0]) ∧ GA B w' p a q' ∧ On B W w') (hx : x.kind = kd) :
    Calls Tryz.prog 21 #[.pointer (some ⟨p, 0, none⟩), .int .i64 (n : Nat), .slice (some ⟨kb, 0, none⟩) 1 1] w fun e w' => e = .returned (.tuple #[x.val, .int .i64 0]) ∧ GA B w' p a q' ∧ On B w w' := by
  obtain ⟨xk, xn, xg, xs⟩ := x
  dsimp only at hx
  subst hx
  dsimp only [Pag.val] at f
  have Z0 := P.Pg.alloc w 0 0 0 ⟨#[]⟩ 55
  have K1 : D.Kept w (w.alloc (.cells #[.int .i64 0, .int .i64 0, .int .u64 0, .string ⟨#[]⟩] 55)) := (D.Kept.refl w).alloc _
  have f1 := f _ K1
  have hk1 := K1.block hk
  have f2 : ∀ W : World, W.cell? ⟨kb, 0, none⟩ = some (.int .i64 xk) → Calls Tryz.prog 37 #[.slice (some ⟨kb, 0, none⟩) 1 1, .int .i64 xk] W fun e w' => e = .returned (.bool true) ∧ w' = W := fun W hc => contains_yes hc
  go_enter Tryz.func21, Tryz.ntmps21
  go_wp2_with (first
    | (go_at_call 36; (with_reducible refine f1.mono ?_); rintro e w1 ⟨rfl, g1, n1⟩; have Z1 : P.Pg w1 w.heap.size 0 0 0 ⟨#[]⟩ 55 := ⟨n1.rows _ _ _ _ Z0.out calm55⟩; have hk2 := n1.rows _ _ _ _ hk1 calm3'; have K2 : P.Kept w1 (w1.alloc (.cells #[.int .i64 xk, .int .i64 xn, .int .u64 (xg : Nat), .string xs] 55)) := (P.Kept.refl w1).alloc _; have Z2 := K2.pg Z1; have g2 := g1.kept ⟨K2.out⟩; have hk3 := cell_of_row _ kb 0 _ _ _ (K2.block hk2); have hk4 : (w1.alloc (.cells #[.int .i64 xk, .int .i64 xn, .int .u64 (xg : Nat), .string xs] 55)).cell? ⟨kb, 0, none⟩ = some (.int .i64 xk) := hk3; clear hk3; have Y2 := P.Pg.alloc w1 xk xn xg xs 55; obtain ⟨y0, y1, y2, y3⟩ := Y2.cs; have N2 := ((On.ofKept K1 hB).trans n1).kept ⟨K2.out⟩ hB; obtain ⟨kA, NA⟩ := fill_far g2 Z2 N2 hB (Nat.le_refl _) xk xn (xg : Nat) xs; have rA := (Z2.fill xk xn (xg : Nat) xs).out; obtain ⟨⟨z0, h0⟩, ⟨z1, h1⟩, ⟨z2, h2⟩, z3, h3⟩ := Z2.ready xk xn (xg : Nat))
    | (go_at_call 37; (with_reducible refine (f2 _ hk4).mono ?_); rintro e w2 ⟨rfl, hw2⟩; rw [hw2]; clear hw2))
  refine bodyPost_ret (v := .tuple #[.agg #[.int .i64 xk, .int .i64 xn, .int .u64 (xg : Nat), .string xs], .int .i64 0]) ?_ rfl ⟨rfl, kA, NA⟩
  exact P.results_two (p := 6) (u := 7) (ty := 55) rfl _ _ w.heap.size 55 _ (0, 0) _ rfl rA Tryz.underlying55 rfl P.size55

set_option maxRecDepth 100000 in
set_option maxHeartbeats 1000000 in
theorem read_other {B : Nat} {w : World} {p kb n : Nat} {a : Ad} {q' : Pq} {kd : Int} {fr : Nat × Nat} (hB : B ≤ w.heap.size) (hk : w.heap[kb]? = some (.cells #[.int .i64 kd] 3 fr)) (x : Pag)
    (f : ∀ W, D.Kept w W → Calls Tryz.prog 36 #[.pointer (some ⟨p, 0, none⟩), .int .i64 (n : Nat)] W fun e w' => e = .returned (.tuple #[x.val, .int .i64 0]) ∧ GA B w' p a q' ∧ On B W w') (hx : ¬ x.kind = kd) :
    Calls Tryz.prog 21 #[.pointer (some ⟨p, 0, none⟩), .int .i64 (n : Nat), .slice (some ⟨kb, 0, none⟩) 1 1] w fun e w' => e = .returned (.tuple #[Pag.zero.val, .int .i64 82]) ∧ GA B w' p a q' ∧ On B w w' := by
  obtain ⟨xk, xn, xg, xs⟩ := x
  dsimp only at hx
  dsimp only [Pag.val] at f
  have Z0 := P.Pg.alloc w 0 0 0 ⟨#[]⟩ 55
  have K1 : D.Kept w (w.alloc (.cells #[.int .i64 0, .int .i64 0, .int .u64 0, .string ⟨#[]⟩] 55)) := (D.Kept.refl w).alloc _
  have f1 := f _ K1
  have hk1 := K1.block hk
  have f2 : ∀ W : World, W.cell? ⟨kb, 0, none⟩ = some (.int .i64 kd) → Calls Tryz.prog 37 #[.slice (some ⟨kb, 0, none⟩) 1 1, .int .i64 xk] W fun e w' => e = .returned (.bool false) ∧ w' = W := fun W hc => contains_no hc hx
  go_enter Tryz.func21, Tryz.ntmps21
  go_wp2_with (first
    | (go_at_call 36; (with_reducible refine f1.mono ?_); rintro e w1 ⟨rfl, g1, n1⟩; have Z1 : P.Pg w1 w.heap.size 0 0 0 ⟨#[]⟩ 55 := ⟨n1.rows _ _ _ _ Z0.out calm55⟩; have hk2 := n1.rows _ _ _ _ hk1 calm3'; have K2 : P.Kept w1 (w1.alloc (.cells #[.int .i64 xk, .int .i64 xn, .int .u64 (xg : Nat), .string xs] 55)) := (P.Kept.refl w1).alloc _; have Z2 := K2.pg Z1; have g2 := g1.kept ⟨K2.out⟩; have hk3 := cell_of_row _ kb 0 _ _ _ (K2.block hk2); have hk4 : (w1.alloc (.cells #[.int .i64 xk, .int .i64 xn, .int .u64 (xg : Nat), .string xs] 55)).cell? ⟨kb, 0, none⟩ = some (.int .i64 kd) := hk3; clear hk3; have Y2 := P.Pg.alloc w1 xk xn xg xs 55; obtain ⟨y0, y1, y2, y3⟩ := Y2.cs; have N2 := ((On.ofKept K1 hB).trans n1).kept ⟨K2.out⟩ hB; obtain ⟨kA, NA⟩ := fill_far g2 Z2 N2 hB (Nat.le_refl _) 0 0 0 ⟨#[]⟩; have rA := (Z2.fill 0 0 0 ⟨#[]⟩).out; obtain ⟨⟨z0, h0⟩, ⟨z1, h1⟩, ⟨z2, h2⟩, z3, h3⟩ := Z2.ready 0 0 0)
    | (go_at_call 37; (with_reducible refine (f2 _ hk4).mono ?_); rintro e w2 ⟨rfl, hw2⟩; rw [hw2]; clear hw2))
  refine bodyPost_ret (v := .tuple #[.agg #[.int .i64 0, .int .i64 0, .int .u64 0, .string ⟨#[]⟩], .int .i64 82]) ?_ rfl ⟨rfl, kA, NA⟩
  exact P.results_two (p := 6) (u := 7) (ty := 55) rfl _ _ w.heap.size 55 _ (0, 0) _ rfl rA Tryz.underlying55 rfl P.size55
end Go.Proofs.YthlhnjjofefgcaaGreatDoor.G
