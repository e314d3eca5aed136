/- The walk of look where a page stands on the disk. Conditions: places below 64; what the disk says is told. -/
import Derived.Test.YthlhnjjofefgcaaGreatDoorGWalkE
namespace Go.Proofs.YthlhnjjofefgcaaGreatDoor.G
open Go.ChangeShapes Go.WideShapes Go.ChangeAt Go.RowKit
open D (Dk Ok DiskAt)
open P (bs supL Sup supP Small)

set_option maxRecDepth 100000 in
set_option maxHeartbeats 2000000 in
theorem look_disk {B : Nat} {w : World} {p m : Nat} {a : Ad} {q : Pq} (h : GA B w p a q) (hB : B ≤ w.heap.size) (ok : Ok m q.disk) (hm : m < 49000) (n : Nat) (h2 : 2 ≤ n) (hn : n < 64) (hx0 : q.fresh n = none) (hf : q.fails = q.disk.fails) (hh : q.held n = none)
    (l : List Nat) (hl : Small l) (ho : P.Okk l) (hS : (q.disk.read (n : Nat)).2 = (bs l, 0)) (x : Pag) (ex : x = ⟨P.fK l, P.fN l, P.fG l, bs (P.fD l)⟩) (hnum : P.fN l = n) :
    Calls Tryz.prog 36 #[.pointer (some ⟨p, 0, none⟩), .int .i64 (n : Nat)] w fun e w' => e = .returned (.tuple #[x.val, .int .i64 0]) ∧ GA B w' p a { q with disk := (q.disk.read (n : Nat)).1, held := putM q.held n x } ∧ On B w w' := by
  have Z0 := P.Pg.alloc w 0 0 0 ⟨#[]⟩ 55
  have K1 : D.Kept w (w.alloc (.cells #[.int .i64 0, .int .i64 0, .int .u64 0, .string ⟨#[]⟩] 55)) := (D.Kept.refl w).alloc _
  have k1 := h.kept K1
  obtain ⟨c0, c1, c2, c3, c4, c5, c6, c7, c8, c9⟩ := k1.cs
  have lk := k1.fm.look n (by omega)
  rw [show atK q.fresh n = Pag.zero by simp [atK, hx0], hx0] at lk
  have lk1 : (Instr.lookup 66 (.map (some a.mf)) (.int .i64 (n : Nat)) true).run Tryz.prog (w.alloc (.cells #[.int .i64 0, .int .i64 0, .int .u64 0, .string ⟨#[]⟩] 55)) = .ok (.tuple #[.agg #[.int .i64 0, .int .i64 0, .int .u64 0, .string ⟨#[]⟩], .bool false]) (w.alloc (.cells #[.int .i64 0, .int .i64 0, .int .u64 0, .string ⟨#[]⟩] 55)) := lk
  have K2 : D.Kept w ((w.alloc (.cells #[.int .i64 0, .int .i64 0, .int .u64 0, .string ⟨#[]⟩] 55)).alloc (.cells #[.int .i64 0, .int .i64 0, .int .u64 0, .string ⟨#[]⟩] 55)) := K1.alloc _
  have Z2 : P.Pg ((w.alloc (.cells #[.int .i64 0, .int .i64 0, .int .u64 0, .string ⟨#[]⟩] 55)).alloc (.cells #[.int .i64 0, .int .i64 0, .int .u64 0, .string ⟨#[]⟩] 55)) w.heap.size 0 0 0 ⟨#[]⟩ 55 := ((P.Kept.refl _).alloc _).pg Z0
  have k2 := h.kept K2
  have f1 := D.fails_walk k2.disk
  obtain ⟨F, hF⟩ : ∃ F : Nat, q.disk.fails = F := ⟨_, rfl⟩
  rw [hF] at f1
  obtain ⟨d0, d1, d2, d3, d4, d5, d6, d7, d8, d9⟩ := k2.cs
  rw [← hf] at hF
  have d8' : ((w.alloc (.cells #[.int .i64 0, .int .i64 0, .int .u64 0, .string ⟨#[]⟩] 55)).alloc (.cells #[.int .i64 0, .int .i64 0, .int .u64 0, .string ⟨#[]⟩] 55)).cell? ⟨p, 8, none⟩ = some (.int .i64 (F : Nat)) := by rw [← hF]; exact d8
  clear d8
  have lh0 := k2.hm.look n (by omega)
  rw [show atK q.held n = Pag.zero by simp [atK, hh], hh] at lh0
  have k4 := k2
  have Z4 := Z2
  have N4 := On.ofKept K2 hB
  have lh : (Instr.lookup 66 (.map (some a.mh)) (.int .i64 (n : Nat)) true).run Tryz.prog ((w.alloc (.cells #[.int .i64 0, .int .i64 0, .int .u64 0, .string ⟨#[]⟩] 55)).alloc (.cells #[.int .i64 0, .int .i64 0, .int .u64 0, .string ⟨#[]⟩] 55)) = .ok (.tuple #[.agg #[.int .i64 0, .int .i64 0, .int .u64 0, .string ⟨#[]⟩], .bool false]) ((w.alloc (.cells #[.int .i64 0, .int .i64 0, .int .u64 0, .string ⟨#[]⟩] 55)).alloc (.cells #[.int .i64 0, .int .i64 0, .int .u64 0, .string ⟨#[]⟩] 55)) := lh0
  have K5 : D.Kept ((w.alloc (.cells #[.int .i64 0, .int .i64 0, .int .u64 0, .string ⟨#[]⟩] 55)).alloc (.cells #[.int .i64 0, .int .i64 0, .int .u64 0, .string ⟨#[]⟩] 55)) (((w.alloc (.cells #[.int .i64 0, .int .i64 0, .int .u64 0, .string ⟨#[]⟩] 55)).alloc (.cells #[.int .i64 0, .int .i64 0, .int .u64 0, .string ⟨#[]⟩] 55)).alloc (.cells #[.int .i64 0, .int .i64 0, .int .u64 0, .string ⟨#[]⟩] 55)) := (D.Kept.refl _).alloc _
  have k5 := k4.kept K5
  have Z5 : P.Pg (((w.alloc (.cells #[.int .i64 0, .int .i64 0, .int .u64 0, .string ⟨#[]⟩] 55)).alloc (.cells #[.int .i64 0, .int .i64 0, .int .u64 0, .string ⟨#[]⟩] 55)).alloc (.cells #[.int .i64 0, .int .i64 0, .int .u64 0, .string ⟨#[]⟩] 55)) w.heap.size 0 0 0 ⟨#[]⟩ 55 := P.Kept.pg ⟨K5.out⟩ Z4
  obtain ⟨i0, i1, i2, i3, i4, i5, i6, i7, i8, i9⟩ := k5.cs
  have N5 := N4.kept K5 hB
  have hB5 := Nat.le_trans hB N5.size
  have f2 := D.read_walk k5.disk hB5 ok (by omega) (n : Nat)
  have f3 : ∀ W, Calls Tryz.prog 56 #[.string (bs l)] W fun e w' => e = .returned (.tuple #[.agg #[.int .i64 (P.fK l : Nat), .int .i64 (n : Nat), .int .u64 (P.fG l : Nat), .string (bs (P.fD l))], .int .i64 0]) ∧ P.Kept W w' := fun W => by rw [← hnum]; exact P.get_yes l hl ho W
  subst ex
  rw [hnum]
  rw [hS] at f2
  
  generalize bs l = S at f2 f3
  generalize bs (P.fD l) = xs at f3 ⊢
  generalize P.fK l = xk at f3 ⊢
  generalize P.fG l = xg at f3 ⊢
  clear hx0 lk hS hnum hl ho lh0 hf hF hh d1 d2 d3 d4 d5 d6 d9
  dsimp only at f2
  have HF : Hid True := trivial
  go_enter Tryz.func36, Tryz.ntmps36
  go_wp2_with (first
    | (go_at_call 22; (with_reducible refine f1.mono ?_); rintro e w1 ⟨rfl, hw1⟩; rw [hw1]; clear hw1)
    | (go_at_call 54; (with_reducible refine f2.mono ?_); rintro e w6 ⟨rfl, D6, o6⟩; have k6 := k5.onD o6 D6; have Z6 := Pg.onD Z5 o6; have N6 := N5.trans (On.ofD o6))
    | (go_at_call 56; (with_reducible refine (f3 _).mono ?_); rintro e w7 ⟨rfl, K7⟩; have Y8 := P.Pg.alloc w7 (xk : Nat) (n : Nat) (xg : Nat) xs 55; have K8 : D.Kept w6 (w7.alloc (.cells #[.int .i64 (xk : Nat), .int .i64 (n : Nat), .int .u64 (xg : Nat), .string xs] 55)) := D.Kept.trans ⟨K7.out⟩ ((D.Kept.refl w7).alloc _); have k8 := k6.kept K8; have Z8 : P.Pg _ w.heap.size 0 0 0 ⟨#[]⟩ 55 := P.Kept.pg ⟨K8.out⟩ Z6; have N8 := N6.kept K8 hB; obtain ⟨j0, j1, j2, j3, j4, j5, j6, j7, j8, j9⟩ := k8.cs; obtain ⟨y0, y1, y2, y3⟩ := Y8.cs; obtain ⟨w9, st0, m9, o9⟩ := MAt.store (w := (w7.alloc (.cells #[.int .i64 (xk : Nat), .int .i64 (n : Nat), .int .u64 (xg : Nat), .string xs] 55)).drew) (k8.hm.same rfl) n hn ⟨xk, n, xg, xs⟩; have st : (Instr.mapUpdate 66 (.map (some a.mh)) (.int .i64 (n : Nat)) (.agg #[.int .i64 (xk : Nat), .int .i64 (n : Nat), .int .u64 (xg : Nat), .string xs])).run Tryz.prog (w7.alloc (.cells #[.int .i64 (xk : Nat), .int .i64 (n : Nat), .int .u64 (xg : Nat), .string xs] 55)).drew = .ok () w9 := st0; clear st0))
  have o9' : One a.mh (w7.alloc (.cells #[.int .i64 (xk : Nat), .int .i64 (n : Nat), .int .u64 (xg : Nat), .string xs] 55)) w9 := ⟨fun X hX => ⟨(o9.below X hX).os, (o9.below X hX).tape, (o9.below X hX).output, (o9.below X hX).size, (o9.below X hX).block⟩, o9.size, o9.block⟩
  have Z9 := Pg.one Z8 k8.hm o9'
  have Y9 := Pg.one Y8 k8.hm o9'
  obtain ⟨k9, n9⟩ := k8.onH o9' m9
  have N9 := N8.trans n9
  have j7' : w9.cell? ⟨p, 7, none⟩ = some (.map (some a.mh)) := k9.cs.2.2.2.2.2.2.2.1
  obtain ⟨y90, y91, y92, y93⟩ := Y9.cs
  obtain ⟨⟨z0, h0⟩, ⟨z1, h1⟩, ⟨z2, hh2⟩, z3, h3⟩ := Z9.ready (xk : Nat) (n : Nat) (xg : Nat)
  obtain ⟨kA, NA⟩ := fill_far k9 Z9 N9 hB (Nat.le_refl _) (xk : Nat) (n : Nat) (xg : Nat) xs
  have rA := (Z9.fill (xk : Nat) (n : Nat) (xg : Nat) xs).out
  go_region_held3 (fun W => W.cell? ⟨p, 7, none⟩ = some (.map (some a.mh)) ∧ W.cell? ⟨w7.heap.size, 0, none⟩ = some (.int .i64 (xk : Nat)) ∧ W.cell? ⟨w7.heap.size, 1, none⟩ = some (.int .i64 (n : Nat)) ∧ W.cell? ⟨w7.heap.size, 2, none⟩ = some (.int .u64 (xg : Nat)) ∧ W.cell? ⟨w7.heap.size, 3, none⟩ = some (.string xs)) (first | trivial | go_keep) (fail)
  all_goals go_wp2
  all_goals refine bodyPost_ret (v := .tuple #[.agg #[.int .i64 (xk : Nat), .int .i64 (n : Nat), .int .u64 (xg : Nat), .string xs], .int .i64 0]) ?_ rfl ⟨rfl, kA, NA⟩
  all_goals exact P.results_two (p := 4) (u := 5) (ty := 55) rfl _ _ w.heap.size 55 _ (0, 0) _ rfl rA Tryz.underlying55 rfl P.size55

end Go.Proofs.YthlhnjjofefgcaaGreatDoor.G
