/- The walks of what is small of a pager: State, Left, Mark, Drop, Add, and of all of none. Conditions: places that there are; generations below 2^62. -/
import Derived.Test.YthlhnjjofefgcaaGreatDoorGMem
import Derived.Test.YthlhnjjofefgcaaGreatDoorPWalkS
import Derived.Deep.RegionHeld3
import Derived.Laws.ResultCell
namespace Go.Proofs.YthlhnjjofefgcaaGreatDoor.G
open Go.ChangeShapes Go.WideShapes Go.ChangeAt Go.RowKit
open D (Dk Ok DiskAt)
open P (bs supL Sup supP Small)

theorem results_one {P : Program} {fn : Func} {p : Tmp} {ty : TypeId} (h : fn.results = #[.cell p ty]) (tmps : Array Value) (w : World) (g : Nat) (t : TypeId) (cs : Array Value) (fr : Nat × Nat) (d : TypeDesc)
    (hp : tmps.getD p undef = .pointer (some ⟨g, 0, none⟩)) (hg : w.heap[g]? = some (.cells cs t fr))
    (hu : P.underlying ty = some d) (hd : (match d with | .struct _ | .array _ _ => true | _ => false) = true) (hi : (P.info? ty).map (·.size) = some cs.size) :
    (results fn tmps).run P w = .ok (.agg cs) w := by
  have e : (results fn tmps).run P w = ((asAddr (tmps.getD p undef)).run P w).andThen fun a w₁ => (loadVar ty a).run P w₁ := by
    simp only [results, h]
    simp [Sem.run_bind, Result.andThen]
  rw [e, hp]
  simp [asAddr, run_loadVar_row w g t ty cs fr d hg hu hd hi]

theorem calm55 : Calm 55 := by unfold Calm D.Calm; decide
theorem calm52' : Calm 52 := by unfold Calm D.Calm; decide

set_option maxRecDepth 100000 in
theorem state_nil (w : World) : Calls Tryz.prog 20 #[.pointer none] w fun e w' => e = .returned (.agg #[.int .u64 0, .int .i64 0]) ∧ D.Kept w w' := by
  have Z := P.Sp.alloc w 0 0
  obtain ⟨⟨z0, h0⟩, z1, h1⟩ := Z.ready 0
  go_enter Tryz.func20, Tryz.ntmps20
  go_wp2
  refine bodyPost_ret (v := .agg #[.int .u64 0, .int .i64 0]) ?_ rfl ⟨rfl, (D.Kept.refl w).alloc _⟩
  exact results_one (p := 2) (ty := 52) rfl _ _ w.heap.size 52 _ (0, 0) _ rfl Z.out Tryz.underlying52 rfl P.size52
theorem left_nil (w : World) : Calls Tryz.prog 18 #[.pointer none] w fun e w' => e = .returned (.int .i64 0) ∧ w' = w := by
  go_enter Tryz.func18, Tryz.ntmps18
  go_wp2
  go_ret
  exact ⟨rfl, rfl⟩
theorem mark_nil (n : Int) (w : World) : Calls Tryz.prog 16 #[.pointer none, .int .i64 n] w fun e w' => e = .returned (.bool false) ∧ w' = w := by
  go_enter Tryz.func16, Tryz.ntmps16
  go_wp2
  go_ret
  exact ⟨rfl, rfl⟩
theorem drop_nil (n : Int) (w : World) : Calls Tryz.prog 11 #[.pointer none, .int .i64 n] w fun e w' => e = .returned (.tuple #[]) ∧ w' = w := by
  go_enter Tryz.func11, Tryz.ntmps11
  go_wp2
  first | go_end0 | refine bodyPost_ret (results_none rfl _ _ _) rfl ?_
  exact ⟨rfl, rfl⟩
theorem undo_nil (w : World) : Calls Tryz.prog 14 #[.pointer none] w fun e w' => e = .returned (.tuple #[]) ∧ w' = w := by
  go_enter Tryz.func14, Tryz.ntmps14
  go_wp2
  first | go_end0 | refine bodyPost_ret (results_none rfl _ _ _) rfl ?_
  exact ⟨rfl, rfl⟩
theorem commit_nil (n : Int) (w : World) : Calls Tryz.prog 13 #[.pointer none, .int .i64 n] w fun e w' => e = .returned (.int .i64 1) ∧ w' = w := by
  go_enter Tryz.func13, Tryz.ntmps13
  go_wp2
  go_ret
  exact ⟨rfl, rfl⟩
theorem add_nil (n : Int) (s : ByteArray) (w : World) : Calls Tryz.prog 10 #[.pointer none, .int .i64 n, .string s] w fun e w' => e = .returned (.tuple #[.int .i64 0, .int .i64 1]) ∧ w' = w := by
  go_enter Tryz.func10, Tryz.ntmps10
  go_wp2
  go_ret2
  exact ⟨rfl, rfl⟩
set_option maxRecDepth 100000 in
theorem read_nil (n : Int) (v : Value) (w : World) : Calls Tryz.prog 21 #[.pointer none, .int .i64 n, v] w fun e w' => e = .returned (.tuple #[.agg #[.int .i64 0, .int .i64 0, .int .u64 0, .string ⟨#[]⟩], .int .i64 1]) ∧ D.Kept w w' := by
  have Z := P.Pg.alloc w 0 0 0 ⟨#[]⟩ 55
  obtain ⟨⟨z0, h0⟩, ⟨z1, h1⟩, ⟨z2, h2⟩, z3, h3⟩ := Z.ready 0 0 0
  go_enter Tryz.func21, Tryz.ntmps21
  go_wp2
  refine bodyPost_ret (v := .tuple #[.agg #[.int .i64 0, .int .i64 0, .int .u64 0, .string ⟨#[]⟩], .int .i64 1]) ?_ rfl ⟨rfl, (D.Kept.refl w).alloc _⟩
  exact P.results_two (p := 6) (u := 7) (ty := 55) rfl _ _ w.heap.size 55 _ (0, 0) _ rfl Z.out Tryz.underlying55 rfl P.size55

set_option maxRecDepth 100000 in
theorem state_walk {B : Nat} {w : World} {p d g : Nat} {q : Pq} (h : GAt B w p d g q) : Calls Tryz.prog 20 #[.pointer (some ⟨p, 0, none⟩)] w fun e w' => e = .returned (.agg #[.int .u64 (q.gen : Nat), .int .i64 q.root]) ∧ D.Kept w w' := by
  obtain ⟨a, rfl, rfl, k⟩ := h.out
  clear h
  obtain ⟨c0, c1, c2, c3, c4, c5, c6, c7, c8, c9⟩ := k.cs
  have Z := P.Sp.alloc w 0 0
  obtain ⟨⟨z0, h0⟩, z1, h1⟩ := Z.ready (q.gen : Nat)
  have k2 := k.kept ((D.Kept.refl w).alloc (.cells #[.int .u64 0, .int .i64 0] 52))
  obtain ⟨_, d1, d2, _⟩ := k2.cs
  clear c0 c3 c4 c5 c6 c7 c8 c9 k k2
  go_enter Tryz.func20, Tryz.ntmps20
  go_wp2
  refine bodyPost_ret (v := .agg #[.int .u64 (q.gen : Nat), .int .i64 q.root]) ?_ rfl ⟨rfl, (D.Kept.refl w).alloc _⟩
  exact results_one (p := 2) (ty := 52) rfl _ _ w.heap.size 52 _ (0, 0) _ rfl (P.Sp.alloc w q.gen q.root).out Tryz.underlying52 rfl P.size52
theorem left_walk {B : Nat} {w : World} {p d g : Nat} {q : Pq} (h : GAt B w p d g q) : Calls Tryz.prog 18 #[.pointer (some ⟨p, 0, none⟩)] w fun e w' => e = .returned (.int .i64 (S.cnt q.m q.ut : Nat)) ∧ w' = w := by
  obtain ⟨a, rfl, rfl, k⟩ := h.out
  clear h
  obtain ⟨c0, c1, c2, c3, c4, c5, c6, c7, c8, c9⟩ := k.cs
  have f := S.left_walk k.st.at
  go_enter Tryz.func18, Tryz.ntmps18
  go_wp2_with (go_at_call 35; (with_reducible refine f.mono ?_); rintro e w' ⟨rfl, rfl⟩)
  go_ret
  exact ⟨rfl, rfl⟩

/-- A page is told. -/
def Pq.mark (q : Pq) (n : Nat) : Pq := { q with ut := S.useAt q.ut n, un := S.useAt q.un n, uk := S.useAt q.uk n }

theorem mark_yes {B : Nat} {w : World} {p d g : Nat} {q : Pq} (h : GAt B w p d g q) (n : Nat) (hn : n < q.m) (hu : q.ut n = false) : Calls Tryz.prog 16 #[.pointer (some ⟨p, 0, none⟩), .int .i64 (n : Nat)] w fun e w' => e = .returned (.bool (!q.uk n)) ∧ GAt B w' p d g (q.mark n) ∧ On B w w' := by
  obtain ⟨a, rfl, rfl, k⟩ := h.out
  clear h
  obtain ⟨c0, c1, c2, c3, c4, c5, c6, c7, c8, c9⟩ := k.cs
  have f1 := S.use_all k.st n hn
  rw [hu] at f1
  go_enter Tryz.func16, Tryz.ntmps16
  go_wp2_with (first
    | (go_at_call 28; (with_reducible refine f1.mono ?_); rintro e w1 ⟨rfl, s1, o1⟩; obtain ⟨k1, n1⟩ := k.onT o1 s1; obtain ⟨c10, c11, c12, c13, c14, c15, c16, c17, c18, c19⟩ := k1.cs; have f2 := S.use_all k1.sn n hn)
    | (go_at_call 28; (with_reducible refine f2.mono ?_); rintro e w2 ⟨rfl, s2, o2⟩; obtain ⟨k2, n2⟩ := k1.onN o2 s2; obtain ⟨c20, c21, c22, c23, c24, c25, c26, c27, c28, c29⟩ := k2.cs; have f3 := S.use_all k2.sk n hn)
    | (go_at_call 28; (with_reducible refine f3.mono ?_); rintro e w3 ⟨rfl, s3, o3⟩; obtain ⟨k3, n3⟩ := k2.onK o3 s3))
  go_ret
  exact ⟨rfl, ⟨a, rfl, rfl, k3⟩, (n1.trans n2).trans n3⟩
theorem mark_no {B : Nat} {w : World} {p d g : Nat} {q : Pq} (h : GAt B w p d g q) (n : Nat) (hn : n < q.m) (hu : q.ut n = true) : Calls Tryz.prog 16 #[.pointer (some ⟨p, 0, none⟩), .int .i64 (n : Nat)] w fun e w' => e = .returned (.bool false) ∧ w' = w := by
  obtain ⟨a, rfl, rfl, k⟩ := h.out
  clear h
  obtain ⟨c0, c1, c2, c3, c4, c5, c6, c7, c8, c9⟩ := k.cs
  have f1 := S.use_had k.st.at n hn hu
  go_enter Tryz.func16, Tryz.ntmps16
  go_wp2_with (go_at_call 28; (with_reducible refine f1.mono ?_); rintro e w1 ⟨rfl, rfl⟩)
  go_ret
  exact ⟨rfl, rfl⟩

theorem lds_on {B : Nat} {w w' : World} (h : S.Lds w) (o : Below B w w') (hB : 0 < B) : S.Lds w' :=
  ⟨fun j hj => (World.cell?_of_block (w := w) (o.block 0 hB)).trans (h.tab j hj)⟩
theorem lds_kept {w w' : World} (h : S.Lds w) (o : D.Kept w w') : S.Lds w' := h.kept ⟨o.out⟩

theorem first_is {w : World} {b g m : Nat} {u : Nat → Bool} (h : S.SA w b g m (S.cnt m u) u) (hL : S.Lds w) (r : Int) (hr : S.IsFirst u m 2 r) :
    Calls Tryz.prog 26 #[.pointer (some ⟨b, 0, none⟩), .int .i64 2] w fun e w' => e = .returned (.int .i64 r) ∧ w' = w := by
  refine (S.first_at h.at hL 2 (by decide)).mono ?_
  rintro e w' ⟨r', rfl, h1, rfl⟩
  have e : r' = r := S.IsFirst.unique h1 hr
  rw [e]
  exact ⟨rfl, rfl⟩

theorem add_full {B : Nat} {w : World} {p d g : Nat} {q : Pq} (h : GAt B w p d g q) (hL : S.Lds w) (hr : S.IsFirst q.ut q.m 2 (-1)) (kd : Int) (s : ByteArray) :
    Calls Tryz.prog 10 #[.pointer (some ⟨p, 0, none⟩), .int .i64 kd, .string s] w fun e w' => e = .returned (.tuple #[.int .i64 0, .int .i64 80]) ∧ w' = w := by
  obtain ⟨a, rfl, rfl, k⟩ := h.out
  clear h
  obtain ⟨c0, c1, c2, c3, c4, c5, c6, c7, c8, c9⟩ := k.cs
  have f1 := first_is k.st hL (-1) hr
  clear hr
  go_enter Tryz.func10, Tryz.ntmps10
  go_wp2_with (go_at_call 26; (with_reducible refine f1.mono ?_); rintro e w1 ⟨rfl, rfl⟩)
  go_ret2
  exact ⟨rfl, rfl⟩

set_option maxRecDepth 100000 in
set_option maxHeartbeats 1000000 in
theorem add_bad {B : Nat} {w : World} {p d g : Nat} {q : Pq} (h : GAt B w p d g q) (hL : S.Lds w) (n : Nat) (hr : S.IsFirst q.ut q.m 2 (n : Nat)) (kd : Int) (s : ByteArray) (hg : q.gen < 4611686018427387904)
    (hno : ¬ (1 ≤ kd ∧ kd ≤ 4 ∧ 0 ≤ ((n : Nat) : Int) ∧ ((n : Nat) : Int) < 16384 ∧ s.size ≤ 237)) :
    Calls Tryz.prog 10 #[.pointer (some ⟨p, 0, none⟩), .int .i64 kd, .string s] w fun e w' => e = .returned (.tuple #[.int .i64 0, .int .i64 1]) ∧ D.Kept w w' := by
  obtain ⟨a, rfl, rfl, k⟩ := h.out
  clear h
  obtain ⟨c0, c1, c2, c3, c4, c5, c6, c7, c8, c9⟩ := k.cs
  have f1 := first_is k.st hL (n : Nat) hr
  have f2 : ∀ W, Calls Tryz.prog 27 #[.agg #[.int .i64 kd, .int .i64 (n : Nat), .int .u64 ((q.gen : Int) + 1), .string s]] W fun e w' => e = .returned (.bool false) ∧ P.Kept W w' := fun W => P.may_no kd n (q.gen + 1) s hno W
  clear hr hno
  go_enter Tryz.func10, Tryz.ntmps10
  go_wp2_with (first
    | (go_at_call 26; (with_reducible refine f1.mono ?_); rintro e w1 ⟨rfl, rfl⟩)
    | (go_at_call 27; (with_reducible refine (f2 _).mono ?_); rintro e w2 ⟨rfl, k2⟩))
  go_ret2
  exact ⟨rfl, D.Kept.trans ((D.Kept.refl _).alloc _) ⟨k2.out⟩⟩

/-- A page is added. -/
def Pq.add (q : Pq) (n : Nat) (kd : Int) (s : ByteArray) : Pq := { q with ut := S.useAt q.ut n, un := S.useAt q.un n, fresh := putM q.fresh n ⟨kd, n, q.gen + 1, s⟩ }

set_option maxRecDepth 100000 in
set_option maxHeartbeats 1000000 in
theorem add_ok {B : Nat} {w : World} {p d g : Nat} {q : Pq} (h : GAt B w p d g q) (hB : B ≤ w.heap.size) (hL : S.Lds w) (n : Nat) (hr : S.IsFirst q.ut q.m 2 (n : Nat)) (hn : n < q.m) (kd : Int) (s : ByteArray) (hg : q.gen < 4611686018427387904)
    (h1 : 1 ≤ kd) (h4 : kd ≤ 4) (hs : s.size ≤ 237) :
    Calls Tryz.prog 10 #[.pointer (some ⟨p, 0, none⟩), .int .i64 kd, .string s] w fun e w' => e = .returned (.tuple #[.int .i64 (n : Nat), .int .i64 0]) ∧ GAt B w' p d g (q.add n kd s) ∧ On B w w' := by
  obtain ⟨a, rfl, rfl, k⟩ := h.out
  clear h
  obtain ⟨c0, c1, c2, c3, c4, c5, c6, c7, c8, c9⟩ := k.cs
  have hm := k.st.few
  have f1 := first_is k.st hL (n : Nat) hr
  have f2 : ∀ W, Calls Tryz.prog 27 #[.agg #[.int .i64 kd, .int .i64 (n : Nat), .int .u64 ((q.gen : Int) + 1), .string s]] W fun e w' => e = .returned (.bool true) ∧ P.Kept W w' := fun W => P.may_yes kd n (q.gen + 1) s h1 h4 (by omega) (by omega) hs W
  clear hr h1 h4 hs
  go_enter Tryz.func10, Tryz.ntmps10
  go_wp2_with (first
    | (go_at_call 26; (with_reducible refine f1.mono ?_); rintro e w1 ⟨rfl, hw1⟩; rw [hw1]; clear hw1; have Y0 := P.Pg.alloc w kd n ((q.gen : Int) + 1) s 55)
    | (go_at_call 27; (with_reducible refine (f2 _).mono ?_); rintro e w2 ⟨rfl, k2⟩; have K2 : D.Kept w w2 := D.Kept.trans ((D.Kept.refl _).alloc _) ⟨k2.out⟩; have g2 := k.kept K2; have Y2 := k2.pg Y0; obtain ⟨c20, c21, c22, c23, c24, c25, c26, c27, c28, c29⟩ := g2.cs; have f3 := S.use_all g2.st n hn)
    | (go_at_call 28; (with_reducible refine f3.mono ?_); rintro e w3 ⟨rfl, s3, o3⟩; obtain ⟨g3, n3⟩ := g2.onT o3 s3; obtain ⟨c30, c31, c32, c33, c34, c35, c36, c37, c38, c39⟩ := g3.cs; have Y3 : P.Pg w3 w.heap.size kd n ((q.gen : Int) + 1) s 55 := ⟨n3.rows _ _ _ _ Y2.out calm55⟩; have f4 := S.use_all g3.sn n hn)
    | (go_at_call 28; (with_reducible refine f4.mono ?_); rintro e w4 ⟨rfl, s4, o4⟩; obtain ⟨g4, n4⟩ := g3.onN o4 s4; obtain ⟨c40, c41, c42, c43, c44, c45, c46, c47, c48, c49⟩ := g4.cs; have Y4 : P.Pg w4 w.heap.size kd n ((q.gen : Int) + 1) s 55 := ⟨n4.rows _ _ _ _ Y3.out calm55⟩; obtain ⟨y0, y1, y2, y3⟩ := Y4.cs; obtain ⟨w5, hr5, m5, o5⟩ := MAt.store (w := w4.drew) (g4.fm.same rfl) n (by omega) ⟨kd, n, q.gen + 1, s⟩; have hr6 : (Instr.mapUpdate 66 (.map (some a.mf)) (.int .i64 (n : Nat)) (.agg #[.int .i64 kd, .int .i64 (n : Nat), .int .u64 ((q.gen : Int) + 1), .string s])).run Tryz.prog w4.drew = .ok () w5 := hr5; clear hr5; have c5 : w5.cell? ⟨p, 6, none⟩ = some (.map (some a.mf)) := (World.cell?_of_block (w := w4) (o5.block _ g4.ps.2.2.2.2.2.2.1)).trans c46; have Y5 : P.Pg w5 w.heap.size kd n ((q.gen : Int) + 1) s 55 := ⟨(o5.block _ (by obtain ⟨_, _, hb⟩ := g4.fm.block; exact map_ne Y4.out hb)).trans Y4.out⟩; obtain ⟨x0, x1, x2, x3⟩ := Y5.cs))
  go_region_held3 (fun W => W.cell? ⟨p, 6, none⟩ = some (.map (some a.mf)) ∧ W.cell? ⟨w.heap.size, 0, none⟩ = some (.int .i64 kd) ∧ W.cell? ⟨w.heap.size, 1, none⟩ = some (.int .i64 (n : Nat)) ∧ W.cell? ⟨w.heap.size, 2, none⟩ = some (.int .u64 ((q.gen : Int) + 1)) ∧ W.cell? ⟨w.heap.size, 3, none⟩ = some (.string s)) (first | trivial | go_keep) (fail)
  all_goals go_wp2
  all_goals go_ret2
  all_goals
    obtain ⟨g5, n5⟩ := GA.onF (w := w4.drew) (g4.kept ((D.Kept.refl w4).drew)) o5 m5
    exact ⟨rfl, ⟨a, rfl, rfl, g5⟩, ((((On.ofKept K2 hB).trans n3).trans n4).drew).trans n5⟩

/-- A page goes. -/
def Pq.drop (q : Pq) (n : Nat) : Pq := if (q.fresh n).isSome then { q with un := S.freeAt q.un n, ut := S.freeAt q.ut n, fresh := delM q.fresh n } else { q with un := S.freeAt q.un n }

set_option maxRecDepth 100000 in
set_option maxHeartbeats 1000000 in
theorem drop_walk {B : Nat} {w : World} {p d g : Nat} {q : Pq} (h : GAt B w p d g q) (hB : B ≤ w.heap.size) (n : Nat) (h2 : 2 ≤ n) (hn : n < q.m) :
    Calls Tryz.prog 11 #[.pointer (some ⟨p, 0, none⟩), .int .i64 (n : Nat)] w fun e w' => e = .returned (.tuple #[]) ∧ GAt B w' p d g (q.drop n) ∧ On B w w' := by
  obtain ⟨a, rfl, rfl, k⟩ := h.out
  clear h
  obtain ⟨c0, c1, c2, c3, c4, c5, c6, c7, c8, c9⟩ := k.cs
  have hm := k.st.few
  have f1 := S.free_all k.sn n hn
  unfold Pq.drop
  cases hf : (q.fresh n).isSome with
  | false =>
    rw [if_neg (by simp)]
    go_enter Tryz.func11, Tryz.ntmps11
    go_wp2_with (go_at_call 29; (with_reducible refine f1.mono ?_); rintro e w1 ⟨rfl, s1, o1⟩; obtain ⟨k1, n1⟩ := k.onN o1 s1; obtain ⟨c10, c11, c12, c13, c14, c15, c16, c17, c18, c19⟩ := k1.cs; have lk := k1.fm.look n (by omega); rw [hf] at lk; generalize atK q.fresh n = xx at lk; obtain ⟨pk, pn, pg, ps⟩ := xx; dsimp only [Pag.val] at lk)
    first | go_end0 | refine bodyPost_ret (results_none rfl _ _ _) rfl ?_
    exact ⟨rfl, ⟨a, rfl, rfl, k1.kept ((D.Kept.refl _).alloc _)⟩, n1.kept ((D.Kept.refl _).alloc _) hB⟩
  | true =>
    rw [if_pos rfl]
    go_enter Tryz.func11, Tryz.ntmps11
    go_wp2_with (first
      | (go_at_call 29; (with_reducible refine f1.mono ?_); rintro e w1 ⟨rfl, s1, o1⟩; obtain ⟨k1, n1⟩ := k.onN o1 s1; obtain ⟨c10, c11, c12, c13, c14, c15, c16, c17, c18, c19⟩ := k1.cs; have lk := k1.fm.look n (by omega); rw [hf] at lk; generalize atK q.fresh n = xx at lk; obtain ⟨pk, pn, pg, ps⟩ := xx; dsimp only [Pag.val] at lk; have K2 : D.Kept w1 (w1.alloc (.cells #[.int .i64 pk, .int .i64 pn, .int .u64 (pg : Nat), .string ps] 55)) := (D.Kept.refl _).alloc _; have k2 := k1.kept K2; obtain ⟨c20, c21, c22, c23, c24, c25, c26, c27, c28, c29⟩ := k2.cs; have f2 := S.free_all k2.st n hn)
      | (go_at_call 29; (with_reducible refine f2.mono ?_); rintro e w3 ⟨rfl, s3, o3⟩; obtain ⟨k3, n3⟩ := k2.onT o3 s3; obtain ⟨c30, c31, c32, c33, c34, c35, c36, c37, c38, c39⟩ := k3.cs; obtain ⟨w4, dr0, m4, o4⟩ := k3.fm.drop n (by omega) 0; have dr : ∀ ty, (Builtin.delete_ #[66, 3] ty #[.map (some a.mf), .int .i64 (n : Nat)]).run Tryz.prog w3 = .ok (.tuple #[]) w4 := fun ty => dr0; obtain ⟨k4, n4⟩ := k3.onF o4 m4))
    first | go_end0 | refine bodyPost_ret (results_none rfl _ _ _) rfl ?_
    exact ⟨rfl, ⟨a, rfl, rfl, k4⟩, ((n1.kept K2 hB).trans n3).trans n4⟩
end Go.Proofs.YthlhnjjofefgcaaGreatDoor.G
