/- The walk of committed: the state that a disk's first two sectors say. Conditions: a disk that is whole; what the sectors say is told. -/
import Derived.Test.YthlhnjjofefgcaaGreatDoorGWalkA
import Derived.LoopN
namespace Go.Proofs.YthlhnjjofefgcaaGreatDoor.G
open Go.ChangeShapes Go.WideShapes Go.ChangeAt Go.RowKit
open D (Dk Ok DiskAt)
open P (bs supL Sup supP Small)

/-- What a sector's bytes say of a state, at a place. -/
def Sd (A : ByteArray) (a : Nat) : Option (Nat × Int) → Prop
  | some (g, r) => Sup g r ∧ A = bs (supP g r) ∧ g % 2 = a
  | none => ∀ g r, Sup g r → A = bs (supP g r) → g % 2 ≠ a

theorem sget_sd {A : ByteArray} {a : Nat} {o : Option (Nat × Int)} (h : Sd A a o) (w : World) :
    Calls Tryz.prog 75 #[.string A, .int .i64 (a : Nat)] w fun e w' => e = .returned (.tuple #[.agg #[.int .u64 ((o.getD (0, 0)).1 : Nat), .int .i64 (o.getD (0, 0)).2], .bool o.isSome]) ∧ P.Kept w w' := by
  cases o with
  | some x =>
    obtain ⟨g, r⟩ := x
    obtain ⟨h1, rfl, h3⟩ := h
    exact P.sget_yes h1 (by omega) w
  | none =>
    have hs := P.un_small A
    have e := P.bs_un A
    have := P.sget_walk (P.un A) hs (a : Int) w
    rw [e] at this
    refine this.mono (fun _ _ ⟨h1, hk⟩ => ⟨h1.no (fun g r h2 h3 h4 => ?_), hk⟩)
    refine h g r h2 ?_ (by omega)
    rw [← h3, e]

/-- Which of two states is the later one. -/
def pick (o0 o1 : Option (Nat × Int)) : Option (Nat × Int) := match o1 with
  | some (g, r) => if (o0.getD (0, 0)).1 < g then some (g, r) else o0
  | none => o0

theorem choose_sd {A C : ByteArray} {o0 o1 : Option (Nat × Int)} (h0 : Sd A 0 o0) (h1 : Sd C 1 o1) (w : World) :
    Calls Tryz.prog 55 #[.string A, .string C] w fun e w' => e = .returned (.tuple #[.agg #[.int .u64 (((pick o0 o1).getD (0, 0)).1 : Nat), .int .i64 ((pick o0 o1).getD (0, 0)).2], .bool (pick o0 o1).isSome]) ∧ P.Kept w w' := by
  have f1 : ∀ W, _ := fun W => sget_sd h0 W
  have f2 : ∀ W, _ := fun W => sget_sd h1 W
  cases o1 with
  | none => exact P.choose_none A C _ _ _ _ _ f1 f2 w
  | some x =>
    obtain ⟨g, r⟩ := x
    unfold pick
    dsimp only
    split
    · rename_i hg
      exact P.choose_odd A C _ _ _ _ _ hg f1 f2 w
    · rename_i hg
      exact P.choose_even A C _ _ _ _ _ hg f1 f2 w

theorem DiskAt.set {B : Nat} {w : World} {b g : Nat} {d : Dk} (h : DiskAt B w b g d) {x : Nat} {cs : Array Value} {t : TypeId} {fr : Nat × Nat} (hx : w.heap[x]? = some (.cells cs t fr)) (ht : ¬ D.Quiet t) (i : Nat) (v : Value) : DiskAt B (w.setCell ⟨x, i, none⟩ v) b g d :=
  h.frame (fun k cs' t' fr' hk hq => by
    rw [Below.heap_setCell w ⟨x, i, none⟩ v k (cells_ne hk hx (fun e => ht (e ▸ hq)))]
    exact hk)
theorem OnD.new {B : Nat} {a b : World} (h : D.On B a b) (hB : B ≤ a.heap.size) {x : Nat} (hx : a.heap.size ≤ x) (i : Nat) (v : Value) : D.On B a (b.setCell ⟨x, i, none⟩ v) := by
  have e : ∀ k, k < a.heap.size → (b.setCell ⟨x, i, none⟩ v).heap[k]? = b.heap[k]? := fun k hk => Below.heap_setCell b ⟨x, i, none⟩ v k (by show k ≠ x; omega)
  refine ⟨h.below.setCell (by show B ≤ x; omega) v, fun k cs t fr hk hc => ?_, fun k es c hk => ?_⟩
  · rw [e k (Array.getElem?_eq_some_iff.1 hk).1]; exact h.rows k cs t fr hk hc
  · rw [e k (Array.getElem?_eq_some_iff.1 hk).1]; exact h.maps k es c hk
theorem quiet52 : ¬ D.Quiet 52 := by unfold D.Quiet; decide
theorem quiet101 : ¬ D.Quiet 101 := by unfold D.Quiet; decide
theorem calm52 : D.Calm 52 := by unfold D.Calm; decide
theorem calm101 : D.Calm 101 := by unfold D.Calm; decide

/-- Two texts in memory. -/
structure Tw (w : World) (s : Nat) (A C : ByteArray) : Prop where
  out : w.heap[s]? = some (.cells #[.string A, .string C] 101)
theorem Tw.cs {w : World} {s : Nat} {A C : ByteArray} (h : Tw w s A C) : w.cell? ⟨s, 0, none⟩ = some (.string A) ∧ w.cell? ⟨s, 1, none⟩ = some (.string C) := by
  constructor <;> (rw [cell_of_row w s _ _ _ _ h.out]; rfl)
theorem Tw.fz {w : World} {s : Nat} {A C : ByteArray} (h : Tw w s A C) (j : Nat) : w.frozen? ⟨s, j, none⟩ = false := frozen_of_row w s j _ _ h.out
theorem Tw.set0 {w : World} {s : Nat} {A C : ByteArray} (h : Tw w s A C) (X : ByteArray) : Tw (w.setCell ⟨s, 0, none⟩ (.string X)) s X C := ⟨by rw [heap_setCell_same w s 0 _ _ _ h.out]; rfl⟩
theorem Tw.set1 {w : World} {s : Nat} {A C : ByteArray} (h : Tw w s A C) (X : ByteArray) : Tw (w.setCell ⟨s, 1, none⟩ (.string X)) s A X := ⟨by rw [heap_setCell_same w s 1 _ _ _ h.out]; rfl⟩
theorem Tw.on {B : Nat} {w w' : World} {s : Nat} {A C : ByteArray} (h : Tw w s A C) (o : D.On B w w') : Tw w' s A C := ⟨o.rows _ _ _ _ h.out calm101⟩
theorem Sp.on {B : Nat} {w w' : World} {s : Nat} {x y : Int} (h : P.Sp w s x y) (o : D.On B w w') : P.Sp w' s x y := ⟨o.rows _ _ _ _ h.out calm52⟩
theorem Tw.keptP {w w' : World} {s : Nat} {A C : ByteArray} (h : Tw w s A C) (o : P.Kept w w') : Tw w' s A C := ⟨o.block h.out⟩

/-- The two blocks of one's own, and the disk, ahead of the loop. -/
theorem begin_two {B : Nat} {w : World} {b g : Nat} {d : Dk} (h : DiskAt B w b g d) (hB : B ≤ w.heap.size) :
    P.Sp ((w.alloc (.cells #[.int .u64 0, .int .i64 0] 52)).alloc (.cells #[.string ⟨#[]⟩, .string ⟨#[]⟩] 101)) w.heap.size 0 0 ∧ Tw ((w.alloc (.cells #[.int .u64 0, .int .i64 0] 52)).alloc (.cells #[.string ⟨#[]⟩, .string ⟨#[]⟩] 101)) (w.heap.size + 1) ⟨#[]⟩ ⟨#[]⟩ ∧
    DiskAt B ((w.alloc (.cells #[.int .u64 0, .int .i64 0] 52)).alloc (.cells #[.string ⟨#[]⟩, .string ⟨#[]⟩] 101)) b g d ∧ D.On B w ((w.alloc (.cells #[.int .u64 0, .int .i64 0] 52)).alloc (.cells #[.string ⟨#[]⟩, .string ⟨#[]⟩] 101)) := by
  have k : D.Kept w ((w.alloc (.cells #[.int .u64 0, .int .i64 0] 52)).alloc (.cells #[.string ⟨#[]⟩, .string ⟨#[]⟩] 101)) := ((D.Kept.refl w).alloc _).alloc _
  refine ⟨((P.Kept.refl _).alloc _).sp (P.Sp.alloc w 0 0), ⟨D.two_new w _ _⟩, k.dk h, k.on hB⟩
/-- A text is stored. -/
theorem store_two {B : Nat} {w W : World} {b g s : Nat} {d : Dk} {A C : ByteArray} (h : DiskAt B W b g d) (t : Tw W s A C) (i : Nat) (X : ByteArray) (o : D.On B w W) (hB : B ≤ w.heap.size) (hs : w.heap.size ≤ s) (z : P.Sp W w.heap.size 0 0) (hne : w.heap.size ≠ s) :
    DiskAt B (W.setCell ⟨s, i, none⟩ (.string X)) b g d ∧ D.On B w (W.setCell ⟨s, i, none⟩ (.string X)) ∧ P.Sp (W.setCell ⟨s, i, none⟩ (.string X)) w.heap.size 0 0 ∧ B ≤ (W.setCell ⟨s, i, none⟩ (.string X)).heap.size := by
  have o2 := OnD.new o hB hs i (.string X)
  exact ⟨DiskAt.set h t.out quiet101 i _, o2, z.far _ _ hne, Nat.le_trans hB o2.size⟩

set_option maxHeartbeats 1000000 in
set_option maxRecDepth 100000 in
theorem committed_yes {B : Nat} {w : World} {b g m : Nat} {d : Dk} (h : DiskAt B w b g d) (hB : B ≤ w.heap.size) (ok : Ok m d) (hm : m < 49000) {o0 o1 : Option (Nat × Int)}
    (he0 : (d.read 0).2.2 = 0 ∨ (d.read 0).2.2 = 41) (he1 : ((d.read 0).1.read 1).2.2 = 0 ∨ ((d.read 0).1.read 1).2.2 = 41) (h0 : Sd (d.read 0).2.1 0 o0) (h1 : Sd ((d.read 0).1.read 1).2.1 1 o1) (x : Nat × Int) (hp : pick o0 o1 = some x) :
    Calls Tryz.prog 33 #[.pointer (some ⟨b, 0, none⟩)] w fun e w' => e = .returned (.tuple #[.agg #[.int .u64 (x.1 : Nat), .int .i64 x.2], .int .i64 0]) ∧ DiskAt B w' b g ((d.read 0).1.read 1).1 ∧ D.On B w w' := by
  have f1 : ∀ W, DiskAt B W b g d → B ≤ W.heap.size → Calls Tryz.prog 54 #[.pointer (some ⟨b, 0, none⟩), .int .i64 0] W fun e w' => e = .returned (.tuple #[.string (d.read 0).2.1, .int .i64 (d.read 0).2.2]) ∧ DiskAt B w' b g (d.read 0).1 ∧ D.On B W w' := fun W k kB => D.read_walk k kB ok (by omega) 0
  have ok1 := read_ok' ok 0
  have f2 : ∀ W, DiskAt B W b g (d.read 0).1 → B ≤ W.heap.size → Calls Tryz.prog 54 #[.pointer (some ⟨b, 0, none⟩), .int .i64 1] W fun e w' => e = .returned (.tuple #[.string ((d.read 0).1.read 1).2.1, .int .i64 ((d.read 0).1.read 1).2.2]) ∧ DiskAt B w' b g ((d.read 0).1.read 1).1 ∧ D.On B W w' := fun W k kB => D.read_walk k kB ok1 (by omega) 1
  have f3 := choose_sd h0 h1
  rw [hp] at f3
  obtain ⟨xg, xr⟩ := x
  dsimp only [Option.getD_some, Option.isSome_some] at f3
  generalize (d.read 0).1.read 1 = z2 at f2 f3 he1 h1 ⊢
  generalize d.read 0 = z1 at f1 f2 f3 he0 h0
  obtain ⟨d1, A, e0⟩ := z1
  obtain ⟨d2, C, e1⟩ := z2
  clear h0 h1 ok1 hp
  obtain ⟨Z0, T0, D0, O0⟩ := begin_two h hB
  have B0 := Nat.le_trans hB O0.size
  dsimp only at f1 f2 f3 he0 he1
  rcases he0 with rfl | rfl <;> rcases he1 with rfl | rfl
  all_goals
    go_enter Tryz.func33, Tryz.ntmps33
    go_wp2
    refine wp_loop_rounds 3 ?_
    rw [rounds_succ]
    go_wp2_with (go_at_call 54; (with_reducible refine (f1 _ D0 B0).mono ?_); rintro e w1 ⟨rfl, D1, O1⟩; have T1 := T0.on O1; have Z1 := Sp.on Z0 O1; have c1 := T1.cs.1; have z1 := T1.fz 0; obtain ⟨D2, O2, Z2, B2⟩ := store_two D1 T1 0 A (O0.trans O1) hB (Nat.le_succ _) Z1 (by omega); have T2 := T1.set0 A)
    rw [rounds_succ]
    go_wp2_with (go_at_call 54; (with_reducible refine (f2 _ D2 B2).mono ?_); rintro e w2 ⟨rfl, D3, O3⟩; have T3 := T2.on O3; have Z3 := Sp.on Z2 O3; have c3 := T3.cs.2; have z3 := T3.fz 1; obtain ⟨D4, O4, Z4, B4⟩ := store_two D3 T3 1 C (O2.trans O3) hB (Nat.le_succ _) Z3 (by omega); have T4 := T3.set1 C; obtain ⟨c40, c41⟩ := T4.cs)
    rw [rounds_succ]
    go_wp2_with (go_at_call 55; (with_reducible refine (f3 _).mono ?_); rintro e w3 ⟨rfl, K5⟩; have K6 : P.Kept w3 (w3.alloc (.cells #[.int .u64 (xg : Nat), .int .i64 xr] 52)) := (P.Kept.refl w3).alloc _; have Z5 := K6.sp (K5.sp Z4); have Y5 := P.Sp.alloc w3 xg xr; obtain ⟨y0, y1⟩ := Y5.cs; obtain ⟨⟨zz0, hh0⟩, zz1, hh1⟩ := Z5.ready (xg : Nat); have D5 : DiskAt B _ b g d2 := D.Kept.dk (D.Kept.trans ⟨K5.out⟩ ⟨K6.out⟩) D4; have O5 := O4.trans (D.Kept.on (D.Kept.trans ⟨K5.out⟩ ⟨K6.out⟩) B4))
    refine bodyPost_ret (v := .tuple #[.agg #[.int .u64 (xg : Nat), .int .i64 xr], .int .i64 0]) ?_ rfl ⟨rfl, ?_, ?_⟩
    · exact P.results_two (p := 2) (u := 3) (ty := 52) rfl _ _ w.heap.size 52 _ (0, 0) _ rfl (Z5.fill xg xr).out Tryz.underlying52 rfl P.size52
    · exact DiskAt.set (DiskAt.set D5 Z5.out quiet52 0 _) (Z5.set0 xg).out quiet52 1 _
    · exact OnD.new (OnD.new O5 hB (Nat.le_refl _) 0 _) hB (Nat.le_refl _) 1 _

set_option maxHeartbeats 1000000 in
set_option maxRecDepth 100000 in
theorem committed_no {B : Nat} {w : World} {b g m : Nat} {d : Dk} (h : DiskAt B w b g d) (hB : B ≤ w.heap.size) (ok : Ok m d) (hm : m < 49000) {o0 o1 : Option (Nat × Int)}
    (he0 : (d.read 0).2.2 = 0 ∨ (d.read 0).2.2 = 41) (he1 : ((d.read 0).1.read 1).2.2 = 0 ∨ ((d.read 0).1.read 1).2.2 = 41) (h0 : Sd (d.read 0).2.1 0 o0) (h1 : Sd ((d.read 0).1.read 1).2.1 1 o1) (hp : pick o0 o1 = none) :
    Calls Tryz.prog 33 #[.pointer (some ⟨b, 0, none⟩)] w fun e w' => e = .returned (.tuple #[.agg #[.int .u64 0, .int .i64 0], .int .i64 81]) ∧ DiskAt B w' b g ((d.read 0).1.read 1).1 ∧ D.On B w w' := by
  have f1 : ∀ W, DiskAt B W b g d → B ≤ W.heap.size → Calls Tryz.prog 54 #[.pointer (some ⟨b, 0, none⟩), .int .i64 0] W fun e w' => e = .returned (.tuple #[.string (d.read 0).2.1, .int .i64 (d.read 0).2.2]) ∧ DiskAt B w' b g (d.read 0).1 ∧ D.On B W w' := fun W k kB => D.read_walk k kB ok (by omega) 0
  have ok1 := read_ok' ok 0
  have f2 : ∀ W, DiskAt B W b g (d.read 0).1 → B ≤ W.heap.size → Calls Tryz.prog 54 #[.pointer (some ⟨b, 0, none⟩), .int .i64 1] W fun e w' => e = .returned (.tuple #[.string ((d.read 0).1.read 1).2.1, .int .i64 ((d.read 0).1.read 1).2.2]) ∧ DiskAt B w' b g ((d.read 0).1.read 1).1 ∧ D.On B W w' := fun W k kB => D.read_walk k kB ok1 (by omega) 1
  have f3 := choose_sd h0 h1
  rw [hp] at f3
  dsimp only [Option.getD_none, Option.isSome_none] at f3
  have f3 : ∀ W, Calls Tryz.prog 55 _ W fun e w' => e = .returned (.tuple #[.agg #[.int .u64 0, .int .i64 0], .bool false]) ∧ P.Kept W w' := f3
  generalize (d.read 0).1.read 1 = z2 at f2 f3 he1 h1 ⊢
  generalize d.read 0 = z1 at f1 f2 f3 he0 h0
  obtain ⟨d1, A, e0⟩ := z1
  obtain ⟨d2, C, e1⟩ := z2
  clear h0 h1 ok1 hp
  obtain ⟨Z0, T0, D0, O0⟩ := begin_two h hB
  have B0 := Nat.le_trans hB O0.size
  dsimp only at f1 f2 f3 he0 he1
  rcases he0 with rfl | rfl <;> rcases he1 with rfl | rfl
  all_goals
    go_enter Tryz.func33, Tryz.ntmps33
    go_wp2
    refine wp_loop_rounds 3 ?_
    rw [rounds_succ]
    go_wp2_with (go_at_call 54; (with_reducible refine (f1 _ D0 B0).mono ?_); rintro e w1 ⟨rfl, D1, O1⟩; have T1 := T0.on O1; have Z1 := Sp.on Z0 O1; have c1 := T1.cs.1; have z1 := T1.fz 0; obtain ⟨D2, O2, Z2, B2⟩ := store_two D1 T1 0 A (O0.trans O1) hB (Nat.le_succ _) Z1 (by omega); have T2 := T1.set0 A)
    rw [rounds_succ]
    go_wp2_with (go_at_call 54; (with_reducible refine (f2 _ D2 B2).mono ?_); rintro e w2 ⟨rfl, D3, O3⟩; have T3 := T2.on O3; have Z3 := Sp.on Z2 O3; have c3 := T3.cs.2; have z3 := T3.fz 1; obtain ⟨D4, O4, Z4, B4⟩ := store_two D3 T3 1 C (O2.trans O3) hB (Nat.le_succ _) Z3 (by omega); have T4 := T3.set1 C; obtain ⟨c40, c41⟩ := T4.cs)
    rw [rounds_succ]
    go_wp2_with (go_at_call 55; (with_reducible refine (f3 _).mono ?_); rintro e w3 ⟨rfl, K5⟩; have K6 : P.Kept w3 (w3.alloc (.cells #[.int .u64 0, .int .i64 0] 52)) := (P.Kept.refl w3).alloc _; have Z5 := K6.sp (K5.sp Z4); obtain ⟨⟨zz0, hh0⟩, zz1, hh1⟩ := Z5.ready 0; have D5 : DiskAt B _ b g d2 := D.Kept.dk (D.Kept.trans ⟨K5.out⟩ ⟨K6.out⟩) D4; have O5 := O4.trans (D.Kept.on (D.Kept.trans ⟨K5.out⟩ ⟨K6.out⟩) B4))
    refine bodyPost_ret (v := .tuple #[.agg #[.int .u64 0, .int .i64 0], .int .i64 81]) ?_ rfl ⟨rfl, ?_, ?_⟩
    · exact P.results_two (p := 2) (u := 3) (ty := 52) rfl _ _ w.heap.size 52 _ (0, 0) _ rfl (Z5.fill 0 0).out Tryz.underlying52 rfl P.size52
    · exact DiskAt.set (DiskAt.set D5 Z5.out quiet52 0 _) (Z5.set0 0).out quiet52 1 _
    · exact OnD.new (OnD.new O5 hB (Nat.le_refl _) 0 _) hB (Nat.le_refl _) 1 _
end Go.Proofs.YthlhnjjofefgcaaGreatDoor.G
