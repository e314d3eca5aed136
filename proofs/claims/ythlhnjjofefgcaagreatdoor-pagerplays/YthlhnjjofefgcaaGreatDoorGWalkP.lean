/- The walks of committed and of Open where a sector can't be read, or no state is committed. Conditions: a disk that is whole. -/
import Derived.Test.YthlhnjjofefgcaaGreatDoorGWalkM
namespace Go.Proofs.YthlhnjjofefgcaaGreatDoor.G
open Go.ChangeShapes Go.WideShapes Go.ChangeAt Go.RowKit
open D (Dk Ok DiskAt Sec Wr Ct CutsAt whole)
open P (bs supL Sup supP Small)

set_option maxHeartbeats 1000000 in
set_option maxRecDepth 100000 in
theorem committed_err0 {B : Nat} {w : World} {b g m : Nat} {d d1 : Dk} {A : ByteArray} {x : Int} (h : DiskAt B w b g d) (hB : B ≤ w.heap.size) (ok : Ok m d) (hm : m < 49000) (hr : d.read 0 = (d1, A, x)) (h0 : ¬ x = 0) (h41 : ¬ x = 41) :
    Calls Tryz.prog 33 #[.pointer (some ⟨b, 0, none⟩)] w fun e w' => e = .returned (.tuple #[.agg #[.int .u64 0, .int .i64 0], .int .i64 x]) ∧ DiskAt B w' b g d1 ∧ D.On B w w' := by
  have f1 : ∀ W, DiskAt B W b g d → B ≤ W.heap.size → Calls Tryz.prog 54 #[.pointer (some ⟨b, 0, none⟩), .int .i64 0] W fun e w' => e = .returned (.tuple #[.string A, .int .i64 x]) ∧ DiskAt B w' b g d1 ∧ D.On B W w' := fun W k kB => by
    have := D.read_walk k kB ok (by omega) 0
    rw [hr] at this
    exact this
  obtain ⟨Z0, T0, D0, O0⟩ := begin_two h hB
  have B0 := Nat.le_trans hB O0.size
  have e0 : (x != 0) = true := by simpa using h0
  have e41 : (x != 41) = true := by simpa using h41
  clear hr
  go_enter Tryz.func33, Tryz.ntmps33
  go_wp2
  refine wp_loop_rounds 1 ?_
  rw [rounds_succ]
  go_wp2_with (go_at_call 54; (with_reducible refine (f1 _ D0 B0).mono ?_); rintro e w1 ⟨rfl, D1, O1⟩; have Z1 := Sp.on Z0 O1; obtain ⟨⟨zz0, hh0⟩, zz1, hh1⟩ := Z1.ready 0)
  refine bodyPost_ret (v := .tuple #[.agg #[.int .u64 0, .int .i64 0], .int .i64 x]) ?_ rfl ⟨rfl, ?_, ?_⟩
  · exact P.results_two (p := 2) (u := 3) (ty := 52) rfl _ _ w.heap.size 52 _ (0, 0) _ rfl (Z1.fill 0 0).out Tryz.underlying52 rfl P.size52
  · exact DiskAt.set (DiskAt.set D1 Z1.out quiet52 0 _) (Z1.set0 0).out quiet52 1 _
  · exact OnD.new (OnD.new (O0.trans O1) hB (Nat.le_refl _) 0 _) hB (Nat.le_refl _) 1 _

set_option maxHeartbeats 1000000 in
set_option maxRecDepth 100000 in
theorem committed_err1 {B : Nat} {w : World} {b g m : Nat} {d d1 d2 : Dk} {A C : ByteArray} {x : Int} (h : DiskAt B w b g d) (hB : B ≤ w.heap.size) (ok : Ok m d) (hm : m < 49000) (hr : d.read 0 = (d1, A, 0)) (hr1 : d1.read 1 = (d2, C, x)) (h0 : ¬ x = 0) (h41 : ¬ x = 41) :
    Calls Tryz.prog 33 #[.pointer (some ⟨b, 0, none⟩)] w fun e w' => e = .returned (.tuple #[.agg #[.int .u64 0, .int .i64 0], .int .i64 x]) ∧ DiskAt B w' b g d2 ∧ D.On B w w' := by
  have ok1 := read_ok' ok 0
  rw [hr] at ok1
  have f1 : ∀ W, DiskAt B W b g d → B ≤ W.heap.size → Calls Tryz.prog 54 #[.pointer (some ⟨b, 0, none⟩), .int .i64 0] W fun e w' => e = .returned (.tuple #[.string A, .int .i64 0]) ∧ DiskAt B w' b g d1 ∧ D.On B W w' := fun W k kB => by
    have := D.read_walk k kB ok (by omega) 0
    rw [hr] at this
    exact this
  have f2 : ∀ W, DiskAt B W b g d1 → B ≤ W.heap.size → Calls Tryz.prog 54 #[.pointer (some ⟨b, 0, none⟩), .int .i64 1] W fun e w' => e = .returned (.tuple #[.string C, .int .i64 x]) ∧ DiskAt B w' b g d2 ∧ D.On B W w' := fun W k kB => by
    have := D.read_walk k kB ok1 (by omega) 1
    rw [hr1] at this
    exact this
  obtain ⟨Z0, T0, D0, O0⟩ := begin_two h hB
  have B0 := Nat.le_trans hB O0.size
  have e0 : (x != 0) = true := by simpa using h0
  have e41 : (x != 41) = true := by simpa using h41
  clear hr hr1 ok1
  go_enter Tryz.func33, Tryz.ntmps33
  go_wp2
  refine wp_loop_rounds 2 ?_
  rw [rounds_succ]
  go_wp2_with (go_at_call 54; (with_reducible refine (f1 _ D0 B0).mono ?_); rintro e w1 ⟨rfl, D1, O1⟩; have T1 := T0.on O1; have Z1 := Sp.on Z0 O1; have c1 := T1.cs.1; have z1 := T1.fz 0; obtain ⟨D2, O2, Z2, B2⟩ := store_two D1 T1 0 A (O0.trans O1) hB (Nat.le_succ _) Z1 (by omega); have T2 := T1.set0 A)
  rw [rounds_succ]
  go_wp2_with (go_at_call 54; (with_reducible refine (f2 _ D2 B2).mono ?_); rintro e w2 ⟨rfl, D3, O3⟩; have Z3 := Sp.on Z2 O3; obtain ⟨⟨zz0, hh0⟩, zz1, hh1⟩ := Z3.ready 0)
  refine bodyPost_ret (v := .tuple #[.agg #[.int .u64 0, .int .i64 0], .int .i64 x]) ?_ rfl ⟨rfl, ?_, ?_⟩
  · exact P.results_two (p := 2) (u := 3) (ty := 52) rfl _ _ w.heap.size 52 _ (0, 0) _ rfl (Z3.fill 0 0).out Tryz.underlying52 rfl P.size52
  · exact DiskAt.set (DiskAt.set D3 Z3.out quiet52 0 _) (Z3.set0 0).out quiet52 1 _
  · exact OnD.new (OnD.new (O2.trans O3) hB (Nat.le_refl _) 0 _) hB (Nat.le_refl _) 1 _

theorem open_B {B : Nat} {w : World} {b g : Nat} {d2 : Dk} (x : Int) (hx : ¬ x = 0) (hB : B ≤ w.heap.size)
    (f1 : Calls Tryz.prog 33 #[.pointer (some ⟨b, 0, none⟩)] w fun e w' => e = .returned (.tuple #[.agg #[.int .u64 0, .int .i64 0], .int .i64 x]) ∧ DiskAt B w' b g d2 ∧ D.On B w w') :
    Calls Tryz.prog 15 #[.pointer (some ⟨b, 0, none⟩)] w fun e w' => e = .returned (.tuple #[.pointer none, .int .i64 x]) ∧ DiskAt B w' b g d2 ∧ D.On B w w' := by
  have e0 : (x != 0) = true := by simpa using hx
  go_enter Tryz.func15, Tryz.ntmps15
  go_wp2_with (go_at_call 33; (with_reducible refine f1.mono ?_); rintro e w1 ⟨rfl, D1, O1⟩)
  go_ret2
  exact ⟨rfl, ((D.Kept.refl w1).alloc _).dk D1, O1.trans (((D.Kept.refl w1).alloc _).on (Nat.le_trans hB O1.size))⟩

/-- No state is committed. -/
theorem open_none {B : Nat} {w : World} {b g m : Nat} {d : Dk} (h : DiskAt B w b g d) (hB : B ≤ w.heap.size) (ok : Ok m d) (hm : m < 49000) (hf : Flu d) (hl : Liv d 2) {s0 s1 : Sec} (e0 : d.secs[0]? = some s0) (e1 : d.secs[1]? = some s1)
    (k0 : Sd (sayS s0).1 0 none) (k1 : Sd (sayS s1).1 1 none) :
    Calls Tryz.prog 15 #[.pointer (some ⟨b, 0, none⟩)] w fun e w' => e = .returned (.tuple #[.pointer none, .int .i64 81]) ∧ DiskAt B w' b g d.begin.begin ∧ D.On B w w' := by
  have r0 : d.read 0 = (d.begin, sayS s0) := read_flu hf (hl.mono (by omega)) e0
  have r1 : d.begin.read 1 = (d.begin.begin, sayS s1) := read_flu (begin_flu hf) (begin_live hl) e1
  have t : ∀ s : Sec, (sayS s).2 = 0 ∨ (sayS s).2 = 41 := by intro s; unfold sayS; cases s.torn <;> simp
  have f := committed_no h hB ok hm (o0 := none) (o1 := none) (by rw [r0]; exact t _) (by rw [r0]; show (d.begin.read 1).2.2 = 0 ∨ _; rw [r1]; exact t _) (by rw [r0]; exact k0) (by rw [r0]; show Sd (d.begin.read 1).2.1 1 none; rw [r1]; exact k1) rfl
  rw [r0] at f
  dsimp only at f
  rw [r1] at f
  exact open_B 81 (by decide) hB f
end Go.Proofs.YthlhnjjofefgcaaGreatDoor.G
