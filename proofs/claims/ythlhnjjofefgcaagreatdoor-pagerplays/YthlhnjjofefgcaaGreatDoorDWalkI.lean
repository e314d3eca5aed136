/- The walks of Read and Write, given what act does. Conditions: those of wait and act; which write waits for a sector is one that waits. -/
import Derived.Test.YthlhnjjofefgcaaGreatDoorDWalkH
namespace Go.Proofs.YthlhnjjofefgcaaGreatDoor.D
open Go.ChangeShapes Go.WideShapes Go.ChangeAt Go.RowKit

theorem read_nil {w : World} (n : Int) : Calls Tryz.prog 54 #[.pointer none, .int .i64 n] w fun e w' => e = .returned (.tuple #[.string ⟨#[]⟩, .int .i64 40]) ∧ w' = w := by
  go_enter Tryz.func54, Tryz.ntmps54
  go_wp2_with (go_at_call 61; refine dead_nil.mono ?_; rintro e w' ⟨rfl, hw'⟩; rw [hw']; clear hw')
  go_ret2
  exact ⟨rfl, rfl⟩
theorem write_nil {w : World} (n : Int) (s : ByteArray) : Calls Tryz.prog 41 #[.pointer none, .int .i64 n, .string s] w fun e w' => e = .returned (.int .i64 40) ∧ w' = w := by
  go_enter Tryz.func41, Tryz.ntmps41
  go_wp2_with (go_at_call 61; refine dead_nil.mono ?_; rintro e w' ⟨rfl, hw'⟩; rw [hw']; clear hw')
  go_ret
  exact ⟨rfl, rfl⟩
theorem flush_nil {w : World} : Calls Tryz.prog 53 #[.pointer none] w fun e w' => e = .returned (.int .i64 40) ∧ w' = w := by
  go_enter Tryz.func53, Tryz.ntmps53
  go_wp2_with (go_at_call 61; refine dead_nil.mono ?_; rintro e w' ⟨rfl, hw'⟩; rw [hw']; clear hw')
  go_ret
  exact ⟨rfl, rfl⟩

theorem read_dead {B : Nat} {w : World} {b g : Nat} {d : Dk} (h : DiskAt B w b g d) (hd : d.dead = true) (n : Int) : Calls Tryz.prog 54 #[.pointer (some ⟨b, 0, none⟩), .int .i64 n] w fun e w' => e = .returned (.tuple #[.string ⟨#[]⟩, .int .i64 40]) ∧ w' = w := by
  have hw := dead_walk h
  rw [hd] at hw
  go_enter Tryz.func54, Tryz.ntmps54
  go_wp2_with (go_at_call 61; refine hw.mono ?_; rintro e w' ⟨rfl, hw'⟩; rw [hw']; clear hw')
  go_ret2
  exact ⟨rfl, rfl⟩
theorem write_dead {B : Nat} {w : World} {b g : Nat} {d : Dk} (h : DiskAt B w b g d) (hd : d.dead = true) (n : Int) (s : ByteArray) : Calls Tryz.prog 41 #[.pointer (some ⟨b, 0, none⟩), .int .i64 n, .string s] w fun e w' => e = .returned (.int .i64 40) ∧ w' = w := by
  have hw := dead_walk h
  rw [hd] at hw
  go_enter Tryz.func41, Tryz.ntmps41
  go_wp2_with (go_at_call 61; refine hw.mono ?_; rintro e w' ⟨rfl, hw'⟩; rw [hw']; clear hw')
  go_ret
  exact ⟨rfl, rfl⟩

theorem read_range {B : Nat} {w : World} {b g : Nat} {d : Dk} (h : DiskAt B w b g d) (hd : d.dead = false) (n : Int) (hn : ¬ (0 ≤ n ∧ n < (d.secs.length : Int))) :
    Calls Tryz.prog 54 #[.pointer (some ⟨b, 0, none⟩), .int .i64 n] w fun e w' => e = .returned (.tuple #[.string ⟨#[]⟩, .int .i64 42]) ∧ w' = w := by
  have hw := dead_walk h
  rw [hd] at hw
  have hh := has_walk h n
  rw [decide_eq_false hn] at hh
  go_enter Tryz.func54, Tryz.ntmps54
  go_wp2_with (first
    | (go_at_call 61; refine hw.mono ?_; rintro e w' ⟨rfl, hw'⟩; rw [hw']; clear hw')
    | (go_at_call 62; refine hh.mono ?_; rintro e w' ⟨rfl, hw'⟩; rw [hw']; clear hw'))
  go_ret2
  exact ⟨rfl, rfl⟩
theorem write_range {B : Nat} {w : World} {b g : Nat} {d : Dk} (h : DiskAt B w b g d) (hd : d.dead = false) (n : Int) (hn : ¬ (0 ≤ n ∧ n < (d.secs.length : Int))) (s : ByteArray) :
    Calls Tryz.prog 41 #[.pointer (some ⟨b, 0, none⟩), .int .i64 n, .string s] w fun e w' => e = .returned (.int .i64 42) ∧ w' = w := by
  have hw := dead_walk h
  rw [hd] at hw
  have hh := has_walk h n
  rw [decide_eq_false hn] at hh
  go_enter Tryz.func41, Tryz.ntmps41
  go_wp2_with (first
    | (go_at_call 61; refine hw.mono ?_; rintro e w' ⟨rfl, hw'⟩; rw [hw']; clear hw')
    | (go_at_call 62; refine hh.mono ?_; rintro e w' ⟨rfl, hw'⟩; rw [hw']; clear hw'))
  go_ret
  exact ⟨rfl, rfl⟩
theorem write_long {B : Nat} {w : World} {b g : Nat} {d : Dk} (h : DiskAt B w b g d) (hd : d.dead = false) (n : Int) (hn : 0 ≤ n ∧ n < (d.secs.length : Int)) (s : ByteArray) (hs : 256 < s.size) :
    Calls Tryz.prog 41 #[.pointer (some ⟨b, 0, none⟩), .int .i64 n, .string s] w fun e w' => e = .returned (.int .i64 1) ∧ w' = w := by
  have hw := dead_walk h
  rw [hd] at hw
  have hh := has_walk h n
  rw [decide_eq_true hn] at hh
  have hss : decide ((256 : Int) < (s.size : Int)) = true := by simp; omega
  go_enter Tryz.func41, Tryz.ntmps41
  go_wp2_with (first
    | (go_at_call 61; refine hw.mono ?_; rintro e w' ⟨rfl, hw'⟩; rw [hw']; clear hw')
    | (go_at_call 62; refine hh.mono ?_; rintro e w' ⟨rfl, hw'⟩; rw [hw']; clear hw'))
  go_ret
  exact ⟨rfl, rfl⟩

/-- A read in which the power fails. -/
theorem read_cut {B : Nat} {w : World} {b g : Nat} {d d' : Dk} (h : DiskAt B w b g d) (hd : d.dead = false) (n : Int) (hn : 0 ≤ n ∧ n < (d.secs.length : Int))
    (hact : Calls Tryz.prog 64 #[.pointer (some ⟨b, 0, none⟩)] w fun e w' => e = .returned (.int .i64 40) ∧ DiskAt B w' b g d' ∧ On B w w') :
    Calls Tryz.prog 54 #[.pointer (some ⟨b, 0, none⟩), .int .i64 n] w fun e w' => e = .returned (.tuple #[.string ⟨#[]⟩, .int .i64 40]) ∧ DiskAt B w' b g d' ∧ On B w w' := by
  have hw := dead_walk h
  rw [hd] at hw
  have hh := has_walk h n
  rw [decide_eq_true hn] at hh
  go_enter Tryz.func54, Tryz.ntmps54
  go_wp2_with (first
    | (go_at_call 61; refine hw.mono ?_; rintro e w' ⟨rfl, hw'⟩; rw [hw']; clear hw')
    | (go_at_call 62; refine hh.mono ?_; rintro e w' ⟨rfl, hw'⟩; rw [hw']; clear hw')
    | (go_at_call 64; refine hact.mono ?_; rintro e w1 ⟨rfl, hk1, ho1⟩))
  go_ret2
  exact ⟨rfl, hk1, ho1⟩

/-- What a sector says. -/
def Dk.says (d : Dk) (n : Nat) : ByteArray × Int := match d.secs[n]? with
  | none => (⟨#[]⟩, 42)
  | some s => match s.last with
    | q + 1 => match d.waits[q]? with
      | none => (⟨#[]⟩, 42)
      | some x => (x.bytes, 0)
    | 0 => if s.torn then (⟨#[]⟩, 41) else (s.kept, 0)

set_option maxHeartbeats 2000000 in
theorem read_ok {B : Nat} {w : World} {b g : Nat} {d d' : Dk} (h : DiskAt B w b g d) (hB : B ≤ w.heap.size) (hd : d.dead = false) (n : Nat) (hn : n < d.secs.length) (hw1000 : d'.waits.length ≤ 100000)
    (hact : Calls Tryz.prog 64 #[.pointer (some ⟨b, 0, none⟩)] w fun e w' => e = .returned (.int .i64 0) ∧ DiskAt B w' b g d' ∧ On B w w') (hn' : n < d'.secs.length) (hl : d'.secs[n].last ≤ d'.waits.length) :
    Calls Tryz.prog 54 #[.pointer (some ⟨b, 0, none⟩), .int .i64 (n : Nat)] w fun e w' => e = .returned (.tuple #[.string (d'.says n).1, .int .i64 (d'.says n).2]) ∧ DiskAt B w' b g d' ∧ On B w w' := by
  have hw := dead_walk h
  rw [hd] at hw
  have hh := has_walk h (n : Int)
  rw [decide_eq_true (by omega)] at hh
  have i1 : (0 : Int) ≤ (n : Int) := by omega
  have i2 : (n : Int) < (d'.secs.length : Int) := by omega
  obtain ⟨S, hS⟩ : ∃ S, d'.secs[n] = S := ⟨_, rfl⟩
  have hsome : d'.secs[n]? = some S := by rw [List.getElem?_eq_getElem hn', hS]
  rw [hS] at hl
  rcases hlast : S.last with _ | q
  · cases htorn : S.torn with
    | true =>
      have hv : d'.says n = (⟨#[]⟩, 41) := by simp [Dk.says, hsome, hlast, htorn]
      rw [hv]
      go_enter Tryz.func54, Tryz.ntmps54
      go_wp2_with (first
        | (go_at_call 61; refine hw.mono ?_; rintro e w' ⟨rfl, hw'⟩; rw [hw']; clear hw')
        | (go_at_call 62; refine hh.mono ?_; rintro e w' ⟨rfl, hw'⟩; rw [hw']; clear hw')
        | (go_at_call 64; refine hact.mono ?_; rintro e w1 ⟨rfl, hk1, ho1⟩; obtain ⟨vw, vc, k0⟩ := hk1.out; have c0 := k0.cell.1; have s0 := k0.secs.cells n hn'; rw [hS, hlast, htorn] at s0; obtain ⟨s1, s2, s3⟩ := s0))
      go_ret2
      exact ⟨rfl, ((Kept.refl w1).alloc _).dk hk1, ho1.alloc hB _⟩
    | false =>
      have hv : d'.says n = (S.kept, 0) := by simp [Dk.says, hsome, hlast, htorn]
      rw [hv]
      go_enter Tryz.func54, Tryz.ntmps54
      go_wp2_with (first
        | (go_at_call 61; refine hw.mono ?_; rintro e w' ⟨rfl, hw'⟩; rw [hw']; clear hw')
        | (go_at_call 62; refine hh.mono ?_; rintro e w' ⟨rfl, hw'⟩; rw [hw']; clear hw')
        | (go_at_call 64; refine hact.mono ?_; rintro e w1 ⟨rfl, hk1, ho1⟩; obtain ⟨vw, vc, k0⟩ := hk1.out; have c0 := k0.cell.1; have s0 := k0.secs.cells n hn'; rw [hS, hlast, htorn] at s0; obtain ⟨s1, s2, s3⟩ := s0))
      go_ret2
      exact ⟨rfl, ((Kept.refl w1).alloc _).dk hk1, ho1.alloc hB _⟩
  · rw [hlast] at hl
    have hq : q < d'.waits.length := by omega
    have hv : d'.says n = (d'.waits[q].bytes, 0) := by simp [Dk.says, hsome, hlast, List.getElem?_eq_getElem hq]
    rw [hv]
    have q1 : (0 : Int) ≤ (q : Int) := by omega
    have q2 : (q : Int) < (d'.waits.length : Int) := by omega
    go_enter Tryz.func54, Tryz.ntmps54
    go_wp2_with (first
      | (go_at_call 61; refine hw.mono ?_; rintro e w' ⟨rfl, hw'⟩; rw [hw']; clear hw')
      | (go_at_call 62; refine hh.mono ?_; rintro e w' ⟨rfl, hw'⟩; rw [hw']; clear hw')
      | (go_at_call 64; refine hact.mono ?_; rintro e w1 ⟨rfl, hk1, ho1⟩; obtain ⟨vw, vc, k0⟩ := hk1.out; have c0 := k0.cell.1; have s0 := k0.secs.cells n hn'; rw [hS, hlast] at s0; obtain ⟨s1, s2, s3⟩ := s0; have s3' : w1.cell? ⟨g, n * 3 + 2, none⟩ = some (.int .i64 ((q : Int) + 1)) := s3; clear s3; obtain ⟨h0, cap, e0, _, _⟩ := k0.waits.form (by omega); subst e0; have cw := k0.cell.2.1; have r1 := k0.waits.cellAt (q * 2 + 1) (by omega); rw [(wrCells_get d'.waits q hq).2] at r1))
    have kA := ((Kept.refl w1).alloc (.cells #[.string S.kept, .bool S.torn, .int .i64 ((q : Int) + 1)] 86)).disk k0
    have cwA := kA.cell.2.1
    have r1A := kA.waits.cellAt (q * 2 + 1) (by omega)
    rw [(wrCells_get d'.waits q hq).2] at r1A
    go_quiet (fail)
    go_wp2
    go_ret2
    exact ⟨rfl, (((Kept.refl w1).alloc _).drewN nq).dk hk1, ho1.kept (((Kept.refl w1).alloc _).drewN nq) hB⟩
end Go.Proofs.YthlhnjjofefgcaaGreatDoor.D
