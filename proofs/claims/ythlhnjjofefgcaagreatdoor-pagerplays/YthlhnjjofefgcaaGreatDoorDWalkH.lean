/- The walks of fateOf, of a disk's act without a cut, of Up, Read and Write. Conditions: no more than 100000 acts, and 100000 writes that wait; a disk whose sectors' waiting writes are there. -/
import Derived.Test.YthlhnjjofefgcaaGreatDoorDWalkG
namespace Go.Proofs.YthlhnjjofefgcaaGreatDoor.D
open Go.ChangeShapes Go.WideShapes Go.ChangeAt Go.RowKit

/-- The fate of what waits at a place. -/
def fateOf (c : Ct) (i : Nat) : Nat := if i < c.fates.length then ((c.fates.getD i 0) % 3).toNat else 0
theorem fateOf_le (c : Ct) (i : Nat) : fateOf c i ≤ 2 := by unfold fateOf; split <;> omega

theorem rem3 (x : Int) : (x.tmod 3 + 3).tmod 3 = x % 3 := by
  have h : x.tmod 3 = x - 3 * x.tdiv 3 := by have := Int.tmod_add_mul_tdiv x 3; omega
  rcases Int.le_total 0 x with hx | hx
  · have h1 := Int.tmod_nonneg (b := 3) (a := x) hx
    rw [Int.tmod_eq_emod_of_nonneg (by omega), Int.add_emod_right, Int.tmod_eq_emod_of_nonneg hx]
    omega
  · have h1 : -3 < x.tmod 3 := by have := Int.lt_tmod_of_pos x (b := 3) (by decide); omega
    rw [Int.tmod_eq_emod_of_nonneg (by omega), Int.add_emod_right, h]
    omega

theorem fateOf_walk {B : Nat} {w : World} {vf : Value} (c : Ct) (h : FatesAt B w vf c.fates) (i : Nat) (hi : i ≤ 100000) :
    Calls Tryz.prog 97 #[.agg #[.int .i64 c.at_, vf], .int .i64 (i : Nat)] w fun e w' => e = .returned (.int .i64 (fateOf c i : Nat)) ∧ Kept w w' := by
  obtain ⟨p, cc, rfl, hc⟩ := h.out
  by_cases hl : i < c.fates.length
  · obtain ⟨b, off, rfl, hs, hx⟩ := hc i hl
    have hd : decide (((c.fates.length : Nat) : Int) ≤ (i : Int)) = false := by simp; omega
    have i1 : (0 : Int) ≤ (i : Int) := by omega
    have i2 : (i : Int) < (c.fates.length : Int) := by omega
    obtain ⟨X, hX⟩ : ∃ X, c.fates.getD i 0 = X := ⟨_, rfl⟩
    have ef : ((fateOf c i : Nat) : Int) = (X.tmod 3 + 3).tmod 3 := by
      rw [rem3]; unfold fateOf; rw [if_pos hl, hX]; omega
    rw [hX] at hx
    have hxA : (w.alloc (.cells #[.int .i64 c.at_, .slice (some ⟨b, off, none⟩) c.fates.length cc] 48)).cell? ⟨b, off + i, none⟩ = some (.int .i64 X) := Lib.cell?_alloc_some _ hx
    have w1 : -3 < X.tmod 3 ∧ X.tmod 3 < 3 := ⟨by have := Int.lt_tmod_of_pos X (b := 3) (by decide); omega, Int.tmod_lt_of_pos X (by decide)⟩
    rw [ef]
    clear ef hX hc h hs
    go_enter Tryz.func97, Tryz.ntmps97
    go_wp2
    go_ret
    refine ⟨?_, (Kept.refl w).alloc _⟩
    show Ending.returned (Value.int .i64 ((X.tmod 3 + 3) % 3)) = _
    rw [Int.tmod_eq_emod_of_nonneg (a := X.tmod 3 + 3) (by omega)]
  · have hd : decide (((c.fates.length : Nat) : Int) ≤ (i : Int)) = true := by simp; omega
    have ef : fateOf c i = 0 := by unfold fateOf; rw [if_neg hl]
    rw [ef]
    go_enter Tryz.func97, Tryz.ntmps97
    go_wp2
    go_ret
    exact ⟨rfl, (Kept.refl w).alloc _⟩


set_option maxHeartbeats 2000000 in
theorem act_ok {B : Nat} {w : World} {b g : Nat} {d : Dk} (h : DiskAt B w b g d) (ha : d.acts ≤ 100000) (hs : d.since ≤ 100000) (hc : ∀ c r, d.cuts = c :: r → (d.since : Int) < c.at_) :
    Calls Tryz.prog 64 #[.pointer (some ⟨b, 0, none⟩)] w fun e w' => e = .returned (.int .i64 0) ∧ DiskAt B w' b g { d with acts := d.acts + 1, since := d.since + 1 } ∧ On B w w' := by
  obtain ⟨vw, vc, k0⟩ := h.out
  obtain ⟨pc, cc, rfl, hcc, hcm, hcu⟩ := k0.cuts.out
  obtain ⟨c0, c1, c2, c3, c4, c5, c6⟩ := k0.cell
  have f3 := k0.frozen 3
  have f4 := k0.frozen 4
  have k1 : DAt B (w.setCell ⟨b, 3, none⟩ (.int .i64 ((d.acts : Int) + 1))) b g vw (.slice pc d.cuts.length cc) { d with acts := d.acts + 1 } := k0.setActs (d.acts + 1)
  have o1 := (k0.turn 3 (.int .i64 ((d.acts : Int) + 1))).2.2.2
  have k2 : DAt B ((w.setCell ⟨b, 3, none⟩ (.int .i64 ((d.acts : Int) + 1))).setCell ⟨b, 4, none⟩ (.int .i64 ((d.since : Int) + 1))) b g vw (.slice pc d.cuts.length cc) { d with acts := d.acts + 1, since := d.since + 1 } := k1.setSince (d.since + 1)
  have o2 := (k1.turn 4 (.int .i64 ((d.since : Int) + 1))).2.2.2
  have ho := o1.trans o2
  obtain hd | ⟨x, r, hd⟩ : d.cuts = [] ∨ ∃ x r, d.cuts = x :: r := by cases d.cuts <;> simp
  · rw [hd] at c2
    go_enter Tryz.func64, Tryz.ntmps64
    go_wp2
    go_ret
    exact ⟨rfl, ⟨_, _, k2⟩, ho⟩
  · obtain ⟨bc, off, vf, rfl, hsb, hx, hy, hf⟩ := hcu 0 (by rw [hd]; simp)
    rw [Nat.zero_mul, Nat.add_zero] at hx
    have hx' : w.cell? ⟨bc, off, none⟩ = some (.int .i64 x.at_) := by rw [hx]; simp [hd]
    have hlt := hc x r hd
    have hdd : decide ((d.since : Int) < x.at_) = true := by simpa using hlt
    have hlen : d.cuts.length = r.length + 1 := by rw [hd]; rfl
    rw [hlen] at c2
    have hz0 := (ho.mono (Nat.zero_le _)).sbCell hsb off
    rw [hx'] at hz0
    go_enter Tryz.func64, Tryz.ntmps64
    go_wp2
    go_ret
    exact ⟨rfl, ⟨_, _, k2⟩, ho⟩

/-- Power again. -/
def Dk.up (d : Dk) : Dk := if d.dead then { d with dead := false, since := 0 } else d

theorem up_walk {B : Nat} {w : World} {b g : Nat} {d : Dk} (h : DiskAt B w b g d) :
    Calls Tryz.prog 19 #[.pointer (some ⟨b, 0, none⟩)] w fun e w' => e = .returned (.tuple #[]) ∧ DiskAt B w' b g d.up ∧ On B w w' := by
  obtain ⟨vw, vc, k0⟩ := h.out
  obtain ⟨c0, c1, c2, c3, c4, c5, c6⟩ := k0.cell
  have f6 := k0.frozen 6
  have f4 := k0.frozen 4
  have k1 := k0.setDead false
  have o1 := (k0.turn 6 (.bool false)).2.2.2
  have k2 := k1.setSince 0
  have o2 := (k1.turn 4 (.int .i64 0)).2.2.2
  have ho := o1.trans o2
  cases hd : d.dead with
  | true =>
    rw [hd] at c6
    have e : d.up = { d with dead := false, since := 0 } := by simp [Dk.up, hd]
    rw [e]
    go_enter Tryz.func19, Tryz.ntmps19
    go_wp2
    first | go_end0 | refine bodyPost_ret (results_none rfl _ _ _) rfl ?_
    exact ⟨rfl, ⟨_, _, k2⟩, ho⟩
  | false =>
    rw [hd] at c6
    have e : d.up = d := by simp [Dk.up, hd]
    rw [e]
    go_enter Tryz.func19, Tryz.ntmps19
    go_wp2
    first | go_end0 | refine bodyPost_ret (results_none rfl _ _ _) rfl ?_
    exact ⟨rfl, h, On.refl _ _⟩

theorem up_nil {w : World} : Calls Tryz.prog 19 #[.pointer none] w fun e w' => e = .returned (.tuple #[]) ∧ w' = w := by
  go_enter Tryz.func19, Tryz.ntmps19
  go_wp2
  first | go_end0 | refine bodyPost_ret (results_none rfl _ _ _) rfl ?_
  exact ⟨rfl, rfl⟩
end Go.Proofs.YthlhnjjofefgcaaGreatDoor.D
