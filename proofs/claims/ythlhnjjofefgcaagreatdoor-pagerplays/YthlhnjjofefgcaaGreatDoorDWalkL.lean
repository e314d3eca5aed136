/- The walk of Flush, given what act does. Conditions: each write that waits is one of a sector that there is; no more than 100000 wait. -/
import Derived.Test.YthlhnjjofefgcaaGreatDoorDWalkK
namespace Go.Proofs.YthlhnjjofefgcaaGreatDoor.D
open Go.ChangeShapes Go.WideShapes Go.ChangeAt Go.RowKit

theorem flush_dead {B : Nat} {w : World} {b g : Nat} {d : Dk} (h : DiskAt B w b g d) (hd : d.dead = true) : Calls Tryz.prog 53 #[.pointer (some ⟨b, 0, none⟩)] w fun e w' => e = .returned (.int .i64 40) ∧ w' = w := by
  have hw := dead_walk h
  rw [hd] at hw
  go_enter Tryz.func53, Tryz.ntmps53
  go_wp2_with (go_at_call 61; refine hw.mono ?_; rintro e w' ⟨rfl, hw'⟩; rw [hw']; clear hw')
  go_ret
  exact ⟨rfl, rfl⟩

theorem flush_cut {B : Nat} {w : World} {b g : Nat} {d d' : Dk} (h : DiskAt B w b g d) (hd : d.dead = false)
    (hact : Calls Tryz.prog 64 #[.pointer (some ⟨b, 0, none⟩)] w fun e w' => e = .returned (.int .i64 40) ∧ DiskAt B w' b g d' ∧ On B w w') :
    Calls Tryz.prog 53 #[.pointer (some ⟨b, 0, none⟩)] w fun e w' => e = .returned (.int .i64 40) ∧ DiskAt B w' b g d' ∧ On B w w' := by
  have hw := dead_walk h
  rw [hd] at hw
  go_enter Tryz.func53, Tryz.ntmps53
  go_wp2_with (first
    | (go_at_call 61; refine hw.mono ?_; rintro e w' ⟨rfl, hw'⟩; rw [hw']; clear hw')
    | (go_at_call 64; refine hact.mono ?_; rintro e w1 ⟨rfl, hk1, ho1⟩))
  go_ret
  exact ⟨rfl, hk1, ho1⟩

/-- A disk of which all that waits is there for good. -/
def Dk.good (d : Dk) : Dk := { d with secs := settled d.waits (fun _ => 1) d.secs d.waits.length, waits := [] }

set_option maxHeartbeats 4000000 in
set_option maxRecDepth 100000 in
theorem flush_ok {B : Nat} {w : World} {b g : Nat} {d d' : Dk} (h : DiskAt B w b g d) (hB : B ≤ w.heap.size) (hd : d.dead = false)
    (hact : Calls Tryz.prog 64 #[.pointer (some ⟨b, 0, none⟩)] w fun e w' => e = .returned (.int .i64 0) ∧ DiskAt B w' b g d' ∧ On B w w') (hw : d'.waits.length ≤ 100000) (hs : ∀ x ∈ d'.waits, x.sec < d'.secs.length) :
    Calls Tryz.prog 53 #[.pointer (some ⟨b, 0, none⟩)] w fun e w' => e = .returned (.int .i64 0) ∧ DiskAt B w' b g d'.good ∧ On B w w' := by
  have hwd := dead_walk h
  rw [hd] at hwd
  go_enter Tryz.func53, Tryz.ntmps53
  go_wp2_with (first
    | (go_at_call 61; refine hwd.mono ?_; rintro e w' ⟨rfl, hw'⟩; rw [hw']; clear hw')
    | (go_at_call 64; refine hact.mono ?_; rintro e w1 ⟨rfl, hk1, ho1⟩; obtain ⟨vw, vc, k0⟩ := hk1.out; obtain ⟨p, cap, ep⟩ := own_form k0.waits; subst ep; have e1 := k0.cell.2.1))
  clear hact hwd h
  go_loopg [18] d'.waits.length (fun q iv wx => ∃ k : Nat, q + k = d'.waits.length ∧ iv = .int .i64 k ∧ DAt B wx b g (.slice p d'.waits.length cap) vc { d' with secs := settled d'.waits (fun _ => 1) d'.secs k } ∧ On B w wx)
  case atStart => exact ⟨0, rfl, rfl, k0, ho1⟩
  case round =>
    obtain ⟨k, hq, rfl, hk, ho⟩ := hrel
    by_cases hlt : k < d'.waits.length
    · have hd : decide ((k : Int) < (d'.waits.length : Int)) = true := by simpa using hlt
      have i1 : (0 : Int) ≤ (k : Int) := by omega
      have i2 : (k : Int) < (d'.waits.length : Int) := by omega
      obtain ⟨h0, cap', e0, _, _⟩ := hk.waits.form (by show 0 < d'.waits.length; omega)
      injection e0 with e0 _ e0'
      subst e0 e0'
      have r0 := hk.waits.cellAt (k * 2) (by show _ < d'.waits.length * 2; omega)
      have r1 := hk.waits.cellAt (k * 2 + 1) (by show _ < d'.waits.length * 2; omega)
      rw [(wrCells_get d'.waits k hlt).1] at r0
      rw [(wrCells_get d'.waits k hlt).2] at r1
      obtain ⟨X, hX⟩ : ∃ X, d'.waits[k] = X := ⟨_, rfl⟩
      have hXs : X.sec < (settled d'.waits (fun _ => 1) d'.secs k).length := by rw [settled_length, ← hX]; exact hs _ (List.getElem_mem hlt)
      rw [hX] at r0 r1
      have hstep : { d' with secs := settled d'.waits (fun _ => 1) d'.secs (k + 1) } = ({ d' with secs := settled d'.waits (fun _ => 1) d'.secs k } : Dk).settle X 1 := by
        rw [settled_succ _ _ _ _ hlt, hX]; rfl
      have hkA : Kept wr (wr.alloc (Obj.cells #[.int .i64 (X.sec : Nat), .string X.bytes] 115)) := (Kept.refl wr).alloc _
      have hoA := ho.kept hkA hB
      have hset := settle_walk (hkA.disk hk) (Nat.le_trans hB hoA.size) X hXs 1 (by omega)
      unfold Wr.val at hset
      clear e1 k0 ho1 hk1
      go_wp2_with (go_at_call 74; refine hset.mono ?_; rintro e w3 ⟨rfl, hd3, ho3⟩)
      go_roundg (d'.waits.length - (k + 1))
      case measure => omega
      case rel => exact ⟨k + 1, by omega, by go_num, by rw [hstep]; exact hd3, hoA.trans ho3⟩
    · have hd : decide ((k : Int) < (d'.waits.length : Int)) = false := by simpa using hlt
      obtain rfl : k = d'.waits.length := by omega
      have c1 := hk.cell.2.1
      have f1 := hk.frozen 1
      have k1 := hk.setNone
      have o1 := (hk.turn 1 (.slice none 0 0)).2.2.2
      clear e1 k0 ho1 hk1
      go_wp2
      go_ret
      exact ⟨rfl, ⟨_, _, k1⟩, ho.trans o1⟩
end Go.Proofs.YthlhnjjofefgcaaGreatDoor.D
