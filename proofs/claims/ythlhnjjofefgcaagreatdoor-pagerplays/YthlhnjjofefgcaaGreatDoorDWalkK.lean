/- The walks of a disk's fail, of an act in which the power fails, and of Flush. Conditions: each write that waits is one of a sector that there is; no more than 100000 wait; no more than 100000 acts and fails. -/
import Derived.Test.YthlhnjjofefgcaaGreatDoorDWalkJ
namespace Go.Proofs.YthlhnjjofefgcaaGreatDoor.D
open Go.ChangeShapes Go.WideShapes Go.ChangeAt Go.RowKit

/-- Sectors when so many writes are settled. -/
def settled (l : List Wr) (f : Nat → Nat) (s : List Sec) : Nat → List Sec
  | 0 => s
  | k + 1 => match l[k]? with
    | none => settled l f s k
    | some x => (settled l f s k).modify x.sec (settle1 x (f k))
theorem settled_succ (l : List Wr) (f : Nat → Nat) (s : List Sec) (k : Nat) (h : k < l.length) : settled l f s (k + 1) = (settled l f s k).modify l[k].sec (settle1 l[k] (f k)) := by
  rw [settled, List.getElem?_eq_getElem h]
theorem settled_length (l : List Wr) (f : Nat → Nat) (s : List Sec) : ∀ k, (settled l f s k).length = s.length
  | 0 => rfl
  | k + 1 => by
    rw [settled]
    split
    · exact settled_length l f s k
    · rw [List.length_modify]; exact settled_length l f s k

/-- A disk whose power fails. -/
def Dk.fail (d : Dk) (c : Ct) (r : List Ct) : Dk := { d with secs := settled d.waits (fateOf c) d.secs d.waits.length, waits := [], cuts := r, dead := true, fails := d.fails + 1 }

set_option maxHeartbeats 4000000 in
set_option maxRecDepth 100000 in
theorem fail_walk {B : Nat} {w : World} {b g : Nat} {d : Dk} (h : DiskAt B w b g d) (hB : B ≤ w.heap.size) (c : Ct) (r : List Ct) (hc : d.cuts = c :: r) (hw : d.waits.length ≤ 100000) (hs : ∀ x ∈ d.waits, x.sec < d.secs.length) (hf : d.fails ≤ 100000) :
    Calls Tryz.prog 83 #[.pointer (some ⟨b, 0, none⟩)] w fun e w' => e = .returned (.tuple #[]) ∧ DiskAt B w' b g (d.fail c r) ∧ On B w w' := by
  obtain ⟨vw, vc, k0⟩ := h.out
  obtain ⟨p, cap, rfl⟩ := own_form k0.waits
  obtain ⟨pc, cc, rfl, hcc, hcm, hcu⟩ := k0.cuts.out
  have e1 := k0.cell.2.1
  go_enter Tryz.func83, Tryz.ntmps83
  go_wp2
  go_loopg [9] d.waits.length (fun q iv wx => ∃ k : Nat, q + k = d.waits.length ∧ iv = .int .i64 k ∧ DAt B wx b g (.slice p d.waits.length cap) (.slice pc d.cuts.length cc) { d with secs := settled d.waits (fateOf c) d.secs k } ∧ On B w wx)
  case atStart => exact ⟨0, rfl, rfl, k0, On.refl _ _⟩
  case round =>
    obtain ⟨k, hq, rfl, hk, ho⟩ := hrel
    by_cases hlt : k < d.waits.length
    · have hd : decide ((k : Int) < (d.waits.length : Int)) = true := by simpa using hlt
      have i1 : (0 : Int) ≤ (k : Int) := by omega
      have i2 : (k : Int) < (d.waits.length : Int) := by omega
      obtain ⟨h0, cap', e0, _, _⟩ := hk.waits.form (by show 0 < d.waits.length; omega)
      injection e0 with e0 _ e0'
      subst e0 e0'
      have r0 := hk.waits.cellAt (k * 2) (by show _ < d.waits.length * 2; omega)
      have r1 := hk.waits.cellAt (k * 2 + 1) (by show _ < d.waits.length * 2; omega)
      rw [(wrCells_get d.waits k hlt).1] at r0
      rw [(wrCells_get d.waits k hlt).2] at r1
      obtain ⟨bc, off, vf, rfl, hsb, x0, x1, hfa⟩ := hcu 0 (by rw [hc]; simp)
      have hc0 : d.cuts[0]'(by rw [hc]; simp) = c := by simp [hc]
      rw [hc0] at x0 hfa
      rw [Nat.zero_mul, Nat.add_zero] at x0 x1
      obtain ⟨pf, cf, rfl, _⟩ := hfa.out
      have hor := ho.mono (Nat.zero_le B)
      obtain ⟨hsbr, _⟩ := hor.sb hsb
      have y0 := (hor.sbCell hsb off).trans x0
      have y1 := (hor.sbCell hsb (off + 1)).trans x1
      have hfr := hfa.on hor
      have hlen : d.cuts.length = r.length + 1 := by rw [hc]; rfl
      have e2 := hk.cell.2.2.1
      have hBr := Nat.le_trans hB ho.size
      obtain ⟨X, hX⟩ : ∃ X, d.waits[k] = X := ⟨_, rfl⟩
      have hXs : X.sec < (settled d.waits (fateOf c) d.secs k).length := by rw [settled_length, ← hX]; exact hs _ (List.getElem_mem hlt)
      rw [hX] at r0 r1
      have hstep : { d with secs := settled d.waits (fateOf c) d.secs (k + 1) } = ({ d with secs := settled d.waits (fateOf c) d.secs k } : Dk).settle X (fateOf c k) := by
        rw [settled_succ _ _ _ _ hlt, hX]; rfl
      obtain ⟨O, hO⟩ : ∃ O, O = Obj.cells #[.int .i64 (X.sec : Nat), .string X.bytes] 115 := ⟨_, rfl⟩
      have hkA : Kept wr (wr.alloc O) := (Kept.refl wr).alloc O
      have A2 := (hkA.disk hk).cell.2.2.1
      have B3 := (hkA.on (Nat.zero_le _)).sbCell hsbr off
      rw [y0] at B3
      have B4 := (hkA.on (Nat.zero_le _)).sbCell hsbr (off + 1)
      rw [y1] at B4
      have N0 : (wr.alloc O).heap[wr.heap.size]? = some O := heap_alloc_new wr O
      have A0 : (wr.alloc O).cell? ⟨wr.heap.size, 0, none⟩ = some (.int .i64 (X.sec : Nat)) := by rw [hO] at N0 ⊢; rw [cell_of_row _ _ _ _ _ _ N0]; rfl
      have A1 : (wr.alloc O).cell? ⟨wr.heap.size, 1, none⟩ = some (.string X.bytes) := by rw [hO] at N0 ⊢; rw [cell_of_row _ _ _ _ _ _ N0]; rfl
      have hko := hkA.disk hk
      have hfA := hfr.on (hkA.on (Nat.zero_le _))
      subst hO
      rw [hlen] at A2 e2
      go_wp2
      generalize wr.alloc (Obj.cells #[.int .i64 (X.sec : Nat), .string X.bytes] 115) = WA at *
      have hltA : wr.heap.size < WA.heap.size := (Array.getElem?_eq_some_iff.1 N0).1
      clear N0
      have A3 : WA.cell? ⟨bc, off, none⟩ = some (.int .i64 c.at_) := B3
      have A4 : WA.cell? ⟨bc, off + 1, none⟩ = some (.slice pf c.fates.length cf) := B4
      have hBA := Nat.le_trans hBr hkA.size
      have hoA : On B w WA := ho.kept hkA hB
      clear e2 y0 y1 hfr hsbr hor x0 x1 hsb hfa r0 r1 hk hcu hkA
      go_region_with (first
        | (go_at_call 97; refine (fateOf_walk c (hfA.on (((Kept.refl WA).drew).on (Nat.zero_le _))) k (by omega)).mono ?_; rintro e w2 ⟨rfl, hk2⟩; have hk20 : Kept WA w2 := ((Kept.refl WA).drew).trans hk2; have m0 := World.cell?_of_block (w := WA) (a := ⟨wr.heap.size, 0, none⟩) (hk20.out.block wr.heap.size hltA); rw [A0] at m0; have m1 := World.cell?_of_block (w := WA) (a := ⟨wr.heap.size, 1, none⟩) (hk20.out.block wr.heap.size hltA); rw [A1] at m1; have hd2 := hk20.disk hko)
        | (go_at_call 74; refine (settle_walk hd2 (Nat.le_trans hBA hk20.size) X hXs (fateOf c k) (fateOf_le c k)).mono ?_; rintro e w3 ⟨rfl, hd3, ho3⟩))
      all_goals
        go_wp2
        go_roundg (d.waits.length - (k + 1))
        case measure => omega
        case rel => exact ⟨k + 1, by omega, by go_num, by rw [hstep]; exact hd3, (hoA.kept hk20 hB).trans ho3⟩
    · have hd : decide ((k : Int) < (d.waits.length : Int)) = false := by simpa using hlt
      obtain rfl : k = d.waits.length := by omega
      have hlen : d.cuts.length = r.length + 1 := by rw [hc]; rfl
      have hor := ho.mono (Nat.zero_le B)
      obtain ⟨bc, off, vf, rfl, hsb, x0, x1, hfa⟩ := hcu 0 (by rw [hc]; simp)
      have hkD := (Kept.refl wr).drew.disk hk
      obtain ⟨c0, c1, c2, c3, c4, c5, c6⟩ := hk.cell
      have f1 := hk.frozen 1
      have f2 := hk.frozen 2
      have f5 := hk.frozen 5
      have f6 := hk.frozen 6
      have k1 := hkD.setNone
      have o1 := (hkD.turn 1 (.slice none 0 0)).2.2.2
      have hcut : ∃ v', CutsAt 0 wr.drew v' r ∧ v' = .slice (if cc = 1 then some ⟨bc, off, none⟩ else some ⟨bc, off + 2, none⟩) r.length (cc - 1) := by
        refine ⟨_, ⟨_, _, rfl, by rw [hlen] at hcc; omega, by omega, fun j hj => ?_⟩, rfl⟩
        rw [hlen] at hcc
        rw [if_neg (by omega)]
        obtain ⟨b', off', vf', e', hs', y0, y1, hf'⟩ := hcu (j + 1) (by rw [hlen]; omega)
        injection e' with e'
        injection e' with e1 e2
        subst e1 e2
        have hel : d.cuts[j + 1]'(by rw [hlen]; omega) = r[j] := by simp [hc]
        rw [hel] at y0 hf'
        have hoD : On 0 w wr.drew := hor.drew
        refine ⟨bc, off + 2, vf', rfl, (hoD.sb hs').1, ?_, ?_, hf'.on hoD⟩
        · rw [show off + 2 + j * 2 = off + (j + 1) * 2 by omega, hoD.sbCell hs']; exact y0
        · rw [show off + 2 + j * 2 + 1 = off + (j + 1) * 2 + 1 by omega, hoD.sbCell hs']; exact y1
      obtain ⟨v', hv', ev'⟩ := hcut
      have k2 := k1.setCuts v' r (hv'.on (o1.mono (Nat.zero_le _)))
      have o2 := (k1.turn 2 v').2.2.2
      have k3 := k2.setDead true
      have o3 := (k2.turn 6 (.bool true)).2.2.2
      have k4 : DAt B _ b g _ _ _ := k3.setFails (d.fails + 1)
      have o4 := (k3.turn 5 (.int .i64 ((d.fails + 1 : Nat) : Int))).2.2.2
      have hoF := ((((ho.drew).trans o1).trans o2).trans o3).trans o4
      rw [hlen] at c2
      have i1 : (1 : Int) ≤ (r.length : Int) + 1 := by omega
      go_wp2
      go_region
      rw [← ev']
      clear ev'
      go_wp2
      first | go_end0 | refine bodyPost_ret (results_none rfl _ _ _) rfl ?_
      exact ⟨rfl, ⟨_, _, k4⟩, hoF⟩

/-- A disk behind an act that is begun. -/
def Dk.begin (d : Dk) : Dk := { d with acts := d.acts + 1, since := d.since + 1 }

set_option maxHeartbeats 2000000 in
theorem act_cut {B : Nat} {w : World} {b g : Nat} {d : Dk} (h : DiskAt B w b g d) (hB : B ≤ w.heap.size) (ha : d.acts ≤ 100000) (hs : d.since ≤ 100000) (hf : d.fails ≤ 100000) (c : Ct) (r : List Ct) (hc : d.cuts = c :: r) (hlt : ¬ (d.since : Int) < c.at_)
    (hw : d.waits.length ≤ 100000) (hx : ∀ x ∈ d.waits, x.sec < d.secs.length) :
    Calls Tryz.prog 64 #[.pointer (some ⟨b, 0, none⟩)] w fun e w' => e = .returned (.int .i64 40) ∧ DiskAt B w' b g (d.begin.fail c r) ∧ On B w w' := by
  obtain ⟨vw, vc, k0⟩ := h.out
  obtain ⟨pc, cc, rfl, hcc, hcm, hcu⟩ := k0.cuts.out
  obtain ⟨c0, c1, c2, c3, c4, c5, c6⟩ := k0.cell
  have f3 := k0.frozen 3
  have f4 := k0.frozen 4
  have k1 : DAt B (w.setCell ⟨b, 3, none⟩ (.int .i64 ((d.acts : Int) + 1))) b g vw (.slice pc d.cuts.length cc) { d with acts := d.acts + 1 } := k0.setActs (d.acts + 1)
  have o1 := (k0.turn 3 (.int .i64 ((d.acts : Int) + 1))).2.2.2
  have k2 : DAt B ((w.setCell ⟨b, 3, none⟩ (.int .i64 ((d.acts : Int) + 1))).setCell ⟨b, 4, none⟩ (.int .i64 ((d.since : Int) + 1))) b g vw (.slice pc d.cuts.length cc) d.begin := k1.setSince (d.since + 1)
  have o2 := (k1.turn 4 (.int .i64 ((d.since : Int) + 1))).2.2.2
  have ho := o1.trans o2
  obtain ⟨bc, off, vf, rfl, hsb, hx0, hy, hfa⟩ := hcu 0 (by rw [hc]; simp)
  rw [Nat.zero_mul, Nat.add_zero] at hx0
  have hx' : w.cell? ⟨bc, off, none⟩ = some (.int .i64 c.at_) := by rw [hx0]; simp [hc]
  have hdd : decide ((d.since : Int) < c.at_) = false := by simpa using hlt
  have hlen : d.cuts.length = r.length + 1 := by rw [hc]; rfl
  rw [hlen] at c2
  have hz0 := (ho.mono (Nat.zero_le _)).sbCell hsb off
  rw [hx'] at hz0
  have hfail := fail_walk ⟨_, _, k2⟩ (Nat.le_trans hB ho.size) c r hc hw hx hf
  clear k1 o1 o2 hcu k0
  go_enter Tryz.func64, Tryz.ntmps64
  go_wp2_with (go_at_call 83; refine hfail.mono ?_; rintro e w3 ⟨rfl, hd3, ho3⟩)
  go_ret
  exact ⟨rfl, hd3, ho.trans ho3⟩
end Go.Proofs.YthlhnjjofefgcaaGreatDoor.D
