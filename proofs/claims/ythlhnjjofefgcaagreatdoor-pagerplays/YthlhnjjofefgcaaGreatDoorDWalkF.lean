/- The walks of what turns a disk: settle, wait, act without a cut, Up. Conditions: sectors that there are; numbers that stay within Go's ints. -/
import Derived.Test.YthlhnjjofefgcaaGreatDoorDWalkE
namespace Go.Proofs.YthlhnjjofefgcaaGreatDoor.D
open Go.ChangeShapes Go.WideShapes Go.ChangeAt Go.RowKit

theorem not81 : ¬ Calm 81 := by unfold Calm; decide
theorem not86 : ¬ Calm 86 := by unfold Calm; decide
theorem not115 : ¬ Calm 115 := by unfold Calm; decide

theorem DAt.ne {B : Nat} {w : World} {b g : Nat} {vw vc : Value} {d : Dk} (h : DAt B w b g vw vc d) : g ≠ b := by
  intro e
  obtain ⟨cur, hg, _⟩ := h.secs.out
  rw [e, h.blk] at hg
  injection hg with hg
  injection hg with _ e2 _
  exact absurd e2 (by decide)

/-- A disk's own block turns. -/
theorem DAt.turn {B : Nat} {w : World} {b g : Nat} {vw vc : Value} {d : Dk} (h : DAt B w b g vw vc d) (j : Nat) (v : Value) :
    SecsAt (w.setCell ⟨b, j, none⟩ v) g d.secs ∧ (w.setCell ⟨b, j, none⟩ v).ownsRow B 115 2 vw d.waits.length (wrCells d.waits) ∧ CutsAt 0 (w.setCell ⟨b, j, none⟩ v) vc d.cuts ∧ On B w (w.setCell ⟨b, j, none⟩ v) := by
  have ho : On B w (w.setCell ⟨b, j, none⟩ v) := (On.refl B w).setCell h.leb h.blk not81 j v
  exact ⟨h.secs.block (Below.heap_setCell w ⟨b, j, none⟩ v g h.ne), own_set h.waits h.blk (by decide) v, h.cuts.on (ho.mono (Nat.zero_le _)), ho⟩

theorem DAt.setActs {B : Nat} {w : World} {b g : Nat} {vw vc : Value} {d : Dk} (h : DAt B w b g vw vc d) (x : Nat) : DAt B (w.setCell ⟨b, 3, none⟩ (.int .i64 (x : Nat))) b g vw vc { d with acts := x } :=
  ⟨by rw [heap_setCell_same w b 3 _ _ _ h.blk]; rfl, (h.turn _ _).1, (h.turn _ _).2.1, (h.turn _ _).2.2.1, h.leb, h.leg⟩
theorem DAt.setSince {B : Nat} {w : World} {b g : Nat} {vw vc : Value} {d : Dk} (h : DAt B w b g vw vc d) (x : Nat) : DAt B (w.setCell ⟨b, 4, none⟩ (.int .i64 (x : Nat))) b g vw vc { d with since := x } :=
  ⟨by rw [heap_setCell_same w b 4 _ _ _ h.blk]; rfl, (h.turn _ _).1, (h.turn _ _).2.1, (h.turn _ _).2.2.1, h.leb, h.leg⟩
theorem DAt.setFails {B : Nat} {w : World} {b g : Nat} {vw vc : Value} {d : Dk} (h : DAt B w b g vw vc d) (x : Nat) : DAt B (w.setCell ⟨b, 5, none⟩ (.int .i64 (x : Nat))) b g vw vc { d with fails := x } :=
  ⟨by rw [heap_setCell_same w b 5 _ _ _ h.blk]; rfl, (h.turn _ _).1, (h.turn _ _).2.1, (h.turn _ _).2.2.1, h.leb, h.leg⟩
theorem DAt.setDead {B : Nat} {w : World} {b g : Nat} {vw vc : Value} {d : Dk} (h : DAt B w b g vw vc d) (x : Bool) : DAt B (w.setCell ⟨b, 6, none⟩ (.bool x)) b g vw vc { d with dead := x } :=
  ⟨by rw [heap_setCell_same w b 6 _ _ _ h.blk]; rfl, (h.turn _ _).1, (h.turn _ _).2.1, (h.turn _ _).2.2.1, h.leb, h.leg⟩
theorem DAt.setNone {B : Nat} {w : World} {b g : Nat} {vw vc : Value} {d : Dk} (h : DAt B w b g vw vc d) : DAt B (w.setCell ⟨b, 1, none⟩ (.slice none 0 0)) b g (.slice none 0 0) vc { d with waits := [] } :=
  ⟨by rw [heap_setCell_same w b 1 _ _ _ h.blk]; rfl, (h.turn _ _).1, World.ownsRow_nil _ _ _ _, (h.turn _ _).2.2.1, h.leb, h.leg⟩
theorem DAt.setCuts {B : Nat} {w : World} {b g : Nat} {vw vc : Value} {d : Dk} (h : DAt B w b g vw vc d) (v : Value) (l : List Ct) (hl : CutsAt 0 w v l) : DAt B (w.setCell ⟨b, 2, none⟩ v) b g vw v { d with cuts := l } :=
  ⟨by rw [heap_setCell_same w b 2 _ _ _ h.blk]; rfl, (h.turn _ _).1, (h.turn _ _).2.1, hl.on ((h.turn 2 v).2.2.2.mono (Nat.zero_le _)), h.leb, h.leg⟩

/-- A sector turns. -/
theorem DAt.sec {B : Nat} {w : World} {b g : Nat} {vw vc : Value} {d : Dk} (h : DAt B w b g vw vc d) (i : Nat) (v : Value) (l : List Sec) (hl : l.length = d.secs.length) (hs : SecsAt (w.setCell ⟨g, i, none⟩ v) g l) :
    DAt B (w.setCell ⟨g, i, none⟩ v) b g vw vc { d with secs := l } ∧ On B w (w.setCell ⟨g, i, none⟩ v) := by
  obtain ⟨cur, hg, _⟩ := h.secs.out
  have ho : On B w (w.setCell ⟨g, i, none⟩ v) := (On.refl B w).setCell h.leg hg not86 i v
  refine ⟨⟨?_, hs, own_set h.waits hg (by decide) v, h.cuts.on (ho.mono (Nat.zero_le _)), h.leb, h.leg⟩, ho⟩
  rw [Below.heap_setCell w ⟨g, i, none⟩ v b h.ne.symm, h.blk, hl]

theorem DAt.setLast {B : Nat} {w : World} {b g : Nat} {vw vc : Value} {d : Dk} (h : DAt B w b g vw vc d) (i : Nat) (hi : i < d.secs.length) (x : Nat) :
    DAt B (w.setCell ⟨g, i * 3 + 2, none⟩ (.int .i64 (x : Nat))) b g vw vc { d with secs := d.secs.modify i fun s => { s with last := x } } ∧ On B w (w.setCell ⟨g, i * 3 + 2, none⟩ (.int .i64 (x : Nat))) :=
  h.sec _ _ _ (by simp) (h.secs.set i hi (fun s => { s with last := x }) 2 (Nat.le_refl _) _ (fun e => absurd e (by decide)) (fun _ => rfl) (fun e => absurd e (by decide)) (fun _ => rfl) (fun _ => rfl) (fun e => absurd rfl e))
theorem DAt.setKept {B : Nat} {w : World} {b g : Nat} {vw vc : Value} {d : Dk} (h : DAt B w b g vw vc d) (i : Nat) (hi : i < d.secs.length) (x : ByteArray) :
    DAt B (w.setCell ⟨g, i * 3, none⟩ (.string x)) b g vw vc { d with secs := d.secs.modify i fun s => { s with kept := x } } ∧ On B w (w.setCell ⟨g, i * 3, none⟩ (.string x)) :=
  h.sec _ _ _ (by simp) (h.secs.set i hi (fun s => { s with kept := x }) 0 (by omega) _ (fun _ => rfl) (fun e => absurd rfl e) (fun e => absurd e (by decide)) (fun _ => rfl) (fun e => absurd e (by decide)) (fun _ => rfl))
theorem DAt.setTorn {B : Nat} {w : World} {b g : Nat} {vw vc : Value} {d : Dk} (h : DAt B w b g vw vc d) (i : Nat) (hi : i < d.secs.length) (x : Bool) :
    DAt B (w.setCell ⟨g, i * 3 + 1, none⟩ (.bool x)) b g vw vc { d with secs := d.secs.modify i fun s => { s with torn := x } } ∧ On B w (w.setCell ⟨g, i * 3 + 1, none⟩ (.bool x)) :=
  h.sec _ _ _ (by simp) (h.secs.set i hi (fun s => { s with torn := x }) 1 (by omega) _ (fun e => absurd e (by decide)) (fun _ => rfl) (fun _ => rfl) (fun e => absurd rfl e) (fun e => absurd e (by decide)) (fun _ => rfl))

theorem Kept.drewN {a b : World} (h : Kept a b) (n : Nat) : Kept a (b.drewN n) := ⟨h.out.trans ⟨rfl, rfl, rfl, Nat.le_refl _, fun _ _ => rfl⟩⟩
theorem World.heap_drewN (w : World) (n : Nat) : (w.drewN n).heap = w.heap := rfl

/-- What is left of a write. -/
def settle1 (x : Wr) (fate : Nat) (s : Sec) : Sec := if fate = 0 then { s with last := 0 } else ⟨x.bytes, fate == 2, 0⟩
def Dk.settle (d : Dk) (x : Wr) (fate : Nat) : Dk := { d with secs := d.secs.modify x.sec (settle1 x fate) }
/-- A write as a value. -/
def Wr.val (x : Wr) : Value := .agg #[.int .i64 (x.sec : Nat), .string x.bytes]

set_option maxHeartbeats 2000000 in
set_option maxRecDepth 100000 in
theorem settle_walk {B : Nat} {w : World} {b g : Nat} {vw vc : Value} {d : Dk} (k0 : DAt B w b g vw vc d) (hB : B ≤ w.heap.size) (x : Wr) (hx : x.sec < d.secs.length) (f : Nat) (hf : f ≤ 2) :
    Calls Tryz.prog 74 #[.pointer (some ⟨b, 0, none⟩), x.val, .int .i64 (f : Nat)] w fun e w' => e = .returned (.tuple #[]) ∧ DAt B w' b g vw vc (d.settle x f) ∧ On B w w' := by
  have hk1 := (Kept.refl w).alloc (.cells #[.int .i64 (x.sec : Nat), .string x.bytes] 115)
  have k1 := hk1.disk k0
  obtain ⟨c0, _⟩ := k1.cell
  have hnew : (w.alloc (.cells #[.int .i64 (x.sec : Nat), .string x.bytes] 115)).heap[w.heap.size]? = some (.cells #[.int .i64 (x.sec : Nat), .string x.bytes] 115) := heap_alloc_new w _
  unfold Wr.val
  have i1 : (0 : Int) ≤ (x.sec : Int) := by omega
  have i2 : (x.sec : Int) < (d.secs.length : Int) := by omega
  have hng : g ≠ w.heap.size := by
    obtain ⟨cur, hg, _⟩ := k0.secs.out
    have := (Array.getElem?_eq_some_iff.1 hg).1
    omega
  go_enter Tryz.func74, Tryz.ntmps74
  go_wp2
  go_quiet (fail)
  obtain ⟨W, hW⟩ : ∃ W, (w.alloc (.cells #[.int .i64 (x.sec : Nat), .string x.bytes] 115)).drewN nq = W := ⟨_, rfl⟩
  have hkW : Kept w W := by rw [← hW]; exact hk1.drewN nq
  have hnW : W.heap[w.heap.size]? = some (.cells #[.int .i64 (x.sec : Nat), .string x.bytes] 115) := by rw [← hW, World.heap_drewN]; exact hnew
  rw [hW]
  clear hW hnew c0 k1 hk1
  have k2 := hkW.disk k0
  have d2 := k2.secs.cells x.sec hx
  have f2 := k2.secs.frozen (x.sec * 3 + 2)
  have f20 := k2.secs.frozen (x.sec * 3)
  have f21 := k2.secs.frozen (x.sec * 3 + 1)
  obtain ⟨d20, d21, d22⟩ := d2
  obtain ⟨k3, o3⟩ := k2.setLast x.sec hx 0
  have hx3 : x.sec < (d.secs.modify x.sec fun s => { s with last := 0 }).length := by simpa using hx
  have b3 : (W.setCell ⟨g, x.sec * 3 + 2, none⟩ (.int .i64 0)).cell? ⟨w.heap.size, 1, none⟩ = some (.string x.bytes) := by
    rw [World.cell?_of_block (w := W) (Below.heap_setCell W _ _ _ (by exact Ne.symm hng)), cell_of_row W _ _ _ _ _ hnW]; rfl
  obtain ⟨d30, _, _⟩ := k3.secs.cells x.sec hx3
  have f30 := k3.secs.frozen (x.sec * 3)
  obtain ⟨k4, o4⟩ := k3.setKept x.sec hx3 x.bytes
  have hx4 : x.sec < ((d.secs.modify x.sec fun s => { s with last := 0 }).modify x.sec fun s => { s with kept := x.bytes }).length := by simpa using hx
  obtain ⟨_, d41, _⟩ := k4.secs.cells x.sec hx4
  have f41 := k4.secs.frozen (x.sec * 3 + 1)
  have ho0 := (hkW.on hB).trans o3
  have hfin : ∀ t, DAt B (((W.setCell ⟨g, x.sec * 3 + 2, none⟩ (.int .i64 0)).setCell ⟨g, x.sec * 3, none⟩ (.string x.bytes)).setCell ⟨g, x.sec * 3 + 1, none⟩ (.bool t)) b g vw vc { d with secs := d.secs.modify x.sec (fun _ => ⟨x.bytes, t, 0⟩) } ∧ On B w (((W.setCell ⟨g, x.sec * 3 + 2, none⟩ (.int .i64 0)).setCell ⟨g, x.sec * 3, none⟩ (.string x.bytes)).setCell ⟨g, x.sec * 3 + 1, none⟩ (.bool t)) := by
    intro t
    obtain ⟨k5, o5⟩ := k4.setTorn x.sec hx4 t
    refine ⟨?_, (ho0.trans o4).trans o5⟩
    have e : (((d.secs.modify x.sec fun s => { s with last := 0 }).modify x.sec fun s => { s with kept := x.bytes }).modify x.sec fun s => { s with torn := t }) = d.secs.modify x.sec (fun _ => ⟨x.bytes, t, 0⟩) := by
      rw [List.modify_modify_eq, List.modify_modify_eq]; rfl
    have k6 := k5
    simp only [e] at k6
    exact k6
  clear k2 k4 o3 o4 hkW hnW k0
  obtain rfl | rfl | rfl : f = 0 ∨ f = 1 ∨ f = 2 := by omega
  · go_wp2
    first | go_end0 | refine bodyPost_ret (results_none rfl _ _ _) rfl ?_
    exact ⟨rfl, k3, ho0⟩
  · go_wp2
    first | go_end0 | refine bodyPost_ret (results_none rfl _ _ _) rfl ?_
    exact ⟨rfl, (hfin false).1, (hfin false).2⟩
  · go_wp2
    first | go_end0 | refine bodyPost_ret (results_none rfl _ _ _) rfl ?_
    exact ⟨rfl, (hfin true).1, (hfin true).2⟩
end Go.Proofs.YthlhnjjofefgcaaGreatDoor.D
