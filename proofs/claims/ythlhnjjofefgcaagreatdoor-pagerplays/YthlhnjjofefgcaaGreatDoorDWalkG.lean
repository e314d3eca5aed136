/- The walk of a disk's wait: a write waits, in the place of an earlier one of its sector that no fate reaches, or behind all. Conditions: a sector that there is; which write waits for a sector is one that waits; no more than 100000 wait. -/
import Derived.Test.YthlhnjjofefgcaaGreatDoorDWalkF
import Derived.Deep.RegionLaw
namespace Go.Proofs.YthlhnjjofefgcaaGreatDoor.D
open Go.ChangeShapes Go.WideShapes Go.ChangeAt Go.RowKit

/-- Cells of what waits turn: all else of a disk stays. -/
theorem DAt.keepRow {B : Nat} {w w' : World} {b g : Nat} {vw vc : Value} {d : Dk} (h : DAt B w b g vw vc d) {k : Nat} (hk : B ≤ k ∧ ∃ cs t fr, w.heap[k]? = some (.cells cs t fr) ∧ t = 115) (hg : w.grownBy w' (some k)) (hB : B ≤ w.heap.size) :
    On B w w' ∧ w'.heap[b]? = w.heap[b]? ∧ SecsAt w' g d.secs ∧ CutsAt 0 w' vc d.cuts := by
  obtain ⟨hk1, cs, t, fr, hcs, rfl⟩ := hk
  have ho : On B w w' := (On.refl B w).grown hB hg (fun k' e => by injection e with e; subst e; exact ⟨hk1, cs, _, fr, hcs, not115⟩)
  obtain ⟨cur, hgc, hsc⟩ := h.secs.out
  have e1 : w'.heap[b]? = w.heap[b]? := hg.block b (Array.getElem?_eq_some_iff.1 h.blk).1 (fun e => by
    injection e with e; subst e; rw [h.blk] at hcs; injection hcs with hcs; injection hcs with _ e2 _; exact absurd e2 (by decide))
  have e2 : w'.heap[g]? = w.heap[g]? := hg.block g (Array.getElem?_eq_some_iff.1 hgc).1 (fun e => by
    injection e with e; subst e; rw [hgc] at hcs; injection hcs with hcs; injection hcs with _ e2 _; exact absurd e2 (by decide))
  exact ⟨ho, e1, h.secs.block e2, h.cuts.on (ho.mono (Nat.zero_le _))⟩

theorem DAt.setWait {B : Nat} {w : World} {b g h cap : Nat} {vc : Value} {d : Dk} (k : DAt B w b g (.slice (some ⟨h, 0, none⟩) d.waits.length cap) vc d) (hB : B ≤ w.heap.size) (q : Nat) (x : Wr) :
    DAt B ((w.setCell ⟨h, q * 2, none⟩ (.int .i64 (x.sec : Nat))).setCell ⟨h, q * 2 + 1, none⟩ (.string x.bytes)) b g (.slice (some ⟨h, 0, none⟩) d.waits.length cap) vc { d with waits := d.waits.set q x } ∧
    On B w ((w.setCell ⟨h, q * 2, none⟩ (.int .i64 (x.sec : Nat))).setCell ⟨h, q * 2 + 1, none⟩ (.string x.bytes)) := by
  have hk : ∀ {w : World} {xs : List Value}, w.ownsRow B 115 2 (.slice (some ⟨h, 0, none⟩) d.waits.length cap) d.waits.length xs → B ≤ h ∧ ∃ cs t fr, w.heap[h]? = some (.cells cs t fr) ∧ t = 115 := by
    intro w xs ho
    rcases ho.2 with ⟨e, _⟩ | ⟨g', cap', cur, e, hb, hg, _⟩
    · cases e
    · injection e with e _ _
      injection e with e
      injection e with e
      subst e
      exact ⟨hb, _, _, _, hg, rfl⟩
  obtain ⟨r1, g1⟩ := k.waits.stored (q * 2) (.int .i64 (x.sec : Nat))
  obtain ⟨r2, g2⟩ := r1.stored (q * 2 + 1) (.string x.bytes)
  obtain ⟨o1, b1, s1, c1⟩ := k.keepRow (hk k.waits) g1 hB
  have hB1 : B ≤ (w.setCell ⟨h, q * 2, none⟩ (.int .i64 (x.sec : Nat))).heap.size := Nat.le_trans hB o1.size
  have hg12 := hk r1
  obtain ⟨hb, cs, t, fr, hcs, rfl⟩ := hg12
  have o2 : On B (w.setCell ⟨h, q * 2, none⟩ (.int .i64 (x.sec : Nat))) _ := (On.refl B _).grown hB1 g2 (fun k' e => by injection e with e; subst e; exact ⟨hb, cs, _, fr, hcs, not115⟩)
  obtain ⟨cur, hgc, _⟩ := s1.out
  have e1 := g2.block b (Array.getElem?_eq_some_iff.1 (b1.trans k.blk)).1 (fun e => by
    injection e with e; subst e; rw [b1, k.blk] at hcs; injection hcs with hcs; injection hcs with _ e2 _; exact absurd e2 (by decide))
  have e2 := g2.block g (Array.getElem?_eq_some_iff.1 hgc).1 (fun e => by
    injection e with e; subst e; rw [hgc] at hcs; injection hcs with hcs; injection hcs with _ e2 _; exact absurd e2 (by decide))
  refine ⟨⟨(e1.trans b1).trans k.blk, s1.block e2, ?_, c1.on (o2.mono (Nat.zero_le _)), k.leb, k.leg⟩, o1.trans o2⟩
  rw [wrCells_set] at r2
  simpa using r2

set_option maxHeartbeats 2000000 in
set_option maxRecDepth 100000 in
theorem wait_same {B : Nat} {w : World} {b g : Nat} {d : Dk} (h : DiskAt B w b g d) (hB : B ≤ w.heap.size) (x : Wr) (hx : x.sec < d.secs.length) (q : Nat) (hl : d.secs[x.sec].last = q + 1) (hq : q < d.waits.length) (hw : d.waits.length ≤ 100000) (hf : d.fated ≤ q) :
    Calls Tryz.prog 63 #[.pointer (some ⟨b, 0, none⟩), x.val] w fun e w' => e = .returned (.tuple #[]) ∧ DiskAt B w' b g { d with waits := d.waits.set q x } ∧ On B w w' := by
  obtain ⟨vw, vc, k0⟩ := h.out
  obtain ⟨h0, cap, rfl, hh1, hh2⟩ := k0.waits.form (by omega)
  have hk1 := (Kept.refl w).alloc (.cells #[.int .i64 (x.sec : Nat), .string x.bytes] 115)
  have k1 := hk1.disk k0
  obtain ⟨c0, _⟩ := k1.cell
  have hnew : (w.alloc (.cells #[.int .i64 (x.sec : Nat), .string x.bytes] 115)).heap[w.heap.size]? = some (.cells #[.int .i64 (x.sec : Nat), .string x.bytes] 115) := heap_alloc_new w _
  unfold Wr.val
  have i1 : (0 : Int) ≤ (x.sec : Int) := by omega
  have i2 : (x.sec : Int) < (d.secs.length : Int) := by omega
  go_enter Tryz.func63, Tryz.ntmps63
  go_wp2
  go_quiet (fail)
  obtain ⟨W, hW⟩ : ∃ W, (w.alloc (.cells #[.int .i64 (x.sec : Nat), .string x.bytes] 115)).drewN nq = W := ⟨_, rfl⟩
  have hkW : Kept w W := by rw [← hW]; exact hk1.drewN nq
  have hnW : W.heap[w.heap.size]? = some (.cells #[.int .i64 (x.sec : Nat), .string x.bytes] 115) := by rw [← hW, World.heap_drewN]; exact hnew
  rw [hW]
  clear hW hnew c0 k1 hk1
  have k2 := hkW.disk k0
  obtain ⟨_, _, d22⟩ := k2.secs.cells x.sec hx
  rw [hl] at d22
  have d22' : W.cell? ⟨g, x.sec * 3 + 2, none⟩ = some (.int .i64 ((q : Int) + 1)) := d22
  have hfat := fated_walk ⟨_, _, k2⟩
  have hd : decide ((d.fated : Int) ≤ (q : Int)) = true := by simpa using hf
  obtain ⟨_, e1, _⟩ := k2.cell
  have q1 : (0 : Int) ≤ (q : Int) := by omega
  have q2 : (q : Int) < (d.waits.length : Int) := by omega
  have n0 : W.cell? ⟨w.heap.size, 0, none⟩ = some (.int .i64 (x.sec : Nat)) := by rw [cell_of_row W _ _ _ _ _ hnW]; rfl
  have n1 : W.cell? ⟨w.heap.size, 1, none⟩ = some (.string x.bytes) := by rw [cell_of_row W _ _ _ _ _ hnW]; rfl
  have r0 := k2.waits.cellAt (q * 2) (by omega)
  have r1 := k2.waits.cellAt (q * 2 + 1) (by omega)
  rw [(wrCells_get d.waits q hq).1] at r0
  rw [(wrCells_get d.waits q hq).2] at r1
  have f0 := k2.waits.frozenAt (q * 2)
  have f1 := k2.waits.frozenAt (q * 2 + 1)
  have hkD : Kept w W.drew := hkW.drew
  obtain ⟨k3, o3⟩ := (hkD.disk k0).setWait (Nat.le_trans hB hkD.size) q x
  have hoD : On B w _ := (hkD.on hB).trans o3
  clear d22 k2 k0 o3 hkW h
  go_wp2_with (go_at_call 82; refine hfat.mono ?_; rintro e w' ⟨rfl, hw'⟩; rw [hw']; clear hw')
  go_region
  go_wp2
  first | go_end0 | refine bodyPost_ret (results_none rfl _ _ _) rfl ?_
  exact ⟨rfl, ⟨_, _, k3⟩, hoD⟩

theorem DAt.addWait {B : Nat} {w w3 : World} {b g : Nat} {vw vc v' : Value} {d : Dk} (k : DAt B w b g vw vc d) (hB : B ≤ w.heap.size) (x : Wr) (hg : w.grownBy w3 vw.ownBlock)
    (ho : w3.ownsRow B 115 2 v' (d.waits.length + 1) (wrCells d.waits ++ [.int .i64 (x.sec : Nat), .string x.bytes])) :
    DAt B (w3.setCell ⟨b, 1, none⟩ v') b g v' vc { d with waits := d.waits ++ [x] } ∧ On B w (w3.setCell ⟨b, 1, none⟩ v') ∧ w3.cell? ⟨b, 1, none⟩ = some vw ∧ w3.frozen? ⟨b, 1, none⟩ = false := by
  have hrow : ∀ r, vw.ownBlock = some r → B ≤ r ∧ ∃ cs t fr, w.heap[r]? = some (.cells cs t fr) ∧ t = 115 := by
    intro r hr
    rcases k.waits.2 with ⟨e, _⟩ | ⟨g', cap', cur, e, hb, hgg, _⟩
    · rw [e] at hr; cases hr
    · rw [e] at hr
      injection hr with hr
      subst hr
      exact ⟨hb, _, _, _, hgg, rfl⟩
  have o1 : On B w w3 := (On.refl B w).grown hB hg (fun r hr => by obtain ⟨h1, cs, t, fr, h2, rfl⟩ := hrow r hr; exact ⟨h1, cs, _, fr, h2, not115⟩)
  obtain ⟨cur, hgc, _⟩ := k.secs.out
  have e1 : w3.heap[b]? = w.heap[b]? := hg.block b (Array.getElem?_eq_some_iff.1 k.blk).1 (fun e => by
    obtain ⟨_, cs, t, fr, hcs, rfl⟩ := hrow b e.symm
    rw [k.blk] at hcs; injection hcs with hcs; injection hcs with _ e2 _; exact absurd e2 (by decide))
  have e2 : w3.heap[g]? = w.heap[g]? := hg.block g (Array.getElem?_eq_some_iff.1 hgc).1 (fun e => by
    obtain ⟨_, cs, t, fr, hcs, rfl⟩ := hrow g e.symm
    rw [hgc] at hcs; injection hcs with hcs; injection hcs with _ e2 _; exact absurd e2 (by decide))
  have hb3 := e1.trans k.blk
  have o2 : On B w3 (w3.setCell ⟨b, 1, none⟩ v') := (On.refl B w3).setCell k.leb hb3 not81 1 v'
  refine ⟨⟨?_, ?_, ?_, ?_, k.leb, k.leg⟩, o1.trans o2, ?_, frozen_of_row w3 b _ _ _ hb3⟩
  · rw [heap_setCell_same w3 b 1 _ _ _ hb3]; rfl
  · exact (k.secs.block e2).block (Below.heap_setCell w3 ⟨b, 1, none⟩ v' g k.ne)
  · have := own_set (i := 1) ho hb3 (by decide) v'
    rw [← wrCells_snoc] at this
    simpa using this
  · exact (k.cuts.on (o1.mono (Nat.zero_le _))).on (o2.mono (Nat.zero_le _))
  · rw [cell_of_row w3 b _ _ _ _ hb3]; rfl

theorem info115 : (Tryz.prog.info? 115).map (fun i => (i.zero, i.size, i.bytes)) = some (some (.agg #[.int .i64 0, .string ⟨#[]⟩]), 2, 24) := by kernel_rfl

theorem two_cells (w : World) (x y : Value) (t : TypeId) : ∀ (j : Nat) (u : Value), [x, y][j]? = some u → (w.alloc (.cells #[x, y] t)).cell? ((⟨w.heap.size, 0, none⟩ : Addr).add j) = some u := by
  intro j u hj
  rw [Addr.add_lit, Nat.zero_add, cell_of_row _ _ _ _ _ _ (heap_alloc_new w _)]
  simpa using hj

theorem own_form {w : World} {base e size : Nat} {v : Value} {n : Nat} {xs : List Value} (h : w.ownsRow base e size v n xs) : ∃ p cap, v = .slice p n cap := by
  rcases h.2 with ⟨rfl, rfl⟩ | ⟨g, cap, cur, rfl, _⟩
  · exact ⟨_, _, rfl⟩
  · exact ⟨_, _, rfl⟩

set_option maxHeartbeats 2000000 in
set_option maxRecDepth 100000 in
theorem wait_more {B : Nat} {w : World} {b g : Nat} {d : Dk} (h : DiskAt B w b g d) (hB : B ≤ w.heap.size) (x : Wr) (hx : x.sec < d.secs.length) (hw : d.waits.length ≤ 100000) (hl : d.secs[x.sec].last ≤ 100000) (hf : d.secs[x.sec].last ≤ d.fated) :
    Calls Tryz.prog 63 #[.pointer (some ⟨b, 0, none⟩), x.val] w fun e w' => e = .returned (.tuple #[]) ∧
      DiskAt B w' b g { d with waits := d.waits ++ [x], secs := d.secs.modify x.sec fun s => { s with last := d.waits.length + 1 } } ∧ On B w w' := by
  obtain ⟨i0, hi, hz0, hz1, hz2⟩ := info_parts info115
  obtain ⟨vw, vc, k0⟩ := h.out
  obtain ⟨p, cap, rfl⟩ := own_form k0.waits
  have hk1 := (Kept.refl w).alloc (.cells #[.int .i64 (x.sec : Nat), .string x.bytes] 115)
  have k1 := hk1.disk k0
  have c0 := k1.cell.1
  have hnew : (w.alloc (.cells #[.int .i64 (x.sec : Nat), .string x.bytes] 115)).heap[w.heap.size]? = some (.cells #[.int .i64 (x.sec : Nat), .string x.bytes] 115) := heap_alloc_new w _
  unfold Wr.val
  have i1 : (0 : Int) ≤ (x.sec : Int) := by omega
  have i2 : (x.sec : Int) < (d.secs.length : Int) := by omega
  go_enter Tryz.func63, Tryz.ntmps63
  go_wp2
  go_quiet (fail)
  obtain ⟨W, hW⟩ : ∃ W, (w.alloc (.cells #[.int .i64 (x.sec : Nat), .string x.bytes] 115)).drewN nq = W := ⟨_, rfl⟩
  have hkW : Kept w W := by rw [← hW]; exact hk1.drewN nq
  have hnW : W.heap[w.heap.size]? = some (.cells #[.int .i64 (x.sec : Nat), .string x.bytes] 115) := by rw [← hW, World.heap_drewN]; exact hnew
  rw [hW]
  clear hW hnew c0 k1 hk1
  have k2 := hkW.disk k0
  have d22 := (k2.secs.cells x.sec hx).2.2
  obtain ⟨L, hL⟩ : ∃ L, d.secs[x.sec].last = L := ⟨_, rfl⟩
  rw [hL] at d22 hf hl
  have hfat := fated_walk ⟨_, _, k2⟩
  have hd : decide ((d.fated : Int) ≤ (L : Int) - 1) = false := by simp; omega
  have e1 := k2.cell.2.1
  have n0 : W.cell? ⟨w.heap.size, 0, none⟩ = some (.int .i64 (x.sec : Nat)) := by rw [cell_of_row W _ _ _ _ _ hnW]; rfl
  have n1 : W.cell? ⟨w.heap.size, 1, none⟩ = some (.string x.bytes) := by rw [cell_of_row W _ _ _ _ _ hnW]; rfl
  have hkA : Kept w (W.alloc (.cells #[.int .i64 (x.sec : Nat), .string x.bytes] 115)) := hkW.alloc _
  have hkE : Kept w (W.alloc (.cells #[.int .i64 (x.sec : Nat), .string x.bytes] 115)).drew := hkA.drew
  have eA := (hkA.disk k0).cell.2.1
  have nA0 : (W.alloc (.cells #[.int .i64 (x.sec : Nat), .string x.bytes] 115)).cell? ⟨w.heap.size, 0, none⟩ = some (.int .i64 (x.sec : Nat)) := Lib.cell?_alloc_some _ n0
  have nA1 : (W.alloc (.cells #[.int .i64 (x.sec : Nat), .string x.bytes] 115)).cell? ⟨w.heap.size, 1, none⟩ = some (.string x.bytes) := Lib.cell?_alloc_some _ n1
  have k3 := hkE.disk k0
  have hlw : w.heap.size < (W.alloc (.cells #[.int .i64 (x.sec : Nat), .string x.bytes] 115)).drew.heap.size := Nat.lt_of_lt_of_le (Array.getElem?_eq_some_iff.1 hnW).1 (by simp)
  have hpw : ∀ k, (Value.slice p d.waits.length cap).ownBlock = some k → k ≠ w.heap.size := fun k e => by have := (k0.waits.lt k e).2; omega
  have hBE := Nat.le_trans hB hkE.size
  have hbytes : (d.waits.length + 1) * 24 ≤ 140737488355328 := by omega
  have h63 : d.waits.length + 1 ≤ maxLen := by unfold maxLen; omega
  have h1one : ∀ u ∈ [Value.int .i64 (x.sec : Nat), Value.string x.bytes], u.oneCell' = true := by intro u hu; simp at hu; rcases hu with rfl | rfl <;> rfl
  have hnews := two_cells W (.int .i64 (x.sec : Nat)) (.string x.bytes) 115
  have HX : Hid (On B w (W.alloc (.cells #[.int .i64 (x.sec : Nat), .string x.bytes] 115)).drew) := hkE.on hB
  have K3 : Hid (DAt B (W.alloc (.cells #[.int .i64 (x.sec : Nat), .string x.bytes] 115)).drew b g (.slice p d.waits.length cap) vc d) := k3
  clear hkA k2 k0 hkW h k3 hkE
  go_wp2_with (go_at_call 82; refine hfat.mono ?_; rintro e w' ⟨rfl, hw'⟩; rw [hw']; clear hw')
  go_region_law (refine step_append_lies _ (by rfl) _ _ _ (by rfl) B 115 i0 _ 2 24 Tryz.underlying79 hi hz0 hz1 hz2 (by rfl) (by decide) (.slice p d.waits.length cap) d.waits.length (wrCells d.waits) (by rfl) K3.out.waits ⟨W.heap.size, 0, none⟩ 1 1 [.int .i64 (x.sec : Nat), .string x.bytes] (by rfl) (by rfl) hnews h1one (by omega) h63 hbytes hBE _ rfl ?_; intro gw cap3 w3 ho3 hg3 _ _; obtain ⟨k4, o4, c4, f4⟩ := K3.out.addWait hBE x hg3 ho3)
  all_goals
    have g4 := (k4.secs.cells x.sec hx).2.2
    rw [hL] at g4
    have gf4 := k4.secs.frozen (x.sec * 3 + 2)
    have e4 := k4.cell.2.1
    obtain ⟨k5, o5⟩ := k4.setLast x.sec hx (d.waits.length + 1)
    have hfin := (HX.out.trans o4).trans o5
    have gf3 : w3.frozen? ⟨g, x.sec * 3 + 2, none⟩ = false := by
      have := k4.secs.frozen (x.sec * 3 + 2)
      rwa [World.frozen?_of_block (w := w3) (Below.heap_setCell w3 _ _ _ (by exact k4.ne))] at this
    have g3 : w3.cell? ⟨g, x.sec * 3 + 2, none⟩ = some (.int .i64 (L : Nat)) := by
      have := g4
      rwa [World.cell?_of_block (w := w3) (Below.heap_setCell w3 _ _ _ (by exact k4.ne))] at this
    clear k4 o4 o5 hi hz0 hz1 hz2 hg3 ho3
    go_wp2
    first | go_end0 | refine bodyPost_ret (results_none rfl _ _ _) rfl ?_
    exact ⟨rfl, ⟨_, _, k5⟩, hfin⟩
end Go.Proofs.YthlhnjjofefgcaaGreatDoor.D
