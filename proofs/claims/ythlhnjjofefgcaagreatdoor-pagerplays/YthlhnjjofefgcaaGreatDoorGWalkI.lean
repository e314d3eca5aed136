/- The walk of Undo: all that is not committed is forgotten. No condition. -/
import Derived.Test.YthlhnjjofefgcaaGreatDoorGWalkE
import Derived.Deep.DrawnRows
namespace Go.Proofs.YthlhnjjofefgcaaGreatDoor.G
open Go.ChangeShapes Go.WideShapes Go.ChangeAt Go.RowKit
open D (Dk Ok DiskAt)
open P (bs supL Sup supP Small)

/-- A pager in memory of which the places that are taken, and those of the next commit, are not told. -/
structure GB (B : Nat) (w : World) (p : Nat) (a : Ad) (q : Pq) : Prop where
  blk : w.heap[p]? = some (.cells (q.cells a) 68)
  disk : D.DiskAt B w a.d a.g q.disk
  sk : S.SA w a.k a.gk q.m (S.cnt q.m q.uk) q.uk
  fm : MAt w a.mf q.fresh
  hm : MAt w a.mh q.held
  mm : a.mf ≠ a.mh
  le : B ≤ p ∧ B ≤ a.k ∧ B ≤ a.gk ∧ B ≤ a.mf ∧ B ≤ a.mh
theorem GA.gb {B : Nat} {w : World} {p : Nat} {a : Ad} {q : Pq} (h : GA B w p a q) : GB B w p a q :=
  ⟨h.blk, h.disk, h.sk, h.fm, h.hm, h.ne.2.2.2.2.2.2, ⟨h.le.1, h.le.2.1, h.le.2.2.1, h.le.2.2.2.2.2.2.2.1, h.le.2.2.2.2.2.2.2.2⟩⟩
theorem GB.kept {B : Nat} {w w' : World} {p : Nat} {a : Ad} {q : Pq} (h : GB B w p a q) (k : D.Kept w w') : GB B w' p a q := by
  obtain ⟨_, _, f1⟩ := h.fm.block
  obtain ⟨_, _, h1⟩ := h.hm.block
  exact ⟨k.block h.blk, k.dk h.disk, h.sk.kept ⟨k.out⟩, h.fm.same ((k.block f1).trans f1.symm), h.hm.same ((k.block h1).trans h1.symm), h.mm, h.le⟩
theorem GB.cs {B : Nat} {w : World} {p : Nat} {a : Ad} {q : Pq} (h : GB B w p a q) :
    w.cell? ⟨p, 3, none⟩ = some (.pointer (some ⟨a.k, 0, none⟩)) ∧ w.cell? ⟨p, 4, none⟩ = some (.pointer (some ⟨a.t, 0, none⟩)) ∧ w.cell? ⟨p, 5, none⟩ = some (.pointer (some ⟨a.n, 0, none⟩)) ∧ w.cell? ⟨p, 6, none⟩ = some (.map (some a.mf)) := by
  refine ⟨?_, ?_, ?_, ?_⟩ <;> (rw [cell_of_row w p _ _ _ _ h.blk]; rfl)
theorem GB.fz {B : Nat} {w : World} {p : Nat} {a : Ad} {q : Pq} (h : GB B w p a q) (j : Nat) : w.frozen? ⟨p, j, none⟩ = false := frozen_of_row w p j _ _ h.blk

/-- Two of a pager's sets of places are others now. -/
theorem GB.swap {B : Nat} {w : World} {p : Nat} {a : Ad} {q : Pq} (h : GB B w p a q) {b1 g1 b2 g2 : Nat} {u : Nat → Bool} (s1 : S.SA w b1 g1 q.m (S.cnt q.m u) u) (s2 : S.SA w b2 g2 q.m (S.cnt q.m u) u)
    (hne : a.k ≠ b1 ∧ a.k ≠ b2 ∧ b1 ≠ b2 ∧ a.gk ≠ g1 ∧ a.gk ≠ g2 ∧ g1 ≠ g2) (hle : B ≤ b1 ∧ B ≤ g1 ∧ B ≤ b2 ∧ B ≤ g2) {W : World}
    (hW : W = (w.setCell ⟨p, 4, none⟩ (.pointer (some ⟨b1, 0, none⟩))).setCell ⟨p, 5, none⟩ (.pointer (some ⟨b2, 0, none⟩)) ∨ W = (w.setCell ⟨p, 5, none⟩ (.pointer (some ⟨b2, 0, none⟩))).setCell ⟨p, 4, none⟩ (.pointer (some ⟨b1, 0, none⟩))) :
    GA B W p { a with t := b1, gt := g1, n := b2, gn := g2 } { q with ut := u, un := u } ∧ On B w W := by
  have hb : W.heap[p]? = some (.cells (Pq.cells { q with ut := u, un := u } { a with t := b1, gt := g1, n := b2, gn := g2 }) 68) := by
    rcases hW with rfl | rfl
    · rw [heap_setCell_same _ p 5 _ _ _ (heap_setCell_same w p 4 _ _ _ h.blk)]; rfl
    · rw [heap_setCell_same _ p 4 _ _ _ (heap_setCell_same w p 5 _ _ _ h.blk)]; rfl
  have e : ∀ k, k ≠ p → W.heap[k]? = w.heap[k]? := by
    intro k hk
    rcases hW with rfl | rfl <;> rw [Below.heap_setCell _ _ _ _ hk, Below.heap_setCell _ _ _ _ hk]
  have hO : On B w W := by
    rcases hW with rfl | rfl
    · exact ((On.refl B w).setCell h.le.1 h.blk not68 4 _).setCell h.le.1 (heap_setCell_same w p 4 _ _ _ h.blk) not68 5 _
    · exact ((On.refl B w).setCell h.le.1 h.blk not68 5 _).setCell h.le.1 (heap_setCell_same w p 5 _ _ _ h.blk) not68 4 _
  obtain ⟨_, _, f1⟩ := h.fm.block
  obtain ⟨_, _, hh1⟩ := h.hm.block
  have p7 := map_ne h.blk f1
  have p8 := map_ne h.blk hh1
  have sp : ∀ {b g m l : Nat} {u : Nat → Bool}, S.SA w b g m l u → S.SA W b g m l u := by
    intro b g m l u s
    obtain ⟨⟨_, _, k1⟩, _, _, k2⟩ := s.blocks
    exact s.same (e _ (cells_ne k1 h.blk (by decide))) (e _ (cells_ne k2 h.blk (by decide)))
  refine ⟨⟨hb, h.disk.frame (fun k cs t fr hk hq => by rw [e k (cells_ne hk h.blk (quiet_ne hq).1)]; exact hk), sp h.sk, sp s1, sp s2, h.fm.same (e _ p7.symm), h.hm.same (e _ p8.symm), ⟨hne.1, hne.2.1, hne.2.2.1, hne.2.2.2.1, hne.2.2.2.2.1, hne.2.2.2.2.2, h.mm⟩, ⟨h.le.1, h.le.2.1, h.le.2.2.1, hle.1, hle.2.1, hle.2.2.1, hle.2.2.2, h.le.2.2.2.1, h.le.2.2.2.2⟩⟩, hO⟩

/-- All that is not committed is forgotten. -/
def Pq.undo (q : Pq) : Pq := { q with ut := q.uk, un := q.uk, fresh := fun _ => none }

theorem ltb {w : World} {b g m l : Nat} {u : Nat → Bool} (h : S.SA w b g m l u) : b < w.heap.size ∧ g < w.heap.size := by
  obtain ⟨⟨_, _, h1⟩, _, _, h2⟩ := h.blocks
  exact ⟨(Array.getElem?_eq_some_iff.1 h1).1, (Array.getElem?_eq_some_iff.1 h2).1⟩

theorem cell3 {w : World} {p : Nat} {a : Ad} {q : Pq} (h : w.heap[p]? = some (.cells (q.cells a) 68)) (i : Nat) (v : Value) (hi : i ≠ 3) : (w.setCell ⟨p, i, none⟩ v).cell? ⟨p, 3, none⟩ = some (.pointer (some ⟨a.k, 0, none⟩)) := by
  rw [cell_of_row _ p 3 _ _ _ (heap_setCell_same w p i _ _ _ h), Array.getElem?_setIfInBounds_ne hi]; rfl
theorem cell33 {w : World} {p : Nat} {a : Ad} {q : Pq} (h : w.heap[p]? = some (.cells (q.cells a) 68)) (i j : Nat) (v u : Value) (hi : i ≠ 3) (hj : j ≠ 3) : ((w.setCell ⟨p, i, none⟩ v).setCell ⟨p, j, none⟩ u).cell? ⟨p, 3, none⟩ = some (.pointer (some ⟨a.k, 0, none⟩)) := by
  rw [cell_of_row _ p 3 _ _ _ (heap_setCell_same _ p j _ _ _ (heap_setCell_same w p i _ _ _ h)), Array.getElem?_setIfInBounds_ne hj, Array.getElem?_setIfInBounds_ne hi]; rfl

set_option maxRecDepth 100000 in
set_option maxHeartbeats 2000000 in
theorem undo_gb {B : Nat} {w : World} {p : Nat} {a : Ad} {q : Pq} (k : GB B w p a q) (hB : B ≤ w.heap.size) :
    Calls Tryz.prog 14 #[.pointer (some ⟨p, 0, none⟩)] w fun e w' => e = .returned (.tuple #[]) ∧ GAt B w' p a.d a.g q.undo ∧ On B w w' := by
  obtain ⟨c3, c4, c5, c6⟩ := k.cs
  have cp : ∀ W, D.Kept w W → Calls Tryz.prog 32 #[.pointer (some ⟨a.k, 0, none⟩)] W fun e w' => ∃ b' g', e = .returned (.pointer (some ⟨b', 0, none⟩)) ∧ S.SA w' b' g' q.m (S.cnt q.m q.uk) q.uk ∧ W.heap.size ≤ b' ∧ W.heap.size ≤ g' ∧ D.Kept W w' := fun W hW => (S.copy_one (k.sk.kept ⟨hW.out⟩)).mono (by rintro e w' ⟨b', g', rfl, h1, h2, h3, h4⟩; exact ⟨b', g', rfl, h1, h2, h3, ⟨h4.out⟩⟩)
  have tok : Hid True := trivial
  go_enter Tryz.func14, Tryz.ntmps14
  go_wp2
  go_region_held3 (fun W => W.cell? ⟨p, 3, none⟩ = some (.pointer (some ⟨a.k, 0, none⟩))) (first | trivial | go_keep | exact y4 _ | exact y5 _ | exact y45 _ _ | exact y54 _ _) (first
    | (go_at_call 32; clear tok; (with_reducible refine (cp _ (by first | exact D.Kept.refl _ | exact (D.Kept.refl _).drew)).mono ?_); rintro e v1 ⟨b1, g1, rfl, s1, l1, l1', q1⟩; have kv1 : D.Kept w v1 := D.Kept.trans (by first | exact D.Kept.refl _ | exact (D.Kept.refl _).drew) q1; have x13 := (k.kept kv1).cs.1)
    | (go_at_call 32; (with_reducible refine (cp _ kv1).mono ?_); rintro e v2 ⟨b2, g2, rfl, s2, l2, l2', q2⟩; have kv2 : D.Kept w v2 := kv1.trans q2; have k2 := k.kept kv2; obtain ⟨x23, x24, x25, _⟩ := k2.cs; have z24 := k2.fz 4; have z25 := k2.fz 5; have y4 : ∀ v, (v2.setCell ⟨p, 4, none⟩ v).cell? ⟨p, 3, none⟩ = some (.pointer (some ⟨a.k, 0, none⟩)) := fun v => cell3 k2.blk 4 v (by decide); have y5 : ∀ v, (v2.setCell ⟨p, 5, none⟩ v).cell? ⟨p, 3, none⟩ = some (.pointer (some ⟨a.k, 0, none⟩)) := fun v => cell3 k2.blk 5 v (by decide); have y45 : ∀ v u, ((v2.setCell ⟨p, 4, none⟩ v).setCell ⟨p, 5, none⟩ u).cell? ⟨p, 3, none⟩ = some (.pointer (some ⟨a.k, 0, none⟩)) := fun v u => cell33 k2.blk 4 5 v u (by decide) (by decide); have y54 : ∀ v u, ((v2.setCell ⟨p, 5, none⟩ v).setCell ⟨p, 4, none⟩ u).cell? ⟨p, 3, none⟩ = some (.pointer (some ⟨a.k, 0, none⟩)) := fun v u => cell33 k2.blk 5 4 v u (by decide) (by decide); have w45 : ∀ v, (v2.setCell ⟨p, 4, none⟩ v).cell? ⟨p, 5, none⟩ = some (.pointer (some ⟨a.n, 0, none⟩)) := fun v => (by rw [cell_of_row _ p 5 _ _ _ (heap_setCell_same v2 p 4 _ _ _ k2.blk)] <;> rfl); have w54 : ∀ v, (v2.setCell ⟨p, 5, none⟩ v).cell? ⟨p, 4, none⟩ = some (.pointer (some ⟨a.t, 0, none⟩)) := fun v => (by rw [cell_of_row _ p 4 _ _ _ (heap_setCell_same v2 p 5 _ _ _ k2.blk)] <;> rfl); have v45 : ∀ v, (v2.setCell ⟨p, 4, none⟩ v).frozen? ⟨p, 5, none⟩ = false := fun v => frozen_of_row _ p 5 _ _ (heap_setCell_same v2 p 4 _ _ _ k2.blk); have v54 : ∀ v, (v2.setCell ⟨p, 5, none⟩ v).frozen? ⟨p, 4, none⟩ = false := fun v => frozen_of_row _ p 4 _ _ (heap_setCell_same v2 p 5 _ _ _ k2.blk); have b20 := ltb k.sk; have b21 := ltb s1; obtain ⟨kA, NA⟩ := k2.swap (s1.kept ⟨q2.out⟩) s2 ⟨by have := l1; simp at this; omega, by have := kv1.size; omega, by omega, by have := l1'; simp at this; omega, by have := kv1.size; omega, by omega⟩ ⟨by have := l1; simp at this; omega, by have := l1'; simp at this; omega, by have := kv1.size; omega, by have := kv1.size; omega⟩ (.inl rfl); obtain ⟨kA2, NA2⟩ := k2.swap (s1.kept ⟨q2.out⟩) s2 ⟨by have := l1; simp at this; omega, by have := kv1.size; omega, by omega, by have := l1'; simp at this; omega, by have := kv1.size; omega, by omega⟩ ⟨by have := l1; simp at this; omega, by have := l1'; simp at this; omega, by have := kv1.size; omega, by have := kv1.size; omega⟩ (.inr rfl)))
  have NA' : On B w _ := (On.ofKept kv2 hB).trans NA
  obtain ⟨d0, d1, d2, d3, d4, d5, d6, d7, d8, d9⟩ := kA.cs
  obtain ⟨W3, cl0, m3, o3⟩ := kA.fm.clear 0
  have cl : ∀ ty, (Builtin.clear_ #[66] ty #[.map (some a.mf)]).run Tryz.prog _ = .ok (.tuple #[]) W3 := fun ty => cl0
  obtain ⟨k3, n3⟩ := kA.onF o3 m3
  clear kA2 NA2 y4 y5 y45 y54 w45 w54 v45 v54 cl0
  generalize ((v2.setCell ⟨p, 4, none⟩ (.pointer (some ⟨b1, 0, none⟩))).setCell ⟨p, 5, none⟩ (.pointer (some ⟨b2, 0, none⟩))) = W at *
  go_wp2
  first | go_end0 | refine bodyPost_ret (results_none rfl _ _ _) rfl ?_
  exact ⟨rfl, ⟨{ a with t := b1, gt := g1, n := b2, gn := g2 }, rfl, rfl, k3⟩, NA'.trans n3⟩
theorem undo_walk {B : Nat} {w : World} {p d g : Nat} {q : Pq} (h : GAt B w p d g q) (hB : B ≤ w.heap.size) :
    Calls Tryz.prog 14 #[.pointer (some ⟨p, 0, none⟩)] w fun e w' => e = .returned (.tuple #[]) ∧ GAt B w' p d g q.undo ∧ On B w w' := by
  obtain ⟨a, rfl, rfl, k⟩ := h.out
  exact undo_gb k.gb hB
end Go.Proofs.YthlhnjjofefgcaaGreatDoor.G
