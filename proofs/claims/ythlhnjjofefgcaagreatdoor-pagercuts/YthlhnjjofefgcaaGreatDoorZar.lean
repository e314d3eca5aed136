/- Joined: GWalkI GWalkL GWalkM GWalkH GWalkF GWalkN GWalkO GWalkP GCut. What is proved of the functions beneath PagerNone,PagerBlank,PagerCuts,PagerPlays. Conditions: those that each row names. -/
import Derived.Test.YthlhnjjofefgcaaGreatDoorZaq
import Derived.Deep.DrawnRows
import Derived.Maps.RangeWalk
import Derived.LoopN
import Derived.Laws.MakeOwn
import Derived.Laws.StructEq
namespace Go.Proofs.YthlhnjjofefgcaaGreatDoor.G
open Go.ChangeShapes Go.WideShapes Go.ChangeAt Go.RowKit
open D (Dk Ok DiskAt)
open P (bs supL Sup supP Small)

structure GB (B : Nat) (w : World) (p : Nat) (a : Ad) (q : Pq) : Prop where
  blk : w.heap[p]? = some (.cells (q.cells a) 68)
  disk : D.DiskAt B w a.d a.g q.disk
  sk : S.SA w a.k a.gk q.m (S.cnt q.m q.uk) q.uk
  fm : MAt w a.mf q.fresh
  hm : MAt w a.mh q.held
  mm : a.mf ≠ a.mh
  le : B ≤ p ∧ B ≤ a.k ∧ B ≤ a.gk ∧ B ≤ a.mf ∧ B ≤ a.mh
theorem GA.gb {B : Nat} {w : World} {p : Nat} {a : Ad} {q : Pq} (h : GA B w p a q) : GB B w p a q :=
  ⟨h.blk, h.disk, h.sk, h.fm, h.hm, h.ne.2.2.2.2.2.2, ⟨h.le.1, h.le.2.1, h.le.2.2.1, h.le.2.2.2.2.2.2.2.1, h.le.2.2.2.2.2.2.2.2⟩⟩
theorem GB.kept {B : Nat} {w w' : World} {p : Nat} {a : Ad} {q : Pq} (h : GB B w p a q) (k : D.Kept w w') : GB B w' p a q := by
  obtain ⟨_, _, f1⟩ := h.fm.block
  obtain ⟨_, _, h1⟩ := h.hm.block
  exact ⟨k.block h.blk, k.dk h.disk, h.sk.kept ⟨k.out⟩, h.fm.same ((k.block f1).trans f1.symm), h.hm.same ((k.block h1).trans h1.symm), h.mm, h.le⟩
theorem GB.cs {B : Nat} {w : World} {p : Nat} {a : Ad} {q : Pq} (h : GB B w p a q) :
    w.cell? ⟨p, 3, none⟩ = some (.pointer (some ⟨a.k, 0, none⟩)) ∧ w.cell? ⟨p, 4, none⟩ = some (.pointer (some ⟨a.t, 0, none⟩)) ∧ w.cell? ⟨p, 5, none⟩ = some (.pointer (some ⟨a.n, 0, none⟩)) ∧ w.cell? ⟨p, 6, none⟩ = some (.map (some a.mf)) := by
  refine ⟨?_, ?_, ?_, ?_⟩ <;> (rw [cell_of_row w p _ _ _ _ h.blk]; rfl)
theorem GB.fz {B : Nat} {w : World} {p : Nat} {a : Ad} {q : Pq} (h : GB B w p a q) (j : Nat) : w.frozen? ⟨p, j, none⟩ = false := frozen_of_row w p j _ _ h.blk

theorem GB.swap {B : Nat} {w : World} {p : Nat} {a : Ad} {q : Pq} (h : GB B w p a q) {b1 g1 b2 g2 : Nat} {u : Nat → Bool} (s1 : S.SA w b1 g1 q.m (S.cnt q.m u) u) (s2 : S.SA w b2 g2 q.m (S.cnt q.m u) u)
    (hne : a.k ≠ b1 ∧ a.k ≠ b2 ∧ b1 ≠ b2 ∧ a.gk ≠ g1 ∧ a.gk ≠ g2 ∧ g1 ≠ g2) (hle : B ≤ b1 ∧ B ≤ g1 ∧ B ≤ b2 ∧ B ≤ g2) {W : World}
    (hW : W = (w.setCell ⟨p, 4, none⟩ (.pointer (some ⟨b1, 0, none⟩))).setCell ⟨p, 5, none⟩ (.pointer (some ⟨b2, 0, none⟩)) ∨ W = (w.setCell ⟨p, 5, none⟩ (.pointer (some ⟨b2, 0, none⟩))).setCell ⟨p, 4, none⟩ (.pointer (some ⟨b1, 0, none⟩))) :
    GA B W p { a with t := b1, gt := g1, n := b2, gn := g2 } { q with ut := u, un := u } ∧ On B w W := by
  have hb : W.heap[p]? = some (.cells (Pq.cells { q with ut := u, un := u } { a with t := b1, gt := g1, n := b2, gn := g2 }) 68) := by
    rcases hW with rfl | rfl
    · rw [heap_setCell_same _ p 5 _ _ _ (heap_setCell_same w p 4 _ _ _ h.blk)]; rfl
    · rw [heap_setCell_same _ p 4 _ _ _ (heap_setCell_same w p 5 _ _ _ h.blk)]; rfl
  have e : ∀ k, k ≠ p → W.heap[k]? = w.heap[k]? := by
    intro k hk
    rcases hW with rfl | rfl <;> rw [Below.heap_setCell _ _ _ _ hk, Below.heap_setCell _ _ _ _ hk]
  have hO : On B w W := by
    rcases hW with rfl | rfl
    · exact ((On.refl B w).setCell h.le.1 h.blk not68 4 _).setCell h.le.1 (heap_setCell_same w p 4 _ _ _ h.blk) not68 5 _
    · exact ((On.refl B w).setCell h.le.1 h.blk not68 5 _).setCell h.le.1 (heap_setCell_same w p 5 _ _ _ h.blk) not68 4 _
  obtain ⟨_, _, f1⟩ := h.fm.block
  obtain ⟨_, _, hh1⟩ := h.hm.block
  have p7 := map_ne h.blk f1
  have p8 := map_ne h.blk hh1
  have sp : ∀ {b g m l : Nat} {u : Nat → Bool}, S.SA w b g m l u → S.SA W b g m l u := by
    intro b g m l u s
    obtain ⟨⟨_, _, k1⟩, _, _, k2⟩ := s.blocks
    exact s.same (e _ (cells_ne k1 h.blk (by decide))) (e _ (cells_ne k2 h.blk (by decide)))
  refine ⟨⟨hb, h.disk.frame (fun k cs t fr hk hq => by rw [e k (cells_ne hk h.blk (quiet_ne hq).1)]; exact hk), sp h.sk, sp s1, sp s2, h.fm.same (e _ p7.symm), h.hm.same (e _ p8.symm), ⟨hne.1, hne.2.1, hne.2.2.1, hne.2.2.2.1, hne.2.2.2.2.1, hne.2.2.2.2.2, h.mm⟩, ⟨h.le.1, h.le.2.1, h.le.2.2.1, hle.1, hle.2.1, hle.2.2.1, hle.2.2.2, h.le.2.2.2.1, h.le.2.2.2.2⟩⟩, hO⟩

def Pq.undo (q : Pq) : Pq := { q with ut := q.uk, un := q.uk, fresh := fun _ => none }

theorem ltb {w : World} {b g m l : Nat} {u : Nat → Bool} (h : S.SA w b g m l u) : b < w.heap.size ∧ g < w.heap.size := by
  obtain ⟨⟨_, _, h1⟩, _, _, h2⟩ := h.blocks
  exact ⟨(Array.getElem?_eq_some_iff.1 h1).1, (Array.getElem?_eq_some_iff.1 h2).1⟩

theorem cell3 {w : World} {p : Nat} {a : Ad} {q : Pq} (h : w.heap[p]? = some (.cells (q.cells a) 68)) (i : Nat) (v : Value) (hi : i ≠ 3) : (w.setCell ⟨p, i, none⟩ v).cell? ⟨p, 3, none⟩ = some (.pointer (some ⟨a.k, 0, none⟩)) := by
  rw [cell_of_row _ p 3 _ _ _ (heap_setCell_same w p i _ _ _ h), Array.getElem?_setIfInBounds_ne hi]; rfl
theorem cell33 {w : World} {p : Nat} {a : Ad} {q : Pq} (h : w.heap[p]? = some (.cells (q.cells a) 68)) (i j : Nat) (v u : Value) (hi : i ≠ 3) (hj : j ≠ 3) : ((w.setCell ⟨p, i, none⟩ v).setCell ⟨p, j, none⟩ u).cell? ⟨p, 3, none⟩ = some (.pointer (some ⟨a.k, 0, none⟩)) := by
  rw [cell_of_row _ p 3 _ _ _ (heap_setCell_same _ p j _ _ _ (heap_setCell_same w p i _ _ _ h)), Array.getElem?_setIfInBounds_ne hj, Array.getElem?_setIfInBounds_ne hi]; rfl

set_option maxRecDepth 100000 in
set_option maxHeartbeats 2000000 in
theorem undo_gb {B : Nat} {w : World} {p : Nat} {a : Ad} {q : Pq} (k : GB B w p a q) (hB : B ≤ w.heap.size) :
    Calls Tryz.prog 14 #[.pointer (some ⟨p, 0, none⟩)] w fun e w' => e = .returned (.tuple #[]) ∧ GAt B w' p a.d a.g q.undo ∧ On B w w' := by
  obtain ⟨c3, c4, c5, c6⟩ := k.cs
  have cp : ∀ W, D.Kept w W → Calls Tryz.prog 32 #[.pointer (some ⟨a.k, 0, none⟩)] W fun e w' => ∃ b' g', e = .returned (.pointer (some ⟨b', 0, none⟩)) ∧ S.SA w' b' g' q.m (S.cnt q.m q.uk) q.uk ∧ W.heap.size ≤ b' ∧ W.heap.size ≤ g' ∧ D.Kept W w' := fun W hW => (S.copy_one (k.sk.kept ⟨hW.out⟩)).mono (by rintro e w' ⟨b', g', rfl, h1, h2, h3, h4⟩; exact ⟨b', g', rfl, h1, h2, h3, ⟨h4.out⟩⟩)
  have tok : Hid True := trivial
  go_enter Tryz.func14, Tryz.ntmps14
  go_wp2
  go_region_held3 (fun W => W.cell? ⟨p, 3, none⟩ = some (.pointer (some ⟨a.k, 0, none⟩))) (first | trivial | go_keep | exact y4 _ | exact y5 _ | exact y45 _ _ | exact y54 _ _) (first
    | (go_at_call 32; clear tok; (with_reducible refine (cp _ (by first | exact D.Kept.refl _ | exact (D.Kept.refl _).drew)).mono ?_); rintro e v1 ⟨b1, g1, rfl, s1, l1, l1', q1⟩; have kv1 : D.Kept w v1 := D.Kept.trans (by first | exact D.Kept.refl _ | exact (D.Kept.refl _).drew) q1; have x13 := (k.kept kv1).cs.1)
    | (go_at_call 32; (with_reducible refine (cp _ kv1).mono ?_); rintro e v2 ⟨b2, g2, rfl, s2, l2, l2', q2⟩; have kv2 : D.Kept w v2 := kv1.trans q2; have k2 := k.kept kv2; obtain ⟨x23, x24, x25, _⟩ := k2.cs; have z24 := k2.fz 4; have z25 := k2.fz 5; have y4 : ∀ v, (v2.setCell ⟨p, 4, none⟩ v).cell? ⟨p, 3, none⟩ = some (.pointer (some ⟨a.k, 0, none⟩)) := fun v => cell3 k2.blk 4 v (by decide); have y5 : ∀ v, (v2.setCell ⟨p, 5, none⟩ v).cell? ⟨p, 3, none⟩ = some (.pointer (some ⟨a.k, 0, none⟩)) := fun v => cell3 k2.blk 5 v (by decide); have y45 : ∀ v u, ((v2.setCell ⟨p, 4, none⟩ v).setCell ⟨p, 5, none⟩ u).cell? ⟨p, 3, none⟩ = some (.pointer (some ⟨a.k, 0, none⟩)) := fun v u => cell33 k2.blk 4 5 v u (by decide) (by decide); have y54 : ∀ v u, ((v2.setCell ⟨p, 5, none⟩ v).setCell ⟨p, 4, none⟩ u).cell? ⟨p, 3, none⟩ = some (.pointer (some ⟨a.k, 0, none⟩)) := fun v u => cell33 k2.blk 5 4 v u (by decide) (by decide); have w45 : ∀ v, (v2.setCell ⟨p, 4, none⟩ v).cell? ⟨p, 5, none⟩ = some (.pointer (some ⟨a.n, 0, none⟩)) := fun v => (by rw [cell_of_row _ p 5 _ _ _ (heap_setCell_same v2 p 4 _ _ _ k2.blk)] <;> rfl); have w54 : ∀ v, (v2.setCell ⟨p, 5, none⟩ v).cell? ⟨p, 4, none⟩ = some (.pointer (some ⟨a.t, 0, none⟩)) := fun v => (by rw [cell_of_row _ p 4 _ _ _ (heap_setCell_same v2 p 5 _ _ _ k2.blk)] <;> rfl); have v45 : ∀ v, (v2.setCell ⟨p, 4, none⟩ v).frozen? ⟨p, 5, none⟩ = false := fun v => frozen_of_row _ p 5 _ _ (heap_setCell_same v2 p 4 _ _ _ k2.blk); have v54 : ∀ v, (v2.setCell ⟨p, 5, none⟩ v).frozen? ⟨p, 4, none⟩ = false := fun v => frozen_of_row _ p 4 _ _ (heap_setCell_same v2 p 5 _ _ _ k2.blk); have b20 := ltb k.sk; have b21 := ltb s1; obtain ⟨kA, NA⟩ := k2.swap (s1.kept ⟨q2.out⟩) s2 ⟨by have := l1; simp at this; omega, by have := kv1.size; omega, by omega, by have := l1'; simp at this; omega, by have := kv1.size; omega, by omega⟩ ⟨by have := l1; simp at this; omega, by have := l1'; simp at this; omega, by have := kv1.size; omega, by have := kv1.size; omega⟩ (.inl rfl); obtain ⟨kA2, NA2⟩ := k2.swap (s1.kept ⟨q2.out⟩) s2 ⟨by have := l1; simp at this; omega, by have := kv1.size; omega, by omega, by have := l1'; simp at this; omega, by have := kv1.size; omega, by omega⟩ ⟨by have := l1; simp at this; omega, by have := l1'; simp at this; omega, by have := kv1.size; omega, by have := kv1.size; omega⟩ (.inr rfl)))
  have NA' : On B w _ := (On.ofKept kv2 hB).trans NA
  obtain ⟨d0, d1, d2, d3, d4, d5, d6, d7, d8, d9⟩ := kA.cs
  obtain ⟨W3, cl0, m3, o3⟩ := kA.fm.clear 0
  have cl : ∀ ty, (Builtin.clear_ #[66] ty #[.map (some a.mf)]).run Tryz.prog _ = .ok (.tuple #[]) W3 := fun ty => cl0
  obtain ⟨k3, n3⟩ := kA.onF o3 m3
  clear kA2 NA2 y4 y5 y45 y54 w45 w54 v45 v54 cl0
  generalize ((v2.setCell ⟨p, 4, none⟩ (.pointer (some ⟨b1, 0, none⟩))).setCell ⟨p, 5, none⟩ (.pointer (some ⟨b2, 0, none⟩))) = W at *
  go_wp2
  first | go_end0 | refine bodyPost_ret (results_none rfl _ _ _) rfl ?_
  exact ⟨rfl, ⟨{ a with t := b1, gt := g1, n := b2, gn := g2 }, rfl, rfl, k3⟩, NA'.trans n3⟩
theorem undo_walk {B : Nat} {w : World} {p d g : Nat} {q : Pq} (h : GAt B w p d g q) (hB : B ≤ w.heap.size) :
    Calls Tryz.prog 14 #[.pointer (some ⟨p, 0, none⟩)] w fun e w' => e = .returned (.tuple #[]) ∧ GAt B w' p d g q.undo ∧ On B w w' := by
  obtain ⟨a, rfl, rfl, k⟩ := h.out
  exact undo_gb k.gb hB
end Go.Proofs.YthlhnjjofefgcaaGreatDoor.G

namespace Go.Proofs.YthlhnjjofefgcaaGreatDoor.G
open Go.ChangeShapes Go.WideShapes Go.ChangeAt Go.RowKit
open D (Dk Ok DiskAt)
open P (bs supL Sup supP Small)

set_option maxRecDepth 100000 in
theorem commit_bad {B : Nat} {w : World} {p d g : Nat} {q : Pq} (h : GAt B w p d g q) (hg : q.gen < 4611686018427387904) (root : Int) (hs : ¬ Sup (q.gen + 1) root) :
    Calls Tryz.prog 13 #[.pointer (some ⟨p, 0, none⟩), .int .i64 root] w fun e w' => e = .returned (.int .i64 1) ∧ D.Kept w w' := by
  obtain ⟨a, rfl, rfl, k⟩ := h.out
  clear h
  obtain ⟨c0, c1, c2, c3, c4, c5, c6, c7, c8, c9⟩ := k.cs
  have f1 : ∀ W, Calls Tryz.prog 30 #[.agg #[.int .u64 ((q.gen : Int) + 1), .int .i64 root]] W fun e w' => e = .returned (.bool false) ∧ P.Kept W w' := fun W => P.smay_no (q.gen + 1) root hs W
  clear hs
  go_enter Tryz.func13, Tryz.ntmps13
  go_wp2_with (go_at_call 30; (with_reducible refine (f1 _).mono ?_); rintro e w2 ⟨rfl, k2⟩)
  go_ret
  exact ⟨rfl, D.Kept.trans ((D.Kept.refl _).alloc _) ⟨k2.out⟩⟩

set_option maxRecDepth 100000 in
set_option maxHeartbeats 1000000 in
theorem commit_fail {B : Nat} {w : World} {p m : Nat} {a : Ad} {q : Pq} (k : GA B w p a q) (hB : B ≤ w.heap.size) (ok : Ok m q.disk) (hm : m < 48000) (hd : q.doubt = false) (hgen : ∀ n, (atK q.fresh n).gen < 18446744073709551616) (hg : q.gen < 4611686018427387904) (root : Int) (hs : Sup (q.gen + 1) root)
    (d' : Dk) (e : Int) (b : Bool) (hw : wrt q.fresh q.disk (keysOf q.fresh) (q.gen + 1) root = (d', e, b)) (he : ¬ e = 0) :
    Calls Tryz.prog 13 #[.pointer (some ⟨p, 0, none⟩), .int .i64 root] w fun r w' => r = .returned (.int .i64 e) ∧ GA B w' p a { q with disk := d', doubt := b } ∧ On B w w' := by
  obtain ⟨c0, c1, c2, c3, c4, c5, c6, c7, c8, c9⟩ := k.cs
  have f1 : ∀ W, Calls Tryz.prog 30 #[.agg #[.int .u64 ((q.gen : Int) + 1), .int .i64 root]] W fun e w' => e = .returned (.bool true) ∧ P.Kept W w' := fun W => P.smay_yes (q.gen + 1) root hs W
  have f2 : ∀ W, D.Kept w W → Calls Tryz.prog 31 #[.pointer (some ⟨p, 0, none⟩), .agg #[.int .u64 ((q.gen : Int) + 1), .int .i64 root]] W fun r w' => r = .returned (.int .i64 e) ∧ GA B w' p a { q with disk := d', doubt := b } ∧ On B W w' := fun W hW => by
    have := write_walk (k.kept hW) (Nat.le_trans hB hW.size) ok hm hd hgen (q.gen + 1) root
    rw [hw] at this
    exact this
  have hne : (e != 0) = true := by simpa using he
  have Y0 := P.Sp.alloc w ((q.gen : Int) + 1) root
  clear hs hw hgen he
  go_enter Tryz.func13, Tryz.ntmps13
  go_wp2_with (first
    | (go_at_call 30; (with_reducible refine (f1 _).mono ?_); rintro r w2 ⟨rfl, k2⟩; have K2 : D.Kept w w2 := D.Kept.trans ((D.Kept.refl _).alloc _) ⟨k2.out⟩; have Y2 := k2.sp Y0; obtain ⟨y0, y1⟩ := Y2.cs)
    | (go_at_call 31; (with_reducible refine (f2 _ K2).mono ?_); rintro r w3 ⟨rfl, g3, n3⟩))
  go_ret
  exact ⟨rfl, g3, (On.ofKept K2 hB).trans n3⟩

def Hf (M H : Nat → Option Pag) (left : Lit → Bool) : Nat → Option Pag := fun k => if (M k).isSome && !left (.int .i64 (k : Nat)) then none else H k

theorem Hf_start (M H : Nat → Option Pag) (left : Lit → Bool) (h : ∀ k : Nat, left (.int .i64 (k : Nat)) = (M k).isSome) : Hf M H left = H := by
  funext k
  unfold Hf
  rw [h]
  cases (M k).isSome <;> rfl
theorem Hf_step (M H : Nat → Option Pag) (left : Lit → Bool) (n : Nat) (hn : (M n).isSome = true) : delM (Hf M H left) n = Hf M H (fun z => left z && !z.sameKey (.int .i64 (n : Nat))) := by
  funext k
  unfold delM Hf
  by_cases e : k = n
  · subst e
    rw [if_pos rfl, hn]
    simp [Lit.sameKey]
  · rw [if_neg e]
    have : (Lit.int .i64 (k : Nat)).sameKey (.int .i64 (n : Nat)) = false := by simp [Lit.sameKey]; omega
    simp [this]
theorem Hf_end (M H : Nat → Option Pag) (left : Lit → Bool) (h : ∀ kl, left kl = false) : Hf M H left = fun k => if (M k).isSome then none else H k := by
  funext k
  unfold Hf
  rw [h]
  cases (M k).isSome <;> rfl

def Pq.comd (q : Pq) (d' : Dk) (root : Int) : Pq := { q with disk := d', gen := q.gen + 1, root := root, uk := q.un, ut := q.un, fresh := fun _ => none, held := fun k => if (q.fresh k).isSome then none else q.held k, doubt := false }

theorem GA.iter {B : Nat} {w w' : World} {p : Nat} {a : Ad} {q : Pq} (h : GA B w p a q) {r : Nat} {x : Option Nat} {y z u} (hr : w.heap[r]? = some (.mapIter x y z u)) (hg : w.grownBy w' (some r)) (hB : B ≤ r) : GA B w' p a q ∧ On B w w' := by
  have lt : ∀ {k : Nat} {o : Obj}, w.heap[k]? = some o → k < w.heap.size := fun h => (Array.getElem?_eq_some_iff.1 h).1
  have ec : ∀ {k : Nat} {cs : Array Value} {t : TypeId} {fr : Nat × Nat}, w.heap[k]? = some (.cells cs t fr) → w'.heap[k]? = w.heap[k]? := fun {k cs t fr} hk => hg.block k (lt hk) (fun e => by
    injection e with e; subst e; rw [hk] at hr; injection hr with hr; cases hr)
  have em : ∀ {k : Nat} {es : Array MapEntry} {c : Nat}, w.heap[k]? = some (.map es c) → w'.heap[k]? = w.heap[k]? := fun {k es c} hk => hg.block k (lt hk) (fun e => by
    injection e with e; subst e; rw [hk] at hr; injection hr with hr; cases hr)
  obtain ⟨⟨_, _, k1⟩, _, _, k2⟩ := h.sk.blocks
  obtain ⟨⟨_, _, t1⟩, _, _, t2⟩ := h.st.blocks
  obtain ⟨⟨_, _, n1⟩, _, _, n2⟩ := h.sn.blocks
  obtain ⟨_, _, f1⟩ := h.fm.block
  obtain ⟨_, _, h1⟩ := h.hm.block
  refine ⟨⟨(ec h.blk).trans h.blk, h.disk.frame (fun k cs t fr hk _ => (ec hk).trans hk), h.sk.same (ec k1) (ec k2), h.st.same (ec t1) (ec t2), h.sn.same (ec n1) (ec n2), h.fm.same (em f1), h.hm.same (em h1), h.ne, h.le⟩, ⟨?_, fun k cs t fr hk _ => (ec hk).trans hk⟩⟩
  exact (Below.refl B w).grown hg (Nat.le_of_lt (Nat.lt_of_le_of_lt hB (lt hr))) (fun k e => by injection e with e; omega)

theorem ranges_iter {H : Type} {P : Program} {k : TypeId} {R : Value → Option (DataW H × List MemPlace)} {w : World} {b r n : Nat} {D : DataW H} {left : Lit → Bool} {cnt : Nat} (h : w.ranges P k R b r n D left cnt) : ∃ x y z u, w.heap[r]? = some (.mapIter x y z u) := by
  obtain ⟨es, clock, since, seen, c0, _, _, _, _, h5, _⟩ := h
  exact ⟨_, _, _, _, h5⟩

structure Lc (B : Nat) (w : World) (p : Nat) (a : Ad) (q : Pq) (d' : Dk) (root : Int) (left : Lit → Bool) (wx : World) : Prop where
  ga : GA B wx p a { q with disk := d', doubt := false, held := Hf q.fresh q.held left }
  st : P.Sp wx w.heap.size ((q.gen : Int) + 1) root
  on : On B w wx

theorem GA.passed {B : Nat} {w : World} {p : Nat} {a : Ad} {q : Pq} (h : GA B w p a q) (x : Nat) (r : Int) :
    GB B (((w.setCell ⟨p, 1, none⟩ (.int .u64 (x : Nat))).setCell ⟨p, 2, none⟩ (.int .i64 r)).setCell ⟨p, 3, none⟩ (.pointer (some ⟨a.n, 0, none⟩))) p { a with k := a.n, gk := a.gn } { q with gen := x, root := r, uk := q.un } ∧
    On B w (((w.setCell ⟨p, 1, none⟩ (.int .u64 (x : Nat))).setCell ⟨p, 2, none⟩ (.int .i64 r)).setCell ⟨p, 3, none⟩ (.pointer (some ⟨a.n, 0, none⟩))) := by
  have b1 := heap_setCell_same w p 1 _ _ (.int .u64 (x : Nat)) h.blk
  have b2 := heap_setCell_same _ p 2 _ _ (.int .i64 r) b1
  have b3 := heap_setCell_same _ p 3 _ _ (.pointer (some ⟨a.n, 0, none⟩)) b2
  have e : ∀ k, k ≠ p → (((w.setCell ⟨p, 1, none⟩ (.int .u64 (x : Nat))).setCell ⟨p, 2, none⟩ (.int .i64 r)).setCell ⟨p, 3, none⟩ (.pointer (some ⟨a.n, 0, none⟩))).heap[k]? = w.heap[k]? := by
    intro k hk
    rw [Below.heap_setCell _ _ _ _ hk, Below.heap_setCell _ _ _ _ hk, Below.heap_setCell _ _ _ _ hk]
  obtain ⟨p1, p2, p3, p4, p5, p6, p7, p8⟩ := h.ps
  refine ⟨⟨by rw [b3]; rfl, h.disk.frame (fun k cs t fr hk hq => by rw [e k (cells_ne hk h.blk (quiet_ne hq).1)]; exact hk), h.sn.same (e _ p5.symm) (e _ p6.symm), h.fm.same (e _ p7.symm), h.hm.same (e _ p8.symm), h.ne.2.2.2.2.2.2, ⟨h.le.1, h.le.2.2.2.2.2.1, h.le.2.2.2.2.2.2.1, h.le.2.2.2.2.2.2.2.1, h.le.2.2.2.2.2.2.2.2⟩⟩, ?_⟩
  exact (((On.refl B w).setCell h.le.1 h.blk not68 1 _).setCell h.le.1 b1 not68 2 _).setCell h.le.1 b2 not68 3 _

theorem three_set {w : World} {p s : Nat} {x y z : Value} (h : w.cell? ⟨p, 5, none⟩ = some x ∧ w.cell? ⟨s, 0, none⟩ = some y ∧ w.cell? ⟨s, 1, none⟩ = some z) (i : Nat) (v : Value) (hi : i ≠ 5) (hs : p ≠ s) :
    (w.setCell ⟨p, i, none⟩ v).cell? ⟨p, 5, none⟩ = some x ∧ (w.setCell ⟨p, i, none⟩ v).cell? ⟨s, 0, none⟩ = some y ∧ (w.setCell ⟨p, i, none⟩ v).cell? ⟨s, 1, none⟩ = some z := by
  refine ⟨?_, ?_, ?_⟩
  · rw [World.cell?_setCell_other (h := show (⟨p, i, none⟩ : Addr) ≠ ⟨p, 5, none⟩ from fun e => hi (congrArg Addr.off e))]; exact h.1
  · rw [World.cell?_setCell_other (h := show (⟨p, i, none⟩ : Addr) ≠ ⟨s, 0, none⟩ from fun e => hs (congrArg Addr.block e))]; exact h.2.1
  · rw [World.cell?_setCell_other (h := show (⟨p, i, none⟩ : Addr) ≠ ⟨s, 1, none⟩ from fun e => hs (congrArg Addr.block e))]; exact h.2.2

set_option maxRecDepth 100000 in
set_option maxHeartbeats 4000000 in
theorem commit_ok {B : Nat} {w : World} {p m : Nat} {a : Ad} {q : Pq} (k : GA B w p a q) (hB : B ≤ w.heap.size) (ok : Ok m q.disk) (hm : m < 48000) (hd : q.doubt = false) (hgen : ∀ n, (atK q.fresh n).gen < 18446744073709551616) (hg : q.gen < 4611686018427387904) (root : Int) (hs : Sup (q.gen + 1) root)
    (d' : Dk) (b : Bool) (hw : wrt q.fresh q.disk (keysOf q.fresh) (q.gen + 1) root = (d', 0, b)) (hb : b = false) :
    Calls Tryz.prog 13 #[.pointer (some ⟨p, 0, none⟩), .int .i64 root] w fun r w' => r = .returned (.int .i64 0) ∧ GAt B w' p a.d a.g (q.comd d' root) ∧ On B w w' := by
  subst hb
  obtain ⟨c0, c1, c2, c3, c4, c5, c6, c7, c8, c9⟩ := k.cs
  have f1 : ∀ W, Calls Tryz.prog 30 #[.agg #[.int .u64 ((q.gen : Int) + 1), .int .i64 root]] W fun e w' => e = .returned (.bool true) ∧ P.Kept W w' := fun W => P.smay_yes (q.gen + 1) root hs W
  have f2 : ∀ W, D.Kept w W → Calls Tryz.prog 31 #[.pointer (some ⟨p, 0, none⟩), .agg #[.int .u64 ((q.gen : Int) + 1), .int .i64 root]] W fun r w' => r = .returned (.int .i64 0) ∧ GA B w' p a { q with disk := d', doubt := false } ∧ On B W w' := fun W hW => by
    have := write_walk (k.kept hW) (Nat.le_trans hB hW.size) ok hm hd hgen (q.gen + 1) root
    rw [hw] at this
    exact this
  have Y0 := P.Sp.alloc w ((q.gen : Int) + 1) root
  clear hs hw hgen
  go_enter Tryz.func13, Tryz.ntmps13
  go_wp2_with (first
    | (go_at_call 30; (with_reducible refine (f1 _).mono ?_); rintro r w2 ⟨rfl, k2⟩; have K2 : D.Kept w w2 := D.Kept.trans ((D.Kept.refl _).alloc _) ⟨k2.out⟩; have Y2 := k2.sp Y0; obtain ⟨y0, y1⟩ := Y2.cs)
    | (go_at_call 31; (with_reducible refine (f2 _ K2).mono ?_); rintro r w3 ⟨rfl, g3, n3⟩; have Y3 := calm52D Y2 n3; have N3 := (On.ofKept K2 hB).trans n3; obtain ⟨d0, d1, d2, d3, d4, d5, d6, d7, d8, d9⟩ := g3.cs; obtain ⟨D0, ho, hz0, hz1, hz2, hz3⟩ := g3.fm.few)
    | (at_range; refine wpList_range_own _ rfl _ 66 rfl 3 55 keyed Tryz.underlying66 _ a.mf _ _ rfl ho ?_; intro w4 hrg4 hg4 hs4)
    | go_in)
  go_frame
  have K4 : D.Kept w3 w4 := ⟨(Below.refl _ w3).grown hg4 (Nat.le_refl _) (fun _ e => by cases e)⟩
  have HL : Hid (Lc B w p a q d' root (Maps.has D0) w4) := by
    refine ⟨?_, ⟨K4.block Y3.out⟩, N3.kept K4 hB⟩
    rw [Hf_start q.fresh q.held _ hz1]
    exact g3.kept K4
  have HZ : Hid ((∀ k : Nat, Maps.has D0 (.int .i64 (k : Nat)) = (q.fresh k).isSome) ∧ ∀ x : Int, Maps.has D0 (.int .i64 x) = true → ∃ k : Nat, x = (k : Int) ∧ k < 64) := ⟨hz1, hz3⟩
  have hB3 := Nat.le_trans hB N3.size
  clear g3 Y3 n3 N3 f1 f2 Y0 Y2 y0 y1 K2 d0 d1 d2 d3 d4 d5 d6 d7 d8 d9 c0 c1 c2 c3 c4 c5 c6 c7 c8 c9 hz0 hz1 hz2 hz3 ho
  go_loopw [7] (fun _ wr => ∃ (left : Lit → Bool) (cnt : Nat), wr.ranges Tryz.prog 3 R4 a.mf w3.heap.size (Maps.size D0) D0 left cnt ∧ Lc B w p a q d' root left wr) (fun _ wr => wr.rangeLeft a.mf w3.heap.size)
  case atStart => exact ⟨_, _, hrg4, HL.out⟩
  case round =>
    obtain ⟨left, cnt, hrg, LC⟩ := hrel
    clear HL hrg4 hg4 hs4
    have invK : ∀ key kl, keyOf Tryz.prog 3 key = some kl → ∃ x : Int, key = Value.int .i64 x := fun key kl hk => by obtain ⟨x, e, _⟩ := Maps.keyOf_i64 Tryz.underlying3 hk; exact ⟨x, e⟩
    have invV : ∀ v y, R4 v = some y → ∃ c : Pag, v = c.val := fun v y hv => by obtain ⟨c, e, _⟩ := R4_inv hv; exact ⟨c, e⟩
    go_wp2_with (first
      | (at_next; refine wpList_next_ranges _ rfl _ rfl 3 keyed R4 (fun x : Int => Value.int .i64 x) Pag.val invK invV a.mf w3.heap.size _ _ _ _ rfl hrg ?_ ?_)
      | go_in)
    · intro hc0 hl0
      have g5 := LC.ga
      rw [Hf_end q.fresh q.held left hl0] at g5
      have s5 := LC.st
      have N5 := LC.on
      have hB5 := Nat.le_trans hB N5.size
      obtain ⟨d0, d1, d2, d3, d4, d5, d6, d7, d8, d9⟩ := g5.cs
      obtain ⟨s50, s51⟩ := s5.cs
      have hpw : p ≠ w.heap.size := cells_ne g5.blk s5.out (by decide)
      have z1 := g5.fz 1
      have z2 := g5.fz 2
      have z3 := g5.fz 3
      obtain ⟨gP, nP⟩ := GA.passed (w := wr.drew) (g5.kept ((D.Kept.refl wr).drew)) (q.gen + 1) root
      have NP := (N5.drew).trans nP
      have fu := undo_gb gP (Nat.le_trans hB NP.size)
      have fu' : Calls Tryz.prog 14 #[.pointer (some ⟨p, 0, none⟩)] (((wr.setCell ⟨p, 1, none⟩ (.int .u64 ((q.gen : Int) + 1))).setCell ⟨p, 2, none⟩ (.int .i64 root)).setCell ⟨p, 3, none⟩ (.pointer (some ⟨a.n, 0, none⟩))).drew _ := fu
      have fu2 : Calls Tryz.prog 14 #[.pointer (some ⟨p, 0, none⟩)] (((wr.setCell ⟨p, 1, none⟩ (.int .u64 ((q.gen : Int) + 1))).setCell ⟨p, 2, none⟩ (.int .i64 root)).drew.setCell ⟨p, 3, none⟩ (.pointer (some ⟨a.n, 0, none⟩))) _ := fu
      have t0 : (wr).cell? ⟨p, 5, none⟩ = some (.pointer (some ⟨a.n, 0, none⟩)) ∧ (wr).cell? ⟨w.heap.size, 0, none⟩ = some (.int .u64 ((q.gen : Int) + 1)) ∧ (wr).cell? ⟨w.heap.size, 1, none⟩ = some (.int .i64 root) := ⟨d5, s50, s51⟩
      have t0d : (wr.drew).cell? ⟨p, 5, none⟩ = some (.pointer (some ⟨a.n, 0, none⟩)) ∧ (wr.drew).cell? ⟨w.heap.size, 0, none⟩ = some (.int .u64 ((q.gen : Int) + 1)) ∧ (wr.drew).cell? ⟨w.heap.size, 1, none⟩ = some (.int .i64 root) := t0
      have t1 : ∀ u v, ((wr.setCell ⟨p, 1, none⟩ u).setCell ⟨p, 2, none⟩ v).cell? ⟨p, 5, none⟩ = some (.pointer (some ⟨a.n, 0, none⟩)) ∧ ((wr.setCell ⟨p, 1, none⟩ u).setCell ⟨p, 2, none⟩ v).cell? ⟨w.heap.size, 0, none⟩ = some (.int .u64 ((q.gen : Int) + 1)) ∧ ((wr.setCell ⟨p, 1, none⟩ u).setCell ⟨p, 2, none⟩ v).cell? ⟨w.heap.size, 1, none⟩ = some (.int .i64 root) := fun u v => three_set (three_set t0 1 u (by decide) hpw) 2 v (by decide) hpw
      have t1d : ∀ u v, (((wr.setCell ⟨p, 1, none⟩ u).setCell ⟨p, 2, none⟩ v).drew).cell? ⟨p, 5, none⟩ = some (.pointer (some ⟨a.n, 0, none⟩)) ∧ (((wr.setCell ⟨p, 1, none⟩ u).setCell ⟨p, 2, none⟩ v).drew).cell? ⟨w.heap.size, 0, none⟩ = some (.int .u64 ((q.gen : Int) + 1)) ∧ (((wr.setCell ⟨p, 1, none⟩ u).setCell ⟨p, 2, none⟩ v).drew).cell? ⟨w.heap.size, 1, none⟩ = some (.int .i64 root) := fun u v => t1 u v
      have t1p : ∀ u v, ((wr.drew.setCell ⟨p, 1, none⟩ u).setCell ⟨p, 2, none⟩ v).cell? ⟨p, 5, none⟩ = some (.pointer (some ⟨a.n, 0, none⟩)) ∧ ((wr.drew.setCell ⟨p, 1, none⟩ u).setCell ⟨p, 2, none⟩ v).cell? ⟨w.heap.size, 0, none⟩ = some (.int .u64 ((q.gen : Int) + 1)) ∧ ((wr.drew.setCell ⟨p, 1, none⟩ u).setCell ⟨p, 2, none⟩ v).cell? ⟨w.heap.size, 1, none⟩ = some (.int .i64 root) := fun u v => three_set (three_set t0d 1 u (by decide) hpw) 2 v (by decide) hpw
      have t2 : ∀ u v x, (((wr.setCell ⟨p, 1, none⟩ u).setCell ⟨p, 2, none⟩ v).setCell ⟨p, 3, none⟩ x).cell? ⟨p, 5, none⟩ = some (.pointer (some ⟨a.n, 0, none⟩)) ∧ (((wr.setCell ⟨p, 1, none⟩ u).setCell ⟨p, 2, none⟩ v).setCell ⟨p, 3, none⟩ x).cell? ⟨w.heap.size, 0, none⟩ = some (.int .u64 ((q.gen : Int) + 1)) ∧ (((wr.setCell ⟨p, 1, none⟩ u).setCell ⟨p, 2, none⟩ v).setCell ⟨p, 3, none⟩ x).cell? ⟨w.heap.size, 1, none⟩ = some (.int .i64 root) := fun u v x => three_set (t1 u v) 3 x (by decide) hpw
      have t2d : ∀ u v x, ((((wr.setCell ⟨p, 1, none⟩ u).setCell ⟨p, 2, none⟩ v).setCell ⟨p, 3, none⟩ x).drew).cell? ⟨p, 5, none⟩ = some (.pointer (some ⟨a.n, 0, none⟩)) ∧ ((((wr.setCell ⟨p, 1, none⟩ u).setCell ⟨p, 2, none⟩ v).setCell ⟨p, 3, none⟩ x).drew).cell? ⟨w.heap.size, 0, none⟩ = some (.int .u64 ((q.gen : Int) + 1)) ∧ ((((wr.setCell ⟨p, 1, none⟩ u).setCell ⟨p, 2, none⟩ v).setCell ⟨p, 3, none⟩ x).drew).cell? ⟨w.heap.size, 1, none⟩ = some (.int .i64 root) := fun u v x => t2 u v x
      have t2e : ∀ u v x, ((((wr.setCell ⟨p, 1, none⟩ u).setCell ⟨p, 2, none⟩ v).drew).setCell ⟨p, 3, none⟩ x).cell? ⟨p, 5, none⟩ = some (.pointer (some ⟨a.n, 0, none⟩)) ∧ ((((wr.setCell ⟨p, 1, none⟩ u).setCell ⟨p, 2, none⟩ v).drew).setCell ⟨p, 3, none⟩ x).cell? ⟨w.heap.size, 0, none⟩ = some (.int .u64 ((q.gen : Int) + 1)) ∧ ((((wr.setCell ⟨p, 1, none⟩ u).setCell ⟨p, 2, none⟩ v).drew).setCell ⟨p, 3, none⟩ x).cell? ⟨w.heap.size, 1, none⟩ = some (.int .i64 root) := fun u v x => three_set (t1d u v) 3 x (by decide) hpw
      have t2p : ∀ u v x, (((wr.drew.setCell ⟨p, 1, none⟩ u).setCell ⟨p, 2, none⟩ v).setCell ⟨p, 3, none⟩ x).cell? ⟨p, 5, none⟩ = some (.pointer (some ⟨a.n, 0, none⟩)) ∧ (((wr.drew.setCell ⟨p, 1, none⟩ u).setCell ⟨p, 2, none⟩ v).setCell ⟨p, 3, none⟩ x).cell? ⟨w.heap.size, 0, none⟩ = some (.int .u64 ((q.gen : Int) + 1)) ∧ (((wr.drew.setCell ⟨p, 1, none⟩ u).setCell ⟨p, 2, none⟩ v).setCell ⟨p, 3, none⟩ x).cell? ⟨w.heap.size, 1, none⟩ = some (.int .i64 root) := fun u v x => three_set (t1p u v) 3 x (by decide) hpw
      clear LC hrg invK invV hl0 fu gP nP
      go_wp2
      go_region_held3 (fun W => W.cell? ⟨p, 5, none⟩ = some (.pointer (some ⟨a.n, 0, none⟩)) ∧ W.cell? ⟨w.heap.size, 0, none⟩ = some (.int .u64 ((q.gen : Int) + 1)) ∧ W.cell? ⟨w.heap.size, 1, none⟩ = some (.int .i64 root)) (first | trivial | (with_reducible exact t0) | (with_reducible exact t0d) | (with_reducible exact t1 _ _) | (with_reducible exact t1d _ _) | (with_reducible exact t1p _ _) | (with_reducible exact t2 _ _ _) | (with_reducible exact t2d _ _ _) | (with_reducible exact t2e _ _ _) | (with_reducible exact t2p _ _ _)) (fail)
      go_wp2_with (first | (go_at_call 14; (with_reducible refine fu'.mono ?_); rintro r w9 ⟨rfl, g9, n9⟩) | (go_at_call 14; (with_reducible refine fu2.mono ?_); rintro r w9 ⟨rfl, g9, n9⟩))
      go_ret
      exact ⟨rfl, g9, NP.trans n9⟩
    · intro x c kl y y' w1 cnt1 hkey hlk hv hat hrg1 hlt hg1 hs1 hen
      obtain ⟨x', ex, rfl, hwf⟩ := Maps.keyOf_i64 Tryz.underlying3 hkey
      obtain rfl : x = x' := by injection ex
      have hhas := Maps.has_true_of_atKey hat
      obtain ⟨n, rfl, hn⟩ := HZ.out.2 x hhas
      have hMn : (q.fresh n).isSome = true := by rw [← HZ.out.1]; exact hhas
      obtain ⟨ix, iy, iz, iu, hit⟩ := ranges_iter hrg
      obtain ⟨g6, n6⟩ := LC.ga.iter hit hg1 hB3
      have s6 := calm52D LC.st n6
      have N6 := LC.on.trans n6
      obtain ⟨d0, d1, d2, d3, d4, d5, d6, d7, d8, d9⟩ := g6.cs
      obtain ⟨w7, dr0, m7, o7⟩ := g6.hm.drop n (by omega) 0
      have dr : ∀ ty, (Builtin.delete_ #[66, 3] ty #[.map (some a.mh), .int .i64 (n : Nat)]).run Tryz.prog w1 = .ok (.tuple #[]) w7 := fun ty => dr0
      obtain ⟨g7, n7⟩ := g6.onH o7 m7
      have s7 := calm52D s6 n7
      have N7 := N6.trans n7
      have hrg7 : w7.ranges Tryz.prog 3 R4 a.mf w3.heap.size (Maps.size D0) D0 _ cnt1 := hrg1.kept (row := some a.mh) ⟨(o7.below 0 (Nat.zero_le _)).os, (o7.below 0 (Nat.zero_le _)).tape, (o7.below 0 (Nat.zero_le _)).output, (o7.below 0 (Nat.zero_le _)).size, fun i _ hi => o7.block i (fun e => hi (by rw [e]))⟩ (fun e => g6.ne.2.2.2.2.2.2 (Option.some.inj e)) (fun e => by
        have e' := Option.some.inj e
        obtain ⟨_, _, hb⟩ := g6.hm.block
        obtain ⟨_, _, _, _, hi⟩ := ranges_iter hrg1
        rw [e', hb] at hi
        injection hi with hi
        cases hi)
      have HS : Hid (Lc B w p a q d' root (fun z => left z && !z.sameKey (.int .i64 (n : Nat))) w7) := ⟨by rw [← Hf_step q.fresh q.held left n hMn]; exact g7, s7, N7⟩
      obtain ⟨ck, cn, cg, cs⟩ := c
      dsimp only [Pag.val] at hen ⊢
      clear LC g6 g7 m7 o7 s6 s7 N6 N7 n6 n7 dr0 hat hhas hkey hv hMn hwf hit invK invV ex
      go_wp2
      go_roundw
      case rel => exact ⟨_, cnt1, hrg7, HS.out⟩
      case measure => rw [hrg7.left_eq, hrg.left_eq]; exact hlt
end Go.Proofs.YthlhnjjofefgcaaGreatDoor.G

namespace Go.Proofs.YthlhnjjofefgcaaGreatDoor.G
open Go.ChangeShapes Go.WideShapes Go.ChangeAt Go.RowKit
open D (Dk Ok DiskAt Sec Wr Ct CutsAt whole)
open P (bs supL Sup supP Small)

theorem open_flu {B : Nat} {w : World} {b g m : Nat} {d : Dk} (h : DiskAt B w b g d) (hB : B ≤ w.heap.size) (ok : Ok m d) (hm : m < 49000) (hf : Flu d) (hl : Liv d 2) (h2 : 2 ≤ d.secs.length) (h64 : d.secs.length ≤ 64) {s0 s1 : Sec} (e0 : d.secs[0]? = some s0) (e1 : d.secs[1]? = some s1)
    {o0 o1 : Option (Nat × Int)} (k0 : Sd (sayS s0).1 0 o0) (k1 : Sd (sayS s1).1 1 o1) (x : Nat × Int) (hp : pick o0 o1 = some x) :
    Calls Tryz.prog 15 #[.pointer (some ⟨b, 0, none⟩)] w fun e w' => ∃ p, e = .returned (.tuple #[.pointer (some ⟨p, 0, none⟩), .int .i64 0]) ∧ GAt B w' p b g (opened d.begin.begin x) ∧ On B w w' := by
  have r0 : d.read 0 = (d.begin, sayS s0) := read_flu hf (hl.mono (by omega)) e0
  have r1 : d.begin.read 1 = (d.begin.begin, sayS s1) := read_flu (begin_flu hf) (begin_live hl) e1
  have t : ∀ s : Sec, (sayS s).2 = 0 ∨ (sayS s).2 = 41 := by intro s; unfold sayS; cases s.torn <;> simp
  have f := committed_yes h hB ok hm (o0 := o0) (o1 := o1) (by rw [r0]; exact t _) (by rw [r0]; show (d.begin.read 1).2.2 = 0 ∨ _; rw [r1]; exact t _) (by rw [r0]; exact k0) (by rw [r0]; show Sd (d.begin.read 1).2.1 1 o1; rw [r1]; exact k1) x hp
  rw [r0] at f
  dsimp only at f
  rw [r1] at f
  exact open_A hB (show 2 ≤ d.begin.begin.secs.length from h2) (show d.begin.begin.secs.length ≤ 64 from h64) x.1 x.2 f

theorem new_flu (n : Nat) (l : List Ct) : Flu (Dk.new n l) := ⟨rfl, fun i s hs => by
  have : s = ⟨whole ⟨#[]⟩, false, 0⟩ := List.eq_of_mem_replicate (List.mem_of_getElem? hs)
  rw [this], rfl⟩

structure Bg (n : Nat) (l : List Ct) (d : Dk) : Prop where
  flu : Flu d
  len : d.secs.length = n
  s0 : d.secs[0]? = some ⟨whole ⟨#[]⟩, false, 0⟩
  s1 : d.secs[1]? = some ⟨bs (supP 1 (-1)), false, 0⟩
  cuts : d.cuts = l
  fails : d.fails = 0
  since : d.since = 7
  ok : Ok 7 d

theorem fmt_new (n : Nat) (h2 : 2 ≤ n) (l : List Ct) (hl : Liv (Dk.new n l) 5) : ∃ d, fmtd (Dk.new n l) = (d, 0) ∧ Flu d ∧ d.secs.length = n ∧ d.secs[0]? = some ⟨whole ⟨#[]⟩, false, 0⟩ ∧ d.secs[1]? = some ⟨bs (supP 1 (-1)), false, 0⟩ ∧ d.cuts = l ∧ d.fails = 0 ∧ d.since = 5 := by
  have e0 : (Dk.new n l).secs.length = n := by simp [Dk.new]
  obtain ⟨d1, d', e, w1, w2⟩ := fmtd_live (new_flu n l) hl (by rw [e0]; exact h2)
  refine ⟨d', e, w2.flu, by rw [w2.len, w1.len, e0], ?_, w2.own ⟨1, bs (supP 1 (-1))⟩ (by simp), by rw [w2.cuts, w1.cuts]; rfl, by rw [w2.fails, w1.fails]; rfl, by rw [w2.since, w1.since]; rfl⟩
  rw [w2.oth 0 (by intro x hx; simp at hx; subst hx; decide)]
  exact w1.own ⟨0, whole ⟨#[]⟩⟩ (by simp)

set_option maxRecDepth 100000 in
set_option maxHeartbeats 1000000 in
theorem begun_walk {B : Nat} {w : World} {v : Value} {l : List Ct} (n : Nat) (h2 : 2 ≤ n) (h64 : n ≤ 64) (h : CutsAt B w v l) (hB : B ≤ w.heap.size) (hl : l.length ≤ 5) (hfl : ∀ c ∈ l, c.fates.length * 8 ≤ 140737488355328) (hv : Liv (Dk.new n l) 7) :
    Calls Tryz.prog 7 #[.int .i64 (n : Nat), v] w fun e w' => ∃ b g p d, e = .returned (.tuple #[.pointer (some ⟨b, 0, none⟩), .pointer (some ⟨p, 0, none⟩), .int .i64 0]) ∧ Bg n l d ∧ GAt w.heap.size w' p b g (opened d (1, -1)) ∧ D.Kept w w' := by
  have f1 := D.new_walk n (by omega) h hB hl hfl
  obtain ⟨d1, ef, fl, ln, s0, s1, cu, fa, si⟩ := fmt_new n h2 l (hv.mono (by omega))
  have ok1 : Ok 5 d1 := by have := fmtd_ok (D.new_ok n l); rw [ef] at this; exact this
  have lv1 : Liv d1 2 := ⟨fl.up, fun c r hc => by have := hv.far c r (by rw [← cu, hc] : l = c :: r); rw [si]; exact this⟩
  have HB : Hid (Bg n l d1.begin.begin) := ⟨begin_flu (begin_flu fl), ln, s0, s1, cu, fa, by show d1.since + 1 + 1 = 7; rw [si], D.begin_ok (D.begin_ok ok1)⟩
  have f2 : ∀ W b g, DiskAt w.heap.size W b g (Dk.new n l) → w.heap.size ≤ W.heap.size → Calls Tryz.prog 24 #[.pointer (some ⟨b, 0, none⟩)] W fun e w' => e = .returned (.int .i64 0) ∧ DiskAt w.heap.size w' b g d1 ∧ D.On w.heap.size W w' := fun W b g k kB => by
    have := format_walk k kB (D.new_ok n l) (by omega)
    rw [ef] at this
    exact this
  have f3 : ∀ W b g, DiskAt w.heap.size W b g d1 → w.heap.size ≤ W.heap.size → Calls Tryz.prog 15 #[.pointer (some ⟨b, 0, none⟩)] W fun e w' => ∃ p, e = .returned (.tuple #[.pointer (some ⟨p, 0, none⟩), .int .i64 0]) ∧ GAt w.heap.size w' p b g (opened d1.begin.begin (1, -1)) ∧ On w.heap.size W w' := fun W b g k kB =>
    open_flu k kB ok1 (by omega) fl lv1 (by omega) (by omega) s0 s1 (o0 := none) (o1 := some (1, -1)) (sd_zeros 0) (sd_state sup11 rfl) (1, -1) rfl
  clear ef fl ln s0 s1 cu fa si ok1 lv1 hv h hfl
  generalize Dk.new n l = dn at f1 f2
  go_enter Tryz.func7, Tryz.ntmps7
  go_wp2_with (first
    | (go_at_call 23; (with_reducible refine f1.mono ?_); rintro e w1 ⟨b, g, rfl, k1, K1⟩; have g2 := f2 w1 b g k1 K1.size)
    | (go_at_call 24; (with_reducible refine g2.mono ?_); rintro e w2 ⟨rfl, k2, o2⟩; have B2 := Nat.le_trans K1.size o2.size; have g3 := f3 w2 b g k2 B2)
    | (go_at_call 15; (with_reducible refine g3.mono ?_); rintro e w3 ⟨p, rfl, k3, n3⟩))
  go_ret3
  exact ⟨b, g, p, _, rfl, HB.out, k3, ⟨(K1.out.trans o2.below).trans n3.below⟩⟩
end Go.Proofs.YthlhnjjofefgcaaGreatDoor.G

namespace Go.Proofs.YthlhnjjofefgcaaGreatDoor.G
open Go.ChangeShapes Go.WideShapes Go.ChangeAt Go.RowKit
open D (Dk Ok DiskAt)
open P (bs supL Sup supP Small)

theorem index_yes {w : World} {b : Nat} {k : Int} (hc : w.cell? ⟨b, 0, none⟩ = some (.int .i64 k)) : Calls Tryz.prog 57 #[.slice (some ⟨b, 0, none⟩) 1 1, .int .i64 k] w fun e w' => e = .returned (.int .i64 0) ∧ w' = w := by
  go_enter Tryz.func57, Tryz.ntmps57
  go_wp2
  refine wp_loop_rounds 1 ?_
  rw [rounds_succ]
  go_wp2
  go_ret
  exact ⟨rfl, rfl⟩
theorem index_no {w : World} {b : Nat} {k v : Int} (hc : w.cell? ⟨b, 0, none⟩ = some (.int .i64 k)) (hv : ¬ v = k) : Calls Tryz.prog 57 #[.slice (some ⟨b, 0, none⟩) 1 1, .int .i64 v] w fun e w' => e = .returned (.int .i64 (-1)) ∧ w' = w := by
  go_enter Tryz.func57, Tryz.ntmps57
  go_wp2
  refine wp_loop_rounds 2 ?_
  rw [rounds_succ]
  go_wp2
  rw [rounds_succ]
  go_wp2
  go_ret
  exact ⟨rfl, rfl⟩
theorem contains_yes {w : World} {b : Nat} {k : Int} (hc : w.cell? ⟨b, 0, none⟩ = some (.int .i64 k)) : Calls Tryz.prog 37 #[.slice (some ⟨b, 0, none⟩) 1 1, .int .i64 k] w fun e w' => e = .returned (.bool true) ∧ w' = w := by
  have f := index_yes hc
  go_enter Tryz.func37, Tryz.ntmps37
  go_wp2_with (go_at_call 57; (with_reducible refine f.mono ?_); rintro e w1 ⟨rfl, hw1⟩; rw [hw1]; clear hw1)
  go_ret
  exact ⟨rfl, rfl⟩
theorem contains_no {w : World} {b : Nat} {k v : Int} (hc : w.cell? ⟨b, 0, none⟩ = some (.int .i64 k)) (hv : ¬ v = k) : Calls Tryz.prog 37 #[.slice (some ⟨b, 0, none⟩) 1 1, .int .i64 v] w fun e w' => e = .returned (.bool false) ∧ w' = w := by
  have f := index_no hc hv
  go_enter Tryz.func37, Tryz.ntmps37
  go_wp2_with (go_at_call 57; (with_reducible refine f.mono ?_); rintro e w1 ⟨rfl, hw1⟩; rw [hw1]; clear hw1)
  go_ret
  exact ⟨rfl, rfl⟩

theorem calm3' : Calm 3 := by unfold Calm D.Calm; decide

set_option maxRecDepth 100000 in
set_option maxHeartbeats 1000000 in
theorem read_yes {B : Nat} {w : World} {p kb n : Nat} {a : Ad} {q' : Pq} {kd : Int} {fr : Nat × Nat} (hB : B ≤ w.heap.size) (hk : w.heap[kb]? = some (.cells #[.int .i64 kd] 3 fr)) (x : Pag)
    (f : ∀ W, D.Kept w W → Calls Tryz.prog 36 #[.pointer (some ⟨p, 0, none⟩), .int .i64 (n : Nat)] W fun e w' => e = .returned (.tuple #[x.val, .int .i64 0]) ∧ GA B w' p a q' ∧ On B W w') (hx : x.kind = kd) :
    Calls Tryz.prog 21 #[.pointer (some ⟨p, 0, none⟩), .int .i64 (n : Nat), .slice (some ⟨kb, 0, none⟩) 1 1] w fun e w' => e = .returned (.tuple #[x.val, .int .i64 0]) ∧ GA B w' p a q' ∧ On B w w' := by
  obtain ⟨xk, xn, xg, xs⟩ := x
  dsimp only at hx
  subst hx
  dsimp only [Pag.val] at f
  have Z0 := P.Pg.alloc w 0 0 0 ⟨#[]⟩ 55
  have K1 : D.Kept w (w.alloc (.cells #[.int .i64 0, .int .i64 0, .int .u64 0, .string ⟨#[]⟩] 55)) := (D.Kept.refl w).alloc _
  have f1 := f _ K1
  have hk1 := K1.block hk
  have f2 : ∀ W : World, W.cell? ⟨kb, 0, none⟩ = some (.int .i64 xk) → Calls Tryz.prog 37 #[.slice (some ⟨kb, 0, none⟩) 1 1, .int .i64 xk] W fun e w' => e = .returned (.bool true) ∧ w' = W := fun W hc => contains_yes hc
  go_enter Tryz.func21, Tryz.ntmps21
  go_wp2_with (first
    | (go_at_call 36; (with_reducible refine f1.mono ?_); rintro e w1 ⟨rfl, g1, n1⟩; have Z1 : P.Pg w1 w.heap.size 0 0 0 ⟨#[]⟩ 55 := ⟨n1.rows _ _ _ _ Z0.out calm55⟩; have hk2 := n1.rows _ _ _ _ hk1 calm3'; have K2 : P.Kept w1 (w1.alloc (.cells #[.int .i64 xk, .int .i64 xn, .int .u64 (xg : Nat), .string xs] 55)) := (P.Kept.refl w1).alloc _; have Z2 := K2.pg Z1; have g2 := g1.kept ⟨K2.out⟩; have hk3 := cell_of_row _ kb 0 _ _ _ (K2.block hk2); have hk4 : (w1.alloc (.cells #[.int .i64 xk, .int .i64 xn, .int .u64 (xg : Nat), .string xs] 55)).cell? ⟨kb, 0, none⟩ = some (.int .i64 xk) := hk3; clear hk3; have Y2 := P.Pg.alloc w1 xk xn xg xs 55; obtain ⟨y0, y1, y2, y3⟩ := Y2.cs; have N2 := ((On.ofKept K1 hB).trans n1).kept ⟨K2.out⟩ hB; obtain ⟨kA, NA⟩ := fill_far g2 Z2 N2 hB (Nat.le_refl _) xk xn (xg : Nat) xs; have rA := (Z2.fill xk xn (xg : Nat) xs).out; obtain ⟨⟨z0, h0⟩, ⟨z1, h1⟩, ⟨z2, h2⟩, z3, h3⟩ := Z2.ready xk xn (xg : Nat))
    | (go_at_call 37; (with_reducible refine (f2 _ hk4).mono ?_); rintro e w2 ⟨rfl, hw2⟩; rw [hw2]; clear hw2))
  refine bodyPost_ret (v := .tuple #[.agg #[.int .i64 xk, .int .i64 xn, .int .u64 (xg : Nat), .string xs], .int .i64 0]) ?_ rfl ⟨rfl, kA, NA⟩
  exact P.results_two (p := 6) (u := 7) (ty := 55) rfl _ _ w.heap.size 55 _ (0, 0) _ rfl rA Tryz.underlying55 rfl P.size55

set_option maxRecDepth 100000 in
set_option maxHeartbeats 1000000 in
theorem read_other {B : Nat} {w : World} {p kb n : Nat} {a : Ad} {q' : Pq} {kd : Int} {fr : Nat × Nat} (hB : B ≤ w.heap.size) (hk : w.heap[kb]? = some (.cells #[.int .i64 kd] 3 fr)) (x : Pag)
    (f : ∀ W, D.Kept w W → Calls Tryz.prog 36 #[.pointer (some ⟨p, 0, none⟩), .int .i64 (n : Nat)] W fun e w' => e = .returned (.tuple #[x.val, .int .i64 0]) ∧ GA B w' p a q' ∧ On B W w') (hx : ¬ x.kind = kd) :
    Calls Tryz.prog 21 #[.pointer (some ⟨p, 0, none⟩), .int .i64 (n : Nat), .slice (some ⟨kb, 0, none⟩) 1 1] w fun e w' => e = .returned (.tuple #[Pag.zero.val, .int .i64 82]) ∧ GA B w' p a q' ∧ On B w w' := by
  obtain ⟨xk, xn, xg, xs⟩ := x
  dsimp only at hx
  dsimp only [Pag.val] at f
  have Z0 := P.Pg.alloc w 0 0 0 ⟨#[]⟩ 55
  have K1 : D.Kept w (w.alloc (.cells #[.int .i64 0, .int .i64 0, .int .u64 0, .string ⟨#[]⟩] 55)) := (D.Kept.refl w).alloc _
  have f1 := f _ K1
  have hk1 := K1.block hk
  have f2 : ∀ W : World, W.cell? ⟨kb, 0, none⟩ = some (.int .i64 kd) → Calls Tryz.prog 37 #[.slice (some ⟨kb, 0, none⟩) 1 1, .int .i64 xk] W fun e w' => e = .returned (.bool false) ∧ w' = W := fun W hc => contains_no hc hx
  go_enter Tryz.func21, Tryz.ntmps21
  go_wp2_with (first
    | (go_at_call 36; (with_reducible refine f1.mono ?_); rintro e w1 ⟨rfl, g1, n1⟩; have Z1 : P.Pg w1 w.heap.size 0 0 0 ⟨#[]⟩ 55 := ⟨n1.rows _ _ _ _ Z0.out calm55⟩; have hk2 := n1.rows _ _ _ _ hk1 calm3'; have K2 : P.Kept w1 (w1.alloc (.cells #[.int .i64 xk, .int .i64 xn, .int .u64 (xg : Nat), .string xs] 55)) := (P.Kept.refl w1).alloc _; have Z2 := K2.pg Z1; have g2 := g1.kept ⟨K2.out⟩; have hk3 := cell_of_row _ kb 0 _ _ _ (K2.block hk2); have hk4 : (w1.alloc (.cells #[.int .i64 xk, .int .i64 xn, .int .u64 (xg : Nat), .string xs] 55)).cell? ⟨kb, 0, none⟩ = some (.int .i64 kd) := hk3; clear hk3; have Y2 := P.Pg.alloc w1 xk xn xg xs 55; obtain ⟨y0, y1, y2, y3⟩ := Y2.cs; have N2 := ((On.ofKept K1 hB).trans n1).kept ⟨K2.out⟩ hB; obtain ⟨kA, NA⟩ := fill_far g2 Z2 N2 hB (Nat.le_refl _) 0 0 0 ⟨#[]⟩; have rA := (Z2.fill 0 0 0 ⟨#[]⟩).out; obtain ⟨⟨z0, h0⟩, ⟨z1, h1⟩, ⟨z2, h2⟩, z3, h3⟩ := Z2.ready 0 0 0)
    | (go_at_call 37; (with_reducible refine (f2 _ hk4).mono ?_); rintro e w2 ⟨rfl, hw2⟩; rw [hw2]; clear hw2))
  refine bodyPost_ret (v := .tuple #[.agg #[.int .i64 0, .int .i64 0, .int .u64 0, .string ⟨#[]⟩], .int .i64 82]) ?_ rfl ⟨rfl, kA, NA⟩
  exact P.results_two (p := 6) (u := 7) (ty := 55) rfl _ _ w.heap.size 55 _ (0, 0) _ rfl rA Tryz.underlying55 rfl P.size55
end Go.Proofs.YthlhnjjofefgcaaGreatDoor.G

namespace Go.Proofs.YthlhnjjofefgcaaGreatDoor.G
open Go.ChangeShapes Go.WideShapes Go.ChangeAt Go.RowKit
open D (Dk Ok DiskAt)
open P (bs supL Sup supP Small)

set_option maxRecDepth 100000 in
set_option maxHeartbeats 2000000 in
theorem look_disk {B : Nat} {w : World} {p m : Nat} {a : Ad} {q : Pq} (h : GA B w p a q) (hB : B ≤ w.heap.size) (ok : Ok m q.disk) (hm : m < 49000) (n : Nat) (h2 : 2 ≤ n) (hn : n < 64) (hx0 : q.fresh n = none) (hf : q.fails = q.disk.fails) (hh : q.held n = none)
    (l : List Nat) (hl : Small l) (ho : P.Okk l) (hS : (q.disk.read (n : Nat)).2 = (bs l, 0)) (x : Pag) (ex : x = ⟨P.fK l, P.fN l, P.fG l, bs (P.fD l)⟩) (hnum : P.fN l = n) :
    Calls Tryz.prog 36 #[.pointer (some ⟨p, 0, none⟩), .int .i64 (n : Nat)] w fun e w' => e = .returned (.tuple #[x.val, .int .i64 0]) ∧ GA B w' p a { q with disk := (q.disk.read (n : Nat)).1, held := putM q.held n x } ∧ On B w w' := by
  have Z0 := P.Pg.alloc w 0 0 0 ⟨#[]⟩ 55
  have K1 : D.Kept w (w.alloc (.cells #[.int .i64 0, .int .i64 0, .int .u64 0, .string ⟨#[]⟩] 55)) := (D.Kept.refl w).alloc _
  have k1 := h.kept K1
  obtain ⟨c0, c1, c2, c3, c4, c5, c6, c7, c8, c9⟩ := k1.cs
  have lk := k1.fm.look n (by omega)
  rw [show atK q.fresh n = Pag.zero by simp [atK, hx0], hx0] at lk
  have lk1 : (Instr.lookup 66 (.map (some a.mf)) (.int .i64 (n : Nat)) true).run Tryz.prog (w.alloc (.cells #[.int .i64 0, .int .i64 0, .int .u64 0, .string ⟨#[]⟩] 55)) = .ok (.tuple #[.agg #[.int .i64 0, .int .i64 0, .int .u64 0, .string ⟨#[]⟩], .bool false]) (w.alloc (.cells #[.int .i64 0, .int .i64 0, .int .u64 0, .string ⟨#[]⟩] 55)) := lk
  have K2 : D.Kept w ((w.alloc (.cells #[.int .i64 0, .int .i64 0, .int .u64 0, .string ⟨#[]⟩] 55)).alloc (.cells #[.int .i64 0, .int .i64 0, .int .u64 0, .string ⟨#[]⟩] 55)) := K1.alloc _
  have Z2 : P.Pg ((w.alloc (.cells #[.int .i64 0, .int .i64 0, .int .u64 0, .string ⟨#[]⟩] 55)).alloc (.cells #[.int .i64 0, .int .i64 0, .int .u64 0, .string ⟨#[]⟩] 55)) w.heap.size 0 0 0 ⟨#[]⟩ 55 := ((P.Kept.refl _).alloc _).pg Z0
  have k2 := h.kept K2
  have f1 := D.fails_walk k2.disk
  obtain ⟨F, hF⟩ : ∃ F : Nat, q.disk.fails = F := ⟨_, rfl⟩
  rw [hF] at f1
  obtain ⟨d0, d1, d2, d3, d4, d5, d6, d7, d8, d9⟩ := k2.cs
  rw [← hf] at hF
  have d8' : ((w.alloc (.cells #[.int .i64 0, .int .i64 0, .int .u64 0, .string ⟨#[]⟩] 55)).alloc (.cells #[.int .i64 0, .int .i64 0, .int .u64 0, .string ⟨#[]⟩] 55)).cell? ⟨p, 8, none⟩ = some (.int .i64 (F : Nat)) := by rw [← hF]; exact d8
  clear d8
  have lh0 := k2.hm.look n (by omega)
  rw [show atK q.held n = Pag.zero by simp [atK, hh], hh] at lh0
  have k4 := k2
  have Z4 := Z2
  have N4 := On.ofKept K2 hB
  have lh : (Instr.lookup 66 (.map (some a.mh)) (.int .i64 (n : Nat)) true).run Tryz.prog ((w.alloc (.cells #[.int .i64 0, .int .i64 0, .int .u64 0, .string ⟨#[]⟩] 55)).alloc (.cells #[.int .i64 0, .int .i64 0, .int .u64 0, .string ⟨#[]⟩] 55)) = .ok (.tuple #[.agg #[.int .i64 0, .int .i64 0, .int .u64 0, .string ⟨#[]⟩], .bool false]) ((w.alloc (.cells #[.int .i64 0, .int .i64 0, .int .u64 0, .string ⟨#[]⟩] 55)).alloc (.cells #[.int .i64 0, .int .i64 0, .int .u64 0, .string ⟨#[]⟩] 55)) := lh0
  have K5 : D.Kept ((w.alloc (.cells #[.int .i64 0, .int .i64 0, .int .u64 0, .string ⟨#[]⟩] 55)).alloc (.cells #[.int .i64 0, .int .i64 0, .int .u64 0, .string ⟨#[]⟩] 55)) (((w.alloc (.cells #[.int .i64 0, .int .i64 0, .int .u64 0, .string ⟨#[]⟩] 55)).alloc (.cells #[.int .i64 0, .int .i64 0, .int .u64 0, .string ⟨#[]⟩] 55)).alloc (.cells #[.int .i64 0, .int .i64 0, .int .u64 0, .string ⟨#[]⟩] 55)) := (D.Kept.refl _).alloc _
  have k5 := k4.kept K5
  have Z5 : P.Pg (((w.alloc (.cells #[.int .i64 0, .int .i64 0, .int .u64 0, .string ⟨#[]⟩] 55)).alloc (.cells #[.int .i64 0, .int .i64 0, .int .u64 0, .string ⟨#[]⟩] 55)).alloc (.cells #[.int .i64 0, .int .i64 0, .int .u64 0, .string ⟨#[]⟩] 55)) w.heap.size 0 0 0 ⟨#[]⟩ 55 := P.Kept.pg ⟨K5.out⟩ Z4
  obtain ⟨i0, i1, i2, i3, i4, i5, i6, i7, i8, i9⟩ := k5.cs
  have N5 := N4.kept K5 hB
  have hB5 := Nat.le_trans hB N5.size
  have f2 := D.read_walk k5.disk hB5 ok (by omega) (n : Nat)
  have f3 : ∀ W, Calls Tryz.prog 56 #[.string (bs l)] W fun e w' => e = .returned (.tuple #[.agg #[.int .i64 (P.fK l : Nat), .int .i64 (n : Nat), .int .u64 (P.fG l : Nat), .string (bs (P.fD l))], .int .i64 0]) ∧ P.Kept W w' := fun W => by rw [← hnum]; exact P.get_yes l hl ho W
  subst ex
  rw [hnum]
  rw [hS] at f2
  
  generalize bs l = S at f2 f3
  generalize bs (P.fD l) = xs at f3 ⊢
  generalize P.fK l = xk at f3 ⊢
  generalize P.fG l = xg at f3 ⊢
  clear hx0 lk hS hnum hl ho lh0 hf hF hh d1 d2 d3 d4 d5 d6 d9
  dsimp only at f2
  have HF : Hid True := trivial
  go_enter Tryz.func36, Tryz.ntmps36
  go_wp2_with (first
    | (go_at_call 22; (with_reducible refine f1.mono ?_); rintro e w1 ⟨rfl, hw1⟩; rw [hw1]; clear hw1)
    | (go_at_call 54; (with_reducible refine f2.mono ?_); rintro e w6 ⟨rfl, D6, o6⟩; have k6 := k5.onD o6 D6; have Z6 := Pg.onD Z5 o6; have N6 := N5.trans (On.ofD o6))
    | (go_at_call 56; (with_reducible refine (f3 _).mono ?_); rintro e w7 ⟨rfl, K7⟩; have Y8 := P.Pg.alloc w7 (xk : Nat) (n : Nat) (xg : Nat) xs 55; have K8 : D.Kept w6 (w7.alloc (.cells #[.int .i64 (xk : Nat), .int .i64 (n : Nat), .int .u64 (xg : Nat), .string xs] 55)) := D.Kept.trans ⟨K7.out⟩ ((D.Kept.refl w7).alloc _); have k8 := k6.kept K8; have Z8 : P.Pg _ w.heap.size 0 0 0 ⟨#[]⟩ 55 := P.Kept.pg ⟨K8.out⟩ Z6; have N8 := N6.kept K8 hB; obtain ⟨j0, j1, j2, j3, j4, j5, j6, j7, j8, j9⟩ := k8.cs; obtain ⟨y0, y1, y2, y3⟩ := Y8.cs; obtain ⟨w9, st0, m9, o9⟩ := MAt.store (w := (w7.alloc (.cells #[.int .i64 (xk : Nat), .int .i64 (n : Nat), .int .u64 (xg : Nat), .string xs] 55)).drew) (k8.hm.same rfl) n hn ⟨xk, n, xg, xs⟩; have st : (Instr.mapUpdate 66 (.map (some a.mh)) (.int .i64 (n : Nat)) (.agg #[.int .i64 (xk : Nat), .int .i64 (n : Nat), .int .u64 (xg : Nat), .string xs])).run Tryz.prog (w7.alloc (.cells #[.int .i64 (xk : Nat), .int .i64 (n : Nat), .int .u64 (xg : Nat), .string xs] 55)).drew = .ok () w9 := st0; clear st0))
  have o9' : One a.mh (w7.alloc (.cells #[.int .i64 (xk : Nat), .int .i64 (n : Nat), .int .u64 (xg : Nat), .string xs] 55)) w9 := ⟨fun X hX => ⟨(o9.below X hX).os, (o9.below X hX).tape, (o9.below X hX).output, (o9.below X hX).size, (o9.below X hX).block⟩, o9.size, o9.block⟩
  have Z9 := Pg.one Z8 k8.hm o9'
  have Y9 := Pg.one Y8 k8.hm o9'
  obtain ⟨k9, n9⟩ := k8.onH o9' m9
  have N9 := N8.trans n9
  have j7' : w9.cell? ⟨p, 7, none⟩ = some (.map (some a.mh)) := k9.cs.2.2.2.2.2.2.2.1
  obtain ⟨y90, y91, y92, y93⟩ := Y9.cs
  obtain ⟨⟨z0, h0⟩, ⟨z1, h1⟩, ⟨z2, hh2⟩, z3, h3⟩ := Z9.ready (xk : Nat) (n : Nat) (xg : Nat)
  obtain ⟨kA, NA⟩ := fill_far k9 Z9 N9 hB (Nat.le_refl _) (xk : Nat) (n : Nat) (xg : Nat) xs
  have rA := (Z9.fill (xk : Nat) (n : Nat) (xg : Nat) xs).out
  go_region_held3 (fun W => W.cell? ⟨p, 7, none⟩ = some (.map (some a.mh)) ∧ W.cell? ⟨w7.heap.size, 0, none⟩ = some (.int .i64 (xk : Nat)) ∧ W.cell? ⟨w7.heap.size, 1, none⟩ = some (.int .i64 (n : Nat)) ∧ W.cell? ⟨w7.heap.size, 2, none⟩ = some (.int .u64 (xg : Nat)) ∧ W.cell? ⟨w7.heap.size, 3, none⟩ = some (.string xs)) (first | trivial | go_keep) (fail)
  all_goals go_wp2
  all_goals refine bodyPost_ret (v := .tuple #[.agg #[.int .i64 (xk : Nat), .int .i64 (n : Nat), .int .u64 (xg : Nat), .string xs], .int .i64 0]) ?_ rfl ⟨rfl, kA, NA⟩
  all_goals exact P.results_two (p := 4) (u := 5) (ty := 55) rfl _ _ w.heap.size 55 _ (0, 0) _ rfl rA Tryz.underlying55 rfl P.size55

end Go.Proofs.YthlhnjjofefgcaaGreatDoor.G

namespace Go.Proofs.YthlhnjjofefgcaaGreatDoor.G
open Go.ChangeShapes Go.WideShapes Go.ChangeAt Go.RowKit
open D (Dk Ok DiskAt Sec Wr Ct CutsAt whole)
open P (bs supL Sup supP Small)

theorem wrt_ok {M : Nat → Option Pag} {m : Nat} {d : Dk} (h : Ok m d) (l : List Nat) (g : Nat) (r : Int) : Ok (m + l.length + 3) (wrt M d l g r).1 := by
  have h1 := wrs_ok (M := M) l h
  unfold wrt
  split
  · exact Ok.mono h1 (by omega)
  · split
    · exact Ok.mono (flush_ok' h1) (by omega)
    · exact Ok.mono (comt_ok (flush_ok' h1) g r) (by omega)

theorem keys_ne (M : Nat → Option Pag) : (keysOf M).Pairwise (· ≠ ·) := (keys_rise M).imp (fun {a b} h => by omega)

theorem sec_says {M : Nat → Option Pag} {n : Nat} {k : Int} {g : Nat} {s : ByteArray} (h : M n = some ⟨k, n, g, s⟩) (h1 : 1 ≤ k) (h4 : k ≤ 4) (hn : n < 16384) (hs : s.size ≤ 237) (hg : g < 18446744073709551616) :
    ∃ l, Small l ∧ P.Okk l ∧ whole (secOf M n) = bs l ∧ (⟨k, n, g, s⟩ : Pag) = ⟨P.fK l, P.fN l, P.fG l, bs (P.fD l)⟩ ∧ P.fN l = n := by
  have ea : atK M n = ⟨k, n, g, s⟩ := by simp [atK, h]
  have hm : P.May k (n : Nat) (P.un s) := ⟨h1, h4, by omega, by omega, by rw [P.un_length]; exact hs⟩
  obtain ⟨o1, o2, o3, o4, o5⟩ := P.page_okk k (n : Nat) g (P.un s) hm hg
  have e1 : secOf M n = bs (P.putL k (n : Nat) g (P.un s)) := by unfold secOf; rw [ea]
  have e2 : (P.putL k ((n : Nat) : Int) g (P.un s)).length = 256 := by rw [P.putL_may hm]; exact P.pageL_length _ _ _ _ (by rw [P.un_length]; exact hs)
  refine ⟨P.putL k (n : Nat) g (P.un s), P.putL_small _ _ _ (P.un_small s), o1, ?_, ?_, by omega⟩
  · rw [e1]; exact whole_full _ (by rw [P.bs_size, e2])
  · rw [o2, o3, o4, o5, P.bs_un]

theorem ahead_first {m : Nat} (h : 3 ≤ m) : S.IsFirst ahead m 2 2 := .inl ⟨2, rfl, Nat.le_refl _, by omega, by decide, fun j h1 h2 => by omega⟩

theorem look_kept {B : Nat} {w : World} {p m : Nat} {a : Ad} {q : Pq} (h : GA B w p a q) (hB : B ≤ w.heap.size) (ok : Ok m q.disk) (hm : m < 49000) (n : Nat) (h2 : 2 ≤ n) (hn : n < 64) (hx0 : q.fresh n = none) (hf : q.fails = q.disk.fails) (hh : q.held n = none) (hfl : Flu q.disk) (hl : Liv q.disk 1)
    {M : Nat → Option Pag} {k : Int} {g : Nat} {s : ByteArray} (hM : M n = some ⟨k, n, g, s⟩) (h1 : 1 ≤ k) (h4 : k ≤ 4) (hs : s.size ≤ 237) (hg : g < 18446744073709551616) (hsec : q.disk.secs[n]? = some ⟨whole (secOf M n), false, 0⟩) :
    ∀ W, D.Kept w W → Calls Tryz.prog 36 #[.pointer (some ⟨p, 0, none⟩), .int .i64 (n : Nat)] W fun e w' => e = .returned (.tuple #[(⟨k, n, g, s⟩ : Pag).val, .int .i64 0]) ∧ GA B w' p a { q with disk := q.disk.begin, held := putM q.held n ⟨k, n, g, s⟩ } ∧ On B W w' := by
  intro W hW
  obtain ⟨l, hl1, ho, ew, ex, en⟩ := sec_says hM h1 h4 (by omega) hs hg
  have er := read_flu hfl hl hsec
  have := look_disk (h.kept hW) (Nat.le_trans hB hW.size) ok hm n h2 hn hx0 hf hh l hl1 ho (by rw [er, ← ew]; rfl) _ ex en
  rw [er] at this
  exact this

set_option maxRecDepth 100000 in
set_option maxHeartbeats 2000000 in
theorem awake_walk (w : World) (hL : S.Lds w) : Calls Tryz.prog 8 #[] w fun e w' => e = .returned (.bool true) ∧ D.Kept w w' := by
  have hc : CutsAt 0 w (.slice none 0 0) [] := ⟨none, 0, rfl, Nat.le_refl _, Nat.zero_le _, fun j hj => by cases hj⟩
  have f1 : Calls Tryz.prog 7 #[.int .i64 5, .slice none 0 0] w _ := begun_walk 5 (by decide) (by decide) hc (Nat.zero_le _) (Nat.zero_le _) (by intro _ h; cases h) ⟨rfl, by intro _ _ h; cases h⟩
  have hfd0 : ∀ (W : World) (x r : Int), (Instr.field 52 (.agg #[.int .u64 x, .int .i64 r]) 0).run Tryz.prog W = .ok (.int .u64 x) W := fun _ _ _ => by kernel_rfl
  have hfd1 : ∀ (W : World) (x r : Int), (Instr.field 52 (.agg #[.int .u64 x, .int .i64 r]) 1).run Tryz.prog W = .ok (.int .i64 r) W := fun _ _ _ => by kernel_rfl
  have cont : ∀ (w1 : World) (b g p : Nat) (d : Dk), Bg 5 [] d → GAt w.heap.size w1 p b g (opened d (1, -1)) → D.Kept w w1 → ∃ (d2 : Dk) (q2 : Pq),
      Calls Tryz.prog 10 #[.pointer (some ⟨p, 0, none⟩), .int .i64 2, .string ⟨#[120]⟩] w1 (fun e w' => e = .returned (.tuple #[.int .i64 2, .int .i64 0]) ∧ GAt w.heap.size w' p b g ((opened d (1, -1)).add 2 2 ⟨#[120]⟩) ∧ On w.heap.size w1 w') ∧
      (∀ W, GAt w.heap.size W p b g ((opened d (1, -1)).add 2 2 ⟨#[120]⟩) → w.heap.size ≤ W.heap.size → Calls Tryz.prog 13 #[.pointer (some ⟨p, 0, none⟩), .int .i64 2] W (fun e w' => e = .returned (.int .i64 0) ∧ GAt w.heap.size w' p b g (((opened d (1, -1)).add 2 2 ⟨#[120]⟩).comd d2 2) ∧ On w.heap.size W w')) ∧
      (∀ W, DiskAt w.heap.size W b g d2 → w.heap.size ≤ W.heap.size → Calls Tryz.prog 15 #[.pointer (some ⟨b, 0, none⟩)] W (fun e w' => ∃ p2, e = .returned (.tuple #[.pointer (some ⟨p2, 0, none⟩), .int .i64 0]) ∧ GAt w.heap.size w' p2 b g (opened d2.begin.begin (2, 2)) ∧ On w.heap.size W w')) ∧
      (∀ W p2, GAt w.heap.size W p2 b g (opened d2.begin.begin (2, 2)) → Calls Tryz.prog 16 #[.pointer (some ⟨p2, 0, none⟩), .int .i64 2] W (fun e w' => e = .returned (.bool true) ∧ GAt w.heap.size w' p2 b g ((opened d2.begin.begin (2, 2)).mark 2) ∧ On w.heap.size W w')) ∧
      (∀ W p2 kb, GAt w.heap.size W p2 b g ((opened d2.begin.begin (2, 2)).mark 2) → w.heap.size ≤ W.heap.size → W.heap[kb]? = some (.cells #[.int .i64 2] 3) → Calls Tryz.prog 21 #[.pointer (some ⟨p2, 0, none⟩), .int .i64 2, .slice (some ⟨kb, 0, none⟩) 1 1] W (fun e w' => e = .returned (.tuple #[.agg #[.int .i64 2, .int .i64 2, .int .u64 2, .string ⟨#[120]⟩], .int .i64 0]) ∧ GAt w.heap.size w' p2 b g q2 ∧ On w.heap.size W w')) ∧ q2.gen = 2 ∧ q2.root = 2 := by
    intro w1 b g p d hb hG hK
    have fa := add_ok hG hK.size (lds_kept hL hK) 2 (ahead_first (by show 3 ≤ d.secs.length; rw [hb.len]; decide)) (by show 2 < d.secs.length; rw [hb.len]; decide) 2 ⟨#[120]⟩ (show 1 < 4611686018427387904 by decide) (by decide) (by decide) (by decide)
    obtain ⟨M, hM⟩ : ∃ M, ((opened d (1, -1)).add 2 2 ⟨#[120]⟩).fresh = M := ⟨_, rfl⟩
    have ek : keysOf M = [2] := by rw [← hM]; rfl
    have eM : M 2 = some ⟨2, (2 : Nat), 2, ⟨#[120]⟩⟩ := by rw [← hM]; rfl
    have hlv : ∀ k, Liv d k := fun k => ⟨hb.flu.up, by intro c r h; rw [hb.cuts] at h; cases h⟩
    have s22 : Sup (1 + 1) 2 := by unfold Sup; decide
    obtain ⟨d1, d2, e, w1', w2'⟩ := wrt_live M hb.flu (l := keysOf M) (hlv _) (keys_ne M) (by rw [ek]; intro n hn; simp at hn; subst hn; rw [hb.len]; decide) (by rw [hb.len]; decide) (1 + 1) 2 s22
    have ok2 := wrt_ok (M := M) hb.ok (keysOf M) (1 + 1) 2
    rw [e, ek] at ok2
    rw [ek] at w1'
    have lv2 : ∀ k, Liv d2 k := fun k => ⟨w2'.flu.up, by intro c r h; rw [w2'.cuts, w1'.cuts, hb.cuts] at h; cases h⟩
    have t0 : d2.secs[0]? = some ⟨bs (supP 2 2), false, 0⟩ := w2'.own ⟨0, bs (supP 2 2)⟩ (by simp)
    have t1 : d2.secs[1]? = some ⟨bs (supP 1 (-1)), false, 0⟩ := by
      rw [w2'.oth 1 (by intro x hx; simp at hx; subst hx; decide), w1'.oth 1 (by intro x hx; simp [wrl] at hx; subst hx; show 2 ≠ 1; decide)]
      exact hb.s1
    have t2 : d2.secs[2]? = some ⟨whole (secOf M 2), false, 0⟩ := by
      rw [w2'.oth 2 (by intro x hx; simp at hx; subst hx; decide)]
      exact w1'.own ⟨2, whole (secOf M 2)⟩ (by simp [wrl])
    have ln2 : d2.secs.length = 5 := by rw [w2'.len, w1'.len, hb.len]
    have fl2 : d2.fails = 0 := by rw [w2'.fails, w1'.fails, hb.fails]
    refine ⟨d2, { (opened d2.begin.begin (2, 2)).mark 2 with disk := d2.begin.begin.begin, held := putM (fun _ => none) 2 ⟨2, (2 : Nat), 2, ⟨#[120]⟩⟩ }, fa, ?_, ?_, ?_, ?_, rfl, rfl⟩
    · intro W hW hBW
      obtain ⟨a, rfl, rfl, k⟩ := hW.out
      refine commit_ok k hBW hb.ok (by decide) rfl (fun n => ?_) (show 1 < 4611686018427387904 by decide) 2 s22 d2 false (by rw [hM]; exact e) rfl
      rw [hM]
      have : ∀ n, (atK M n).gen < 18446744073709551616 := by
        rw [← hM]
        intro n
        show ((putM (fun _ => none) 2 _ n).getD Pag.zero).gen < _
        unfold putM
        split
        · show 1 + 1 < 18446744073709551616; decide
        · show 0 < 18446744073709551616; decide
      exact this n
    · intro W hW hBW
      exact open_flu hW hBW ok2 (by decide) w2'.flu (lv2 2) (by rw [ln2]; decide) (by rw [ln2]; decide) t0 t1 (o0 := some (2, 2)) (o1 := some (1, -1)) (sd_state s22 rfl) (sd_state sup11 rfl) (2, 2) rfl
    · intro W p2 hW
      exact mark_yes hW 2 (by show 2 < d2.secs.length; rw [ln2]; decide) rfl
    · intro W p2 kb hW hBW hkb
      obtain ⟨a, rfl, rfl, k⟩ := hW.out
      have fl := look_kept k hBW (m := 20) (Ok.mono (D.begin_ok (D.begin_ok ok2)) (by decide)) (by decide) 2 (by decide) (by decide) rfl (show 0 = d2.fails by rw [fl2]) rfl (begin_flu (begin_flu w2'.flu)) (begin_live (begin_live (lv2 3))) eM (by decide) (by decide) (by decide) (by decide) t2
      refine (read_yes (n := 2) hBW hkb _ fl rfl).mono ?_
      rintro e w' ⟨rfl, g, n⟩
      exact ⟨rfl, ⟨a, rfl, rfl, g⟩, n⟩
  clear hc
  have HC : Hid _ := cont
  clear cont
  go_enter Tryz.func8, Tryz.ntmps8
  go_wp2_with (first
    | (go_at_call 7; (with_reducible refine f1.mono ?_); rintro e w1 ⟨b, g, p, d, rfl, hbg, hG1, hK1⟩; obtain ⟨d2, q2, g10, g13, g15, g16, g21, hq1, hq2⟩ := HC.out w1 b g p d hbg hG1 hK1)
    | (go_at_call 10; (with_reducible refine g10.mono ?_); rintro e w2 ⟨rfl, hG2, n2⟩; have B2 := Nat.le_trans hK1.size n2.size; have h13 := g13 w2 hG2 B2)
    | (go_at_call 13; (with_reducible refine h13.mono ?_); rintro e w3 ⟨rfl, hG3, n3⟩; have B3 := Nat.le_trans B2 n3.size; have hD3 : DiskAt w.heap.size w3 b g d2 := (by obtain ⟨a, rfl, rfl, k⟩ := hG3.out; exact k.disk); have h15 := g15 w3 hD3 B3)
    | (go_at_call 15; (with_reducible refine h15.mono ?_); rintro e w4 ⟨p2, rfl, hG4, n4⟩; have B4 := Nat.le_trans B3 n4.size; have h16 := g16 w4 p2 hG4)
    | (go_at_call 16; (with_reducible refine h16.mono ?_); rintro e w5 ⟨rfl, hG5, n5⟩; have B5 := Nat.le_trans B4 n5.size; have K6 : D.Kept w5 (w5.alloc (.cells #[.int .i64 2] 3)) := (D.Kept.refl w5).alloc _; have hG6 : GAt w.heap.size (w5.alloc (.cells #[.int .i64 2] 3)) p2 b g _ := (by obtain ⟨a, e1, e2, k⟩ := hG5.out; exact ⟨a, e1, e2, k.kept K6⟩); have h21 := g21 _ p2 w5.heap.size hG6 (Nat.le_trans B5 K6.size) (heap_alloc_new w5 _))
    | (go_at_call 21; (with_reducible refine h21.mono ?_); rintro e w7 ⟨rfl, hG7, n7⟩; have K8 : D.Kept w7 (w7.alloc (.cells #[.int .i64 2, .int .i64 2, .int .u64 2, .string ⟨#[120]⟩] 55)) := (D.Kept.refl w7).alloc _; have hG8 : GAt w.heap.size (w7.alloc (.cells #[.int .i64 2, .int .i64 2, .int .u64 2, .string ⟨#[120]⟩] 55)) p2 b g q2 := (by obtain ⟨a, e1, e2, k⟩ := hG7.out; exact ⟨a, e1, e2, k.kept K8⟩); have hst := state_walk hG8; rw [hq1, hq2] at hst)
    | (go_at_call 20; (with_reducible refine hst.mono ?_); rintro e w9 ⟨rfl, K9⟩; have hG9 : GAt w.heap.size w9 p2 b g q2 := (by obtain ⟨a, e1, e2, k⟩ := hG8.out; exact ⟨a, e1, e2, k.kept K9⟩); have hst2 := state_walk hG9; rw [hq1, hq2] at hst2; clear hst)
    | (go_at_call 20; (with_reducible refine hst2.mono ?_); rintro e wA ⟨rfl, KA⟩))
  go_ret
  have b7 : Below w.heap.size w w7 := ((((((hK1.out.trans n2.below).trans n3.below).trans n4.below).trans n5.below).alloc B5 _).trans n7.below)
  have B7 : w.heap.size ≤ w7.heap.size := b7.size
  have b8 := b7.alloc B7 (.cells #[.int .i64 2, .int .i64 2, .int .u64 2, .string ⟨#[120]⟩] 55)
  have b9 := b8.trans (K9.out.mono b8.size)
  exact ⟨rfl, ⟨b9.trans (KA.out.mono b9.size)⟩⟩
end Go.Proofs.YthlhnjjofefgcaaGreatDoor.G

namespace Go.Proofs.YthlhnjjofefgcaaGreatDoor.G
open Go.ChangeShapes Go.WideShapes Go.ChangeAt Go.RowKit
open D (Dk Ok DiskAt Sec Wr Ct CutsAt whole)
open P (bs supL Sup supP Small)

theorem info5' : (Tryz.prog.info? 5).map (fun i => (i.zero, i.size, i.bytes)) = some (some (.int .u8 0), 1, 1) := by kernel_rfl

theorem made_text (n : Nat) (hn : n ≤ 1000) (W : World) : ∃ w1, (Instr.makeSlice 63 (.int .i64 (n : Nat)) (.int .i64 (n : Nat))).run Tryz.prog W = .ok (.slice (some ⟨W.heap.size, 0, none⟩) n n) w1 ∧ (convert 63 9 (.slice (some ⟨W.heap.size, 0, none⟩) n n)).run Tryz.prog w1 = .ok (.string (bs (List.replicate n 0))) w1 ∧ D.Kept W w1 := by
  obtain ⟨i, hi, hz, hs, hby⟩ := info_parts info5'
  obtain ⟨w1, mk, ow, gw⟩ := run_makeSlice_full (P := Tryz.prog) W W.heap.size 63 5 i _ 1 Tryz.underlying63 hi hz hs .i64 .i64 n (by omega) (by rw [hby]; omega) (by unfold maxLen; omega) (Nat.le_refl _)
  refine ⟨w1, mk, ?_, ⟨(Below.refl _ W).grown gw (Nat.le_refl _) (fun _ e => by cases e)⟩⟩
  have e : (madeCells #[Value.int .u8 0] (n * 1)).toList = P.cellsOf (List.replicate n 0) := by
    rw [toList_madeCells_one, Nat.mul_one]
    simp [P.cellsOf]
  have ow' : w1.ownsRow W.heap.size 5 1 (.slice (some ⟨W.heap.size, 0, none⟩) n n) n (P.cellsOf (List.replicate n 0)) := by rw [← e]; exact ow
  have e2 : n = (List.replicate n 0).length := by simp
  have := P.own_text (l := List.replicate n 0) (v := .slice (some ⟨W.heap.size, 0, none⟩) n n) (by rw [← e2]; exact ow')
  exact this

set_option maxRecDepth 100000 in
set_option maxHeartbeats 4000000 in
theorem none_walk (n : Int) (s : ByteArray) (w : World) (hL : S.Lds w) : Calls Tryz.prog 6 #[.int .i64 n, .string s] w fun e w' => e = .returned (.bool true) ∧ D.Kept w w' := by
  have a11 := fun W => drop_nil n W
  have a14 := fun W => undo_nil W
  have a21 := fun W => read_nil n (.slice none 0 0) W
  have a10 := fun W => add_nil n s W
  have a13 := fun W => commit_nil n W
  have a18 := fun W => left_nil W
  have a16 := fun W => mark_nil n W
  have a20 := fun W => state_nil W
  have b7 : ∀ W : World, Calls Tryz.prog 7 #[.int .i64 4, .slice none 0 0] W fun e w' => ∃ b g p d, e = .returned (.tuple #[.pointer (some ⟨b, 0, none⟩), .pointer (some ⟨p, 0, none⟩), .int .i64 0]) ∧ Bg 4 [] d ∧ GAt W.heap.size w' p b g (opened d (1, -1)) ∧ D.Kept W w' := fun W =>
    begun_walk 4 (by decide) (by decide) (⟨none, 0, rfl, Nat.le_refl _, Nat.zero_le _, fun j hj => by cases hj⟩ : CutsAt 0 W (.slice none 0 0) []) (Nat.zero_le _) (Nat.zero_le _) (by intro _ h; cases h) ⟨rfl, by intro _ _ h; cases h⟩
  have b8 := fun W hW => awake_walk W hW
  obtain ⟨T, hT⟩ : ∃ T, bs (List.replicate 238 0) = T := ⟨_, rfl⟩
  have hTs : T.size = 238 := by rw [← hT, P.bs_size, List.length_replicate]
  have b10 : ∀ (W : World) (B b g p : Nat) (d : Dk), Bg 4 [] d → GAt B W p b g (opened d (1, -1)) → S.Lds W → Calls Tryz.prog 10 #[.pointer (some ⟨p, 0, none⟩), .int .i64 0, .string ⟨#[]⟩] W fun e w' => e = .returned (.tuple #[.int .i64 0, .int .i64 1]) ∧ D.Kept W w' := fun W B b g p d hb hG hl =>
    add_bad hG hl 2 (ahead_first (by show 3 ≤ d.secs.length; rw [hb.len]; decide)) 0 ⟨#[]⟩ (show 1 < 4611686018427387904 by decide) (by decide)
  have c10 : ∀ (W : World) (B b g p : Nat) (d : Dk), Bg 4 [] d → GAt B W p b g (opened d (1, -1)) → S.Lds W → Calls Tryz.prog 10 #[.pointer (some ⟨p, 0, none⟩), .int .i64 2, .string T] W fun e w' => e = .returned (.tuple #[.int .i64 0, .int .i64 1]) ∧ D.Kept W w' := fun W B b g p d hb hG hl =>
    add_bad hG hl 2 (ahead_first (by show 3 ≤ d.secs.length; rw [hb.len]; decide)) 2 T (show 1 < 4611686018427387904 by decide) (by omega)
  have b13 : ∀ (W : World) (B b g p : Nat) (d : Dk), GAt B W p b g (opened d (1, -1)) → Calls Tryz.prog 13 #[.pointer (some ⟨p, 0, none⟩), .int .i64 16384] W fun e w' => e = .returned (.int .i64 1) ∧ D.Kept W w' := fun W B b g p d hG =>
    commit_bad hG (show 1 < 4611686018427387904 by decide) 16384 (by show ¬ Sup (1 + 1) 16384; unfold Sup; decide)
  have b18 : ∀ (W : World) (B b g p : Nat) (d : Dk), Bg 4 [] d → GAt B W p b g (opened d (1, -1)) → Calls Tryz.prog 18 #[.pointer (some ⟨p, 0, none⟩)] W fun e w' => e = .returned (.int .i64 2) ∧ w' = W := fun W B b g p d hb hG => by
    have := left_walk hG
    have e : S.cnt (opened d (1, -1)).m (opened d (1, -1)).ut = 2 := by
      show S.cnt d.secs.length ahead = 2
      rw [hb.len]; decide
    rw [e] at this
    exact this
  have b25 : ∀ (W : World) (B b g p : Nat) (d : Dk), Bg 4 [] d → GAt B W p b g (opened d (1, -1)) → Calls Tryz.prog 25 #[.pointer (some ⟨b, 0, none⟩)] W fun e w' => e = .returned (.int .i64 4) ∧ w' = W := fun W B b g p d hb hG => by
    obtain ⟨a, rfl, rfl, k⟩ := hG.out
    have := D.sectors_walk k.disk
    rw [show (opened d (1, -1)).disk.secs.length = 4 from hb.len] at this
    exact this
  have gk : ∀ {W W' : World} {B b g p : Nat} {q : Pq}, GAt B W p b g q → D.Kept W W' → GAt B W' p b g q := fun hG hK => by
    obtain ⟨a, e1, e2, k⟩ := hG.out; exact ⟨a, e1, e2, k.kept hK⟩
  have heq : ∀ W : World, (binOp .eql 52 (.agg #[.int .u64 0, .int .i64 0]) (.agg #[.int .u64 0, .int .i64 0])).run Tryz.prog W = .ok (.bool true) W := fun W => by kernel_rfl
  have mt : ∀ W : World, ∃ w1, (Instr.makeSlice 63 (.int .i64 238) (.int .i64 238)).run Tryz.prog W = .ok (.slice (some ⟨W.heap.size, 0, none⟩) 238 238) w1 ∧ (convert 63 9 (.slice (some ⟨W.heap.size, 0, none⟩) 238 238)).run Tryz.prog w1 = .ok (.string T) w1 ∧ D.Kept W w1 := fun W => by
    have := made_text 238 (by decide) W
    rw [hT] at this
    exact this
  clear hT hTs
  go_enter Tryz.func6, Tryz.ntmps6
  go_wp2_with (first
    | (go_at_call 11; (with_reducible refine (a11 _).mono ?_); rintro e w1 ⟨rfl, hw1⟩; rw [hw1]; clear hw1 a11)
    | (go_at_call 14; (with_reducible refine (a14 _).mono ?_); rintro e w1 ⟨rfl, hw1⟩; rw [hw1]; clear hw1 a14)
    | (go_at_call 21; (with_reducible refine (a21 _).mono ?_); rintro e w1 ⟨rfl, K1⟩; have K2 : D.Kept w (w1.alloc (.cells #[.int .i64 0, .int .i64 0, .int .u64 0, .string ⟨#[]⟩] 55)) := K1.alloc _; clear a21)
    | (go_at_call 10; (with_reducible refine (a10 _).mono ?_); rintro e w2 ⟨rfl, hw2⟩; rw [hw2]; clear hw2 a10)
    | (go_at_call 7; (with_reducible refine (b7 _).mono ?_); rintro e w3 ⟨b, g, p, d, rfl, hbg, hG3, K3⟩; have K30 := K2.trans K3; have h8 := b8 w3 (lds_kept hL K30); clear b7 b8)
    | (go_at_call 8; (with_reducible refine h8.mono ?_); rintro e w4 ⟨rfl, K4⟩; have K40 := K30.trans K4; have hG4 := gk hG3 K4; have h25 := b25 w4 _ b g p d hbg hG4; have h10 := b10 w4 _ b g p d hbg hG4 (lds_kept hL K40); clear h8)
    | (go_at_call 25; (with_reducible refine h25.mono ?_); rintro e w5 ⟨rfl, hw5⟩; rw [hw5]; clear hw5 h25)
    | (go_at_call 10; (with_reducible refine h10.mono ?_); rintro e w5 ⟨rfl, K5⟩; have K50 := K40.trans K5; have hG5 := gk hG4 K5; obtain ⟨w6, mk6, cv6, K6⟩ := mt w5; have K60 := K50.trans K6; have hG6 := gk hG5 K6; have h10' := c10 w6 _ b g p d hbg hG6 (lds_kept hL K60); clear h10)
    | (go_at_call 10; (with_reducible refine h10'.mono ?_); rintro e w7 ⟨rfl, K7⟩; have K70 := K60.trans K7; have hG7 := gk hG6 K7; clear h10')
    | (go_at_call 13; (with_reducible refine (a13 _).mono ?_); rintro e w8 ⟨rfl, hw8⟩; rw [hw8]; clear hw8 a13)
    | (go_at_call 18; (with_reducible refine (a18 _).mono ?_); rintro e w8 ⟨rfl, hw8⟩; rw [hw8]; clear hw8 a18)
    | (go_at_call 16; (with_reducible refine (a16 _).mono ?_); rintro e w8 ⟨rfl, hw8⟩; rw [hw8]; clear hw8 a16)
    | (go_at_call 20; (with_reducible refine (a20 _).mono ?_); rintro e w8 ⟨rfl, K8⟩; have K80 := K70.trans K8; have hG8 := gk hG7 K8; have h13 := b13 w8 _ b g p d hG8; clear a20)
    | (go_at_call 13; (with_reducible refine h13.mono ?_); rintro e w9 ⟨rfl, K9⟩; have K90 := K80.trans K9; have hG9 := gk hG8 K9; have h18 := b18 w9 _ b g p d hbg hG9; clear h13)
    | (go_at_call 18; (with_reducible refine h18.mono ?_); rintro e wA ⟨rfl, hwA⟩; rw [hwA]; clear hwA))
  go_ret
  exact ⟨rfl, K90⟩
end Go.Proofs.YthlhnjjofefgcaaGreatDoor.G

namespace Go.Proofs.YthlhnjjofefgcaaGreatDoor.G
open Go.ChangeShapes Go.WideShapes Go.ChangeAt Go.RowKit
open D (Dk Ok DiskAt Sec Wr Ct CutsAt whole)
open P (bs supL Sup supP Small)

set_option maxHeartbeats 1000000 in
set_option maxRecDepth 100000 in
theorem committed_err0 {B : Nat} {w : World} {b g m : Nat} {d d1 : Dk} {A : ByteArray} {x : Int} (h : DiskAt B w b g d) (hB : B ≤ w.heap.size) (ok : Ok m d) (hm : m < 49000) (hr : d.read 0 = (d1, A, x)) (h0 : ¬ x = 0) (h41 : ¬ x = 41) :
    Calls Tryz.prog 33 #[.pointer (some ⟨b, 0, none⟩)] w fun e w' => e = .returned (.tuple #[.agg #[.int .u64 0, .int .i64 0], .int .i64 x]) ∧ DiskAt B w' b g d1 ∧ D.On B w w' := by
  have f1 : ∀ W, DiskAt B W b g d → B ≤ W.heap.size → Calls Tryz.prog 54 #[.pointer (some ⟨b, 0, none⟩), .int .i64 0] W fun e w' => e = .returned (.tuple #[.string A, .int .i64 x]) ∧ DiskAt B w' b g d1 ∧ D.On B W w' := fun W k kB => by
    have := D.read_walk k kB ok (by omega) 0
    rw [hr] at this
    exact this
  obtain ⟨Z0, T0, D0, O0⟩ := begin_two h hB
  have B0 := Nat.le_trans hB O0.size
  have e0 : (x != 0) = true := by simpa using h0
  have e41 : (x != 41) = true := by simpa using h41
  clear hr
  go_enter Tryz.func33, Tryz.ntmps33
  go_wp2
  refine wp_loop_rounds 1 ?_
  rw [rounds_succ]
  go_wp2_with (go_at_call 54; (with_reducible refine (f1 _ D0 B0).mono ?_); rintro e w1 ⟨rfl, D1, O1⟩; have Z1 := Sp.on Z0 O1; obtain ⟨⟨zz0, hh0⟩, zz1, hh1⟩ := Z1.ready 0)
  refine bodyPost_ret (v := .tuple #[.agg #[.int .u64 0, .int .i64 0], .int .i64 x]) ?_ rfl ⟨rfl, ?_, ?_⟩
  · exact P.results_two (p := 2) (u := 3) (ty := 52) rfl _ _ w.heap.size 52 _ (0, 0) _ rfl (Z1.fill 0 0).out Tryz.underlying52 rfl P.size52
  · exact DiskAt.set (DiskAt.set D1 Z1.out quiet52 0 _) (Z1.set0 0).out quiet52 1 _
  · exact OnD.new (OnD.new (O0.trans O1) hB (Nat.le_refl _) 0 _) hB (Nat.le_refl _) 1 _

set_option maxHeartbeats 1000000 in
set_option maxRecDepth 100000 in
theorem committed_err1 {B : Nat} {w : World} {b g m : Nat} {d d1 d2 : Dk} {A C : ByteArray} {x : Int} (h : DiskAt B w b g d) (hB : B ≤ w.heap.size) (ok : Ok m d) (hm : m < 49000) (hr : d.read 0 = (d1, A, 0)) (hr1 : d1.read 1 = (d2, C, x)) (h0 : ¬ x = 0) (h41 : ¬ x = 41) :
    Calls Tryz.prog 33 #[.pointer (some ⟨b, 0, none⟩)] w fun e w' => e = .returned (.tuple #[.agg #[.int .u64 0, .int .i64 0], .int .i64 x]) ∧ DiskAt B w' b g d2 ∧ D.On B w w' := by
  have ok1 := read_ok' ok 0
  rw [hr] at ok1
  have f1 : ∀ W, DiskAt B W b g d → B ≤ W.heap.size → Calls Tryz.prog 54 #[.pointer (some ⟨b, 0, none⟩), .int .i64 0] W fun e w' => e = .returned (.tuple #[.string A, .int .i64 0]) ∧ DiskAt B w' b g d1 ∧ D.On B W w' := fun W k kB => by
    have := D.read_walk k kB ok (by omega) 0
    rw [hr] at this
    exact this
  have f2 : ∀ W, DiskAt B W b g d1 → B ≤ W.heap.size → Calls Tryz.prog 54 #[.pointer (some ⟨b, 0, none⟩), .int .i64 1] W fun e w' => e = .returned (.tuple #[.string C, .int .i64 x]) ∧ DiskAt B w' b g d2 ∧ D.On B W w' := fun W k kB => by
    have := D.read_walk k kB ok1 (by omega) 1
    rw [hr1] at this
    exact this
  obtain ⟨Z0, T0, D0, O0⟩ := begin_two h hB
  have B0 := Nat.le_trans hB O0.size
  have e0 : (x != 0) = true := by simpa using h0
  have e41 : (x != 41) = true := by simpa using h41
  clear hr hr1 ok1
  go_enter Tryz.func33, Tryz.ntmps33
  go_wp2
  refine wp_loop_rounds 2 ?_
  rw [rounds_succ]
  go_wp2_with (go_at_call 54; (with_reducible refine (f1 _ D0 B0).mono ?_); rintro e w1 ⟨rfl, D1, O1⟩; have T1 := T0.on O1; have Z1 := Sp.on Z0 O1; have c1 := T1.cs.1; have z1 := T1.fz 0; obtain ⟨D2, O2, Z2, B2⟩ := store_two D1 T1 0 A (O0.trans O1) hB (Nat.le_succ _) Z1 (by omega); have T2 := T1.set0 A)
  rw [rounds_succ]
  go_wp2_with (go_at_call 54; (with_reducible refine (f2 _ D2 B2).mono ?_); rintro e w2 ⟨rfl, D3, O3⟩; have Z3 := Sp.on Z2 O3; obtain ⟨⟨zz0, hh0⟩, zz1, hh1⟩ := Z3.ready 0)
  refine bodyPost_ret (v := .tuple #[.agg #[.int .u64 0, .int .i64 0], .int .i64 x]) ?_ rfl ⟨rfl, ?_, ?_⟩
  · exact P.results_two (p := 2) (u := 3) (ty := 52) rfl _ _ w.heap.size 52 _ (0, 0) _ rfl (Z3.fill 0 0).out Tryz.underlying52 rfl P.size52
  · exact DiskAt.set (DiskAt.set D3 Z3.out quiet52 0 _) (Z3.set0 0).out quiet52 1 _
  · exact OnD.new (OnD.new (O2.trans O3) hB (Nat.le_refl _) 0 _) hB (Nat.le_refl _) 1 _

theorem open_B {B : Nat} {w : World} {b g : Nat} {d2 : Dk} (x : Int) (hx : ¬ x = 0) (hB : B ≤ w.heap.size)
    (f1 : Calls Tryz.prog 33 #[.pointer (some ⟨b, 0, none⟩)] w fun e w' => e = .returned (.tuple #[.agg #[.int .u64 0, .int .i64 0], .int .i64 x]) ∧ DiskAt B w' b g d2 ∧ D.On B w w') :
    Calls Tryz.prog 15 #[.pointer (some ⟨b, 0, none⟩)] w fun e w' => e = .returned (.tuple #[.pointer none, .int .i64 x]) ∧ DiskAt B w' b g d2 ∧ D.On B w w' := by
  have e0 : (x != 0) = true := by simpa using hx
  go_enter Tryz.func15, Tryz.ntmps15
  go_wp2_with (go_at_call 33; (with_reducible refine f1.mono ?_); rintro e w1 ⟨rfl, D1, O1⟩)
  go_ret2
  exact ⟨rfl, ((D.Kept.refl w1).alloc _).dk D1, O1.trans (((D.Kept.refl w1).alloc _).on (Nat.le_trans hB O1.size))⟩

theorem open_none {B : Nat} {w : World} {b g m : Nat} {d : Dk} (h : DiskAt B w b g d) (hB : B ≤ w.heap.size) (ok : Ok m d) (hm : m < 49000) (hf : Flu d) (hl : Liv d 2) {s0 s1 : Sec} (e0 : d.secs[0]? = some s0) (e1 : d.secs[1]? = some s1)
    (k0 : Sd (sayS s0).1 0 none) (k1 : Sd (sayS s1).1 1 none) :
    Calls Tryz.prog 15 #[.pointer (some ⟨b, 0, none⟩)] w fun e w' => e = .returned (.tuple #[.pointer none, .int .i64 81]) ∧ DiskAt B w' b g d.begin.begin ∧ D.On B w w' := by
  have r0 : d.read 0 = (d.begin, sayS s0) := read_flu hf (hl.mono (by omega)) e0
  have r1 : d.begin.read 1 = (d.begin.begin, sayS s1) := read_flu (begin_flu hf) (begin_live hl) e1
  have t : ∀ s : Sec, (sayS s).2 = 0 ∨ (sayS s).2 = 41 := by intro s; unfold sayS; cases s.torn <;> simp
  have f := committed_no h hB ok hm (o0 := none) (o1 := none) (by rw [r0]; exact t _) (by rw [r0]; show (d.begin.read 1).2.2 = 0 ∨ _; rw [r1]; exact t _) (by rw [r0]; exact k0) (by rw [r0]; show Sd (d.begin.read 1).2.1 1 none; rw [r1]; exact k1) rfl
  rw [r0] at f
  dsimp only at f
  rw [r1] at f
  exact open_B 81 (by decide) hB f
end Go.Proofs.YthlhnjjofefgcaaGreatDoor.G

namespace Go.Proofs.YthlhnjjofefgcaaGreatDoor.G
open D (Dk Ok Sec Wr Ct settled settle1 whole)
open P (bs supL Sup supP Small)

theorem Lft.congr {d0 d d' : Dk} {ws : List Wr} (h : Lft d0 ws d) (hs : d'.secs = d.secs) (hw : d'.waits = d.waits) (hc : d'.cuts = d.cuts) (hf : d'.fails = d.fails) (hd : d'.dead = d.dead) : Lft d0 ws d' :=
  ⟨hw.trans h.waits, by rw [hs]; exact h.last, by rw [hs]; exact h.len, by rw [hs]; exact h.oth, by rw [hs]; exact h.own, by rw [hc]; exact h.cuts, hf.trans h.fails, hd.trans h.dead⟩

theorem act_fails {d : Dk} {c : Ct} (hc : d.cuts = [c]) (hs : ¬ (d.since : Int) < c.at_) : d.act = (d.begin.fail c [], true) := by
  unfold Dk.act
  rw [hc]
  dsimp only
  rw [if_neg hs]

theorem write_fails {d0 d : Dk} {ws : List Wr} {c : Ct} (h : Pend d0 ws d) (h0 : Flu d0) (hc : d0.cuts = [c]) (hs : ¬ (d.since : Int) < c.at_) (n : Nat) (hn : n < d0.secs.length) (hne : ∀ y ∈ ws, y.sec ≠ n) (s : ByteArray) (hz : s.size ≤ 256) :
    ∃ d', d.write (n : Nat) s = (d', 40) ∧ Lft d0 (ws ++ [⟨n, whole s⟩]) d' ∧ d'.cuts = [] := by
  have p1 := h.write h0 ⟨n, whole s⟩ hn hne
  obtain ⟨e1, e2, e3, e4, e5, e6⟩ := D.wait_fields d ⟨n, whole s⟩
  have ea := act_fails (d := d.wait ⟨n, whole s⟩) (c := c) (by rw [e1, h.cuts, hc]) (by rw [e3]; exact hs)
  refine ⟨(d.wait ⟨n, whole s⟩).begin.fail c [], ?_, (p1.fail h0 c [] hc).congr rfl rfl rfl rfl rfl, rfl⟩
  unfold Dk.write
  have e7 : ((n : Nat) : Int).toNat = n := by omega
  rw [if_neg (by simp [h.up]), if_neg (by rw [h.len]; omega), if_neg (by omega), e7, ea]
  rfl
theorem flush_fails {d0 d : Dk} {ws : List Wr} {c : Ct} (h : Pend d0 ws d) (h0 : Flu d0) (hc : d0.cuts = [c]) (hs : ¬ (d.since : Int) < c.at_) :
    ∃ d', d.flush = (d', 40) ∧ Lft d0 ws d' ∧ d'.cuts = [] := by
  have ea := act_fails (d := d) (c := c) (by rw [h.cuts, hc]) hs
  refine ⟨d.begin.fail c [], ?_, h.fail h0 c [] hc, rfl⟩
  unfold Dk.flush
  rw [if_neg (by simp [h.up]), ea]
  rfl
theorem read_fails {d : Dk} {c : Ct} (h : Flu d) (hc : d.cuts = [c]) (hs : ¬ (d.since : Int) < c.at_) (n : Nat) (hn : n < d.secs.length) :
    ∃ d', d.read (n : Nat) = (d', ⟨#[]⟩, 40) ∧ Lft d [] d' ∧ d'.cuts = [] := by
  have ea := act_fails hc hs
  refine ⟨d.begin.fail c [], ?_, (Pend.nil h).fail h c [] hc, rfl⟩
  unfold Dk.read
  rw [if_neg (by simp [h.up]), if_neg (by omega), ea]
  rfl

def st1 : ByteArray := bs (supP 1 (-1))
def zs : ByteArray := whole ⟨#[]⟩

structure Bl (n : Nat) (d : Dk) : Prop where
  waits : d.waits = []
  last : ∀ (i : Nat) (s : Sec), d.secs[i]? = some s → s.last = 0
  len : d.secs.length = n
  s0 : ∃ b, d.secs[0]? = some ⟨zs, b, 0⟩
  s1 : ∃ b, d.secs[1]? = some ⟨zs, b, 0⟩ ∨ d.secs[1]? = some ⟨st1, b, 0⟩
  cuts : d.cuts = []

theorem fmt_cut (n : Nat) (h2 : 2 ≤ n) (c : Ct) (k : Nat) (hk : k < 5) (hc : c.at_ = (k : Int)) : ∃ d, fmtd (Dk.new n [c]) = (d, 40) ∧ Bl n d ∧ d.dead = true := by
  obtain ⟨dn, hdn⟩ : ∃ dn, Dk.new n [c] = dn := ⟨_, rfl⟩
  have h0 : Flu dn := by rw [← hdn]; exact new_flu n [c]
  have ln : dn.secs.length = n := by rw [← hdn]; simp [Dk.new]
  have cu : dn.cuts = [c] := by rw [← hdn]; rfl
  have si : dn.since = 0 := by rw [← hdn]; rfl
  have z0 : ∀ i, i < n → dn.secs[i]? = some ⟨zs, false, 0⟩ := by
    intro i hi
    rw [← hdn]
    show (List.replicate n (⟨whole ⟨#[]⟩, false, 0⟩ : Sec))[i]? = _
    rw [List.getElem?_replicate, if_pos hi]; rfl
  have lv : ∀ j, j ≤ k → Liv dn j := fun j hj => ⟨h0.up, fun c' r hc' => by rw [cu] at hc'; injection hc' with e _; subst e; rw [si, hc]; omega⟩
  rw [hdn]
  clear hdn
  have two : ∀ {d' : Dk} {ws : List Wr}, Lft dn ws d' → d'.cuts = [] → (∀ x ∈ ws, x.bytes = zs ∧ (x.sec = 0 ∨ x.sec = 1)) → Bl n d' ∧ d'.dead = true := by
    intro d' ws hl hcu hx
    have at_ : ∀ i, i < 2 → ∃ b, d'.secs[i]? = some ⟨zs, b, 0⟩ := by
      intro i hi
      by_cases hh : ∀ x ∈ ws, x.sec ≠ i
      · exact ⟨false, by rw [hl.oth i hh]; exact z0 i (by omega)⟩
      · simp only [Classical.not_forall, Classical.not_not] at hh
        obtain ⟨x, hxm, rfl⟩ := hh
        rcases hl.own x hxm with e | e | e
        · exact ⟨false, by rw [e]; exact z0 _ (by omega)⟩
        · exact ⟨false, by rw [e, (hx x hxm).1]⟩
        · exact ⟨true, by rw [e, (hx x hxm).1]⟩
    obtain ⟨b1, e1⟩ := at_ 1 (by decide)
    exact ⟨⟨hl.waits, hl.last, by rw [hl.len, ln], at_ 0 (by decide), ⟨b1, .inl e1⟩, hcu⟩, hl.dead⟩
  have p0 := Pend.nil h0
  by_cases k0 : k = 0
  · obtain ⟨d', e, l1, l2⟩ := write_fails p0 h0 cu (by rw [si, hc]; omega) 0 (by omega) (by intro _ h; cases h) ⟨#[]⟩ (by decide)
    have e' : dn.write 0 ⟨#[]⟩ = (d', 40) := e
    refine ⟨d', ?_, two l1 l2 (by intro x hx; simp at hx; subst hx; exact ⟨rfl, .inl rfl⟩)⟩
    unfold fmtd
    rw [e', if_pos (show (40 : Int) ≠ 0 by decide)]
  · have e1 : dn.write 0 ⟨#[]⟩ = ((dn.wait ⟨0, zs⟩).begin, 0) := write_live (lv 1 (by omega)) 0 (by omega) ⟨#[]⟩ (by decide)
    have p1 := p0.write h0 ⟨0, zs⟩ (show 0 < _ by omega) (by intro _ h; cases h)
    rw [List.nil_append] at p1
    by_cases k1 : k = 1
    · obtain ⟨d', e, l1, l2⟩ := write_fails p1 h0 cu (by rw [p1.since, si, hc]; show ¬ ((0 + 1 : Nat) : Int) < _; omega) 1 (by omega) (by intro y hy; simp at hy; subst hy; show 0 ≠ 1; decide) ⟨#[]⟩ (by decide)
      have e' : (dn.wait ⟨0, zs⟩).begin.write 1 ⟨#[]⟩ = (d', 40) := e
      refine ⟨d', ?_, two l1 l2 (by intro x hx; simp at hx; rcases hx with rfl | rfl; exact ⟨rfl, .inl rfl⟩; exact ⟨rfl, .inr rfl⟩)⟩
      have es : setl (dn.wait ⟨0, zs⟩).begin 1 ⟨#[]⟩ = (d', 40) := by unfold setl; rw [e', if_pos (show (40 : Int) ≠ 0 by decide)]
      unfold fmtd
      rw [e1, if_neg (by simp), es, if_pos (show (40 : Int) ≠ 0 by decide)]
    · have lv1 : Liv (dn.wait ⟨0, zs⟩).begin 1 := p1.live (lv 2 (by omega))
      have e2 : (dn.wait ⟨0, zs⟩).begin.write 1 ⟨#[]⟩ = (((dn.wait ⟨0, zs⟩).begin.wait ⟨1, zs⟩).begin, 0) := write_live lv1 1 (by rw [p1.len]; omega) ⟨#[]⟩ (by decide)
      have p2 := p1.write h0 ⟨1, zs⟩ (show 1 < _ by omega) (by intro y hy; simp at hy; subst hy; show 0 ≠ 1; decide)
      by_cases k2 : k = 2
      · obtain ⟨d', e, l1, l2⟩ := flush_fails p2 h0 cu (by rw [p2.since, si, hc]; show ¬ ((0 + 2 : Nat) : Int) < _; omega)
        refine ⟨d', ?_, two l1 l2 (by intro x hx; simp at hx; rcases hx with rfl | rfl; exact ⟨rfl, .inl rfl⟩; exact ⟨rfl, .inr rfl⟩)⟩
        have es : setl (dn.wait ⟨0, zs⟩).begin 1 ⟨#[]⟩ = (d', 40) := by unfold setl; rw [e2, if_neg (by simp), e]
        unfold fmtd
        rw [e1, if_neg (by simp), es, if_pos (show (40 : Int) ≠ 0 by decide)]
      · have lv2 : Liv ((dn.wait ⟨0, zs⟩).begin.wait ⟨1, zs⟩).begin 1 := p2.live (lv 3 (by omega))
        have e3 := flush_live lv2
        have w1 := p2.flush h0
        obtain ⟨d1, hd1⟩ : ∃ d1, ((dn.wait ⟨0, zs⟩).begin.wait ⟨1, zs⟩).begin.begin.good = d1 := ⟨_, rfl⟩
        rw [hd1] at e3 w1
        have es : setl (dn.wait ⟨0, zs⟩).begin 1 ⟨#[]⟩ = (d1, 0) := by unfold setl; rw [e2, if_neg (by simp), e3]
        have q0 : d1.secs[0]? = some ⟨zs, false, 0⟩ := w1.own ⟨0, zs⟩ (by simp)
        have q1 : d1.secs[1]? = some ⟨zs, false, 0⟩ := w1.own ⟨1, zs⟩ (by simp)
        have cu1 : d1.cuts = [c] := by rw [w1.cuts]; exact cu
        have si1 : d1.since = 3 := by rw [w1.since, si]; rfl
        have fin : ∀ {d' : Dk}, Lft d1 [⟨1, st1⟩] d' → d'.cuts = [] → Bl n d' ∧ d'.dead = true := by
          intro d' hl hcu
          refine ⟨⟨hl.waits, hl.last, by rw [hl.len, w1.len, ln], ⟨false, by rw [hl.oth 0 (by intro x hx; simp at hx; subst hx; show 1 ≠ 0; decide)]; exact q0⟩, ?_, hcu⟩, hl.dead⟩
          rcases hl.own ⟨1, st1⟩ (by simp) with e | e | e
          · exact ⟨false, .inl (e.trans q1)⟩
          · exact ⟨false, .inr e⟩
          · exact ⟨true, .inr e⟩
        have hst : (bs (supL 1 (-1))).size ≤ 256 := sup_size _ _
        have ew : whole (bs (supL 1 (-1))) = st1 := sup_whole sup11
        by_cases k3 : k = 3
        · obtain ⟨d', e, l1, l2⟩ := write_fails (Pend.nil w1.flu) w1.flu cu1 (by rw [si1, hc]; omega) 1 (by rw [w1.len]; omega) (by intro _ h; cases h) (bs (supL 1 (-1))) hst
          rw [ew, List.nil_append] at l1
          have ec : comt d1 1 (-1) = (d', 40) := by
            have e' : d1.write 1 (bs (supL 1 (-1))) = (d', 40) := e
            have ec0 : comt d1 1 (-1) = setl d1 1 (bs (supL 1 (-1))) := rfl
            rw [ec0]
            unfold setl
            rw [e', if_pos (show (40 : Int) ≠ 0 by decide)]
          refine ⟨d', ?_, fin l1 l2⟩
          unfold fmtd
          rw [e1, if_neg (by simp), es, if_neg (by simp)]
          exact ec
        · have lw1 : Liv d1 1 := w1.live (lv 4 (by omega))
          have e4 : d1.write 1 (bs (supL 1 (-1))) = ((d1.wait ⟨1, st1⟩).begin, 0) := by
            have := write_live lw1 1 (by rw [w1.len]; omega) (bs (supL 1 (-1))) hst
            rw [ew] at this
            exact this
          have p3 := (Pend.nil w1.flu).write w1.flu ⟨1, st1⟩ (show 1 < _ by rw [w1.len]; omega) (by intro _ h; cases h)
          rw [List.nil_append] at p3
          obtain ⟨d', e, l1, l2⟩ := flush_fails p3 w1.flu cu1 (by rw [p3.since, si1, hc]; show ¬ ((3 + 1 : Nat) : Int) < _; omega)
          have ec : comt d1 1 (-1) = (d', 40) := by
            have ec0 : comt d1 1 (-1) = setl d1 1 (bs (supL 1 (-1))) := rfl
            rw [ec0]
            unfold setl
            rw [e4, if_neg (by simp)]
            exact e
          refine ⟨d', ?_, fin l1 l2⟩
          unfold fmtd
          rw [e1, if_neg (by simp), es, if_neg (by simp)]
          exact ec
end Go.Proofs.YthlhnjjofefgcaaGreatDoor.G
