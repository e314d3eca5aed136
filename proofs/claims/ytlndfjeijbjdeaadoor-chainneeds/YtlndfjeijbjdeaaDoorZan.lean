/- Joined: GMem. What is proved of the functions beneath ChainNeeds. Conditions: those that each row names. -/
import Derived.Test.YtlndfjeijbjdeaaDoorZab
import Derived.Test.YtlndfjeijbjdeaaDoorZae
import Derived.Test.YtlndfjeijbjdeaaDoorZaj
import Derived.Test.YtlndfjeijbjdeaaDoorZam
namespace Go.Proofs.YtlndfjeijbjdeaaDoor.G
open Go.ChangeShapes Go.WideShapes Go.ChangeAt Go.RowKit

/-- A pager. -/
structure Pq where
  disk : D.Dk
  gen : Nat
  root : Int
  m : Nat
  uk : Nat → Bool
  ut : Nat → Bool
  un : Nat → Bool
  fresh : Nat → Option Pag
  held : Nat → Option Pag
  fails : Nat
  doubt : Bool

/-- Where its parts are. -/
structure Ad where
  d : Nat
  g : Nat
  k : Nat
  gk : Nat
  t : Nat
  gt : Nat
  n : Nat
  gn : Nat
  mf : Nat
  mh : Nat

/-- A type of which no block turns while a pager is used. -/
def Calm (t : TypeId) : Prop := D.Calm t ∧ t ≠ 68 ∧ t ≠ 104 ∧ t ≠ 41

/-- What a pager's acts leave as it was: all below B, and all blocks of calm types. -/
structure On (B : Nat) (w w' : World) : Prop where
  below : Below B w w'
  rows : ∀ (b : Nat) (cs : Array Value) (t : TypeId) (fr : Nat × Nat), w.heap[b]? = some (.cells cs t fr) → Calm t → w'.heap[b]? = some (.cells cs t fr)

theorem On.trans {B : Nat} {a b c : World} (h : On B a b) (k : On B b c) : On B a c := ⟨h.below.trans k.below, fun x cs t fr hx ht => k.rows x cs t fr (h.rows x cs t fr hx ht) ht⟩
theorem On.mono {B B' : Nat} {w w' : World} (h : On B w w') (hB : B' ≤ B) : On B' w w' := ⟨h.below.mono hB, h.rows⟩
theorem On.size {B : Nat} {w w' : World} (h : On B w w') : w.heap.size ≤ w'.heap.size := h.below.size
theorem On.drew {B : Nat} {a b : World} (h : On B a b) : On B a b.drew := ⟨h.below.drew, h.rows⟩
theorem On.ofKept {w w' : World} (h : D.Kept w w') {B : Nat} (hB : B ≤ w.heap.size) : On B w w' := ⟨h.out.mono hB, fun _ _ _ _ hx _ => h.block hx⟩
theorem On.kept {B : Nat} {a b c : World} (h : On B a b) (k : D.Kept b c) (hB : B ≤ a.heap.size) : On B a c := h.trans (On.ofKept k (Nat.le_trans hB h.size))
theorem On.ofD {B : Nat} {w w' : World} (h : D.On B w w') : On B w w' := ⟨h.below, fun b cs t fr hx hc => h.rows b cs t fr hx hc.1⟩
theorem quiet_ne {t : TypeId} (h : D.Quiet t) : t ≠ 68 ∧ t ≠ 104 ∧ t ≠ 41 := by rcases h with rfl | rfl | rfl | rfl | rfl <;> decide
theorem not104 : ¬ Calm 104 := fun h => h.2.2.1 rfl
theorem not41 : ¬ Calm 41 := fun h => h.2.2.2 rfl
theorem cells_ne {w : World} {b c : Nat} {cs cs' : Array Value} {t t' : TypeId} {fr fr' : Nat × Nat} (h : w.heap[b]? = some (.cells cs t fr)) (k : w.heap[c]? = some (.cells cs' t' fr')) (ht : t ≠ t') : b ≠ c := by
  intro e
  subst e
  rw [h] at k
  injection k with k
  injection k with _ e2 _
  exact ht e2
theorem map_ne {w : World} {b c : Nat} {cs : Array Value} {t : TypeId} {fr : Nat × Nat} {es : Array MapEntry} {q : Nat} (h : w.heap[b]? = some (.cells cs t fr)) (k : w.heap[c]? = some (.map es q)) : b ≠ c := by
  intro e
  subst e
  rw [h] at k
  injection k with k
  cases k

theorem On.ofS {B b g m l : Nat} {u : Nat → Bool} {w w' : World} (s : S.SA w b g m l u) (h : S.Only b g w w') (hb : B ≤ b) (hg : B ≤ g) : On B w w' := by
  obtain ⟨⟨cs1, fr1, h1⟩, cs2, fr2, h2⟩ := s.blocks
  refine ⟨h.below B hb hg (Nat.le_of_lt (Nat.lt_of_le_of_lt hb (Array.getElem?_eq_some_iff.1 h1).1)), fun x cs t fr hx hc => ?_⟩
  exact h.block x _ hx (cells_ne hx h1 (fun e => not104 (e ▸ hc))) (cells_ne hx h2 (fun e => not41 (e ▸ hc)))
theorem On.ofOne {B b : Nat} {M : Nat → Option Pag} {w w' : World} (s : MAt w b M) (h : One b w w') (hb : B ≤ b) : On B w w' := by
  obtain ⟨es, c, h1⟩ := s.block
  refine ⟨h.below B hb, fun x cs t fr hx _ => ?_⟩
  rw [h.block x (map_ne hx h1)]
  exact hx
theorem On.setCell {B : Nat} {a b : World} (h : On B a b) {g : Nat} (hg : B ≤ g) {cs : Array Value} {t : TypeId} {fr : Nat × Nat} (hb : b.heap[g]? = some (.cells cs t fr)) (ht : ¬ Calm t) (i : Nat) (u : Value) : On B a (b.setCell ⟨g, i, none⟩ u) := by
  refine ⟨h.below.setCell hg u, fun x cs' t' fr' hx hc => ?_⟩
  have h1 := h.rows x cs' t' fr' hx hc
  rw [Below.heap_setCell b ⟨g, i, none⟩ u x (cells_ne h1 hb (fun e => ht (e ▸ hc)))]
  exact h1

/-- A pager's cells. -/
def Pq.cells (q : Pq) (a : Ad) : Array Value := #[.pointer (some ⟨a.d, 0, none⟩), .int .u64 (q.gen : Nat), .int .i64 q.root, .pointer (some ⟨a.k, 0, none⟩), .pointer (some ⟨a.t, 0, none⟩), .pointer (some ⟨a.n, 0, none⟩), .map (some a.mf), .map (some a.mh), .int .i64 (q.fails : Nat), .bool q.doubt]

/-- A pager in memory. -/
structure GA (B : Nat) (w : World) (p : Nat) (a : Ad) (q : Pq) : Prop where
  blk : w.heap[p]? = some (.cells (q.cells a) 68)
  disk : D.DiskAt B w a.d a.g q.disk
  sk : S.SA w a.k a.gk q.m (S.cnt q.m q.uk) q.uk
  st : S.SA w a.t a.gt q.m (S.cnt q.m q.ut) q.ut
  sn : S.SA w a.n a.gn q.m (S.cnt q.m q.un) q.un
  fm : MAt w a.mf q.fresh
  hm : MAt w a.mh q.held
  ne : a.k ≠ a.t ∧ a.k ≠ a.n ∧ a.t ≠ a.n ∧ a.gk ≠ a.gt ∧ a.gk ≠ a.gn ∧ a.gt ≠ a.gn ∧ a.mf ≠ a.mh
  le : B ≤ p ∧ B ≤ a.k ∧ B ≤ a.gk ∧ B ≤ a.t ∧ B ≤ a.gt ∧ B ≤ a.n ∧ B ≤ a.gn ∧ B ≤ a.mf ∧ B ≤ a.mh

/-- A pager in memory, wherever its parts are; where its disk is. -/
structure GAt (B : Nat) (w : World) (p d g : Nat) (q : Pq) : Prop where
  out : ∃ a : Ad, a.d = d ∧ a.g = g ∧ GA B w p a q

theorem GA.cs {B : Nat} {w : World} {p : Nat} {a : Ad} {q : Pq} (h : GA B w p a q) :
    w.cell? ⟨p, 0, none⟩ = some (.pointer (some ⟨a.d, 0, none⟩)) ∧ w.cell? ⟨p, 1, none⟩ = some (.int .u64 (q.gen : Nat)) ∧ w.cell? ⟨p, 2, none⟩ = some (.int .i64 q.root) ∧ w.cell? ⟨p, 3, none⟩ = some (.pointer (some ⟨a.k, 0, none⟩)) ∧
    w.cell? ⟨p, 4, none⟩ = some (.pointer (some ⟨a.t, 0, none⟩)) ∧ w.cell? ⟨p, 5, none⟩ = some (.pointer (some ⟨a.n, 0, none⟩)) ∧ w.cell? ⟨p, 6, none⟩ = some (.map (some a.mf)) ∧ w.cell? ⟨p, 7, none⟩ = some (.map (some a.mh)) ∧
    w.cell? ⟨p, 8, none⟩ = some (.int .i64 (q.fails : Nat)) ∧ w.cell? ⟨p, 9, none⟩ = some (.bool q.doubt) := by
  refine ⟨?_, ?_, ?_, ?_, ?_, ?_, ?_, ?_, ?_, ?_⟩ <;> (rw [cell_of_row w p _ _ _ _ h.blk]; rfl)
theorem GA.fz {B : Nat} {w : World} {p : Nat} {a : Ad} {q : Pq} (h : GA B w p a q) (j : Nat) : w.frozen? ⟨p, j, none⟩ = false := frozen_of_row w p j _ _ h.blk

/-- What blocks a pager is of, and that they differ. -/
theorem GA.ps {B : Nat} {w : World} {p : Nat} {a : Ad} {q : Pq} (h : GA B w p a q) : p ≠ a.k ∧ p ≠ a.gk ∧ p ≠ a.t ∧ p ≠ a.gt ∧ p ≠ a.n ∧ p ≠ a.gn ∧ p ≠ a.mf ∧ p ≠ a.mh := by
  obtain ⟨⟨_, _, k1⟩, _, _, k2⟩ := h.sk.blocks
  obtain ⟨⟨_, _, t1⟩, _, _, t2⟩ := h.st.blocks
  obtain ⟨⟨_, _, n1⟩, _, _, n2⟩ := h.sn.blocks
  obtain ⟨_, _, f1⟩ := h.fm.block
  obtain ⟨_, _, h1⟩ := h.hm.block
  exact ⟨cells_ne h.blk k1 (by decide), cells_ne h.blk k2 (by decide), cells_ne h.blk t1 (by decide), cells_ne h.blk t2 (by decide), cells_ne h.blk n1 (by decide), cells_ne h.blk n2 (by decide), map_ne h.blk f1, map_ne h.blk h1⟩

theorem GA.kept {B : Nat} {w w' : World} {p : Nat} {a : Ad} {q : Pq} (h : GA B w p a q) (k : D.Kept w w') : GA B w' p a q := by
  obtain ⟨_, _, f1⟩ := h.fm.block
  obtain ⟨_, _, h1⟩ := h.hm.block
  exact ⟨k.block h.blk, k.dk h.disk, h.sk.kept ⟨k.out⟩, h.st.kept ⟨k.out⟩, h.sn.kept ⟨k.out⟩, h.fm.same ((k.block f1).trans f1.symm), h.hm.same ((k.block h1).trans h1.symm), h.ne, h.le⟩

/-- Quiet blocks stay where places turn. -/
theorem frameS {b g m l : Nat} {u : Nat → Bool} {w w' : World} (s : S.SA w b g m l u) (h : S.Only b g w w') (k : Nat) (cs : Array Value) (t : TypeId) (fr : Nat × Nat) (hk : w.heap[k]? = some (.cells cs t fr)) (hq : D.Quiet t) : w'.heap[k]? = some (.cells cs t fr) := by
  obtain ⟨⟨cs1, fr1, h1⟩, cs2, fr2, h2⟩ := s.blocks
  exact h.block k _ hk (cells_ne hk h1 (quiet_ne hq).2.1) (cells_ne hk h2 (quiet_ne hq).2.2)
theorem MAt.onS {b g m l c : Nat} {u : Nat → Bool} {M : Nat → Option Pag} {w w' : World} (x : MAt w c M) (s : S.SA w b g m l u) (h : S.Only b g w w') : MAt w' c M := by
  obtain ⟨⟨cs1, fr1, h1⟩, cs2, fr2, h2⟩ := s.blocks
  obtain ⟨_, _, k1⟩ := x.block
  exact x.same ((h.block c _ k1 (map_ne h1 k1).symm (map_ne h2 k1).symm).trans k1.symm)
theorem SA.onS {b g m l b' g' m' l' : Nat} {u u' : Nat → Bool} {w w' : World} (x : S.SA w b' g' m' l' u') (s : S.SA w b g m l u) (h : S.Only b g w w') (hb : b' ≠ b) (hg : g' ≠ g) : S.SA w' b' g' m' l' u' := by
  obtain ⟨⟨_, _, h1⟩, _, _, h2⟩ := s.blocks
  obtain ⟨⟨_, _, k1⟩, _, _, k2⟩ := x.blocks
  exact x.same ((h.block b' _ k1 hb (cells_ne k1 h2 (by decide))).trans k1.symm) ((h.block g' _ k2 (cells_ne k2 h1 (by decide)) hg).trans k2.symm)

theorem SA.gt_lt {w : World} {b g m l : Nat} {u : Nat → Bool} (h : S.SA w b g m l u) : b < w.heap.size ∧ g < w.heap.size := by
  obtain ⟨⟨_, _, h1⟩, _, _, h2⟩ := h.blocks
  exact ⟨(Array.getElem?_eq_some_iff.1 h1).1, (Array.getElem?_eq_some_iff.1 h2).1⟩

theorem ne_far {x g g' s : Nat} (hg : g' = g ∨ s ≤ g') (h : x ≠ g) (hx : x < s) : x ≠ g' := by
  rcases hg with rfl | hg
  · exact h
  · omega
theorem le_far {x g g' s : Nat} (hg : g' = g ∨ s ≤ g') (h : x ≤ g) (hx : g < s) : x ≤ g' := by
  rcases hg with rfl | hg
  · exact h
  · omega

/-- Places turn: those that are taken, those of the next commit. -/
theorem GA.onT' {B : Nat} {w w' : World} {p g' : Nat} {a : Ad} {q : Pq} (h : GA B w p a q) (o : S.Only a.t a.gt w w') {u : Nat → Bool} (hs : S.SA w' a.t g' q.m (S.cnt q.m u) u) (hg : g' = a.gt ∨ w.heap.size ≤ g') : GA B w' p { a with gt := g' } { q with ut := u } ∧ On B w w' := by
  obtain ⟨p1, p2, p3, p4, p5, p6, p7, p8⟩ := h.ps
  obtain ⟨n1, n2, n3, n4, n5, n6, n7⟩ := h.ne
  obtain ⟨l1, l2, l3, l4, l5, l6, l7, l8, l9⟩ := h.le
  have x1 := (SA.gt_lt h.sk).2
  have x2 := (SA.gt_lt h.sn).2
  have y1 : a.gk ≠ g' := ne_far hg n4 x1
  have y2 : g' ≠ a.gn := (ne_far hg n6.symm x2).symm
  have y3 : B ≤ g' := le_far hg l5 (SA.gt_lt h.st).2
  have z1 : w'.heap[p]? = some (.cells (q.cells a) 68) := o.block p _ h.blk p3 p4
  have z2 := h.disk.frame (frameS h.st o)
  have z3 := SA.onS h.sk h.st o n1 n4
  have z4 := SA.onS h.sn h.st o n3.symm n6.symm
  have z5 := MAt.onS h.fm h.st o
  have z6 := MAt.onS h.hm h.st o
  have z7 := On.ofS h.st o l4 l5
  clear hg x1 x2 h o
  obtain ⟨ad, ag, ak, agk, at', agt, an, agn, amf, amh⟩ := a
  obtain ⟨qd, qg, qr, qm, qk, qt, qn, qf, qh, qx, qy⟩ := q
  exact ⟨⟨z1, z2, z3, hs, z4, z5, z6, ⟨n1, n2, n3, y1, n5, y2, n7⟩, ⟨l1, l2, l3, l4, y3, l6, l7, l8, l9⟩⟩, z7⟩
theorem GA.onN' {B : Nat} {w w' : World} {p g' : Nat} {a : Ad} {q : Pq} (h : GA B w p a q) (o : S.Only a.n a.gn w w') {u : Nat → Bool} (hs : S.SA w' a.n g' q.m (S.cnt q.m u) u) (hg : g' = a.gn ∨ w.heap.size ≤ g') : GA B w' p { a with gn := g' } { q with un := u } ∧ On B w w' := by
  obtain ⟨p1, p2, p3, p4, p5, p6, p7, p8⟩ := h.ps
  obtain ⟨n1, n2, n3, n4, n5, n6, n7⟩ := h.ne
  obtain ⟨l1, l2, l3, l4, l5, l6, l7, l8, l9⟩ := h.le
  have x1 := (SA.gt_lt h.sk).2
  have x2 := (SA.gt_lt h.st).2
  have y1 : a.gk ≠ g' := ne_far hg n5 x1
  have y2 : a.gt ≠ g' := ne_far hg n6 x2
  have y3 : B ≤ g' := le_far hg l7 (SA.gt_lt h.sn).2
  have z1 : w'.heap[p]? = some (.cells (q.cells a) 68) := o.block p _ h.blk p5 p6
  have z2 := h.disk.frame (frameS h.sn o)
  have z3 := SA.onS h.sk h.sn o n2 n5
  have z4 := SA.onS h.st h.sn o n3 n6
  have z5 := MAt.onS h.fm h.sn o
  have z6 := MAt.onS h.hm h.sn o
  have z7 := On.ofS h.sn o l6 l7
  clear hg x1 x2 h o
  obtain ⟨ad, ag, ak, agk, at', agt, an, agn, amf, amh⟩ := a
  obtain ⟨qd, qg, qr, qm, qk, qt, qn, qf, qh, qx, qy⟩ := q
  exact ⟨⟨z1, z2, z3, z4, hs, z5, z6, ⟨n1, n2, n3, n4, y1, y2, n7⟩, ⟨l1, l2, l3, l4, l5, l6, y3, l8, l9⟩⟩, z7⟩
/-- The same, wherever its words are then. -/
theorem GA.onTg {B : Nat} {w w' : World} {p g' : Nat} {a : Ad} {q : Pq} (h : GA B w p a q) (o : S.Only a.t a.gt w w') {u : Nat → Bool} (hs : S.SA w' a.t g' q.m (S.cnt q.m u) u) (hg : g' = a.gt ∨ w.heap.size ≤ g') : ∃ a' : Ad, a'.d = a.d ∧ a'.g = a.g ∧ GA B w' p a' { q with ut := u } ∧ On B w w' :=
  ⟨{ a with gt := g' }, rfl, rfl, h.onT' o hs hg⟩
theorem GA.onNg {B : Nat} {w w' : World} {p g' : Nat} {a : Ad} {q : Pq} (h : GA B w p a q) (o : S.Only a.n a.gn w w') {u : Nat → Bool} (hs : S.SA w' a.n g' q.m (S.cnt q.m u) u) (hg : g' = a.gn ∨ w.heap.size ≤ g') : ∃ a' : Ad, a'.d = a.d ∧ a'.g = a.g ∧ GA B w' p a' { q with un := u } ∧ On B w w' :=
  ⟨{ a with gn := g' }, rfl, rfl, h.onN' o hs hg⟩

theorem SA.onM {b g m l c : Nat} {u : Nat → Bool} {M : Nat → Option Pag} {w w' : World} (x : S.SA w b g m l u) (s : MAt w c M) (h : One c w w') : S.SA w' b g m l u := by
  obtain ⟨_, _, h1⟩ := s.block
  obtain ⟨⟨_, _, k1⟩, _, _, k2⟩ := x.blocks
  exact x.same (h.block b (map_ne k1 h1)) (h.block g (map_ne k2 h1))
theorem frameM {c : Nat} {M : Nat → Option Pag} {w w' : World} (s : MAt w c M) (h : One c w w') (k : Nat) (cs : Array Value) (t : TypeId) (fr : Nat × Nat) (hk : w.heap[k]? = some (.cells cs t fr)) (_ : D.Quiet t) : w'.heap[k]? = some (.cells cs t fr) := by
  obtain ⟨_, _, h1⟩ := s.block
  rw [h.block k (map_ne hk h1)]
  exact hk

/-- Maps turn: that of new pages, that of pages that are held. -/
theorem GA.onF {B : Nat} {w w' : World} {p : Nat} {a : Ad} {q : Pq} (h : GA B w p a q) (o : One a.mf w w') {M : Nat → Option Pag} (hs : MAt w' a.mf M) : GA B w' p a { q with fresh := M } ∧ On B w w' := by
  obtain ⟨p1, p2, p3, p4, p5, p6, p7, p8⟩ := h.ps
  exact ⟨⟨(o.block p p7).trans h.blk, h.disk.frame (frameM h.fm o), SA.onM h.sk h.fm o, SA.onM h.st h.fm o, SA.onM h.sn h.fm o, hs, h.hm.same (o.block _ h.ne.2.2.2.2.2.2.symm), h.ne, h.le⟩, On.ofOne h.fm o h.le.2.2.2.2.2.2.2.1⟩
end Go.Proofs.YtlndfjeijbjdeaaDoor.G