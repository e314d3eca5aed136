/- The walk of Commit. Conditions: a pager that is not in doubt; generations below 2^62. -/
import Derived.Test.YthlhnjjofefgcaaGreatDoorGWalkK
import Derived.Test.YthlhnjjofefgcaaGreatDoorGWalkI
import Derived.Maps.RangeWalk
namespace Go.Proofs.YthlhnjjofefgcaaGreatDoor.G
open Go.ChangeShapes Go.WideShapes Go.ChangeAt Go.RowKit
open D (Dk Ok DiskAt)
open P (bs supL Sup supP Small)

set_option maxRecDepth 100000 in
theorem commit_bad {B : Nat} {w : World} {p d g : Nat} {q : Pq} (h : GAt B w p d g q) (hg : q.gen < 4611686018427387904) (root : Int) (hs : ¬ Sup (q.gen + 1) root) :
    Calls Tryz.prog 13 #[.pointer (some ⟨p, 0, none⟩), .int .i64 root] w fun e w' => e = .returned (.int .i64 1) ∧ D.Kept w w' := by
  obtain ⟨a, rfl, rfl, k⟩ := h.out
  clear h
  obtain ⟨c0, c1, c2, c3, c4, c5, c6, c7, c8, c9⟩ := k.cs
  have f1 : ∀ W, Calls Tryz.prog 30 #[.agg #[.int .u64 ((q.gen : Int) + 1), .int .i64 root]] W fun e w' => e = .returned (.bool false) ∧ P.Kept W w' := fun W => P.smay_no (q.gen + 1) root hs W
  clear hs
  go_enter Tryz.func13, Tryz.ntmps13
  go_wp2_with (go_at_call 30; (with_reducible refine (f1 _).mono ?_); rintro e w2 ⟨rfl, k2⟩)
  go_ret
  exact ⟨rfl, D.Kept.trans ((D.Kept.refl _).alloc _) ⟨k2.out⟩⟩

set_option maxRecDepth 100000 in
set_option maxHeartbeats 1000000 in
theorem commit_fail {B : Nat} {w : World} {p m : Nat} {a : Ad} {q : Pq} (k : GA B w p a q) (hB : B ≤ w.heap.size) (ok : Ok m q.disk) (hm : m < 48000) (hd : q.doubt = false) (hgen : ∀ n, (atK q.fresh n).gen < 18446744073709551616) (hg : q.gen < 4611686018427387904) (root : Int) (hs : Sup (q.gen + 1) root)
    (d' : Dk) (e : Int) (b : Bool) (hw : wrt q.fresh q.disk (keysOf q.fresh) (q.gen + 1) root = (d', e, b)) (he : ¬ e = 0) :
    Calls Tryz.prog 13 #[.pointer (some ⟨p, 0, none⟩), .int .i64 root] w fun r w' => r = .returned (.int .i64 e) ∧ GA B w' p a { q with disk := d', doubt := b } ∧ On B w w' := by
  obtain ⟨c0, c1, c2, c3, c4, c5, c6, c7, c8, c9⟩ := k.cs
  have f1 : ∀ W, Calls Tryz.prog 30 #[.agg #[.int .u64 ((q.gen : Int) + 1), .int .i64 root]] W fun e w' => e = .returned (.bool true) ∧ P.Kept W w' := fun W => P.smay_yes (q.gen + 1) root hs W
  have f2 : ∀ W, D.Kept w W → Calls Tryz.prog 31 #[.pointer (some ⟨p, 0, none⟩), .agg #[.int .u64 ((q.gen : Int) + 1), .int .i64 root]] W fun r w' => r = .returned (.int .i64 e) ∧ GA B w' p a { q with disk := d', doubt := b } ∧ On B W w' := fun W hW => by
    have := write_walk (k.kept hW) (Nat.le_trans hB hW.size) ok hm hd hgen (q.gen + 1) root
    rw [hw] at this
    exact this
  have hne : (e != 0) = true := by simpa using he
  have Y0 := P.Sp.alloc w ((q.gen : Int) + 1) root
  clear hs hw hgen he
  go_enter Tryz.func13, Tryz.ntmps13
  go_wp2_with (first
    | (go_at_call 30; (with_reducible refine (f1 _).mono ?_); rintro r w2 ⟨rfl, k2⟩; have K2 : D.Kept w w2 := D.Kept.trans ((D.Kept.refl _).alloc _) ⟨k2.out⟩; have Y2 := k2.sp Y0; obtain ⟨y0, y1⟩ := Y2.cs)
    | (go_at_call 31; (with_reducible refine (f2 _ K2).mono ?_); rintro r w3 ⟨rfl, g3, n3⟩))
  go_ret
  exact ⟨rfl, g3, (On.ofKept K2 hB).trans n3⟩

/-- Pages that are held while what was held of new ones goes. -/
def Hf (M H : Nat → Option Pag) (left : Lit → Bool) : Nat → Option Pag := fun k => if (M k).isSome && !left (.int .i64 (k : Nat)) then none else H k

theorem Hf_start (M H : Nat → Option Pag) (left : Lit → Bool) (h : ∀ k : Nat, left (.int .i64 (k : Nat)) = (M k).isSome) : Hf M H left = H := by
  funext k
  unfold Hf
  rw [h]
  cases (M k).isSome <;> rfl
theorem Hf_step (M H : Nat → Option Pag) (left : Lit → Bool) (n : Nat) (hn : (M n).isSome = true) : delM (Hf M H left) n = Hf M H (fun z => left z && !z.sameKey (.int .i64 (n : Nat))) := by
  funext k
  unfold delM Hf
  by_cases e : k = n
  · subst e
    rw [if_pos rfl, hn]
    simp [Lit.sameKey]
  · rw [if_neg e]
    have : (Lit.int .i64 (k : Nat)).sameKey (.int .i64 (n : Nat)) = false := by simp [Lit.sameKey]; omega
    simp [this]
theorem Hf_end (M H : Nat → Option Pag) (left : Lit → Bool) (h : ∀ kl, left kl = false) : Hf M H left = fun k => if (M k).isSome then none else H k := by
  funext k
  unfold Hf
  rw [h]
  cases (M k).isSome <;> rfl

/-- What is committed then. -/
def Pq.comd (q : Pq) (d' : Dk) (root : Int) : Pq := { q with disk := d', gen := q.gen + 1, root := root, uk := q.un, ut := q.un, fresh := fun _ => none, held := fun k => if (q.fresh k).isSome then none else q.held k, doubt := false }

/-- A loop's own block turns. -/
theorem GA.iter {B : Nat} {w w' : World} {p : Nat} {a : Ad} {q : Pq} (h : GA B w p a q) {r : Nat} {x : Option Nat} {y z u} (hr : w.heap[r]? = some (.mapIter x y z u)) (hg : w.grownBy w' (some r)) (hB : B ≤ r) : GA B w' p a q ∧ On B w w' := by
  have lt : ∀ {k : Nat} {o : Obj}, w.heap[k]? = some o → k < w.heap.size := fun h => (Array.getElem?_eq_some_iff.1 h).1
  have ec : ∀ {k : Nat} {cs : Array Value} {t : TypeId} {fr : Nat × Nat}, w.heap[k]? = some (.cells cs t fr) → w'.heap[k]? = w.heap[k]? := fun {k cs t fr} hk => hg.block k (lt hk) (fun e => by
    injection e with e; subst e; rw [hk] at hr; injection hr with hr; cases hr)
  have em : ∀ {k : Nat} {es : Array MapEntry} {c : Nat}, w.heap[k]? = some (.map es c) → w'.heap[k]? = w.heap[k]? := fun {k es c} hk => hg.block k (lt hk) (fun e => by
    injection e with e; subst e; rw [hk] at hr; injection hr with hr; cases hr)
  obtain ⟨⟨_, _, k1⟩, _, _, k2⟩ := h.sk.blocks
  obtain ⟨⟨_, _, t1⟩, _, _, t2⟩ := h.st.blocks
  obtain ⟨⟨_, _, n1⟩, _, _, n2⟩ := h.sn.blocks
  obtain ⟨_, _, f1⟩ := h.fm.block
  obtain ⟨_, _, h1⟩ := h.hm.block
  refine ⟨⟨(ec h.blk).trans h.blk, h.disk.frame (fun k cs t fr hk _ => (ec hk).trans hk), h.sk.same (ec k1) (ec k2), h.st.same (ec t1) (ec t2), h.sn.same (ec n1) (ec n2), h.fm.same (em f1), h.hm.same (em h1), h.ne, h.le⟩, ⟨?_, fun k cs t fr hk _ => (ec hk).trans hk⟩⟩
  exact (Below.refl B w).grown hg (Nat.le_of_lt (Nat.lt_of_le_of_lt hB (lt hr))) (fun k e => by injection e with e; omega)

theorem ranges_iter {H : Type} {P : Program} {k : TypeId} {R : Value → Option (DataW H × List MemPlace)} {w : World} {b r n : Nat} {D : DataW H} {left : Lit → Bool} {cnt : Nat} (h : w.ranges P k R b r n D left cnt) : ∃ x y z u, w.heap[r]? = some (.mapIter x y z u) := by
  obtain ⟨es, clock, since, seen, c0, _, _, _, _, h5, _⟩ := h
  exact ⟨_, _, _, _, h5⟩

/-- While what was held of new pages goes. -/
structure Lc (B : Nat) (w : World) (p : Nat) (a : Ad) (q : Pq) (d' : Dk) (root : Int) (left : Lit → Bool) (wx : World) : Prop where
  ga : GA B wx p a { q with disk := d', doubt := false, held := Hf q.fresh q.held left }
  st : P.Sp wx w.heap.size ((q.gen : Int) + 1) root
  on : On B w wx

/-- The state, and which places it has, are other ones now. -/
theorem GA.passed {B : Nat} {w : World} {p : Nat} {a : Ad} {q : Pq} (h : GA B w p a q) (x : Nat) (r : Int) :
    GB B (((w.setCell ⟨p, 1, none⟩ (.int .u64 (x : Nat))).setCell ⟨p, 2, none⟩ (.int .i64 r)).setCell ⟨p, 3, none⟩ (.pointer (some ⟨a.n, 0, none⟩))) p { a with k := a.n, gk := a.gn } { q with gen := x, root := r, uk := q.un } ∧
    On B w (((w.setCell ⟨p, 1, none⟩ (.int .u64 (x : Nat))).setCell ⟨p, 2, none⟩ (.int .i64 r)).setCell ⟨p, 3, none⟩ (.pointer (some ⟨a.n, 0, none⟩))) := by
  have b1 := heap_setCell_same w p 1 _ _ (.int .u64 (x : Nat)) h.blk
  have b2 := heap_setCell_same _ p 2 _ _ (.int .i64 r) b1
  have b3 := heap_setCell_same _ p 3 _ _ (.pointer (some ⟨a.n, 0, none⟩)) b2
  have e : ∀ k, k ≠ p → (((w.setCell ⟨p, 1, none⟩ (.int .u64 (x : Nat))).setCell ⟨p, 2, none⟩ (.int .i64 r)).setCell ⟨p, 3, none⟩ (.pointer (some ⟨a.n, 0, none⟩))).heap[k]? = w.heap[k]? := by
    intro k hk
    rw [Below.heap_setCell _ _ _ _ hk, Below.heap_setCell _ _ _ _ hk, Below.heap_setCell _ _ _ _ hk]
  obtain ⟨p1, p2, p3, p4, p5, p6, p7, p8⟩ := h.ps
  refine ⟨⟨by rw [b3]; rfl, h.disk.frame (fun k cs t fr hk hq => by rw [e k (cells_ne hk h.blk (quiet_ne hq).1)]; exact hk), h.sn.same (e _ p5.symm) (e _ p6.symm), h.fm.same (e _ p7.symm), h.hm.same (e _ p8.symm), h.ne.2.2.2.2.2.2, ⟨h.le.1, h.le.2.2.2.2.2.1, h.le.2.2.2.2.2.2.1, h.le.2.2.2.2.2.2.2.1, h.le.2.2.2.2.2.2.2.2⟩⟩, ?_⟩
  exact (((On.refl B w).setCell h.le.1 h.blk not68 1 _).setCell h.le.1 b1 not68 2 _).setCell h.le.1 b2 not68 3 _

theorem three_set {w : World} {p s : Nat} {x y z : Value} (h : w.cell? ⟨p, 5, none⟩ = some x ∧ w.cell? ⟨s, 0, none⟩ = some y ∧ w.cell? ⟨s, 1, none⟩ = some z) (i : Nat) (v : Value) (hi : i ≠ 5) (hs : p ≠ s) :
    (w.setCell ⟨p, i, none⟩ v).cell? ⟨p, 5, none⟩ = some x ∧ (w.setCell ⟨p, i, none⟩ v).cell? ⟨s, 0, none⟩ = some y ∧ (w.setCell ⟨p, i, none⟩ v).cell? ⟨s, 1, none⟩ = some z := by
  refine ⟨?_, ?_, ?_⟩
  · rw [World.cell?_setCell_other (h := show (⟨p, i, none⟩ : Addr) ≠ ⟨p, 5, none⟩ from fun e => hi (congrArg Addr.off e))]; exact h.1
  · rw [World.cell?_setCell_other (h := show (⟨p, i, none⟩ : Addr) ≠ ⟨s, 0, none⟩ from fun e => hs (congrArg Addr.block e))]; exact h.2.1
  · rw [World.cell?_setCell_other (h := show (⟨p, i, none⟩ : Addr) ≠ ⟨s, 1, none⟩ from fun e => hs (congrArg Addr.block e))]; exact h.2.2

set_option maxRecDepth 100000 in
set_option maxHeartbeats 4000000 in
theorem commit_ok {B : Nat} {w : World} {p m : Nat} {a : Ad} {q : Pq} (k : GA B w p a q) (hB : B ≤ w.heap.size) (ok : Ok m q.disk) (hm : m < 48000) (hd : q.doubt = false) (hgen : ∀ n, (atK q.fresh n).gen < 18446744073709551616) (hg : q.gen < 4611686018427387904) (root : Int) (hs : Sup (q.gen + 1) root)
    (d' : Dk) (b : Bool) (hw : wrt q.fresh q.disk (keysOf q.fresh) (q.gen + 1) root = (d', 0, b)) (hb : b = false) :
    Calls Tryz.prog 13 #[.pointer (some ⟨p, 0, none⟩), .int .i64 root] w fun r w' => r = .returned (.int .i64 0) ∧ GAt B w' p a.d a.g (q.comd d' root) ∧ On B w w' := by
  subst hb
  obtain ⟨c0, c1, c2, c3, c4, c5, c6, c7, c8, c9⟩ := k.cs
  have f1 : ∀ W, Calls Tryz.prog 30 #[.agg #[.int .u64 ((q.gen : Int) + 1), .int .i64 root]] W fun e w' => e = .returned (.bool true) ∧ P.Kept W w' := fun W => P.smay_yes (q.gen + 1) root hs W
  have f2 : ∀ W, D.Kept w W → Calls Tryz.prog 31 #[.pointer (some ⟨p, 0, none⟩), .agg #[.int .u64 ((q.gen : Int) + 1), .int .i64 root]] W fun r w' => r = .returned (.int .i64 0) ∧ GA B w' p a { q with disk := d', doubt := false } ∧ On B W w' := fun W hW => by
    have := write_walk (k.kept hW) (Nat.le_trans hB hW.size) ok hm hd hgen (q.gen + 1) root
    rw [hw] at this
    exact this
  have Y0 := P.Sp.alloc w ((q.gen : Int) + 1) root
  clear hs hw hgen
  go_enter Tryz.func13, Tryz.ntmps13
  go_wp2_with (first
    | (go_at_call 30; (with_reducible refine (f1 _).mono ?_); rintro r w2 ⟨rfl, k2⟩; have K2 : D.Kept w w2 := D.Kept.trans ((D.Kept.refl _).alloc _) ⟨k2.out⟩; have Y2 := k2.sp Y0; obtain ⟨y0, y1⟩ := Y2.cs)
    | (go_at_call 31; (with_reducible refine (f2 _ K2).mono ?_); rintro r w3 ⟨rfl, g3, n3⟩; have Y3 := calm52D Y2 n3; have N3 := (On.ofKept K2 hB).trans n3; obtain ⟨d0, d1, d2, d3, d4, d5, d6, d7, d8, d9⟩ := g3.cs; obtain ⟨D0, ho, hz0, hz1, hz2, hz3⟩ := g3.fm.few)
    | (at_range; refine wpList_range_own _ rfl _ 66 rfl 3 55 keyed Tryz.underlying66 _ a.mf _ _ rfl ho ?_; intro w4 hrg4 hg4 hs4)
    | go_in)
  go_frame
  have K4 : D.Kept w3 w4 := ⟨(Below.refl _ w3).grown hg4 (Nat.le_refl _) (fun _ e => by cases e)⟩
  have HL : Hid (Lc B w p a q d' root (Maps.has D0) w4) := by
    refine ⟨?_, ⟨K4.block Y3.out⟩, N3.kept K4 hB⟩
    rw [Hf_start q.fresh q.held _ hz1]
    exact g3.kept K4
  have HZ : Hid ((∀ k : Nat, Maps.has D0 (.int .i64 (k : Nat)) = (q.fresh k).isSome) ∧ ∀ x : Int, Maps.has D0 (.int .i64 x) = true → ∃ k : Nat, x = (k : Int) ∧ k < 64) := ⟨hz1, hz3⟩
  have hB3 := Nat.le_trans hB N3.size
  clear g3 Y3 n3 N3 f1 f2 Y0 Y2 y0 y1 K2 d0 d1 d2 d3 d4 d5 d6 d7 d8 d9 c0 c1 c2 c3 c4 c5 c6 c7 c8 c9 hz0 hz1 hz2 hz3 ho
  go_loopw [7] (fun _ wr => ∃ (left : Lit → Bool) (cnt : Nat), wr.ranges Tryz.prog 3 R4 a.mf w3.heap.size (Maps.size D0) D0 left cnt ∧ Lc B w p a q d' root left wr) (fun _ wr => wr.rangeLeft a.mf w3.heap.size)
  case atStart => exact ⟨_, _, hrg4, HL.out⟩
  case round =>
    obtain ⟨left, cnt, hrg, LC⟩ := hrel
    clear HL hrg4 hg4 hs4
    have invK : ∀ key kl, keyOf Tryz.prog 3 key = some kl → ∃ x : Int, key = Value.int .i64 x := fun key kl hk => by obtain ⟨x, e, _⟩ := Maps.keyOf_i64 Tryz.underlying3 hk; exact ⟨x, e⟩
    have invV : ∀ v y, R4 v = some y → ∃ c : Pag, v = c.val := fun v y hv => by obtain ⟨c, e, _⟩ := R4_inv hv; exact ⟨c, e⟩
    go_wp2_with (first
      | (at_next; refine wpList_next_ranges _ rfl _ rfl 3 keyed R4 (fun x : Int => Value.int .i64 x) Pag.val invK invV a.mf w3.heap.size _ _ _ _ rfl hrg ?_ ?_)
      | go_in)
    · intro hc0 hl0
      have g5 := LC.ga
      rw [Hf_end q.fresh q.held left hl0] at g5
      have s5 := LC.st
      have N5 := LC.on
      have hB5 := Nat.le_trans hB N5.size
      obtain ⟨d0, d1, d2, d3, d4, d5, d6, d7, d8, d9⟩ := g5.cs
      obtain ⟨s50, s51⟩ := s5.cs
      have hpw : p ≠ w.heap.size := cells_ne g5.blk s5.out (by decide)
      have z1 := g5.fz 1
      have z2 := g5.fz 2
      have z3 := g5.fz 3
      obtain ⟨gP, nP⟩ := GA.passed (w := wr.drew) (g5.kept ((D.Kept.refl wr).drew)) (q.gen + 1) root
      have NP := (N5.drew).trans nP
      have fu := undo_gb gP (Nat.le_trans hB NP.size)
      have fu' : Calls Tryz.prog 14 #[.pointer (some ⟨p, 0, none⟩)] (((wr.setCell ⟨p, 1, none⟩ (.int .u64 ((q.gen : Int) + 1))).setCell ⟨p, 2, none⟩ (.int .i64 root)).setCell ⟨p, 3, none⟩ (.pointer (some ⟨a.n, 0, none⟩))).drew _ := fu
      have fu2 : Calls Tryz.prog 14 #[.pointer (some ⟨p, 0, none⟩)] (((wr.setCell ⟨p, 1, none⟩ (.int .u64 ((q.gen : Int) + 1))).setCell ⟨p, 2, none⟩ (.int .i64 root)).drew.setCell ⟨p, 3, none⟩ (.pointer (some ⟨a.n, 0, none⟩))) _ := fu
      have t0 : (wr).cell? ⟨p, 5, none⟩ = some (.pointer (some ⟨a.n, 0, none⟩)) ∧ (wr).cell? ⟨w.heap.size, 0, none⟩ = some (.int .u64 ((q.gen : Int) + 1)) ∧ (wr).cell? ⟨w.heap.size, 1, none⟩ = some (.int .i64 root) := ⟨d5, s50, s51⟩
      have t0d : (wr.drew).cell? ⟨p, 5, none⟩ = some (.pointer (some ⟨a.n, 0, none⟩)) ∧ (wr.drew).cell? ⟨w.heap.size, 0, none⟩ = some (.int .u64 ((q.gen : Int) + 1)) ∧ (wr.drew).cell? ⟨w.heap.size, 1, none⟩ = some (.int .i64 root) := t0
      have t1 : ∀ u v, ((wr.setCell ⟨p, 1, none⟩ u).setCell ⟨p, 2, none⟩ v).cell? ⟨p, 5, none⟩ = some (.pointer (some ⟨a.n, 0, none⟩)) ∧ ((wr.setCell ⟨p, 1, none⟩ u).setCell ⟨p, 2, none⟩ v).cell? ⟨w.heap.size, 0, none⟩ = some (.int .u64 ((q.gen : Int) + 1)) ∧ ((wr.setCell ⟨p, 1, none⟩ u).setCell ⟨p, 2, none⟩ v).cell? ⟨w.heap.size, 1, none⟩ = some (.int .i64 root) := fun u v => three_set (three_set t0 1 u (by decide) hpw) 2 v (by decide) hpw
      have t1d : ∀ u v, (((wr.setCell ⟨p, 1, none⟩ u).setCell ⟨p, 2, none⟩ v).drew).cell? ⟨p, 5, none⟩ = some (.pointer (some ⟨a.n, 0, none⟩)) ∧ (((wr.setCell ⟨p, 1, none⟩ u).setCell ⟨p, 2, none⟩ v).drew).cell? ⟨w.heap.size, 0, none⟩ = some (.int .u64 ((q.gen : Int) + 1)) ∧ (((wr.setCell ⟨p, 1, none⟩ u).setCell ⟨p, 2, none⟩ v).drew).cell? ⟨w.heap.size, 1, none⟩ = some (.int .i64 root) := fun u v => t1 u v
      have t1p : ∀ u v, ((wr.drew.setCell ⟨p, 1, none⟩ u).setCell ⟨p, 2, none⟩ v).cell? ⟨p, 5, none⟩ = some (.pointer (some ⟨a.n, 0, none⟩)) ∧ ((wr.drew.setCell ⟨p, 1, none⟩ u).setCell ⟨p, 2, none⟩ v).cell? ⟨w.heap.size, 0, none⟩ = some (.int .u64 ((q.gen : Int) + 1)) ∧ ((wr.drew.setCell ⟨p, 1, none⟩ u).setCell ⟨p, 2, none⟩ v).cell? ⟨w.heap.size, 1, none⟩ = some (.int .i64 root) := fun u v => three_set (three_set t0d 1 u (by decide) hpw) 2 v (by decide) hpw
      have t2 : ∀ u v x, (((wr.setCell ⟨p, 1, none⟩ u).setCell ⟨p, 2, none⟩ v).setCell ⟨p, 3, none⟩ x).cell? ⟨p, 5, none⟩ = some (.pointer (some ⟨a.n, 0, none⟩)) ∧ (((wr.setCell ⟨p, 1, none⟩ u).setCell ⟨p, 2, none⟩ v).setCell ⟨p, 3, none⟩ x).cell? ⟨w.heap.size, 0, none⟩ = some (.int .u64 ((q.gen : Int) + 1)) ∧ (((wr.setCell ⟨p, 1, none⟩ u).setCell ⟨p, 2, none⟩ v).setCell ⟨p, 3, none⟩ x).cell? ⟨w.heap.size, 1, none⟩ = some (.int .i64 root) := fun u v x => three_set (t1 u v) 3 x (by decide) hpw
      have t2d : ∀ u v x, ((((wr.setCell ⟨p, 1, none⟩ u).setCell ⟨p, 2, none⟩ v).setCell ⟨p, 3, none⟩ x).drew).cell? ⟨p, 5, none⟩ = some (.pointer (some ⟨a.n, 0, none⟩)) ∧ ((((wr.setCell ⟨p, 1, none⟩ u).setCell ⟨p, 2, none⟩ v).setCell ⟨p, 3, none⟩ x).drew).cell? ⟨w.heap.size, 0, none⟩ = some (.int .u64 ((q.gen : Int) + 1)) ∧ ((((wr.setCell ⟨p, 1, none⟩ u).setCell ⟨p, 2, none⟩ v).setCell ⟨p, 3, none⟩ x).drew).cell? ⟨w.heap.size, 1, none⟩ = some (.int .i64 root) := fun u v x => t2 u v x
      have t2e : ∀ u v x, ((((wr.setCell ⟨p, 1, none⟩ u).setCell ⟨p, 2, none⟩ v).drew).setCell ⟨p, 3, none⟩ x).cell? ⟨p, 5, none⟩ = some (.pointer (some ⟨a.n, 0, none⟩)) ∧ ((((wr.setCell ⟨p, 1, none⟩ u).setCell ⟨p, 2, none⟩ v).drew).setCell ⟨p, 3, none⟩ x).cell? ⟨w.heap.size, 0, none⟩ = some (.int .u64 ((q.gen : Int) + 1)) ∧ ((((wr.setCell ⟨p, 1, none⟩ u).setCell ⟨p, 2, none⟩ v).drew).setCell ⟨p, 3, none⟩ x).cell? ⟨w.heap.size, 1, none⟩ = some (.int .i64 root) := fun u v x => three_set (t1d u v) 3 x (by decide) hpw
      have t2p : ∀ u v x, (((wr.drew.setCell ⟨p, 1, none⟩ u).setCell ⟨p, 2, none⟩ v).setCell ⟨p, 3, none⟩ x).cell? ⟨p, 5, none⟩ = some (.pointer (some ⟨a.n, 0, none⟩)) ∧ (((wr.drew.setCell ⟨p, 1, none⟩ u).setCell ⟨p, 2, none⟩ v).setCell ⟨p, 3, none⟩ x).cell? ⟨w.heap.size, 0, none⟩ = some (.int .u64 ((q.gen : Int) + 1)) ∧ (((wr.drew.setCell ⟨p, 1, none⟩ u).setCell ⟨p, 2, none⟩ v).setCell ⟨p, 3, none⟩ x).cell? ⟨w.heap.size, 1, none⟩ = some (.int .i64 root) := fun u v x => three_set (t1p u v) 3 x (by decide) hpw
      clear LC hrg invK invV hl0 fu gP nP
      go_wp2
      go_region_held3 (fun W => W.cell? ⟨p, 5, none⟩ = some (.pointer (some ⟨a.n, 0, none⟩)) ∧ W.cell? ⟨w.heap.size, 0, none⟩ = some (.int .u64 ((q.gen : Int) + 1)) ∧ W.cell? ⟨w.heap.size, 1, none⟩ = some (.int .i64 root)) (first | trivial | (with_reducible exact t0) | (with_reducible exact t0d) | (with_reducible exact t1 _ _) | (with_reducible exact t1d _ _) | (with_reducible exact t1p _ _) | (with_reducible exact t2 _ _ _) | (with_reducible exact t2d _ _ _) | (with_reducible exact t2e _ _ _) | (with_reducible exact t2p _ _ _)) (fail)
      go_wp2_with (first | (go_at_call 14; (with_reducible refine fu'.mono ?_); rintro r w9 ⟨rfl, g9, n9⟩) | (go_at_call 14; (with_reducible refine fu2.mono ?_); rintro r w9 ⟨rfl, g9, n9⟩))
      go_ret
      exact ⟨rfl, g9, NP.trans n9⟩
    · intro x c kl y y' w1 cnt1 hkey hlk hv hat hrg1 hlt hg1 hs1 hen
      obtain ⟨x', ex, rfl, hwf⟩ := Maps.keyOf_i64 Tryz.underlying3 hkey
      obtain rfl : x = x' := by injection ex
      have hhas := Maps.has_true_of_atKey hat
      obtain ⟨n, rfl, hn⟩ := HZ.out.2 x hhas
      have hMn : (q.fresh n).isSome = true := by rw [← HZ.out.1]; exact hhas
      obtain ⟨ix, iy, iz, iu, hit⟩ := ranges_iter hrg
      obtain ⟨g6, n6⟩ := LC.ga.iter hit hg1 hB3
      have s6 := calm52D LC.st n6
      have N6 := LC.on.trans n6
      obtain ⟨d0, d1, d2, d3, d4, d5, d6, d7, d8, d9⟩ := g6.cs
      obtain ⟨w7, dr0, m7, o7⟩ := g6.hm.drop n (by omega) 0
      have dr : ∀ ty, (Builtin.delete_ #[66, 3] ty #[.map (some a.mh), .int .i64 (n : Nat)]).run Tryz.prog w1 = .ok (.tuple #[]) w7 := fun ty => dr0
      obtain ⟨g7, n7⟩ := g6.onH o7 m7
      have s7 := calm52D s6 n7
      have N7 := N6.trans n7
      have hrg7 : w7.ranges Tryz.prog 3 R4 a.mf w3.heap.size (Maps.size D0) D0 _ cnt1 := hrg1.kept (row := some a.mh) ⟨(o7.below 0 (Nat.zero_le _)).os, (o7.below 0 (Nat.zero_le _)).tape, (o7.below 0 (Nat.zero_le _)).output, (o7.below 0 (Nat.zero_le _)).size, fun i _ hi => o7.block i (fun e => hi (by rw [e]))⟩ (fun e => g6.ne.2.2.2.2.2.2 (Option.some.inj e)) (fun e => by
        have e' := Option.some.inj e
        obtain ⟨_, _, hb⟩ := g6.hm.block
        obtain ⟨_, _, _, _, hi⟩ := ranges_iter hrg1
        rw [e', hb] at hi
        injection hi with hi
        cases hi)
      have HS : Hid (Lc B w p a q d' root (fun z => left z && !z.sameKey (.int .i64 (n : Nat))) w7) := ⟨by rw [← Hf_step q.fresh q.held left n hMn]; exact g7, s7, N7⟩
      obtain ⟨ck, cn, cg, cs⟩ := c
      dsimp only [Pag.val] at hen ⊢
      clear LC g6 g7 m7 o7 s6 s7 N6 N7 n6 n7 dr0 hat hhas hkey hv hMn hwf hit invK invV ex
      go_wp2
      go_roundw
      case rel => exact ⟨_, cnt1, hrg7, HS.out⟩
      case measure => rw [hrg7.left_eq, hrg.left_eq]; exact hlt
end Go.Proofs.YthlhnjjofefgcaaGreatDoor.G
