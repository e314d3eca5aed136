/- The walk of Open where a state is committed: a pager of it. Conditions: a disk that is whole, of 2 to 64 sectors. -/
import Derived.Test.YthlhnjjofefgcaaGreatDoorGWalkB
import Derived.Deep.DrawnRows
namespace Go.Proofs.YthlhnjjofefgcaaGreatDoor.G
open Go.ChangeShapes Go.WideShapes Go.ChangeAt Go.RowKit
open D (Dk Ok DiskAt)
open P (bs supL Sup supP Small)

/-- The places ahead of the pages. -/
def ahead : Nat → Bool := S.useAt (S.useAt (fun _ => false) 0) 1
theorem cnt_none (m : Nat) : S.cnt m (fun _ => false) = m := by
  induction m with
  | zero => simp [S.cnt]
  | succ m ih => rw [S.cnt_succ, ih]; rfl
theorem cnt_ahead (m : Nat) (h : 2 ≤ m) : S.cnt m ahead = m - 2 := by
  have h1 := S.cnt_use (m := m) (n := 0) (u := fun _ => false) (by omega) rfl
  have h2 := S.cnt_use (m := m) (n := 1) (u := S.useAt (fun _ => false) 0) (by omega) (by simp [S.useAt])
  rw [cnt_none] at h1
  unfold ahead
  omega

theorem new_two (m : Nat) (h2 : 2 ≤ m) (h64 : m ≤ 64) (w : World) :
    (Calls Tryz.prog 34 #[.int .i64 (m : Nat)] w fun e w' => ∃ b, e = .returned (.pointer (some ⟨b, 0, none⟩)) ∧ S.SAt w.heap.size w' b m m (fun _ => false) ∧ D.Kept w w') := by
  refine (S.new_walk m (by omega) w).mono ?_
  rintro e w' ⟨b, rfl, h1, hk⟩
  exact ⟨b, rfl, h1, ⟨hk.out⟩⟩

/-- A pager that was opened. -/
def opened (d : Dk) (x : Nat × Int) : Pq := ⟨d, x.1, x.2, d.secs.length, ahead, ahead, ahead, fun _ => none, fun _ => none, 0, false⟩

theorem read_len (d : Dk) (n : Int) : (d.read n).1.secs.length = d.secs.length := by
  have ha : d.act.1.secs.length = d.secs.length := by
    unfold Dk.act
    split
    · rfl
    · split
      · rfl
      · exact D.settled_length _ _ _ _
  unfold Dk.read
  split
  · rfl
  · split
    · rfl
    · split
      · exact ha
      · exact ha

theorem MAt.empty {X : World} {b c : Nat} (h : X.heap[b]? = some (.map #[] c)) : MAt X b (fun _ => none) := by
  refine ⟨.map [], ⟨#[], c, h, ⟨by simp, MapKept.stamped_empty c, by simp⟩, Nat.le_refl _, rfl⟩, fun _ => rfl, ?_, ?_⟩
  · intro k p h; cases h
  · intro x h; cases h

theorem SA.ltb {w : World} {b g m l : Nat} {u : Nat → Bool} (h : S.SA w b g m l u) : b < w.heap.size ∧ g < w.heap.size := by
  obtain ⟨⟨_, _, h1⟩, _, _, h2⟩ := h.blocks
  exact ⟨(Array.getElem?_eq_some_iff.1 h1).1, (Array.getElem?_eq_some_iff.1 h2).1⟩

theorem open_end {B : Nat} {w5 v1 v2 X : World} {b g bk gk b1 g1 b2 g2 mf mh p : Nat} {d2 : Dk} {x : Nat} {r : Int} (hX : DiskAt B X b g d2)
    (a5 : S.SA w5 bk gk d2.secs.length (S.cnt d2.secs.length ahead) ahead) (s1 : S.SA v1 b1 g1 d2.secs.length (S.cnt d2.secs.length ahead) ahead) (s2 : S.SA v2 b2 g2 d2.secs.length (S.cnt d2.secs.length ahead) ahead)
    (k5 : D.Kept w5 X) (k1 : D.Kept v1 X) (k2 : D.Kept v2 X) (hf : X.heap[mf]? = some (.map #[] 0)) (hh : X.heap[mh]? = some (.map #[] 0)) (ne : mf ≠ mh)
    (hbk : B ≤ bk) (hgk : B ≤ gk) (hB : B ≤ w5.heap.size) (hp : p = X.heap.size) (l1 : w5.heap.size ≤ b1) (l1' : w5.heap.size ≤ g1) (l2 : v1.heap.size ≤ b2) (l2' : v1.heap.size ≤ g2) (lf : w5.heap.size ≤ mf) (lh : w5.heap.size ≤ mh) :
    GAt B (X.alloc (.cells #[.pointer (some ⟨b, 0, none⟩), .int .u64 (x : Nat), .int .i64 r, .pointer (some ⟨bk, 0, none⟩), .pointer (some ⟨b1, 0, none⟩), .pointer (some ⟨b2, 0, none⟩), .map (some mf), .map (some mh), .int .i64 0, .bool false] 68)) p b g (opened d2 (x, r)) := by
  subst hp
  have hB' := hB
  have kA : D.Kept X (X.alloc (.cells #[.pointer (some ⟨b, 0, none⟩), .int .u64 (x : Nat), .int .i64 r, .pointer (some ⟨bk, 0, none⟩), .pointer (some ⟨b1, 0, none⟩), .pointer (some ⟨b2, 0, none⟩), .map (some mf), .map (some mh), .int .i64 0, .bool false] 68)) := (D.Kept.refl X).alloc _
  have e5 := SA.ltb a5
  have e1 := SA.ltb s1
  have e2 := SA.ltb s2
  have e6 := k5.size
  have q5 := k5.trans kA
  have q1 := k1.trans kA
  have q2 := k2.trans kA
  refine ⟨⟨b, g, bk, gk, b1, g1, b2, g2, mf, mh⟩, rfl, rfl, ⟨heap_alloc_new X _, kA.dk hX, a5.kept ⟨q5.out⟩, s1.kept ⟨q1.out⟩, s2.kept ⟨q2.out⟩, MAt.empty (kA.block hf), MAt.empty (kA.block hh), ⟨?_, ?_, ?_, ?_, ?_, ?_, ne⟩, ⟨?_, hbk, hgk, ?_, ?_, ?_, ?_, ?_, ?_⟩⟩⟩ <;> (try dsimp only) <;> omega

set_option maxHeartbeats 4000000 in
set_option maxRecDepth 100000 in
theorem open_A {B : Nat} {w : World} {b g : Nat} {d2 : Dk} (hB : B ≤ w.heap.size) (h2 : 2 ≤ d2.secs.length) (h64 : d2.secs.length ≤ 64) (x : Nat) (r : Int)
    (f1 : Calls Tryz.prog 33 #[.pointer (some ⟨b, 0, none⟩)] w fun e w' => e = .returned (.tuple #[.agg #[.int .u64 (x : Nat), .int .i64 r], .int .i64 0]) ∧ DiskAt B w' b g d2 ∧ D.On B w w') :
    Calls Tryz.prog 15 #[.pointer (some ⟨b, 0, none⟩)] w fun e w' => ∃ p, e = .returned (.tuple #[.pointer (some ⟨p, 0, none⟩), .int .i64 0]) ∧ GAt B w' p b g (opened d2 (x, r)) ∧ On B w w' := by
  obtain ⟨m, hm⟩ : ∃ m, d2.secs.length = m := ⟨_, rfl⟩
  have HC : Hid (S.cnt m ahead = m - 2) := cnt_ahead m (by omega)
  have f2 : ∀ W, DiskAt B W b g d2 → Calls Tryz.prog 25 #[.pointer (some ⟨b, 0, none⟩)] W fun e w' => e = .returned (.int .i64 (m : Nat)) ∧ w' = W := fun W k => by have := D.sectors_walk k; rw [hm] at this; exact this
  have HM : Hid (d2.secs.length = m) := hm
  rw [hm] at h2 h64
  have f3 := new_two m h2 h64
  clear hm
  go_enter Tryz.func15, Tryz.ntmps15
  go_wp2_with (first
    | (go_at_call 33; (with_reducible refine f1.mono ?_); rintro e w1 ⟨rfl, D1, O1⟩; have K2 : D.Kept w1 (w1.alloc (.cells #[.int .u64 (x : Nat), .int .i64 r] 52)) := (D.Kept.refl w1).alloc _; have D2 := K2.dk D1; have Y2 := P.Sp.alloc w1 x r)
    | (go_at_call 25; (with_reducible refine (f2 _ D2).mono ?_); rintro e w' ⟨rfl, rfl⟩)
    | (go_at_call 34; (with_reducible refine (f3 _).mono ?_); rintro e w3 ⟨bk, rfl, s3, K3⟩; have K30 := K2.trans K3; have Y3 : P.Sp w3 w1.heap.size x r := ⟨K3.block Y2.out⟩))
  refine wp_loop_rounds 3 ?_
  rw [rounds_succ]
  have u1 : Calls Tryz.prog 28 #[.pointer (some ⟨bk, 0, none⟩), .int .i64 0] w3 _ := S.use_new s3 K3.size 0 (by omega) rfl (by omega)
  go_wp2_with (go_at_call 28; (with_reducible refine u1.mono ?_); rintro e w4 ⟨rfl, s4, o4⟩; have K4 : D.Kept w1 w4 := ⟨K30.out.trans (o4.below.mono K2.size)⟩; have Y4 : P.Sp w4 w1.heap.size x r := ⟨(o4.below.block w1.heap.size (by simp)).trans Y3.out⟩; have u2 : Calls Tryz.prog 28 #[.pointer (some ⟨bk, 0, none⟩), .int .i64 1] w4 _ := S.use_new s4 (Nat.le_trans K3.size o4.size) 1 (by omega) (by simp [S.useAt]) (by omega))
  rw [rounds_succ]
  go_wp2_with (go_at_call 28; (with_reducible refine u2.mono ?_); rintro e w5 ⟨rfl, s5, o5⟩; have K5 : D.Kept w1 w5 := ⟨K4.out.trans (o5.below.mono K2.size)⟩; have Y5 : P.Sp w5 w1.heap.size x r := ⟨(o5.below.block w1.heap.size (by simp)).trans Y4.out⟩)
  rw [rounds_succ]
  have hs5 : S.SAt (w1.alloc (.cells #[.int .u64 (x : Nat), .int .i64 r] 52)).heap.size w5 bk m (m - 1 - 1) ahead := s5
  obtain ⟨gk, a5, hgk, hbk⟩ := S.SAt.toSA hs5 (by simp [ahead, S.useAt]) h64
  rw [show m - 1 - 1 = S.cnt m ahead by have := HC.out; omega] at a5
  have cp : ∀ W, D.Kept w5 W → Calls Tryz.prog 32 #[.pointer (some ⟨bk, 0, none⟩)] W fun e w' => ∃ b' g', e = .returned (.pointer (some ⟨b', 0, none⟩)) ∧ S.SA w' b' g' m (S.cnt m ahead) ahead ∧ W.heap.size ≤ b' ∧ W.heap.size ≤ g' ∧ D.Kept W w' := fun W hW => (S.copy_one (a5.kept ⟨hW.out⟩)).mono (by rintro e w' ⟨b', g', rfl, h1, h2, h3, h4⟩; exact ⟨b', g', rfl, h1, h2, h3, ⟨h4.out⟩⟩)
  obtain ⟨y0, y1⟩ := Y5.cs
  have tok : Hid True := trivial
  have hO5 : On B w w5 := (On.ofD O1).kept K5 hB
  have hB5 : B ≤ w5.heap.size := Nat.le_trans hB hO5.size
  have hBw : B ≤ (w1.alloc (.cells #[.int .u64 (x : Nat), .int .i64 r] 52)).heap.size := Nat.le_trans (Nat.le_trans hB O1.size) K2.size
  have hbk2 : B ≤ bk := Nat.le_trans hBw hbk
  have hgk2 : B ≤ gk := Nat.le_trans hBw hgk
  clear hBw
  have mk : ∀ W : World, (Instr.makeMap 66 none).run Tryz.prog W = .ok (.map (some W.heap.size)) (W.alloc (.map #[] 0)) := fun W => rfl
  clear u1 u2 s3 s4 s5 hs5 o4 o5 K3 K4 K30 Y2 Y3 Y4 f1 f2 f3
  go_wp2
  go_region_held3 (fun W => W.cell? ⟨w1.heap.size, 0, none⟩ = some (.int .u64 (x : Nat)) ∧ W.cell? ⟨w1.heap.size, 1, none⟩ = some (.int .i64 r)) (go_keep) (first
    | (go_at_call 32; clear tok; (with_reducible refine (cp _ (by repeat' first | exact D.Kept.refl _ | refine D.Kept.alloc ?_ _ | refine D.Kept.drew ?_)).mono ?_); rintro e v1 ⟨b1, g1, rfl, s1, l1, l1', q1⟩; have kv1 : D.Kept w5 v1 := D.Kept.trans (by repeat' first | exact D.Kept.refl _ | refine D.Kept.alloc ?_ _ | refine D.Kept.drew ?_) q1; obtain ⟨y10, y11⟩ := (P.Sp.cs ⟨kv1.block Y5.out⟩ : v1.cell? ⟨w1.heap.size, 0, none⟩ = some (.int .u64 (x : Nat)) ∧ _))
    | (go_at_call 32; (with_reducible refine (cp _ (by repeat' first | exact kv1 | refine D.Kept.alloc ?_ _ | refine D.Kept.drew ?_)).mono ?_); rintro e v2 ⟨b2, g2, rfl, s2, l2, l2', q2⟩; have kv2 : D.Kept w5 v2 := D.Kept.trans (by repeat' first | exact kv1 | refine D.Kept.alloc ?_ _ | refine D.Kept.drew ?_) q2; obtain ⟨y20, y21⟩ := (P.Sp.cs ⟨kv2.block Y5.out⟩ : v2.cell? ⟨w1.heap.size, 0, none⟩ = some (.int .u64 (x : Nat)) ∧ _)))
  all_goals go_wp2
  all_goals go_ret2
  all_goals
    have z1 := q1.size
    have z2 := q2.size
    simp at z1 z2
    refine ⟨_, rfl, open_end (w5 := w5) (v1 := v1) (v2 := v2) (d2 := d2) (D.Kept.dk (D.Kept.trans K5 (by (repeat' first | exact D.Kept.refl _ | exact kv2 | exact kv1 | refine D.Kept.trans ?_ q2 | refine D.Kept.trans ?_ q1 | refine D.Kept.alloc ?_ _ | refine D.Kept.drew ?_))) D1) (by rw [HM.out]; exact a5) (by rw [HM.out]; exact s1) (by rw [HM.out]; exact s2) (by (repeat' first | exact D.Kept.refl _ | exact kv2 | exact kv1 | refine D.Kept.trans ?_ q2 | refine D.Kept.trans ?_ q1 | refine D.Kept.alloc ?_ _ | refine D.Kept.drew ?_)) (by (repeat' first | exact D.Kept.refl _ | exact kv2 | exact kv1 | refine D.Kept.trans ?_ q2 | refine D.Kept.trans ?_ q1 | refine D.Kept.alloc ?_ _ | refine D.Kept.drew ?_)) (by (repeat' first | exact D.Kept.refl _ | exact kv2 | exact kv1 | refine D.Kept.trans ?_ q2 | refine D.Kept.trans ?_ q1 | refine D.Kept.alloc ?_ _ | refine D.Kept.drew ?_)) (by first | (refine D.Kept.block (w := (v2).alloc (.map #[] 0)) ?_ (heap_alloc_new _ _); (repeat' first | exact D.Kept.refl _ | exact kv2 | exact kv1 | refine D.Kept.trans ?_ q2 | refine D.Kept.trans ?_ q1 | refine D.Kept.alloc ?_ _ | refine D.Kept.drew ?_); done) | (refine D.Kept.block (w := ((v2).alloc (.map #[] 0)).alloc (.map #[] 0)) ?_ (D.two_new _ _ _); (repeat' first | exact D.Kept.refl _ | exact kv2 | exact kv1 | refine D.Kept.trans ?_ q2 | refine D.Kept.trans ?_ q1 | refine D.Kept.alloc ?_ _ | refine D.Kept.drew ?_); done) | (refine D.Kept.block (w := (v1).alloc (.map #[] 0)) ?_ (heap_alloc_new _ _); (repeat' first | exact D.Kept.refl _ | exact kv2 | exact kv1 | refine D.Kept.trans ?_ q2 | refine D.Kept.trans ?_ q1 | refine D.Kept.alloc ?_ _ | refine D.Kept.drew ?_); done) | (refine D.Kept.block (w := ((v1).alloc (.map #[] 0)).alloc (.map #[] 0)) ?_ (D.two_new _ _ _); (repeat' first | exact D.Kept.refl _ | exact kv2 | exact kv1 | refine D.Kept.trans ?_ q2 | refine D.Kept.trans ?_ q1 | refine D.Kept.alloc ?_ _ | refine D.Kept.drew ?_); done) | (refine D.Kept.block (w := (w5).alloc (.map #[] 0)) ?_ (heap_alloc_new _ _); (repeat' first | exact D.Kept.refl _ | exact kv2 | exact kv1 | refine D.Kept.trans ?_ q2 | refine D.Kept.trans ?_ q1 | refine D.Kept.alloc ?_ _ | refine D.Kept.drew ?_); done) | (refine D.Kept.block (w := ((w5).alloc (.map #[] 0)).alloc (.map #[] 0)) ?_ (D.two_new _ _ _); (repeat' first | exact D.Kept.refl _ | exact kv2 | exact kv1 | refine D.Kept.trans ?_ q2 | refine D.Kept.trans ?_ q1 | refine D.Kept.alloc ?_ _ | refine D.Kept.drew ?_); done) | (refine D.Kept.block (w := (w5.drew).alloc (.map #[] 0)) ?_ (heap_alloc_new _ _); (repeat' first | exact D.Kept.refl _ | exact kv2 | exact kv1 | refine D.Kept.trans ?_ q2 | refine D.Kept.trans ?_ q1 | refine D.Kept.alloc ?_ _ | refine D.Kept.drew ?_); done) | (refine D.Kept.block (w := ((w5.drew).alloc (.map #[] 0)).alloc (.map #[] 0)) ?_ (D.two_new _ _ _); (repeat' first | exact D.Kept.refl _ | exact kv2 | exact kv1 | refine D.Kept.trans ?_ q2 | refine D.Kept.trans ?_ q1 | refine D.Kept.alloc ?_ _ | refine D.Kept.drew ?_); done)) (by first | (refine D.Kept.block (w := (v2).alloc (.map #[] 0)) ?_ (heap_alloc_new _ _); (repeat' first | exact D.Kept.refl _ | exact kv2 | exact kv1 | refine D.Kept.trans ?_ q2 | refine D.Kept.trans ?_ q1 | refine D.Kept.alloc ?_ _ | refine D.Kept.drew ?_); done) | (refine D.Kept.block (w := ((v2).alloc (.map #[] 0)).alloc (.map #[] 0)) ?_ (D.two_new _ _ _); (repeat' first | exact D.Kept.refl _ | exact kv2 | exact kv1 | refine D.Kept.trans ?_ q2 | refine D.Kept.trans ?_ q1 | refine D.Kept.alloc ?_ _ | refine D.Kept.drew ?_); done) | (refine D.Kept.block (w := (v1).alloc (.map #[] 0)) ?_ (heap_alloc_new _ _); (repeat' first | exact D.Kept.refl _ | exact kv2 | exact kv1 | refine D.Kept.trans ?_ q2 | refine D.Kept.trans ?_ q1 | refine D.Kept.alloc ?_ _ | refine D.Kept.drew ?_); done) | (refine D.Kept.block (w := ((v1).alloc (.map #[] 0)).alloc (.map #[] 0)) ?_ (D.two_new _ _ _); (repeat' first | exact D.Kept.refl _ | exact kv2 | exact kv1 | refine D.Kept.trans ?_ q2 | refine D.Kept.trans ?_ q1 | refine D.Kept.alloc ?_ _ | refine D.Kept.drew ?_); done) | (refine D.Kept.block (w := (w5).alloc (.map #[] 0)) ?_ (heap_alloc_new _ _); (repeat' first | exact D.Kept.refl _ | exact kv2 | exact kv1 | refine D.Kept.trans ?_ q2 | refine D.Kept.trans ?_ q1 | refine D.Kept.alloc ?_ _ | refine D.Kept.drew ?_); done) | (refine D.Kept.block (w := ((w5).alloc (.map #[] 0)).alloc (.map #[] 0)) ?_ (D.two_new _ _ _); (repeat' first | exact D.Kept.refl _ | exact kv2 | exact kv1 | refine D.Kept.trans ?_ q2 | refine D.Kept.trans ?_ q1 | refine D.Kept.alloc ?_ _ | refine D.Kept.drew ?_); done) | (refine D.Kept.block (w := (w5.drew).alloc (.map #[] 0)) ?_ (heap_alloc_new _ _); (repeat' first | exact D.Kept.refl _ | exact kv2 | exact kv1 | refine D.Kept.trans ?_ q2 | refine D.Kept.trans ?_ q1 | refine D.Kept.alloc ?_ _ | refine D.Kept.drew ?_); done) | (refine D.Kept.block (w := ((w5.drew).alloc (.map #[] 0)).alloc (.map #[] 0)) ?_ (D.two_new _ _ _); (repeat' first | exact D.Kept.refl _ | exact kv2 | exact kv1 | refine D.Kept.trans ?_ q2 | refine D.Kept.trans ?_ q1 | refine D.Kept.alloc ?_ _ | refine D.Kept.drew ?_); done)) (by omega) hbk2 hgk2 hB5 (by simp) (Nat.le_trans (by simp <;> omega) l1) (Nat.le_trans (by simp <;> omega) l1') (Nat.le_trans (by simp <;> omega) l2) (Nat.le_trans (by simp <;> omega) l2') (by omega) (by omega), hO5.kept (by repeat' first | exact D.Kept.refl _ | exact kv2 | refine D.Kept.alloc ?_ _ | refine D.Kept.drew ?_) hB⟩
end Go.Proofs.YthlhnjjofefgcaaGreatDoor.G
