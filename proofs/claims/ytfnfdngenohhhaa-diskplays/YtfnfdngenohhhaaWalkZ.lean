/- The walk of the reference's Write, whole. Conditions: Rok, no more than 900 writes that wait. -/
import Derived.Test.YtfnfdngenohhhaaWalkY
import Derived.Deep.AppendLies
namespace Go.Proofs.Ytfnfdngenohhhaa
open Go.ChangeShapes Go.WideShapes Go.ChangeAt Go.RowKit

theorem owns_shape {w : World} {base e size : Nat} {v : Value} {n : Nat} {xs : List Value} (h : w.ownsRow base e size v n xs) : ∃ p cap, v = .slice p n cap := by
  rcases h.2 with ⟨rfl, rfl⟩ | ⟨g, cap, cur, rfl, _⟩
  · exact ⟨_, _, rfl⟩
  · exact ⟨_, _, rfl⟩

theorem own_cast {w : World} {base e size : Nat} {v : Value} {n m : Nat} {xs ys : List Value} (h : w.ownsRow base e size v n xs) (hn : n = m) (hx : xs = ys) : w.ownsRow base e size v m ys := by
  subst hn hx; exact h

theorem two_cell (w : World) (x y : Value) (t : TypeId) : ∀ (j : Nat) (u : Value), [x, y][j]? = some u → (w.alloc (.cells #[x, y] t)).cell? ((⟨w.heap.size, 0, none⟩ : Addr).add j) = some u := by
  intro j u hj
  have hc := fun i => cell_of_row (w.alloc (.cells #[x, y] t)) w.heap.size i _ _ _ (heap_alloc_new w _)
  rw [Addr.add_lit, Nat.zero_add, hc j]
  match j, hj with
  | 0, hj => simpa using hj
  | 1, hj => simpa using hj

theorem two_one (n : Int) (s : ByteArray) : ∀ u ∈ [Value.int .i64 n, .string s], u.oneCell' = true := by
  intro u hu
  simp at hu
  rcases hu with rfl | rfl <;> rfl

/-- A write more waits. -/
theorem add_facts {B : Nat} {w V : World} {q : R} {pS pT pW pC : Option Addr} {cS cT cW cC : Nat}
    (m : V.heap[w.heap.size]? = some (.cells #[.slice pS q.S.length cS, .slice pT q.torn.length cT, .slice pW q.wait.length cW, .slice pC q.cuts.length cC, .int .i64 (q.acts : Nat), .int .i64 (q.all : Nat), .int .i64 (q.fails : Nat), .bool q.dead] 33))
    (r : RAt B V (.slice pS q.S.length cS) (.slice pT q.torn.length cT) (.slice pW q.wait.length cW) (.slice pC q.cuts.length cC) q) (z : V.heap[w.heap.size + 1]? = some (.cells Z8 33)) (k : Kept w V)
    (hB : B ≤ w.heap.size) (x : Wr) {base gg cap : Nat} (ho : V.ownsRow base 72 2 (.slice (some ⟨gg, 0, none⟩) (q.wait.length + 1) cap) (q.wait.length + 1) (wrCells q.wait ++ [.int .i64 (x.sec : Nat), .string x.bytes])) :
    (V.setCell ⟨w.heap.size, 2, none⟩ (.slice (some ⟨gg, 0, none⟩) (q.wait.length + 1) cap)).heap[w.heap.size]? = some (.cells ((q.add x).cells (.slice pS q.S.length cS) (.slice pT q.torn.length cT) (.slice (some ⟨gg, 0, none⟩) (q.wait.length + 1) cap) (.slice pC q.cuts.length cC)) 33) ∧
    RAt B (V.setCell ⟨w.heap.size, 2, none⟩ (.slice (some ⟨gg, 0, none⟩) (q.wait.length + 1) cap)) (.slice pS q.S.length cS) (.slice pT q.torn.length cT) (.slice (some ⟨gg, 0, none⟩) (q.wait.length + 1) cap) (.slice pC q.cuts.length cC) (q.add x) ∧
    FM B w (q.add x) (V.setCell ⟨w.heap.size, 2, none⟩ (.slice (some ⟨gg, 0, none⟩) (q.wait.length + 1) cap)) := by
  have og : Og B V (V.setCell ⟨w.heap.size, 2, none⟩ (.slice (some ⟨gg, 0, none⟩) (q.wait.length + 1) cap)) := Og.one m ((Below.refl B V).setCell hB _) (fun k hk => heap_setCell_other _ ⟨w.heap.size, 2, none⟩ k _ hk)
  have m2 : (V.setCell ⟨w.heap.size, 2, none⟩ (.slice (some ⟨gg, 0, none⟩) (q.wait.length + 1) cap)).heap[w.heap.size]? = some (.cells ((q.add x).cells (.slice pS q.S.length cS) (.slice pT q.torn.length cT) (.slice (some ⟨gg, 0, none⟩) (q.wait.length + 1) cap) (.slice pC q.cuts.length cC)) 33) := by
    rw [heap_setCell_same _ w.heap.size 2 _ _ _ m]; rfl
  have r2 : RAt B (V.setCell ⟨w.heap.size, 2, none⟩ (.slice (some ⟨gg, 0, none⟩) (q.wait.length + 1) cap)) (.slice pS q.S.length cS) (.slice pT q.torn.length cT) (.slice (some ⟨gg, 0, none⟩) (q.wait.length + 1) cap) (.slice pC q.cuts.length cC) (q.add x) := by
    refine ⟨r.S.og og, r.T.og og, ?_, r.C.og og⟩
    show RowAt B _ _ 2 (q.wait ++ [x]).length (wrCells (q.wait ++ [x]))
    rw [wrCells_snoc, List.length_append]
    exact RowAt.own (own_set ho m (by decide) _) calm72
  exact ⟨m2, r2, ⟨_, _, _, _, m2, r2⟩, (heap_setCell_other _ ⟨w.heap.size, 2, none⟩ _ _ (by show w.heap.size + 1 ≠ w.heap.size; omega)).trans z, k.setCell (Nat.le_refl _) _⟩

set_option maxHeartbeats 2000000 in
set_option maxRecDepth 100000 in
theorem rwrite_A {B : Nat} {w : World} {q : R} {pS pT pC : Option Addr} {cS cT cW cC : Nat} {ad : Addr} (hr : RAt B w (.slice pS q.S.length cS) (.slice pT q.torn.length cT) (.slice (some ad) q.wait.length cW) (.slice pC q.cuts.length cC) q)
    (hB : B ≤ w.heap.size) (ok : Rok q) (k : Nat) (s : ByteArray) (hd : q.dead = false) (hk : k < q.S.length) (hs : s.size ≤ 256) (hw9 : q.wait.length ≤ 900) (ha : (q.add ⟨k, whole s⟩).act.2 = true) :
    Calls Try.prog 14 #[.agg (q.cells (.slice pS q.S.length cS) (.slice pT q.torn.length cT) (.slice (some ad) q.wait.length cW) (.slice pC q.cuts.length cC)), .int .i64 (k : Nat), .string s] w fun e w' => ∃ v', e = .returned (.tuple #[v', .int .i64 40]) ∧ RVal B w' v' (q.add ⟨k, whole s⟩).act.1 ∧ Kept w w' := by
  obtain ⟨i7, hi, hz0, hz1, hz2⟩ := info_parts info72
  have F0 := FM.start hr hB
  unfold R.cells at F0 ⊢
  rw [hd] at F0 ⊢
  have n1 : ¬ ((k : Int) < 0) := by omega
  have n2 : decide ((q.S.length : Int) ≤ (k : Int)) = false := by simp; omega
  have n3 : ¬ (256 : Int) < (s.size : Int) := by omega
  have hz28 : ∀ W, Calls Try.prog 28 #[.int .i64 (256 - (s.size : Int))] W fun e w' => e = .returned (.string (noughts (256 - s.size))) ∧ Kept W w' := by
    intro W
    have := zeros_walk (256 - s.size) (by omega) W
    rwa [show ((256 - s.size : Nat) : Int) = 256 - (s.size : Int) by omega] at this
  have hnz : (noughts (256 - s.size)).size = 256 - s.size := by show (Array.replicate (256 - s.size) 0).size = _; rw [Array.size_replicate]
  have hcat := add_noughts s
  have hn9 : ¬ 9223372036854775807 < s.size + (noughts (256 - s.size)).size := by omega
  generalize noughts (256 - s.size) = NZ at *
  obtain ⟨x, hx⟩ : ∃ x : Wr, x = ⟨k, whole s⟩ := ⟨_, rfl⟩
  have hxs : x.sec = k := by rw [hx]
  have hxb : x.bytes = whole s := by rw [hx]
  rw [← hx] at ha ⊢
  have hok : Rok (q.add x) := by
    refine ⟨ok.torn, ok.many, ?_, ?_, ok.acts, ok.all, ok.fails⟩
    · intro y hy
      simp only [R.add, List.mem_append, List.mem_singleton] at hy
      rcases hy with hy | rfl
      · exact ok.secs y hy
      · rw [hxs]; exact hk
    · show (q.wait ++ [x]).length ≤ 1000
      simp; omega
  generalize whole s = ws at *
  have K0s : (((w.alloc (.cells #[.slice pS q.S.length cS, .slice pT q.torn.length cT, .slice (some ad) q.wait.length cW, .slice pC q.cuts.length cC, .int .i64 (q.acts : Nat), .int .i64 (q.all : Nat), .int .i64 (q.fails : Nat), .bool false] 33)).alloc (.cells Z8 33))).heap.size = w.heap.size + 1 + 1 := by simp
  have EO : ((((w.alloc (.cells #[.slice pS q.S.length cS, .slice pT q.torn.length cT, .slice (some ad) q.wait.length cW, .slice pC q.cuts.length cC, .int .i64 (q.acts : Nat), .int .i64 (q.all : Nat), .int .i64 (q.fails : Nat), .bool false] 33)).alloc (.cells Z8 33))).alloc (.cells #[] 72)).ownsRow (w.heap.size + 1 + 1) 72 2 (.slice (some ⟨w.heap.size + 1 + 1, 0, none⟩) 0 0) 0 [] := by
    have := own_empty (w := (((w.alloc (.cells #[.slice pS q.S.length cS, .slice pT q.torn.length cT, .slice (some ad) q.wait.length cW, .slice pC q.cuts.length cC, .int .i64 (q.acts : Nat), .int .i64 (q.all : Nat), .int .i64 (q.fails : Nat), .bool false] 33)).alloc (.cells Z8 33))).alloc (.cells #[] 72)) (g := (((w.alloc (.cells #[.slice pS q.S.length cS, .slice pT q.torn.length cT, .slice (some ad) q.wait.length cW, .slice pC q.cuts.length cC, .int .i64 (q.acts : Nat), .int .i64 (q.all : Nat), .int .i64 (q.fails : Nat), .bool false] 33)).alloc (.cells Z8 33))).heap.size) (e := 72) (size := 2) (base := w.heap.size + 1 + 1) (heap_alloc_new _ _) (by omega)
    rwa [K0s] at this
  have HN : ∀ j u, (wrCells q.wait)[j]? = some u → ((((w.alloc (.cells #[.slice pS q.S.length cS, .slice pT q.torn.length cT, .slice (some ad) q.wait.length cW, .slice pC q.cuts.length cC, .int .i64 (q.acts : Nat), .int .i64 (q.all : Nat), .int .i64 (q.fails : Nat), .bool false] 33)).alloc (.cells Z8 33))).alloc (.cells #[] 72)).cell? (ad.add j) = some u := by
    intro j u hu
    obtain ⟨p', c', ev, _, _, _, hcw⟩ := hr.W.out
    injection ev with e1 e2 e3
    have hpos : 0 < q.wait.length := by
      apply Nat.pos_of_ne_zero
      intro h0
      rw [List.eq_nil_of_length_eq_zero h0] at hu
      simp [wrCells] at hu
    obtain ⟨b, off, hp, hsr, hc⟩ := hcw hpos
    rw [← e1] at hp
    injection hp with hp
    subst hp
    rw [Addr.add_lit, ((F0.k.alloc _).og hB).srCell hsr]
    exact hc j u hu
  have wl1 : (wrCells q.wait).length = q.wait.length * 2 := wrCells_length _
  have wone := wr_one q.wait
  have h63 : 0 + q.wait.length ≤ maxLen := by unfold maxLen; omega
  have h63b : q.wait.length + 1 ≤ maxLen := by unfold maxLen; omega
  have hby : (0 + q.wait.length) * 24 ≤ 140737488355328 := by omega
  have hbyb : (q.wait.length + 1) * 24 ≤ 140737488355328 := by omega
  have HF0 : Hid (FM B w q (((w.alloc (.cells #[.slice pS q.S.length cS, .slice pT q.torn.length cT, .slice (some ad) q.wait.length cW, .slice pC q.cuts.length cC, .int .i64 (q.acts : Nat), .int .i64 (q.all : Nat), .int .i64 (q.fails : Nat), .bool false] 33)).alloc (.cells Z8 33)))) := F0
  have HK0 : Hid ((((w.alloc (.cells #[.slice pS q.S.length cS, .slice pT q.torn.length cT, .slice (some ad) q.wait.length cW, .slice pC q.cuts.length cC, .int .i64 (q.acts : Nat), .int .i64 (q.all : Nat), .int .i64 (q.fails : Nat), .bool false] 33)).alloc (.cells Z8 33))).heap.size = w.heap.size + 1 + 1) := K0s
  clear F0 hr ok K0s
  have HO : Hid (Rok (q.add x)) := hok
  have HA : Hid ((q.add x).act.2 = true) := ha
  clear hok ha hx
  go_enter Try.func14, Try.ntmps14
  go_wp2_with (first
    | (at_builtin; refine wpList_append_own _ rfl _ _ 30 rfl (w.heap.size + 1 + 1) 72 i7 _ 2 24 Try.underlying30 hi hz0 hz1 hz2 rfl (by decide) (.slice (some ⟨w.heap.size + 1 + 1, 0, none⟩) 0 0) 0 [] rfl EO ad q.wait.length cW (wrCells q.wait) rfl wl1 HN wone h63 hby (by simp) ?_
       intro va w1 o1 g1 _
       rw [Nat.zero_add, List.nil_append] at o1
       have K1 : Kept (((w.alloc (.cells #[.slice pS q.S.length cS, .slice pT q.torn.length cT, .slice (some ad) q.wait.length cW, .slice pC q.cuts.length cC, .int .i64 (q.acts : Nat), .int .i64 (q.all : Nat), .int .i64 (q.fails : Nat), .bool false] 33)).alloc (.cells Z8 33))) w1 := grow_kept ((Kept.refl _).alloc _) g1 (Nat.le_of_eq HK0.out)
       obtain ⟨pv, cv, rfl⟩ := owns_shape o1)
    | (go_at_call 28; (with_reducible refine (hz28 _).mono ?_); rintro e w2 ⟨rfl, k2⟩; have K2 := K1.trans k2; have o2 := own_kept ((Kept.refl w2).alloc (.cells #[.int .i64 (k : Nat), .string ws] 72)) (own_kept k2 o1))
    | (at_builtin; refine wpList_append_lies _ rfl _ _ 30 rfl (w.heap.size + 1 + 1) 72 i7 _ 2 24 Try.underlying30 hi hz0 hz1 hz2 rfl (by decide) _ q.wait.length (wrCells q.wait) rfl o2 ⟨w2.heap.size, 0, none⟩ 1 1 [.int .i64 (k : Nat), .string ws] rfl rfl (two_cell w2 _ _ 72) (two_one _ _) (by omega) h63b hbyb (Nat.le_trans (Nat.le_of_eq HK0.out.symm) (K2.alloc _).size) _ rfl ?_
       intro gg cap w3 o3 g3 _ _
       have K3 : Kept (((w.alloc (.cells #[.slice pS q.S.length cS, .slice pT q.torn.length cT, .slice (some ad) q.wait.length cW, .slice pC q.cuts.length cC, .int .i64 (q.acts : Nat), .int .i64 (q.all : Nat), .int .i64 (q.fails : Nat), .bool false] 33)).alloc (.cells Z8 33))) w3 := ⟨(K2.alloc _).out.grown g3 (K2.alloc _).size (fun b e => (by have := (o2.lt b e).1; have := HK0.out; omega))⟩
       have F3 := HF0.out.kept K3 hB
       obtain ⟨pS3, cS3, pT3, cT3, pW3, cW3, pC3, cC3, m3, r3⟩ := F3.facts
       obtain ⟨e0, e1, e2, e3, e4, e5, e6, e7⟩ := cells8 m3
       obtain ⟨f0, f1, f2, f3, f4, f5, f6, f7⟩ := frozen8 m3
       obtain ⟨m4, r4, F4⟩ := add_facts m3 r3 F3.z F3.k hB x (by rw [hxs, hxb]; exact o3)
       have hact := ract_walk ⟨_, _, _, _, rfl, r4⟩ (Nat.le_trans hB F4.k.size) HO.out
       have hact : Calls Try.prog 27 #[.agg #[.slice pS3 q.S.length cS3, .slice pT3 q.torn.length cT3, .slice (some ⟨gg, 0, none⟩) (q.wait.length + 1) cap, .slice pC3 q.cuts.length cC3, .int .i64 (q.acts : Nat), .int .i64 (q.all : Nat), .int .i64 (q.fails : Nat), .bool q.dead]] (w3.setCell ⟨w.heap.size, 2, none⟩ (.slice (some ⟨gg, 0, none⟩) (q.wait.length + 1) cap)) _ := hact
       rw [HA.out] at hact
       rw [hd] at hact
       obtain ⟨q2, hq2⟩ : ∃ q2, (q.add x).act.1 = q2 := ⟨_, rfl⟩
       rw [hq2] at hact
       have HQ2 : Hid ((q.add x).act.1 = q2) := hq2
       clear hq2 m3 r3 F3 o3 g3 m4 r4)
    | (go_at_call 27; (with_reducible refine hact.mono ?_); rintro e v1 ⟨v', rfl, hv', kv⟩; obtain ⟨a1, b1, c1', d1, rfl, hr2⟩ := hv'.out; obtain ⟨pS2, cS2, pT2, cT2, pW2, cW2, pC2, cC2, rfl, rfl, rfl, rfl⟩ := hr2.slices; unfold R.cells; have F1 := F4.kept kv hB; obtain ⟨_, _, _, _, _, _, _, _, m1, _⟩ := F1.facts; obtain ⟨e0, e1, e2, e3, e4, e5, e6, e7⟩ := cells8 m1; obtain ⟨f0, f1, f2, f3, f4, f5, f6, f7⟩ := frozen8 m1; obtain ⟨z0, z1, z2, z3, z4, z5, z6, z7⟩ := cells8 F1.z; obtain ⟨y0, y1, y2, y3, y4, y5, y6, y7⟩ := frozen8 F1.z; have HB : Hid (_ ∧ _ ∧ _ ∧ _) := ⟨(both m1 F1.z hB F1.k (.slice pS2 q2.S.length cS2) (.slice pT2 q2.torn.length cT2) (.slice pW2 q2.wait.length cW2) (.slice pC2 q2.cuts.length cC2) (.int .i64 (q2.acts : Nat)) (.int .i64 (q2.all : Nat)) (.int .i64 (q2.fails : Nat)) (.bool q2.dead)).1, (both m1 F1.z hB F1.k (.slice pS2 q2.S.length cS2) (.slice pT2 q2.torn.length cT2) (.slice pW2 q2.wait.length cW2) (.slice pC2 q2.cuts.length cC2) (.int .i64 (q2.acts : Nat)) (.int .i64 (q2.all : Nat)) (.int .i64 (q2.fails : Nat)) (.bool q2.dead)).2.1, (both m1 F1.z hB F1.k (.slice pS2 q2.S.length cS2) (.slice pT2 q2.torn.length cT2) (.slice pW2 q2.wait.length cW2) (.slice pC2 q2.cuts.length cC2) (.int .i64 (q2.acts : Nat)) (.int .i64 (q2.all : Nat)) (.int .i64 (q2.fails : Nat)) (.bool q2.dead)).2.2, hr2⟩; clear F1 m1 hr2))
  obtain ⟨hfin, og, k2, hr2⟩ := HB.out
  clear HB
  have hr3 := hr2.og og
  rw [HQ2.out]
  generalize ((((((((((((((((v1.setCell ⟨w.heap.size, 0, none⟩ (.slice pS2 q2.S.length cS2)).setCell ⟨w.heap.size, 1, none⟩ (.slice pT2 q2.torn.length cT2)).setCell ⟨w.heap.size, 2, none⟩ (.slice pW2 q2.wait.length cW2)).setCell ⟨w.heap.size, 3, none⟩ (.slice pC2 q2.cuts.length cC2)).setCell ⟨w.heap.size, 4, none⟩ (.int .i64 (q2.acts : Nat))).setCell ⟨w.heap.size, 5, none⟩ (.int .i64 (q2.all : Nat))).setCell ⟨w.heap.size, 6, none⟩ (.int .i64 (q2.fails : Nat))).setCell ⟨w.heap.size, 7, none⟩ (.bool q2.dead)).setCell ⟨w.heap.size + 1, 0, none⟩ (.slice pS2 q2.S.length cS2)).setCell ⟨w.heap.size + 1, 1, none⟩ (.slice pT2 q2.torn.length cT2)).setCell ⟨w.heap.size + 1, 2, none⟩ (.slice pW2 q2.wait.length cW2)).setCell ⟨w.heap.size + 1, 3, none⟩ (.slice pC2 q2.cuts.length cC2)).setCell ⟨w.heap.size + 1, 4, none⟩ (.int .i64 (q2.acts : Nat))).setCell ⟨w.heap.size + 1, 5, none⟩ (.int .i64 (q2.all : Nat))).setCell ⟨w.heap.size + 1, 6, none⟩ (.int .i64 (q2.fails : Nat))).setCell ⟨w.heap.size + 1, 7, none⟩ (.bool q2.dead)) = WF at *
  refine bodyPost_ret (v := .tuple #[.agg (R.cells q2 (.slice pS2 q2.S.length cS2) (.slice pT2 q2.torn.length cT2) (.slice pW2 q2.wait.length cW2) (.slice pC2 q2.cuts.length cC2)), .int .i64 40]) ?_ rfl ⟨_, rfl, ⟨_, _, _, _, rfl, hr3⟩, k2⟩
  exact results_two (p := 6) (u := 7) (ty := 33) rfl _ _ (w.heap.size + 1) 33 _ (0, 0) _ rfl hfin Try.underlying33 rfl size33

set_option maxHeartbeats 2000000 in
set_option maxRecDepth 100000 in
theorem rwrite_B {B : Nat} {w : World} {q : R} {pS pT pC : Option Addr} {cS cT cW cC : Nat} {ad : Addr} (hr : RAt B w (.slice pS q.S.length cS) (.slice pT q.torn.length cT) (.slice (some ad) q.wait.length cW) (.slice pC q.cuts.length cC) q)
    (hB : B ≤ w.heap.size) (ok : Rok q) (k : Nat) (s : ByteArray) (hd : q.dead = false) (hk : k < q.S.length) (hs : s.size ≤ 256) (hw9 : q.wait.length ≤ 900) (ha : (q.add ⟨k, whole s⟩).act.2 = false) :
    Calls Try.prog 14 #[.agg (q.cells (.slice pS q.S.length cS) (.slice pT q.torn.length cT) (.slice (some ad) q.wait.length cW) (.slice pC q.cuts.length cC)), .int .i64 (k : Nat), .string s] w fun e w' => ∃ v', e = .returned (.tuple #[v', .int .i64 0]) ∧ RVal B w' v' (q.add ⟨k, whole s⟩).act.1 ∧ Kept w w' := by
  obtain ⟨i7, hi, hz0, hz1, hz2⟩ := info_parts info72
  have F0 := FM.start hr hB
  unfold R.cells at F0 ⊢
  rw [hd] at F0 ⊢
  have n1 : ¬ ((k : Int) < 0) := by omega
  have n2 : decide ((q.S.length : Int) ≤ (k : Int)) = false := by simp; omega
  have n3 : ¬ (256 : Int) < (s.size : Int) := by omega
  have hz28 : ∀ W, Calls Try.prog 28 #[.int .i64 (256 - (s.size : Int))] W fun e w' => e = .returned (.string (noughts (256 - s.size))) ∧ Kept W w' := by
    intro W
    have := zeros_walk (256 - s.size) (by omega) W
    rwa [show ((256 - s.size : Nat) : Int) = 256 - (s.size : Int) by omega] at this
  have hnz : (noughts (256 - s.size)).size = 256 - s.size := by show (Array.replicate (256 - s.size) 0).size = _; rw [Array.size_replicate]
  have hcat := add_noughts s
  have hn9 : ¬ 9223372036854775807 < s.size + (noughts (256 - s.size)).size := by omega
  generalize noughts (256 - s.size) = NZ at *
  obtain ⟨x, hx⟩ : ∃ x : Wr, x = ⟨k, whole s⟩ := ⟨_, rfl⟩
  have hxs : x.sec = k := by rw [hx]
  have hxb : x.bytes = whole s := by rw [hx]
  rw [← hx] at ha ⊢
  have hok : Rok (q.add x) := by
    refine ⟨ok.torn, ok.many, ?_, ?_, ok.acts, ok.all, ok.fails⟩
    · intro y hy
      simp only [R.add, List.mem_append, List.mem_singleton] at hy
      rcases hy with hy | rfl
      · exact ok.secs y hy
      · rw [hxs]; exact hk
    · show (q.wait ++ [x]).length ≤ 1000
      simp; omega
  generalize whole s = ws at *
  have K0s : (((w.alloc (.cells #[.slice pS q.S.length cS, .slice pT q.torn.length cT, .slice (some ad) q.wait.length cW, .slice pC q.cuts.length cC, .int .i64 (q.acts : Nat), .int .i64 (q.all : Nat), .int .i64 (q.fails : Nat), .bool false] 33)).alloc (.cells Z8 33))).heap.size = w.heap.size + 1 + 1 := by simp
  have EO : ((((w.alloc (.cells #[.slice pS q.S.length cS, .slice pT q.torn.length cT, .slice (some ad) q.wait.length cW, .slice pC q.cuts.length cC, .int .i64 (q.acts : Nat), .int .i64 (q.all : Nat), .int .i64 (q.fails : Nat), .bool false] 33)).alloc (.cells Z8 33))).alloc (.cells #[] 72)).ownsRow (w.heap.size + 1 + 1) 72 2 (.slice (some ⟨w.heap.size + 1 + 1, 0, none⟩) 0 0) 0 [] := by
    have := own_empty (w := (((w.alloc (.cells #[.slice pS q.S.length cS, .slice pT q.torn.length cT, .slice (some ad) q.wait.length cW, .slice pC q.cuts.length cC, .int .i64 (q.acts : Nat), .int .i64 (q.all : Nat), .int .i64 (q.fails : Nat), .bool false] 33)).alloc (.cells Z8 33))).alloc (.cells #[] 72)) (g := (((w.alloc (.cells #[.slice pS q.S.length cS, .slice pT q.torn.length cT, .slice (some ad) q.wait.length cW, .slice pC q.cuts.length cC, .int .i64 (q.acts : Nat), .int .i64 (q.all : Nat), .int .i64 (q.fails : Nat), .bool false] 33)).alloc (.cells Z8 33))).heap.size) (e := 72) (size := 2) (base := w.heap.size + 1 + 1) (heap_alloc_new _ _) (by omega)
    rwa [K0s] at this
  have HN : ∀ j u, (wrCells q.wait)[j]? = some u → ((((w.alloc (.cells #[.slice pS q.S.length cS, .slice pT q.torn.length cT, .slice (some ad) q.wait.length cW, .slice pC q.cuts.length cC, .int .i64 (q.acts : Nat), .int .i64 (q.all : Nat), .int .i64 (q.fails : Nat), .bool false] 33)).alloc (.cells Z8 33))).alloc (.cells #[] 72)).cell? (ad.add j) = some u := by
    intro j u hu
    obtain ⟨p', c', ev, _, _, _, hcw⟩ := hr.W.out
    injection ev with e1 e2 e3
    have hpos : 0 < q.wait.length := by
      apply Nat.pos_of_ne_zero
      intro h0
      rw [List.eq_nil_of_length_eq_zero h0] at hu
      simp [wrCells] at hu
    obtain ⟨b, off, hp, hsr, hc⟩ := hcw hpos
    rw [← e1] at hp
    injection hp with hp
    subst hp
    rw [Addr.add_lit, ((F0.k.alloc _).og hB).srCell hsr]
    exact hc j u hu
  have wl1 : (wrCells q.wait).length = q.wait.length * 2 := wrCells_length _
  have wone := wr_one q.wait
  have h63 : 0 + q.wait.length ≤ maxLen := by unfold maxLen; omega
  have h63b : q.wait.length + 1 ≤ maxLen := by unfold maxLen; omega
  have hby : (0 + q.wait.length) * 24 ≤ 140737488355328 := by omega
  have hbyb : (q.wait.length + 1) * 24 ≤ 140737488355328 := by omega
  have HF0 : Hid (FM B w q (((w.alloc (.cells #[.slice pS q.S.length cS, .slice pT q.torn.length cT, .slice (some ad) q.wait.length cW, .slice pC q.cuts.length cC, .int .i64 (q.acts : Nat), .int .i64 (q.all : Nat), .int .i64 (q.fails : Nat), .bool false] 33)).alloc (.cells Z8 33)))) := F0
  have HK0 : Hid ((((w.alloc (.cells #[.slice pS q.S.length cS, .slice pT q.torn.length cT, .slice (some ad) q.wait.length cW, .slice pC q.cuts.length cC, .int .i64 (q.acts : Nat), .int .i64 (q.all : Nat), .int .i64 (q.fails : Nat), .bool false] 33)).alloc (.cells Z8 33))).heap.size = w.heap.size + 1 + 1) := K0s
  clear F0 hr ok K0s
  have HO : Hid (Rok (q.add x)) := hok
  have HA : Hid ((q.add x).act.2 = false) := ha
  clear hok ha hx
  go_enter Try.func14, Try.ntmps14
  go_wp2_with (first
    | (at_builtin; refine wpList_append_own _ rfl _ _ 30 rfl (w.heap.size + 1 + 1) 72 i7 _ 2 24 Try.underlying30 hi hz0 hz1 hz2 rfl (by decide) (.slice (some ⟨w.heap.size + 1 + 1, 0, none⟩) 0 0) 0 [] rfl EO ad q.wait.length cW (wrCells q.wait) rfl wl1 HN wone h63 hby (by simp) ?_
       intro va w1 o1 g1 _
       rw [Nat.zero_add, List.nil_append] at o1
       have K1 : Kept (((w.alloc (.cells #[.slice pS q.S.length cS, .slice pT q.torn.length cT, .slice (some ad) q.wait.length cW, .slice pC q.cuts.length cC, .int .i64 (q.acts : Nat), .int .i64 (q.all : Nat), .int .i64 (q.fails : Nat), .bool false] 33)).alloc (.cells Z8 33))) w1 := grow_kept ((Kept.refl _).alloc _) g1 (Nat.le_of_eq HK0.out)
       obtain ⟨pv, cv, rfl⟩ := owns_shape o1)
    | (go_at_call 28; (with_reducible refine (hz28 _).mono ?_); rintro e w2 ⟨rfl, k2⟩; have K2 := K1.trans k2; have o2 := own_kept ((Kept.refl w2).alloc (.cells #[.int .i64 (k : Nat), .string ws] 72)) (own_kept k2 o1))
    | (at_builtin; refine wpList_append_lies _ rfl _ _ 30 rfl (w.heap.size + 1 + 1) 72 i7 _ 2 24 Try.underlying30 hi hz0 hz1 hz2 rfl (by decide) _ q.wait.length (wrCells q.wait) rfl o2 ⟨w2.heap.size, 0, none⟩ 1 1 [.int .i64 (k : Nat), .string ws] rfl rfl (two_cell w2 _ _ 72) (two_one _ _) (by omega) h63b hbyb (Nat.le_trans (Nat.le_of_eq HK0.out.symm) (K2.alloc _).size) _ rfl ?_
       intro gg cap w3 o3 g3 _ _
       have K3 : Kept (((w.alloc (.cells #[.slice pS q.S.length cS, .slice pT q.torn.length cT, .slice (some ad) q.wait.length cW, .slice pC q.cuts.length cC, .int .i64 (q.acts : Nat), .int .i64 (q.all : Nat), .int .i64 (q.fails : Nat), .bool false] 33)).alloc (.cells Z8 33))) w3 := ⟨(K2.alloc _).out.grown g3 (K2.alloc _).size (fun b e => (by have := (o2.lt b e).1; have := HK0.out; omega))⟩
       have F3 := HF0.out.kept K3 hB
       obtain ⟨pS3, cS3, pT3, cT3, pW3, cW3, pC3, cC3, m3, r3⟩ := F3.facts
       obtain ⟨e0, e1, e2, e3, e4, e5, e6, e7⟩ := cells8 m3
       obtain ⟨f0, f1, f2, f3, f4, f5, f6, f7⟩ := frozen8 m3
       obtain ⟨m4, r4, F4⟩ := add_facts m3 r3 F3.z F3.k hB x (by rw [hxs, hxb]; exact o3)
       have hact := ract_walk ⟨_, _, _, _, rfl, r4⟩ (Nat.le_trans hB F4.k.size) HO.out
       have hact : Calls Try.prog 27 #[.agg #[.slice pS3 q.S.length cS3, .slice pT3 q.torn.length cT3, .slice (some ⟨gg, 0, none⟩) (q.wait.length + 1) cap, .slice pC3 q.cuts.length cC3, .int .i64 (q.acts : Nat), .int .i64 (q.all : Nat), .int .i64 (q.fails : Nat), .bool q.dead]] (w3.setCell ⟨w.heap.size, 2, none⟩ (.slice (some ⟨gg, 0, none⟩) (q.wait.length + 1) cap)) _ := hact
       rw [HA.out] at hact
       rw [hd] at hact
       obtain ⟨q2, hq2⟩ : ∃ q2, (q.add x).act.1 = q2 := ⟨_, rfl⟩
       rw [hq2] at hact
       have HQ2 : Hid ((q.add x).act.1 = q2) := hq2
       clear hq2 m3 r3 F3 o3 g3 m4 r4)
    | (go_at_call 27; (with_reducible refine hact.mono ?_); rintro e v1 ⟨v', rfl, hv', kv⟩; obtain ⟨a1, b1, c1', d1, rfl, hr2⟩ := hv'.out; obtain ⟨pS2, cS2, pT2, cT2, pW2, cW2, pC2, cC2, rfl, rfl, rfl, rfl⟩ := hr2.slices; unfold R.cells; have F1 := F4.kept kv hB; obtain ⟨_, _, _, _, _, _, _, _, m1, _⟩ := F1.facts; obtain ⟨e0, e1, e2, e3, e4, e5, e6, e7⟩ := cells8 m1; obtain ⟨f0, f1, f2, f3, f4, f5, f6, f7⟩ := frozen8 m1; obtain ⟨z0, z1, z2, z3, z4, z5, z6, z7⟩ := cells8 F1.z; obtain ⟨y0, y1, y2, y3, y4, y5, y6, y7⟩ := frozen8 F1.z; have HB : Hid (_ ∧ _ ∧ _ ∧ _) := ⟨(both m1 F1.z hB F1.k (.slice pS2 q2.S.length cS2) (.slice pT2 q2.torn.length cT2) (.slice pW2 q2.wait.length cW2) (.slice pC2 q2.cuts.length cC2) (.int .i64 (q2.acts : Nat)) (.int .i64 (q2.all : Nat)) (.int .i64 (q2.fails : Nat)) (.bool q2.dead)).1, (both m1 F1.z hB F1.k (.slice pS2 q2.S.length cS2) (.slice pT2 q2.torn.length cT2) (.slice pW2 q2.wait.length cW2) (.slice pC2 q2.cuts.length cC2) (.int .i64 (q2.acts : Nat)) (.int .i64 (q2.all : Nat)) (.int .i64 (q2.fails : Nat)) (.bool q2.dead)).2.1, (both m1 F1.z hB F1.k (.slice pS2 q2.S.length cS2) (.slice pT2 q2.torn.length cT2) (.slice pW2 q2.wait.length cW2) (.slice pC2 q2.cuts.length cC2) (.int .i64 (q2.acts : Nat)) (.int .i64 (q2.all : Nat)) (.int .i64 (q2.fails : Nat)) (.bool q2.dead)).2.2, hr2⟩; clear F1 m1 hr2))
  obtain ⟨hfin, og, k2, hr2⟩ := HB.out
  clear HB
  have hr3 := hr2.og og
  rw [HQ2.out]
  generalize ((((((((((((((((v1.setCell ⟨w.heap.size, 0, none⟩ (.slice pS2 q2.S.length cS2)).setCell ⟨w.heap.size, 1, none⟩ (.slice pT2 q2.torn.length cT2)).setCell ⟨w.heap.size, 2, none⟩ (.slice pW2 q2.wait.length cW2)).setCell ⟨w.heap.size, 3, none⟩ (.slice pC2 q2.cuts.length cC2)).setCell ⟨w.heap.size, 4, none⟩ (.int .i64 (q2.acts : Nat))).setCell ⟨w.heap.size, 5, none⟩ (.int .i64 (q2.all : Nat))).setCell ⟨w.heap.size, 6, none⟩ (.int .i64 (q2.fails : Nat))).setCell ⟨w.heap.size, 7, none⟩ (.bool q2.dead)).setCell ⟨w.heap.size + 1, 0, none⟩ (.slice pS2 q2.S.length cS2)).setCell ⟨w.heap.size + 1, 1, none⟩ (.slice pT2 q2.torn.length cT2)).setCell ⟨w.heap.size + 1, 2, none⟩ (.slice pW2 q2.wait.length cW2)).setCell ⟨w.heap.size + 1, 3, none⟩ (.slice pC2 q2.cuts.length cC2)).setCell ⟨w.heap.size + 1, 4, none⟩ (.int .i64 (q2.acts : Nat))).setCell ⟨w.heap.size + 1, 5, none⟩ (.int .i64 (q2.all : Nat))).setCell ⟨w.heap.size + 1, 6, none⟩ (.int .i64 (q2.fails : Nat))).setCell ⟨w.heap.size + 1, 7, none⟩ (.bool q2.dead)) = WF at *
  refine bodyPost_ret (v := .tuple #[.agg (R.cells q2 (.slice pS2 q2.S.length cS2) (.slice pT2 q2.torn.length cT2) (.slice pW2 q2.wait.length cW2) (.slice pC2 q2.cuts.length cC2)), .int .i64 0]) ?_ rfl ⟨_, rfl, ⟨_, _, _, _, rfl, hr3⟩, k2⟩
  exact results_two (p := 6) (u := 7) (ty := 33) rfl _ _ (w.heap.size + 1) 33 _ (0, 0) _ rfl hfin Try.underlying33 rfl size33

set_option maxHeartbeats 2000000 in
set_option maxRecDepth 100000 in
theorem rwrite_C {B : Nat} {w : World} {q : R} {pS pT pC : Option Addr} {cS cT cW cC : Nat}  (hr : RAt B w (.slice pS q.S.length cS) (.slice pT q.torn.length cT) (.slice none q.wait.length cW) (.slice pC q.cuts.length cC) q)
    (hB : B ≤ w.heap.size) (ok : Rok q) (k : Nat) (s : ByteArray) (hd : q.dead = false) (hk : k < q.S.length) (hs : s.size ≤ 256) (hw9 : q.wait.length ≤ 900) (ha : (q.add ⟨k, whole s⟩).act.2 = true) :
    Calls Try.prog 14 #[.agg (q.cells (.slice pS q.S.length cS) (.slice pT q.torn.length cT) (.slice none q.wait.length cW) (.slice pC q.cuts.length cC)), .int .i64 (k : Nat), .string s] w fun e w' => ∃ v', e = .returned (.tuple #[v', .int .i64 40]) ∧ RVal B w' v' (q.add ⟨k, whole s⟩).act.1 ∧ Kept w w' := by
  obtain ⟨i7, hi, hz0, hz1, hz2⟩ := info_parts info72
  have F0 := FM.start hr hB
  unfold R.cells at F0 ⊢
  rw [hd] at F0 ⊢
  have n1 : ¬ ((k : Int) < 0) := by omega
  have n2 : decide ((q.S.length : Int) ≤ (k : Int)) = false := by simp; omega
  have n3 : ¬ (256 : Int) < (s.size : Int) := by omega
  have hz28 : ∀ W, Calls Try.prog 28 #[.int .i64 (256 - (s.size : Int))] W fun e w' => e = .returned (.string (noughts (256 - s.size))) ∧ Kept W w' := by
    intro W
    have := zeros_walk (256 - s.size) (by omega) W
    rwa [show ((256 - s.size : Nat) : Int) = 256 - (s.size : Int) by omega] at this
  have hnz : (noughts (256 - s.size)).size = 256 - s.size := by show (Array.replicate (256 - s.size) 0).size = _; rw [Array.size_replicate]
  have hcat := add_noughts s
  have hn9 : ¬ 9223372036854775807 < s.size + (noughts (256 - s.size)).size := by omega
  generalize noughts (256 - s.size) = NZ at *
  obtain ⟨x, hx⟩ : ∃ x : Wr, x = ⟨k, whole s⟩ := ⟨_, rfl⟩
  have hxs : x.sec = k := by rw [hx]
  have hxb : x.bytes = whole s := by rw [hx]
  rw [← hx] at ha ⊢
  have hok : Rok (q.add x) := by
    refine ⟨ok.torn, ok.many, ?_, ?_, ok.acts, ok.all, ok.fails⟩
    · intro y hy
      simp only [R.add, List.mem_append, List.mem_singleton] at hy
      rcases hy with hy | rfl
      · exact ok.secs y hy
      · rw [hxs]; exact hk
    · show (q.wait ++ [x]).length ≤ 1000
      simp; omega
  generalize whole s = ws at *
  have K0s : (((w.alloc (.cells #[.slice pS q.S.length cS, .slice pT q.torn.length cT, .slice none q.wait.length cW, .slice pC q.cuts.length cC, .int .i64 (q.acts : Nat), .int .i64 (q.all : Nat), .int .i64 (q.fails : Nat), .bool false] 33)).alloc (.cells Z8 33))).heap.size = w.heap.size + 1 + 1 := by simp
  have EO : ((((w.alloc (.cells #[.slice pS q.S.length cS, .slice pT q.torn.length cT, .slice none q.wait.length cW, .slice pC q.cuts.length cC, .int .i64 (q.acts : Nat), .int .i64 (q.all : Nat), .int .i64 (q.fails : Nat), .bool false] 33)).alloc (.cells Z8 33))).alloc (.cells #[] 72)).ownsRow (w.heap.size + 1 + 1) 72 2 (.slice (some ⟨w.heap.size + 1 + 1, 0, none⟩) 0 0) 0 [] := by
    have := own_empty (w := (((w.alloc (.cells #[.slice pS q.S.length cS, .slice pT q.torn.length cT, .slice none q.wait.length cW, .slice pC q.cuts.length cC, .int .i64 (q.acts : Nat), .int .i64 (q.all : Nat), .int .i64 (q.fails : Nat), .bool false] 33)).alloc (.cells Z8 33))).alloc (.cells #[] 72)) (g := (((w.alloc (.cells #[.slice pS q.S.length cS, .slice pT q.torn.length cT, .slice none q.wait.length cW, .slice pC q.cuts.length cC, .int .i64 (q.acts : Nat), .int .i64 (q.all : Nat), .int .i64 (q.fails : Nat), .bool false] 33)).alloc (.cells Z8 33))).heap.size) (e := 72) (size := 2) (base := w.heap.size + 1 + 1) (heap_alloc_new _ _) (by omega)
    rwa [K0s] at this
  have hnil : q.wait = [] := by
    obtain ⟨p', c', ev, _, _, _, hcw⟩ := hr.W.out
    injection ev with e1 _ _
    apply List.eq_nil_of_length_eq_zero
    apply Nat.eq_zero_of_not_pos
    intro hp
    obtain ⟨b, off, hp, _⟩ := hcw hp
    rw [← e1] at hp
    cases hp
  have HNIL : Hid (q.wait = []) := hnil
  clear hnil
  have wl1 : (wrCells q.wait).length = q.wait.length * 2 := wrCells_length _
  have wone := wr_one q.wait
  have h63 : 0 + q.wait.length ≤ maxLen := by unfold maxLen; omega
  have h63b : q.wait.length + 1 ≤ maxLen := by unfold maxLen; omega
  have hby : (0 + q.wait.length) * 24 ≤ 140737488355328 := by omega
  have hbyb : (q.wait.length + 1) * 24 ≤ 140737488355328 := by omega
  have HF0 : Hid (FM B w q (((w.alloc (.cells #[.slice pS q.S.length cS, .slice pT q.torn.length cT, .slice none q.wait.length cW, .slice pC q.cuts.length cC, .int .i64 (q.acts : Nat), .int .i64 (q.all : Nat), .int .i64 (q.fails : Nat), .bool false] 33)).alloc (.cells Z8 33)))) := F0
  have HK0 : Hid ((((w.alloc (.cells #[.slice pS q.S.length cS, .slice pT q.torn.length cT, .slice none q.wait.length cW, .slice pC q.cuts.length cC, .int .i64 (q.acts : Nat), .int .i64 (q.all : Nat), .int .i64 (q.fails : Nat), .bool false] 33)).alloc (.cells Z8 33))).heap.size = w.heap.size + 1 + 1) := K0s
  clear F0 hr ok K0s
  have HO : Hid (Rok (q.add x)) := hok
  have HA : Hid ((q.add x).act.2 = true) := ha
  clear hok ha hx
  go_enter Try.func14, Try.ntmps14
  go_wp2_with (first
    | (at_builtin; refine wpList_append_no rfl _ _ 30 rfl (w.heap.size + 1 + 1) 72 i7 2 Try.underlying30 hi (.slice (some ⟨w.heap.size + 1 + 1, 0, none⟩) 0 0) 0 [] rfl EO q.wait.length cW (by rw [HNIL.out]; rfl) rfl ?_
       have K1 : Kept (((w.alloc (.cells #[.slice pS q.S.length cS, .slice pT q.torn.length cT, .slice none q.wait.length cW, .slice pC q.cuts.length cC, .int .i64 (q.acts : Nat), .int .i64 (q.all : Nat), .int .i64 (q.fails : Nat), .bool false] 33)).alloc (.cells Z8 33))) ((((w.alloc (.cells #[.slice pS q.S.length cS, .slice pT q.torn.length cT, .slice none q.wait.length cW, .slice pC q.cuts.length cC, .int .i64 (q.acts : Nat), .int .i64 (q.all : Nat), .int .i64 (q.fails : Nat), .bool false] 33)).alloc (.cells Z8 33))).alloc (.cells #[] 72)) := (Kept.refl _).alloc _
       have o1 : ((((w.alloc (.cells #[.slice pS q.S.length cS, .slice pT q.torn.length cT, .slice none q.wait.length cW, .slice pC q.cuts.length cC, .int .i64 (q.acts : Nat), .int .i64 (q.all : Nat), .int .i64 (q.fails : Nat), .bool false] 33)).alloc (.cells Z8 33))).alloc (.cells #[] 72)).ownsRow (w.heap.size + 1 + 1) 72 2 (.slice (some ⟨w.heap.size + 1 + 1, 0, none⟩) 0 0) q.wait.length (wrCells q.wait) := own_cast EO (by rw [HNIL.out]; rfl) (by rw [HNIL.out]; rfl))
    | (go_at_call 28; (with_reducible refine (hz28 _).mono ?_); rintro e w2 ⟨rfl, k2⟩; have K2 := K1.trans k2; have o2 := own_kept ((Kept.refl w2).alloc (.cells #[.int .i64 (k : Nat), .string ws] 72)) (own_kept k2 o1))
    | (at_builtin; refine wpList_append_lies _ rfl _ _ 30 rfl (w.heap.size + 1 + 1) 72 i7 _ 2 24 Try.underlying30 hi hz0 hz1 hz2 rfl (by decide) _ q.wait.length (wrCells q.wait) rfl o2 ⟨w2.heap.size, 0, none⟩ 1 1 [.int .i64 (k : Nat), .string ws] rfl rfl (two_cell w2 _ _ 72) (two_one _ _) (by omega) h63b hbyb (Nat.le_trans (Nat.le_of_eq HK0.out.symm) (K2.alloc _).size) _ rfl ?_
       intro gg cap w3 o3 g3 _ _
       have K3 : Kept (((w.alloc (.cells #[.slice pS q.S.length cS, .slice pT q.torn.length cT, .slice none q.wait.length cW, .slice pC q.cuts.length cC, .int .i64 (q.acts : Nat), .int .i64 (q.all : Nat), .int .i64 (q.fails : Nat), .bool false] 33)).alloc (.cells Z8 33))) w3 := ⟨(K2.alloc _).out.grown g3 (K2.alloc _).size (fun b e => (by have := (o2.lt b e).1; have := HK0.out; omega))⟩
       have F3 := HF0.out.kept K3 hB
       obtain ⟨pS3, cS3, pT3, cT3, pW3, cW3, pC3, cC3, m3, r3⟩ := F3.facts
       obtain ⟨e0, e1, e2, e3, e4, e5, e6, e7⟩ := cells8 m3
       obtain ⟨f0, f1, f2, f3, f4, f5, f6, f7⟩ := frozen8 m3
       obtain ⟨m4, r4, F4⟩ := add_facts m3 r3 F3.z F3.k hB x (by rw [hxs, hxb]; exact o3)
       have hact := ract_walk ⟨_, _, _, _, rfl, r4⟩ (Nat.le_trans hB F4.k.size) HO.out
       have hact : Calls Try.prog 27 #[.agg #[.slice pS3 q.S.length cS3, .slice pT3 q.torn.length cT3, .slice (some ⟨gg, 0, none⟩) (q.wait.length + 1) cap, .slice pC3 q.cuts.length cC3, .int .i64 (q.acts : Nat), .int .i64 (q.all : Nat), .int .i64 (q.fails : Nat), .bool q.dead]] (w3.setCell ⟨w.heap.size, 2, none⟩ (.slice (some ⟨gg, 0, none⟩) (q.wait.length + 1) cap)) _ := hact
       rw [HA.out] at hact
       rw [hd] at hact
       obtain ⟨q2, hq2⟩ : ∃ q2, (q.add x).act.1 = q2 := ⟨_, rfl⟩
       rw [hq2] at hact
       have HQ2 : Hid ((q.add x).act.1 = q2) := hq2
       clear hq2 m3 r3 F3 o3 g3 m4 r4)
    | (go_at_call 27; (with_reducible refine hact.mono ?_); rintro e v1 ⟨v', rfl, hv', kv⟩; obtain ⟨a1, b1, c1', d1, rfl, hr2⟩ := hv'.out; obtain ⟨pS2, cS2, pT2, cT2, pW2, cW2, pC2, cC2, rfl, rfl, rfl, rfl⟩ := hr2.slices; unfold R.cells; have F1 := F4.kept kv hB; obtain ⟨_, _, _, _, _, _, _, _, m1, _⟩ := F1.facts; obtain ⟨e0, e1, e2, e3, e4, e5, e6, e7⟩ := cells8 m1; obtain ⟨f0, f1, f2, f3, f4, f5, f6, f7⟩ := frozen8 m1; obtain ⟨z0, z1, z2, z3, z4, z5, z6, z7⟩ := cells8 F1.z; obtain ⟨y0, y1, y2, y3, y4, y5, y6, y7⟩ := frozen8 F1.z; have HB : Hid (_ ∧ _ ∧ _ ∧ _) := ⟨(both m1 F1.z hB F1.k (.slice pS2 q2.S.length cS2) (.slice pT2 q2.torn.length cT2) (.slice pW2 q2.wait.length cW2) (.slice pC2 q2.cuts.length cC2) (.int .i64 (q2.acts : Nat)) (.int .i64 (q2.all : Nat)) (.int .i64 (q2.fails : Nat)) (.bool q2.dead)).1, (both m1 F1.z hB F1.k (.slice pS2 q2.S.length cS2) (.slice pT2 q2.torn.length cT2) (.slice pW2 q2.wait.length cW2) (.slice pC2 q2.cuts.length cC2) (.int .i64 (q2.acts : Nat)) (.int .i64 (q2.all : Nat)) (.int .i64 (q2.fails : Nat)) (.bool q2.dead)).2.1, (both m1 F1.z hB F1.k (.slice pS2 q2.S.length cS2) (.slice pT2 q2.torn.length cT2) (.slice pW2 q2.wait.length cW2) (.slice pC2 q2.cuts.length cC2) (.int .i64 (q2.acts : Nat)) (.int .i64 (q2.all : Nat)) (.int .i64 (q2.fails : Nat)) (.bool q2.dead)).2.2, hr2⟩; clear F1 m1 hr2))
  obtain ⟨hfin, og, k2, hr2⟩ := HB.out
  clear HB
  have hr3 := hr2.og og
  rw [HQ2.out]
  generalize ((((((((((((((((v1.setCell ⟨w.heap.size, 0, none⟩ (.slice pS2 q2.S.length cS2)).setCell ⟨w.heap.size, 1, none⟩ (.slice pT2 q2.torn.length cT2)).setCell ⟨w.heap.size, 2, none⟩ (.slice pW2 q2.wait.length cW2)).setCell ⟨w.heap.size, 3, none⟩ (.slice pC2 q2.cuts.length cC2)).setCell ⟨w.heap.size, 4, none⟩ (.int .i64 (q2.acts : Nat))).setCell ⟨w.heap.size, 5, none⟩ (.int .i64 (q2.all : Nat))).setCell ⟨w.heap.size, 6, none⟩ (.int .i64 (q2.fails : Nat))).setCell ⟨w.heap.size, 7, none⟩ (.bool q2.dead)).setCell ⟨w.heap.size + 1, 0, none⟩ (.slice pS2 q2.S.length cS2)).setCell ⟨w.heap.size + 1, 1, none⟩ (.slice pT2 q2.torn.length cT2)).setCell ⟨w.heap.size + 1, 2, none⟩ (.slice pW2 q2.wait.length cW2)).setCell ⟨w.heap.size + 1, 3, none⟩ (.slice pC2 q2.cuts.length cC2)).setCell ⟨w.heap.size + 1, 4, none⟩ (.int .i64 (q2.acts : Nat))).setCell ⟨w.heap.size + 1, 5, none⟩ (.int .i64 (q2.all : Nat))).setCell ⟨w.heap.size + 1, 6, none⟩ (.int .i64 (q2.fails : Nat))).setCell ⟨w.heap.size + 1, 7, none⟩ (.bool q2.dead)) = WF at *
  refine bodyPost_ret (v := .tuple #[.agg (R.cells q2 (.slice pS2 q2.S.length cS2) (.slice pT2 q2.torn.length cT2) (.slice pW2 q2.wait.length cW2) (.slice pC2 q2.cuts.length cC2)), .int .i64 40]) ?_ rfl ⟨_, rfl, ⟨_, _, _, _, rfl, hr3⟩, k2⟩
  exact results_two (p := 6) (u := 7) (ty := 33) rfl _ _ (w.heap.size + 1) 33 _ (0, 0) _ rfl hfin Try.underlying33 rfl size33

set_option maxHeartbeats 2000000 in
set_option maxRecDepth 100000 in
theorem rwrite_D {B : Nat} {w : World} {q : R} {pS pT pC : Option Addr} {cS cT cW cC : Nat}  (hr : RAt B w (.slice pS q.S.length cS) (.slice pT q.torn.length cT) (.slice none q.wait.length cW) (.slice pC q.cuts.length cC) q)
    (hB : B ≤ w.heap.size) (ok : Rok q) (k : Nat) (s : ByteArray) (hd : q.dead = false) (hk : k < q.S.length) (hs : s.size ≤ 256) (hw9 : q.wait.length ≤ 900) (ha : (q.add ⟨k, whole s⟩).act.2 = false) :
    Calls Try.prog 14 #[.agg (q.cells (.slice pS q.S.length cS) (.slice pT q.torn.length cT) (.slice none q.wait.length cW) (.slice pC q.cuts.length cC)), .int .i64 (k : Nat), .string s] w fun e w' => ∃ v', e = .returned (.tuple #[v', .int .i64 0]) ∧ RVal B w' v' (q.add ⟨k, whole s⟩).act.1 ∧ Kept w w' := by
  obtain ⟨i7, hi, hz0, hz1, hz2⟩ := info_parts info72
  have F0 := FM.start hr hB
  unfold R.cells at F0 ⊢
  rw [hd] at F0 ⊢
  have n1 : ¬ ((k : Int) < 0) := by omega
  have n2 : decide ((q.S.length : Int) ≤ (k : Int)) = false := by simp; omega
  have n3 : ¬ (256 : Int) < (s.size : Int) := by omega
  have hz28 : ∀ W, Calls Try.prog 28 #[.int .i64 (256 - (s.size : Int))] W fun e w' => e = .returned (.string (noughts (256 - s.size))) ∧ Kept W w' := by
    intro W
    have := zeros_walk (256 - s.size) (by omega) W
    rwa [show ((256 - s.size : Nat) : Int) = 256 - (s.size : Int) by omega] at this
  have hnz : (noughts (256 - s.size)).size = 256 - s.size := by show (Array.replicate (256 - s.size) 0).size = _; rw [Array.size_replicate]
  have hcat := add_noughts s
  have hn9 : ¬ 9223372036854775807 < s.size + (noughts (256 - s.size)).size := by omega
  generalize noughts (256 - s.size) = NZ at *
  obtain ⟨x, hx⟩ : ∃ x : Wr, x = ⟨k, whole s⟩ := ⟨_, rfl⟩
  have hxs : x.sec = k := by rw [hx]
  have hxb : x.bytes = whole s := by rw [hx]
  rw [← hx] at ha ⊢
  have hok : Rok (q.add x) := by
    refine ⟨ok.torn, ok.many, ?_, ?_, ok.acts, ok.all, ok.fails⟩
    · intro y hy
      simp only [R.add, List.mem_append, List.mem_singleton] at hy
      rcases hy with hy | rfl
      · exact ok.secs y hy
      · rw [hxs]; exact hk
    · show (q.wait ++ [x]).length ≤ 1000
      simp; omega
  generalize whole s = ws at *
  have K0s : (((w.alloc (.cells #[.slice pS q.S.length cS, .slice pT q.torn.length cT, .slice none q.wait.length cW, .slice pC q.cuts.length cC, .int .i64 (q.acts : Nat), .int .i64 (q.all : Nat), .int .i64 (q.fails : Nat), .bool false] 33)).alloc (.cells Z8 33))).heap.size = w.heap.size + 1 + 1 := by simp
  have EO : ((((w.alloc (.cells #[.slice pS q.S.length cS, .slice pT q.torn.length cT, .slice none q.wait.length cW, .slice pC q.cuts.length cC, .int .i64 (q.acts : Nat), .int .i64 (q.all : Nat), .int .i64 (q.fails : Nat), .bool false] 33)).alloc (.cells Z8 33))).alloc (.cells #[] 72)).ownsRow (w.heap.size + 1 + 1) 72 2 (.slice (some ⟨w.heap.size + 1 + 1, 0, none⟩) 0 0) 0 [] := by
    have := own_empty (w := (((w.alloc (.cells #[.slice pS q.S.length cS, .slice pT q.torn.length cT, .slice none q.wait.length cW, .slice pC q.cuts.length cC, .int .i64 (q.acts : Nat), .int .i64 (q.all : Nat), .int .i64 (q.fails : Nat), .bool false] 33)).alloc (.cells Z8 33))).alloc (.cells #[] 72)) (g := (((w.alloc (.cells #[.slice pS q.S.length cS, .slice pT q.torn.length cT, .slice none q.wait.length cW, .slice pC q.cuts.length cC, .int .i64 (q.acts : Nat), .int .i64 (q.all : Nat), .int .i64 (q.fails : Nat), .bool false] 33)).alloc (.cells Z8 33))).heap.size) (e := 72) (size := 2) (base := w.heap.size + 1 + 1) (heap_alloc_new _ _) (by omega)
    rwa [K0s] at this
  have hnil : q.wait = [] := by
    obtain ⟨p', c', ev, _, _, _, hcw⟩ := hr.W.out
    injection ev with e1 _ _
    apply List.eq_nil_of_length_eq_zero
    apply Nat.eq_zero_of_not_pos
    intro hp
    obtain ⟨b, off, hp, _⟩ := hcw hp
    rw [← e1] at hp
    cases hp
  have HNIL : Hid (q.wait = []) := hnil
  clear hnil
  have wl1 : (wrCells q.wait).length = q.wait.length * 2 := wrCells_length _
  have wone := wr_one q.wait
  have h63 : 0 + q.wait.length ≤ maxLen := by unfold maxLen; omega
  have h63b : q.wait.length + 1 ≤ maxLen := by unfold maxLen; omega
  have hby : (0 + q.wait.length) * 24 ≤ 140737488355328 := by omega
  have hbyb : (q.wait.length + 1) * 24 ≤ 140737488355328 := by omega
  have HF0 : Hid (FM B w q (((w.alloc (.cells #[.slice pS q.S.length cS, .slice pT q.torn.length cT, .slice none q.wait.length cW, .slice pC q.cuts.length cC, .int .i64 (q.acts : Nat), .int .i64 (q.all : Nat), .int .i64 (q.fails : Nat), .bool false] 33)).alloc (.cells Z8 33)))) := F0
  have HK0 : Hid ((((w.alloc (.cells #[.slice pS q.S.length cS, .slice pT q.torn.length cT, .slice none q.wait.length cW, .slice pC q.cuts.length cC, .int .i64 (q.acts : Nat), .int .i64 (q.all : Nat), .int .i64 (q.fails : Nat), .bool false] 33)).alloc (.cells Z8 33))).heap.size = w.heap.size + 1 + 1) := K0s
  clear F0 hr ok K0s
  have HO : Hid (Rok (q.add x)) := hok
  have HA : Hid ((q.add x).act.2 = false) := ha
  clear hok ha hx
  go_enter Try.func14, Try.ntmps14
  go_wp2_with (first
    | (at_builtin; refine wpList_append_no rfl _ _ 30 rfl (w.heap.size + 1 + 1) 72 i7 2 Try.underlying30 hi (.slice (some ⟨w.heap.size + 1 + 1, 0, none⟩) 0 0) 0 [] rfl EO q.wait.length cW (by rw [HNIL.out]; rfl) rfl ?_
       have K1 : Kept (((w.alloc (.cells #[.slice pS q.S.length cS, .slice pT q.torn.length cT, .slice none q.wait.length cW, .slice pC q.cuts.length cC, .int .i64 (q.acts : Nat), .int .i64 (q.all : Nat), .int .i64 (q.fails : Nat), .bool false] 33)).alloc (.cells Z8 33))) ((((w.alloc (.cells #[.slice pS q.S.length cS, .slice pT q.torn.length cT, .slice none q.wait.length cW, .slice pC q.cuts.length cC, .int .i64 (q.acts : Nat), .int .i64 (q.all : Nat), .int .i64 (q.fails : Nat), .bool false] 33)).alloc (.cells Z8 33))).alloc (.cells #[] 72)) := (Kept.refl _).alloc _
       have o1 : ((((w.alloc (.cells #[.slice pS q.S.length cS, .slice pT q.torn.length cT, .slice none q.wait.length cW, .slice pC q.cuts.length cC, .int .i64 (q.acts : Nat), .int .i64 (q.all : Nat), .int .i64 (q.fails : Nat), .bool false] 33)).alloc (.cells Z8 33))).alloc (.cells #[] 72)).ownsRow (w.heap.size + 1 + 1) 72 2 (.slice (some ⟨w.heap.size + 1 + 1, 0, none⟩) 0 0) q.wait.length (wrCells q.wait) := own_cast EO (by rw [HNIL.out]; rfl) (by rw [HNIL.out]; rfl))
    | (go_at_call 28; (with_reducible refine (hz28 _).mono ?_); rintro e w2 ⟨rfl, k2⟩; have K2 := K1.trans k2; have o2 := own_kept ((Kept.refl w2).alloc (.cells #[.int .i64 (k : Nat), .string ws] 72)) (own_kept k2 o1))
    | (at_builtin; refine wpList_append_lies _ rfl _ _ 30 rfl (w.heap.size + 1 + 1) 72 i7 _ 2 24 Try.underlying30 hi hz0 hz1 hz2 rfl (by decide) _ q.wait.length (wrCells q.wait) rfl o2 ⟨w2.heap.size, 0, none⟩ 1 1 [.int .i64 (k : Nat), .string ws] rfl rfl (two_cell w2 _ _ 72) (two_one _ _) (by omega) h63b hbyb (Nat.le_trans (Nat.le_of_eq HK0.out.symm) (K2.alloc _).size) _ rfl ?_
       intro gg cap w3 o3 g3 _ _
       have K3 : Kept (((w.alloc (.cells #[.slice pS q.S.length cS, .slice pT q.torn.length cT, .slice none q.wait.length cW, .slice pC q.cuts.length cC, .int .i64 (q.acts : Nat), .int .i64 (q.all : Nat), .int .i64 (q.fails : Nat), .bool false] 33)).alloc (.cells Z8 33))) w3 := ⟨(K2.alloc _).out.grown g3 (K2.alloc _).size (fun b e => (by have := (o2.lt b e).1; have := HK0.out; omega))⟩
       have F3 := HF0.out.kept K3 hB
       obtain ⟨pS3, cS3, pT3, cT3, pW3, cW3, pC3, cC3, m3, r3⟩ := F3.facts
       obtain ⟨e0, e1, e2, e3, e4, e5, e6, e7⟩ := cells8 m3
       obtain ⟨f0, f1, f2, f3, f4, f5, f6, f7⟩ := frozen8 m3
       obtain ⟨m4, r4, F4⟩ := add_facts m3 r3 F3.z F3.k hB x (by rw [hxs, hxb]; exact o3)
       have hact := ract_walk ⟨_, _, _, _, rfl, r4⟩ (Nat.le_trans hB F4.k.size) HO.out
       have hact : Calls Try.prog 27 #[.agg #[.slice pS3 q.S.length cS3, .slice pT3 q.torn.length cT3, .slice (some ⟨gg, 0, none⟩) (q.wait.length + 1) cap, .slice pC3 q.cuts.length cC3, .int .i64 (q.acts : Nat), .int .i64 (q.all : Nat), .int .i64 (q.fails : Nat), .bool q.dead]] (w3.setCell ⟨w.heap.size, 2, none⟩ (.slice (some ⟨gg, 0, none⟩) (q.wait.length + 1) cap)) _ := hact
       rw [HA.out] at hact
       rw [hd] at hact
       obtain ⟨q2, hq2⟩ : ∃ q2, (q.add x).act.1 = q2 := ⟨_, rfl⟩
       rw [hq2] at hact
       have HQ2 : Hid ((q.add x).act.1 = q2) := hq2
       clear hq2 m3 r3 F3 o3 g3 m4 r4)
    | (go_at_call 27; (with_reducible refine hact.mono ?_); rintro e v1 ⟨v', rfl, hv', kv⟩; obtain ⟨a1, b1, c1', d1, rfl, hr2⟩ := hv'.out; obtain ⟨pS2, cS2, pT2, cT2, pW2, cW2, pC2, cC2, rfl, rfl, rfl, rfl⟩ := hr2.slices; unfold R.cells; have F1 := F4.kept kv hB; obtain ⟨_, _, _, _, _, _, _, _, m1, _⟩ := F1.facts; obtain ⟨e0, e1, e2, e3, e4, e5, e6, e7⟩ := cells8 m1; obtain ⟨f0, f1, f2, f3, f4, f5, f6, f7⟩ := frozen8 m1; obtain ⟨z0, z1, z2, z3, z4, z5, z6, z7⟩ := cells8 F1.z; obtain ⟨y0, y1, y2, y3, y4, y5, y6, y7⟩ := frozen8 F1.z; have HB : Hid (_ ∧ _ ∧ _ ∧ _) := ⟨(both m1 F1.z hB F1.k (.slice pS2 q2.S.length cS2) (.slice pT2 q2.torn.length cT2) (.slice pW2 q2.wait.length cW2) (.slice pC2 q2.cuts.length cC2) (.int .i64 (q2.acts : Nat)) (.int .i64 (q2.all : Nat)) (.int .i64 (q2.fails : Nat)) (.bool q2.dead)).1, (both m1 F1.z hB F1.k (.slice pS2 q2.S.length cS2) (.slice pT2 q2.torn.length cT2) (.slice pW2 q2.wait.length cW2) (.slice pC2 q2.cuts.length cC2) (.int .i64 (q2.acts : Nat)) (.int .i64 (q2.all : Nat)) (.int .i64 (q2.fails : Nat)) (.bool q2.dead)).2.1, (both m1 F1.z hB F1.k (.slice pS2 q2.S.length cS2) (.slice pT2 q2.torn.length cT2) (.slice pW2 q2.wait.length cW2) (.slice pC2 q2.cuts.length cC2) (.int .i64 (q2.acts : Nat)) (.int .i64 (q2.all : Nat)) (.int .i64 (q2.fails : Nat)) (.bool q2.dead)).2.2, hr2⟩; clear F1 m1 hr2))
  obtain ⟨hfin, og, k2, hr2⟩ := HB.out
  clear HB
  have hr3 := hr2.og og
  rw [HQ2.out]
  generalize ((((((((((((((((v1.setCell ⟨w.heap.size, 0, none⟩ (.slice pS2 q2.S.length cS2)).setCell ⟨w.heap.size, 1, none⟩ (.slice pT2 q2.torn.length cT2)).setCell ⟨w.heap.size, 2, none⟩ (.slice pW2 q2.wait.length cW2)).setCell ⟨w.heap.size, 3, none⟩ (.slice pC2 q2.cuts.length cC2)).setCell ⟨w.heap.size, 4, none⟩ (.int .i64 (q2.acts : Nat))).setCell ⟨w.heap.size, 5, none⟩ (.int .i64 (q2.all : Nat))).setCell ⟨w.heap.size, 6, none⟩ (.int .i64 (q2.fails : Nat))).setCell ⟨w.heap.size, 7, none⟩ (.bool q2.dead)).setCell ⟨w.heap.size + 1, 0, none⟩ (.slice pS2 q2.S.length cS2)).setCell ⟨w.heap.size + 1, 1, none⟩ (.slice pT2 q2.torn.length cT2)).setCell ⟨w.heap.size + 1, 2, none⟩ (.slice pW2 q2.wait.length cW2)).setCell ⟨w.heap.size + 1, 3, none⟩ (.slice pC2 q2.cuts.length cC2)).setCell ⟨w.heap.size + 1, 4, none⟩ (.int .i64 (q2.acts : Nat))).setCell ⟨w.heap.size + 1, 5, none⟩ (.int .i64 (q2.all : Nat))).setCell ⟨w.heap.size + 1, 6, none⟩ (.int .i64 (q2.fails : Nat))).setCell ⟨w.heap.size + 1, 7, none⟩ (.bool q2.dead)) = WF at *
  refine bodyPost_ret (v := .tuple #[.agg (R.cells q2 (.slice pS2 q2.S.length cS2) (.slice pT2 q2.torn.length cT2) (.slice pW2 q2.wait.length cW2) (.slice pC2 q2.cuts.length cC2)), .int .i64 0]) ?_ rfl ⟨_, rfl, ⟨_, _, _, _, rfl, hr3⟩, k2⟩
  exact results_two (p := 6) (u := 7) (ty := 33) rfl _ _ (w.heap.size + 1) 33 _ (0, 0) _ rfl hfin Try.underlying33 rfl size33

/-- The reference's Write. -/
theorem rwrite_walk {B : Nat} {w : World} {v : Value} {q : R} (h : RVal B w v q) (hB : B ≤ w.heap.size) (ok : Rok q) (hw9 : q.wait.length ≤ 900) (n : Int) (s : ByteArray) :
    Calls Try.prog 14 #[v, .int .i64 n, .string s] w fun e w' => ∃ v', e = .returned (.tuple #[v', .int .i64 (q.write n s).2]) ∧ RVal B w' v' (q.write n s).1 ∧ Kept w w' := by
  unfold R.write
  cases hd : q.dead with
  | true => exact rwrite_dead h hB n s hd
  | false =>
    simp only [Bool.false_eq_true, if_false]
    by_cases hn : n < 0
    · rw [if_pos (by omega)]
      exact rwrite_neg h hB n s hd hn
    by_cases ho : n < (q.S.length : Int)
    · rw [if_neg (by omega)]
      by_cases hs : 256 < s.size
      · rw [if_pos hs]
        exact rwrite_long h hB n s hd hn ho (by omega)
      · rw [if_neg hs]
        obtain ⟨k, rfl⟩ : ∃ k : Nat, n = (k : Int) := ⟨n.toNat, by omega⟩
        rw [Int.toNat_natCast]
        obtain ⟨vS, vT, vW, vC, rfl, hr⟩ := h.out
        obtain ⟨pS, cS, pT, cT, pW, cW, pC, cC, rfl, rfl, rfl, rfl⟩ := hr.slices
        cases ha : (q.add ⟨k, whole s⟩).act.2 with
        | true =>
          cases pW with
          | some ad => exact rwrite_A hr hB ok k s hd (by omega) (by omega) hw9 ha
          | none => exact rwrite_C hr hB ok k s hd (by omega) (by omega) hw9 ha
        | false =>
          cases pW with
          | some ad => exact rwrite_B hr hB ok k s hd (by omega) (by omega) hw9 ha
          | none => exact rwrite_D hr hB ok k s hd (by omega) (by omega) hw9 ha
    · rw [if_pos (by omega)]
      exact rwrite_over h hB n s hd hn ho
end Go.Proofs.Ytfnfdngenohhhaa
