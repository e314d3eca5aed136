/- The walks of List and Within. Conditions: the library's table is laid (List); those that each row names. -/
import Derived.Test.YtanccfbbaeocaaaDoorLFb
import Derived.Test.YtanccfbbaeocaaaDoorLJ
namespace Go.Proofs.YtanccfbbaeocaaaDoor.Bt
open Go.RowKit Go.Shelf
attribute [local go_sem] Oper.semAt_some

/-- What List has in memory. -/
structure Lg (w W : World) (q : Option Addr) (c : Nat) (G : List Int) : Prop where
  bl : W.heap[w.heap.size + 1]? = some (.cells #[.slice q G.length c] 22)
  own : Own W (w.heap.size + 3) 3 1 q G.length c (ic G)
  low : Below w.heap.size w W
  big : w.heap.size + 3 ≤ W.heap.size
theorem Lg.stay {w W W' : World} {q : Option Addr} {c : Nat} {G : List Int} {B : Nat} {row : Option Nat} (h : Lg w W q c G) (hg : W.grownBy W' row) (hr : ∀ r, row = some r → B ≤ r ∧ ∃ o : Obj, W.heap[r]? = some o ∧ o.isCells = false) (hB : w.heap.size ≤ B) : Lg w W' q c G :=
  have hr2 : ∀ r, row = some r → ∃ o : Obj, W.heap[r]? = some o ∧ o.isCells = false := fun r e => (hr r e).2
  ⟨cells_stay hg hr2 h.bl, own_stay hg hr2 h.own, below_stay h.low (Nat.le_refl _) hg (fun r e => (hr r e).1) hB, Nat.le_trans h.big hg.size⟩
theorem Lg.kept {w W W' : World} {q : Option Addr} {c : Nat} {G : List Int} (h : Lg w W q c G) (k : Kept W W') : Lg w W' q c G := h.stay (B := w.heap.size) (k.grown none) (fun r e => by cases e) (Nat.le_refl _)
theorem Lg.more {w W w1 : World} {q q1 : Option Addr} {c c1 : Nat} {G : List Int} {z : Int} {tmp : Obj} (h : Lg w W q c G)
    (o1 : w1.ownsRow (w.heap.size + 3) 3 1 (.slice q1 (G.length + 1) c1) (G.length + 1) (ic G ++ [.int .i64 z])) (g1 : (W.alloc tmp).grownBy w1 (Value.slice q G.length c).ownBlock) :
    w1.heap[w.heap.size + 1]? = some (.cells #[.slice q G.length c] 22) ∧
    Lg w (w1.setCell ⟨w.heap.size + 1, 0, none⟩ (.slice q1 (G.length + 1) c1)) q1 c1 (G ++ [z]) ∧ KeepsOthers W (w1.setCell ⟨w.heap.size + 1, 0, none⟩ (.slice q1 (G.length + 1) c1)) ∧ Kt w.heap.size W (w1.setCell ⟨w.heap.size + 1, 0, none⟩ (.slice q1 (G.length + 1) c1)) := by
  have k0 : Kept W (W.alloc tmp) := (Kept.refl W).alloc tmp
  have ob := own_blk (h.kept k0).own
  have hbig := h.big
  have st : ∀ b, b < w.heap.size + 3 → w1.heap[b]? = W.heap[b]? := fun b hb => (g1.block b (by have := k0.size; omega) (fun e => by have := (ob b e.symm).1; omega)).trans (k0.out.block b (by omega))
  have p1 := (st (w.heap.size + 1) (by omega)).trans h.bl
  have s1 : (w1.setCell ⟨w.heap.size + 1, 0, none⟩ (.slice q1 (G.length + 1) c1)).heap[w.heap.size + 1]? = some (.cells #[.slice q1 (G.length + 1) c1] 22) := by rw [heap_setCell_same _ _ 0 _ _ _ p1]; rfl
  have oth : ∀ k, k ≠ w.heap.size + 1 → (w1.setCell ⟨w.heap.size + 1, 0, none⟩ (.slice q1 (G.length + 1) c1)).heap[k]? = w1.heap[k]? := fun k hk => heap_setCell_other _ ⟨w.heap.size + 1, 0, none⟩ k _ hk
  have low1 : Below w.heap.size W w1 := (k0.out.mono h.low.size).trans ⟨g1.os, g1.tape, g1.output, g1.size, fun i hi => g1.block i (by have := k0.size; omega) (fun e => by have := (ob i e.symm).1; omega)⟩
  have low2 : Below w.heap.size W (w1.setCell ⟨w.heap.size + 1, 0, none⟩ (.slice q1 (G.length + 1) c1)) := low1.setCell (by show w.heap.size ≤ w.heap.size + 1; omega) _
  refine ⟨p1, ⟨?_, ?_, h.low.trans low2, Nat.le_trans hbig low2.size⟩, ?_, low2, ?_⟩
  · rw [s1, List.length_append]; rfl
  · rw [ic_snoc, List.length_append]
    refine ⟨o1.1, o1.2.imp id ?_⟩
    rintro ⟨g, cap, cur, a, b, hg', r⟩
    exact ⟨g, cap, cur, a, b, (oth g (by omega)).trans hg', r⟩
  · refine ((KeepsOthers.alloc W tmp).trans (KeepsOthers.of_grownBy g1 fun j o ej hj => ?_)).trans (KeepsOthers.setCell _ _ _)
    obtain ⟨_, cs', fr', h2⟩ := ob j ej
    rw [h2] at hj; cases hj; rfl
  · intro b cs ty fr hb ht
    have hne : b ≠ w.heap.size + 1 := by
      rintro rfl
      rw [h.bl] at hb
      injection hb with hb
      injection hb with _ hb
      rcases ht with rfl | rfl <;> exact absurd hb (by decide)
    have hb1 := k0.block hb
    refine (oth b hne).trans ((g1.block b (Array.getElem?_eq_some_iff.1 hb1).1 (fun e => ?_)).trans hb1)
    obtain ⟨_, cs', fr', h2⟩ := ob b e.symm
    rw [hb1] at h2
    injection h2 with h2
    injection h2 with _ h2
    rcases ht with rfl | rfl <;> exact absurd h2 (by decide)
theorem int_cells (w : World) (z : Int) (t : TypeId) : ∀ j u, [Value.int .i64 z][j]? = some u → (w.alloc (.cells #[.int .i64 z] t)).cell? ((⟨w.heap.size, 0, none⟩ : Addr).add j) = some u := by
  intro j u hj
  rw [Addr.add_lit, Nat.zero_add, cell_of_row _ _ _ _ _ _ (heap_alloc_new w (.cells #[.int .i64 z] t))]
  simpa using hj
theorem int_one (z : Int) : ∀ u ∈ [Value.int .i64 z], u.oneCell' = true := by
  intro u hu; simp at hu; subst hu; rfl
def nis (pre : List Nat) : List Int := pre.map fun y => ((y % 1048576 : Nat) : Int)
theorem nis_snoc (pre : List Nat) (y : Nat) : nis (pre ++ [y]) = nis pre ++ [((y % 1048576 : Nat) : Int)] := by simp [nis]
theorem nis_nm {P : List Pt} (h : Okp P) : nis (nm P) = ni P := List.map_congr_left fun y hy => by rw [Nat.mod_eq_of_lt (nm_lt h hy)]
theorem nis_len (pre : List Nat) : (nis pre).length = pre.length := by simp [nis]
theorem three_new (w : World) (a b c : Obj) {W0 : World} (h : ((w.alloc a).alloc b).alloc c = W0) :
    Kept w W0 ∧ W0.heap.size = w.heap.size + 3 ∧ W0.heap[w.heap.size + 1]? = some b ∧ W0.heap[w.heap.size + 1 + 1]? = some c := by
  subst h
  refine ⟨(((Kept.refl w).alloc _).alloc _).alloc _, by simp only [size_alloc], ?_, ?_⟩
  · exact ((Kept.refl _).alloc _).block (by have := alloc_at (w.alloc a) b; rwa [size_alloc] at this)
  · have := alloc_at ((w.alloc a).alloc b) c; rwa [size_alloc, size_alloc] at this

set_option maxRecDepth 100000 in
set_option maxHeartbeats 4000000 in
theorem list_walk {w : World} (hL : Lds w) {ps : Option Addr} {ns cs : Nat} {P : List Pt} (hs : St w ps ns cs P) :
    Calls Tryd.prog 26 #[.agg #[.slice ps ns cs]] w fun e w' => ∃ q n c, e = .returned (.slice q n c) ∧ Il w' q n c (ni P) ∧ Kept w w' := by
  obtain ⟨i0, hi0, hz0, hz1, hz2⟩ := info_parts info3
  have HLn : Hid ((nm P).length ≤ 1048576) := by have := nm_len_le P; have := hs.len; have := hs.few; show _ ≤ _; omega
  refine (callsIn_wide (n := 5)).1 ?_
  have hdd : ∀ k : Nat, (Fence.wide.depth.isSome = true → 1 ≤ k) := fun k h => by cases h
  refine callsIn_of_wp_marks Tryd.func26 rfl trivial ?_ rfl
  simp only [Tryd.ntmps26, List.size_toArray, List.length_cons, List.length_nil, Nat.reduceAdd, Nat.reduceSub, Array.replicate_succ, Array.replicate_zero, List.push_toArray, List.append_toArray, List.nil_append, List.cons_append]
  gi_wp2_with (refine ⟨trivial, ?_⟩; (try refine ⟨hdd _, ?_⟩); gi_at_call 22; refine (all_walk _ _ _).mono ?_; rintro e w' ⟨rfl, rfl⟩)
  obtain ⟨W0, hW0⟩ : ∃ W0, ((w.alloc (.cells #[.slice ps ns cs] 25)).alloc (.cells #[.slice none 0 0] 22)).alloc (.cells #[.slice ps ns cs] 25) = W0 := ⟨_, rfl⟩
  obtain ⟨kW, hsz, b1, b2⟩ := three_new w _ _ _ hW0
  rw [hW0]
  clear hW0
  have R0 : Lg w W0 none 0 (nis []) := ⟨b1, own_nil _ _ _ _, kW.out, by omega⟩
  have hle : w.heap.size ≤ W0.heap.size := kW.size
  have hst := all_stops 4 hL hs kW (w.heap.size + 1 + 1) b2
  have HOk : Hid (Okp P) := hs.ok
  clear b1 b2 hs hL
  refine wpIn_rangeFunc_ownH rfl (by omega) (gf := 38) (lb := #[.pointer (some ⟨w.heap.size + 1 + 1, 0, none⟩)]) rfl trivial (enters_of Tryd.func38 (by kernel_rfl) rfl)
    hst (fun h k => h.trans k) (kt_b hle) (Below.refl _ _) (fun _ => rfl)
    (fun pre W => ∃ q c, Lg w W q c (nis pre))
    (fun c pre W => False)
    (fun pre W W' row hs hg hr => by obtain ⟨q, c, h⟩ := hs; exact ⟨q, c, h.stay hg hr hle⟩)
    (fun c pre W W' row hs hg hr => hs)
    ⟨none, 0, R0⟩
    (fun x a' W => a' = { tmps := #[.agg #[.slice ps ns cs], .pointer (some ⟨w.heap.size, 0, none⟩), .slice none 0 0, .pointer (some ⟨w.heap.size + 1, 0, none⟩), .int .i64 ((x % 1048576 : Nat) : Int), .agg #[.slice ps ns cs], .func (.func 38) #[] #[.pointer (some ⟨w.heap.size + 1 + 1, 0, none⟩)], .int .i64 ((x % 1048576 : Nat) : Int), undef, undef, undef, undef, undef], defers := [] })
    (fun x a' u W W' row hs hg hr => hs)
    ?assign ?body ?done ?stop
  case assign =>
    rintro l' pre x W K ⟨q, c, hR⟩ hK
    have hK2 := fun a' => hK a' W (KeepsFrom.refl _ _) (Kt.refl _ _) ⟨q, c, hR⟩
    clear hK
    dsimp only [enq]
    generalize x % 1048576 = y at *
    gi_wp2
    all_goals rfl
  case body =>
    rintro l' pre x a' W hl' _ ⟨q, c, hR⟩ rfl hlen
    have HN : Hid (nis (pre ++ [x]) = nis pre ++ [((x % 1048576 : Nat) : Int)]) := nis_snoc pre x
    have hG : (nis pre).length ≤ 1048576 := by rw [nis_len]; have := HLn.out; omega
    generalize nis pre = G at *
    have hy : x % 1048576 < 1048576 := Nat.mod_lt _ (by decide)
    generalize x % 1048576 = y at *
    have y1 : W.cell? ⟨w.heap.size + 1, 0, none⟩ = some (.slice q G.length c) := by rw [cell_of_row _ _ 0 _ _ _ hR.bl]; rfl
    have ka : Kept W (W.alloc (.cells #[.int .i64 (y : Nat)] 3)) := (Kept.refl W).alloc _
    have OA := (hR.kept ka).own
    have hz4 := int_cells W (y : Nat) 3
    have hBE : w.heap.size + 3 ≤ (W.alloc (.cells #[.int .i64 (y : Nat)] 3)).heap.size := Nat.le_trans hR.big ka.size
    gi_wp2_with (gi_at_builtin; refine wpListIn_append_own _ rfl _ _ 22 rfl (w.heap.size + 3) 3 i0 _ 1 8 Tryd.underlying22 hi0 hz0 hz1 hz2 rfl (by decide) (.slice q G.length c) G.length (ic G) rfl OA.out ⟨W.heap.size, 0, none⟩ 1 1 [.int .i64 (y : Nat)] rfl rfl hz4 (int_one (y : Nat)) (by unfold maxLen; omega) (by omega) hBE ?_; intro v' w1 o1 g1 _; obtain ⟨q1, c1, rfl⟩ := shape_of o1; obtain ⟨p1, R1, ko, kq⟩ := hR.more o1 g1; have z0 : w1.cell? ⟨w.heap.size + 1, 0, none⟩ = some (.slice q G.length c) := (by rw [cell_of_row _ _ 0 _ _ _ p1]; rfl); have z1 : w1.frozen? ⟨w.heap.size + 1, 0, none⟩ = false := frozen_of_row _ _ 0 _ _ p1; clear o1 g1 p1)
    exact ⟨ko.from _, kq, q1, c1, by rw [HN.out]; exact R1⟩
  case done =>
    rintro D xs W hD rfl ⟨q, c, hR⟩ hK
    rw [nis_nm HOk.out] at hR
    have y1 : W.cell? ⟨w.heap.size + 1, 0, none⟩ = some (.slice q (ni P).length c) := by rw [cell_of_row _ _ 0 _ _ _ hR.bl]; rfl
    have R5 := hR.stay (B := W0.heap.size) (grownBy_putObj' W D (.deferred none)) (fun r e => by cases e; exact ⟨hD, _, hK, rfl⟩) hle
    have HF : Hid (Il (W.putObj D (.deferred none)) q (ni P).length c (ni P) ∧ Kept w (W.putObj D (.deferred none))) := ⟨⟨R5.own.rw⟩, ⟨R5.low⟩⟩
    clear hR R5
    gi_wp2
    refine ⟨by simp, .inl ⟨_, _, rfl, run_takeDeferred hK, ?_⟩⟩
    exact ⟨_, results_tmp rfl _ _ _, q, (ni P).length, c, rfl, HF.out⟩
  case stop =>
    rintro D c pre W hD hp hf hK
    exact hf.elim
end Go.Proofs.YtanccfbbaeocaaaDoor.Bt
