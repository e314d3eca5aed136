/- The walks of slices.Clone and of node.sized at the types met here: a slice of one's own with the same pieces; all memory that was there is as it was. Conditions: 100000 pieces at most; of sized: as many as there are. -/
import Derived.Test.YtgcfollelefmcaaMem
import Derived.Lib.SliceRun
import Derived.Lib.Walk
namespace Go.Proofs.Ytgcfollelefmcaa
open Go.ChangeShapes Go.WideShapes Go.ChangeAt Go.RowKit

theorem run_copy_noneN {P : Program} (w : World) (dT sT ty elem : TypeId) (a : Option Addr) (sz : Nat) (d : Option Addr) (dLen dCap sLen sCap : Nat) (hu : P.underlying dT = some (.slice elem)) (hs : (P.info? elem).map (·.size) = some sz) (hn : Nat.min sLen dLen = 0) (ha : a = none) (hd : d ≠ none) (hsl : sLen = 0) :
    (Builtin.copy_ #[dT, sT] ty #[.slice d dLen dCap, .slice a sLen sCap]).run P w = .ok (goInt 0) w := by
  subst ha; subst hsl
  cases hq : P.info? elem with
  | none => simp [hq] at hs
  | some i =>
    cases d with
    | none => exact absurd rfl hd
    | some d => simp [Builtin.copy_, run_underlying hu, Builtin.lenOf, Builtin.firstCells, sizeOf, typeInfo, hq, storeCells]

theorem size_alloc (w : World) (o : Obj) : (w.alloc o).heap.size = w.heap.size + 1 := Array.size_push ..

theorem own_made {w : World} {B g e sz n : Nat} {cs : List Value} {cur : Array Value} (hg : w.heap[g]? = some (.cells cur e (0, 0))) (hB : B ≤ g) (hl : cs.length = n * sz) (hn : n ≤ maxLen) :
    Own (w.setRow g cs.toArray) B e sz (some ⟨g, 0, none⟩) n n cs :=
  ⟨hl, .inr ⟨g, n, cs.toArray, rfl, hB, setRow_heap w g _ _ _ _ hg, Nat.le_refl _, hn, by simpa using hl, by simp [← hl]⟩⟩

theorem Kept.setRow {w W : World} (h : Kept w W) {g : Nat} (hg : w.heap.size ≤ g) (cs : Array Value) : Kept w (W.setRow g cs) := by
  refine ⟨⟨h.out.os, h.out.tape, h.out.output, ?_, ?_⟩⟩
  · rw [setRow_size]; exact h.size
  · intro k hk
    rw [setRow_other _ _ _ _ (by omega)]
    exact h.out.block k hk

theorem info9 : (Try.prog.info? 9).map (fun i => (i.zero, i.size, i.bytes)) = some (some (.string ⟨#[]⟩), 1, 16) := by kernel_rfl

set_option maxHeartbeats 2000000 in
set_option maxRecDepth 100000 in
theorem clone41 {w : World} {p : Option Addr} {n c : Nat} {cs : List Value} (h : Rw w 1 p n c cs) (hn : n ≤ 100000) (h1 : ∀ u ∈ cs, u.oneCell' = true) :
    Calls Try.prog 41 #[.slice p n c] w fun e w' => ∃ p' c', e = .returned (.slice p' n c') ∧ Own w' w.heap.size 9 1 p' n c' cs ∧ Kept w w' := by
  have q22 : ∀ (w : World) (a : Option Addr) (n c n' c' : Nat), (binOp .eql 23 (.slice a n c) (.slice none n' c')).run Try.prog w = .ok (.bool a.isNone) w := fun w a n c n' c' => Lib.run_eql_slice_nil w _ _ a n c n' c' Try.underlying23
  obtain ⟨hl, _, _, ho⟩ := h
  obtain ⟨i0, hi, hz0, hz1, hz2⟩ := info_parts info9
  rcases ho with ⟨rfl, rfl⟩ | ⟨b, off, rfl, hc⟩
  · have e0 : cs = [] := List.length_eq_zero_iff.1 (by simpa using hl)
    subst e0
    have a : Calls Try.prog 41 #[.slice none 0 c] w fun e w' => e = .returned (.slice none 0 0) ∧ w' = w := by
      go_enter Try.func41, Try.ntmps41
      go_wp2
      go_ret
      exact ⟨rfl, rfl⟩
    refine a.mono ?_
    rintro e w' ⟨rfl, rfl⟩
    exact ⟨_, _, rfl, ⟨World.ownsRow_nil _ _ _ _⟩, Kept.refl _⟩
  · have A : Aside (∀ j u, cs[j]? = some u → w.cell? ⟨b, off + j, none⟩ = some u) := hc
    have a : Calls Try.prog 41 #[.slice (some ⟨b, off, none⟩) n c] w fun e w' => ∃ v', e = .returned v' ∧ w'.ownsRow w.heap.size 9 1 v' n cs ∧ Kept w w' := by
      clear hc
      go_enter Try.func41, Try.ntmps41
      go_wp2_with (at_builtin; refine wpList_append_own _ rfl _ _ 23 rfl w.heap.size 9 i0 (.string ⟨#[]⟩) 1 16 Try.underlying23 hi hz0 hz1 hz2 rfl (by decide) _ _ _ rfl (World.ownsRow_made w #[] 0 (Nat.le_refl _) (Nat.zero_le _) (by simp)) ⟨b, off, none⟩ n c cs rfl ?qc1 ?qc2 ?qc3 ?qc4 ?qc5 ?qc6 ?_)
      case qc1 => exact hl
      case qc2 =>
        intro j u hj
        rw [Addr.add_lit]
        exact Lib.cell?_alloc_some _ (A.out j u hj)
      case qc3 => exact h1
      case qc4 => rw [Nat.zero_add]; unfold maxLen; omega
      case qc5 => rw [Nat.zero_add]; omega
      case qc6 => simp
      intro v' w1 hown hgrow hnil
      go_wp2
      go_ret
      refine ⟨v', rfl, by simpa using hown, ⟨((Below.refl _ w).alloc (Nat.le_refl _) _).grown hgrow (by simp) (by intro k hk; simp [Value.ownBlock] at hk; omega)⟩⟩
    refine a.mono ?_
    rintro e w' ⟨v', rfl, ho, hk⟩
    obtain ⟨p', c', rfl⟩ := owns_shape ho
    exact ⟨_, _, rfl, ⟨ho⟩, hk⟩

theorem info49 : (Try.prog.info? 49).map (fun i => (i.zero, i.size, i.bytes)) = some (some (.agg #[.string ⟨#[]⟩, .int .i64 0, .int .i64 0]), 3, 32) := by kernel_rfl

set_option maxHeartbeats 2000000 in
set_option maxRecDepth 100000 in
theorem clone42 {w : World} {p : Option Addr} {n c : Nat} {cs : List Value} (h : Rw w 3 p n c cs) (hn : n ≤ 100000) (h1 : ∀ u ∈ cs, u.oneCell' = true) :
    Calls Try.prog 42 #[.slice p n c] w fun e w' => ∃ p' c', e = .returned (.slice p' n c') ∧ Own w' w.heap.size 49 3 p' n c' cs ∧ Kept w w' := by
  have q22 : ∀ (w : World) (a : Option Addr) (n c n' c' : Nat), (binOp .eql 24 (.slice a n c) (.slice none n' c')).run Try.prog w = .ok (.bool a.isNone) w := fun w a n c n' c' => Lib.run_eql_slice_nil w _ _ a n c n' c' Try.underlying24
  obtain ⟨hl, _, _, ho⟩ := h
  obtain ⟨i0, hi, hz0, hz1, hz2⟩ := info_parts info49
  rcases ho with ⟨rfl, rfl⟩ | ⟨b, off, rfl, hc⟩
  · have e0 : cs = [] := List.length_eq_zero_iff.1 (by simpa using hl)
    subst e0
    have a : Calls Try.prog 42 #[.slice none 0 c] w fun e w' => e = .returned (.slice none 0 0) ∧ w' = w := by
      go_enter Try.func42, Try.ntmps42
      go_wp2
      go_ret
      exact ⟨rfl, rfl⟩
    refine a.mono ?_
    rintro e w' ⟨rfl, rfl⟩
    exact ⟨_, _, rfl, ⟨World.ownsRow_nil _ _ _ _⟩, Kept.refl _⟩
  · have A : Aside (∀ j u, cs[j]? = some u → w.cell? ⟨b, off + j, none⟩ = some u) := hc
    have a : Calls Try.prog 42 #[.slice (some ⟨b, off, none⟩) n c] w fun e w' => ∃ v', e = .returned v' ∧ w'.ownsRow w.heap.size 49 3 v' n cs ∧ Kept w w' := by
      clear hc
      go_enter Try.func42, Try.ntmps42
      go_wp2_with (at_builtin; refine wpList_append_own _ rfl _ _ 24 rfl w.heap.size 49 i0 (.agg #[.string ⟨#[]⟩, .int .i64 0, .int .i64 0]) 3 32 Try.underlying24 hi hz0 hz1 hz2 rfl (by decide) _ _ _ rfl (World.ownsRow_made w #[] 0 (Nat.le_refl _) (Nat.zero_le _) (by simp)) ⟨b, off, none⟩ n c cs rfl ?qc1 ?qc2 ?qc3 ?qc4 ?qc5 ?qc6 ?_)
      case qc1 => exact hl
      case qc2 =>
        intro j u hj
        rw [Addr.add_lit]
        exact Lib.cell?_alloc_some _ (A.out j u hj)
      case qc3 => exact h1
      case qc4 => rw [Nat.zero_add]; unfold maxLen; omega
      case qc5 => rw [Nat.zero_add]; omega
      case qc6 => simp
      intro v' w1 hown hgrow hnil
      go_wp2
      go_ret
      refine ⟨v', rfl, by simpa using hown, ⟨((Below.refl _ w).alloc (Nat.le_refl _) _).grown hgrow (by simp) (by intro k hk; simp [Value.ownBlock] at hk; omega)⟩⟩
    refine a.mono ?_
    rintro e w' ⟨v', rfl, ho, hk⟩
    obtain ⟨p', c', rfl⟩ := owns_shape ho
    exact ⟨_, _, rfl, ⟨ho⟩, hk⟩

theorem info3 : (Try.prog.info? 3).map (fun i => (i.zero, i.size, i.bytes)) = some (some (.int .i64 0), 1, 8) := by kernel_rfl

set_option maxHeartbeats 2000000 in
set_option maxRecDepth 100000 in
theorem clone43 {w : World} {p : Option Addr} {n c : Nat} {cs : List Value} (h : Rw w 1 p n c cs) (hn : n ≤ 100000) (h1 : ∀ u ∈ cs, u.oneCell' = true) :
    Calls Try.prog 43 #[.slice p n c] w fun e w' => ∃ p' c', e = .returned (.slice p' n c') ∧ Own w' w.heap.size 3 1 p' n c' cs ∧ Kept w w' := by
  have q22 : ∀ (w : World) (a : Option Addr) (n c n' c' : Nat), (binOp .eql 25 (.slice a n c) (.slice none n' c')).run Try.prog w = .ok (.bool a.isNone) w := fun w a n c n' c' => Lib.run_eql_slice_nil w _ _ a n c n' c' Try.underlying25
  obtain ⟨hl, _, _, ho⟩ := h
  obtain ⟨i0, hi, hz0, hz1, hz2⟩ := info_parts info3
  rcases ho with ⟨rfl, rfl⟩ | ⟨b, off, rfl, hc⟩
  · have e0 : cs = [] := List.length_eq_zero_iff.1 (by simpa using hl)
    subst e0
    have a : Calls Try.prog 43 #[.slice none 0 c] w fun e w' => e = .returned (.slice none 0 0) ∧ w' = w := by
      go_enter Try.func43, Try.ntmps43
      go_wp2
      go_ret
      exact ⟨rfl, rfl⟩
    refine a.mono ?_
    rintro e w' ⟨rfl, rfl⟩
    exact ⟨_, _, rfl, ⟨World.ownsRow_nil _ _ _ _⟩, Kept.refl _⟩
  · have A : Aside (∀ j u, cs[j]? = some u → w.cell? ⟨b, off + j, none⟩ = some u) := hc
    have a : Calls Try.prog 43 #[.slice (some ⟨b, off, none⟩) n c] w fun e w' => ∃ v', e = .returned v' ∧ w'.ownsRow w.heap.size 3 1 v' n cs ∧ Kept w w' := by
      clear hc
      go_enter Try.func43, Try.ntmps43
      go_wp2_with (at_builtin; refine wpList_append_own _ rfl _ _ 25 rfl w.heap.size 3 i0 (.int .i64 0) 1 8 Try.underlying25 hi hz0 hz1 hz2 rfl (by decide) _ _ _ rfl (World.ownsRow_made w #[] 0 (Nat.le_refl _) (Nat.zero_le _) (by simp)) ⟨b, off, none⟩ n c cs rfl ?qc1 ?qc2 ?qc3 ?qc4 ?qc5 ?qc6 ?_)
      case qc1 => exact hl
      case qc2 =>
        intro j u hj
        rw [Addr.add_lit]
        exact Lib.cell?_alloc_some _ (A.out j u hj)
      case qc3 => exact h1
      case qc4 => rw [Nat.zero_add]; unfold maxLen; omega
      case qc5 => rw [Nat.zero_add]; omega
      case qc6 => simp
      intro v' w1 hown hgrow hnil
      go_wp2
      go_ret
      refine ⟨v', rfl, by simpa using hown, ⟨((Below.refl _ w).alloc (Nat.le_refl _) _).grown hgrow (by simp) (by intro k hk; simp [Value.ownBlock] at hk; omega)⟩⟩
    refine a.mono ?_
    rintro e w' ⟨v', rfl, ho, hk⟩
    obtain ⟨p', c', rfl⟩ := owns_shape ho
    exact ⟨_, _, rfl, ⟨ho⟩, hk⟩

set_option maxHeartbeats 2000000 in
set_option maxRecDepth 100000 in
theorem sized55 {w : World} {p : Option Addr} {n c : Nat} {cs : List Value} (d : ByteArray) (q l : Int) (h : Rw w 3 p n c cs) (hn : n ≤ 100000) (h1 : ∀ u ∈ cs, u.oneCell' = true) :
    Calls Try.prog 55 #[.slice p n c, .int .i64 (n : Nat), .agg #[.string d, .int .i64 q, .int .i64 l]] w fun e w' => ∃ p', e = .returned (.slice p' n n) ∧ Own w' w.heap.size 49 3 p' n n cs ∧ Kept w w' := by
  obtain ⟨hl, _, _, ho⟩ := h
  obtain ⟨i0, hi, hz0, hz1, hz2⟩ := info_parts info49
  have hsz : (Try.prog.info? 49).map (·.size) = some 3 := by rw [hi]; simp [hz1]
  obtain ⟨w0, hw0, hk0⟩ : ∃ w0, w0 = w.alloc (.cells #[.string d, .int .i64 q, .int .i64 l] 49) ∧ Kept w w0 := ⟨_, rfl, (Kept.refl w).alloc _⟩
  obtain ⟨w1, hm, hown, hgr⟩ := run_makeSlice_full (P := Try.prog) w0 w.heap.size 24 49 i0 (.agg #[.string ⟨#[]⟩, .int .i64 0, .int .i64 0]) 3 Try.underlying24 hi hz0 hz1 .i64 .i64 n (by omega) (by rw [hz2]; omega) (by unfold maxLen; omega) hk0.size
  have hk1 : Kept w w1 := grown_kept w hk0 hgr (Nat.le_refl _) (by intro k hk; cases hk)
  have hgrow1 : Kept w0 w1 := grown_kept w0 (Kept.refl _) hgr (Nat.le_refl _) (by intro k hk; cases hk)
  obtain ⟨cur, hg, hcs⟩ : ∃ cur : Array Value, w1.heap[w0.heap.size]? = some (.cells cur 49 (0, 0)) ∧ cur.size = n * 3 := by
    rcases hown.2 with ⟨hx, _⟩ | ⟨g, cap, cur, hv, hB, hg, hc2, hc3, hc4, _⟩
    · cases hx
    · injection hv with e1 e2 e3
      injection e1 with e1
      injection e1 with e1
      subst e1; subst e3
      exact ⟨cur, hg, hc4⟩
  have hcp : ∃ w2, (∀ ty, (Builtin.copy_ #[24, 24] ty #[.slice (some ⟨w0.heap.size, 0, none⟩) n n, .slice p n c]).run Try.prog w1 = .ok (.int .i64 (n : Nat)) w2) ∧ Own w2 w.heap.size 49 3 (some ⟨w0.heap.size, 0, none⟩) n n cs ∧ Kept w w2 := by
    rcases ho with ⟨rfl, rfl⟩ | ⟨b, off, rfl, hc⟩
    · have e0 : cs = [] := List.length_eq_zero_iff.1 (by simpa using hl)
      subst e0
      refine ⟨w1, fun ty => ?_, ⟨by simp, .inr ⟨_, _, cur, rfl, hk0.size, hg, Nat.le_refl _, by unfold maxLen; omega, hcs, by simp⟩⟩, hk1⟩
      rw [run_copy_noneN w1 24 24 ty 49 none 3 _ 0 0 0 c Try.underlying24 hsz rfl rfl (by simp) rfl]
      rfl
    · have hc1 : ∀ j u, cs[j]? = some u → w1.cell? ((⟨b, off, none⟩ : Addr).add j) = some u := fun j u hj => by
        rw [Addr.add_lit]; exact hk1.cell (hc j u hj)
      have e := fun ty => run_copy_rowN (P := Try.prog) w1 24 24 ty 49 3 w0.heap.size 0 n n ⟨b, off, none⟩ n c cur 49 cs Try.underlying24 hsz hg (by simpa using hl) hc1 (by omega) h1
      refine ⟨_, fun ty => (e ty).trans (by simp [goInt]; rfl), ?_, ?_⟩
      · have e2 : cs ++ cur.toList.drop cs.length = cs := by
          rw [List.drop_eq_nil_of_le (by simp; omega), List.append_nil]
        rw [e2]
        exact own_made hg hk0.size hl (by unfold maxLen; omega)
      · exact hk1.setRow hk0.size _
  obtain ⟨w2, hcp, ho2, hk2⟩ := hcp
  have HO : Hid (Own w2 w.heap.size 49 3 (some ⟨w0.heap.size, 0, none⟩) n n cs) := ho2
  clear ho2 hgrow1 hg hcs hown hgr ho hk1 hi hz0 hz1 hz2 hsz hl h1
  rw [hw0] at hm hcp HO
  clear hw0 hk0
  rw [size_alloc] at hm hcp HO
  go_enter Try.func55, Try.ntmps55
  go_wp2_with (at_builtin; refine wpList_copy_runI _ rfl _ _ 24 24 rfl _ _ rfl rfl (hcp _) ?_)
  go_loopg [8] 0 (fun _ v wx => v = .int .i64 (n : Nat) ∧ wx = w2)
  case atStart => exact ⟨rfl, rfl⟩
  case round =>
    obtain ⟨rfl, rfl⟩ := hrel
    go_wp2
    go_ret
    exact ⟨_, rfl, HO.out, hk2⟩

set_option maxHeartbeats 2000000 in
set_option maxRecDepth 100000 in
theorem sized56 {w : World} {p : Option Addr} {n c : Nat} {cs : List Value} (q : Int) (h : Rw w 1 p n c cs) (hn : n ≤ 100000) (h1 : ∀ u ∈ cs, u.oneCell' = true) :
    Calls Try.prog 56 #[.slice p n c, .int .i64 (n : Nat), .int .i64 q] w fun e w' => ∃ p', e = .returned (.slice p' n n) ∧ Own w' w.heap.size 3 1 p' n n cs ∧ Kept w w' := by
  obtain ⟨hl, _, _, ho⟩ := h
  obtain ⟨i0, hi, hz0, hz1, hz2⟩ := info_parts info3
  have hsz : (Try.prog.info? 3).map (·.size) = some 1 := by rw [hi]; simp [hz1]
  obtain ⟨w0, hw0, hk0⟩ : ∃ w0, w0 = w ∧ Kept w w0 := ⟨_, rfl, Kept.refl w⟩
  obtain ⟨w1, hm, hown, hgr⟩ := run_makeSlice_full (P := Try.prog) w0 w.heap.size 25 3 i0 (.int .i64 0) 1 Try.underlying25 hi hz0 hz1 .i64 .i64 n (by omega) (by rw [hz2]; omega) (by unfold maxLen; omega) hk0.size
  have hk1 : Kept w w1 := grown_kept w hk0 hgr (Nat.le_refl _) (by intro k hk; cases hk)
  have hgrow1 : Kept w0 w1 := grown_kept w0 (Kept.refl _) hgr (Nat.le_refl _) (by intro k hk; cases hk)
  obtain ⟨cur, hg, hcs⟩ : ∃ cur : Array Value, w1.heap[w0.heap.size]? = some (.cells cur 3 (0, 0)) ∧ cur.size = n * 1 := by
    rcases hown.2 with ⟨hx, _⟩ | ⟨g, cap, cur, hv, hB, hg, hc2, hc3, hc4, _⟩
    · cases hx
    · injection hv with e1 e2 e3
      injection e1 with e1
      injection e1 with e1
      subst e1; subst e3
      exact ⟨cur, hg, hc4⟩
  have hcp : ∃ w2, (∀ ty, (Builtin.copy_ #[25, 25] ty #[.slice (some ⟨w0.heap.size, 0, none⟩) n n, .slice p n c]).run Try.prog w1 = .ok (.int .i64 (n : Nat)) w2) ∧ Own w2 w.heap.size 3 1 (some ⟨w0.heap.size, 0, none⟩) n n cs ∧ Kept w w2 := by
    rcases ho with ⟨rfl, rfl⟩ | ⟨b, off, rfl, hc⟩
    · have e0 : cs = [] := List.length_eq_zero_iff.1 (by simpa using hl)
      subst e0
      refine ⟨w1, fun ty => ?_, ⟨by simp, .inr ⟨_, _, cur, rfl, hk0.size, hg, Nat.le_refl _, by unfold maxLen; omega, hcs, by simp⟩⟩, hk1⟩
      rw [run_copy_noneN w1 25 25 ty 3 none 1 _ 0 0 0 c Try.underlying25 hsz rfl rfl (by simp) rfl]
      rfl
    · have hc1 : ∀ j u, cs[j]? = some u → w1.cell? ((⟨b, off, none⟩ : Addr).add j) = some u := fun j u hj => by
        rw [Addr.add_lit]; exact hk1.cell (hc j u hj)
      have e := fun ty => run_copy_rowN (P := Try.prog) w1 25 25 ty 3 1 w0.heap.size 0 n n ⟨b, off, none⟩ n c cur 3 cs Try.underlying25 hsz hg (by simpa using hl) hc1 (by omega) h1
      refine ⟨_, fun ty => (e ty).trans (by simp [goInt]; rfl), ?_, ?_⟩
      · have e2 : cs ++ cur.toList.drop cs.length = cs := by
          rw [List.drop_eq_nil_of_le (by simp; omega), List.append_nil]
        rw [e2]
        exact own_made hg hk0.size hl (by unfold maxLen; omega)
      · exact hk1.setRow hk0.size _
  obtain ⟨w2, hcp, ho2, hk2⟩ := hcp
  have HO : Hid (Own w2 w.heap.size 3 1 (some ⟨w0.heap.size, 0, none⟩) n n cs) := ho2
  clear ho2 hgrow1 hg hcs hown hgr ho hk1 hi hz0 hz1 hz2 hsz hl h1
  rw [hw0] at hm hcp HO
  clear hw0 hk0
  skip
  go_enter Try.func56, Try.ntmps56
  go_wp2_with (at_builtin; refine wpList_copy_runI _ rfl _ _ 25 25 rfl _ _ rfl rfl (hcp _) ?_)
  go_loopg [8] 0 (fun _ v wx => v = .int .i64 (n : Nat) ∧ wx = w2)
  case atStart => exact ⟨rfl, rfl⟩
  case round =>
    obtain ⟨rfl, rfl⟩ := hrel
    go_wp2
    go_ret
    exact ⟨_, rfl, HO.out, hk2⟩
end Go.Proofs.Ytgcfollelefmcaa
