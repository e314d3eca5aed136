/- The walk of slices.Insert at values, into a slice of one's own that has no room: a new one. Conditions: 100000 pieces at most; one piece is put in. -/
import Derived.Test.YtgcfollelefmcaaSlC
namespace Go.Proofs.Ytgcfollelefmcaa
open Go.ChangeShapes Go.WideShapes Go.ChangeAt Go.RowKit
attribute [local irreducible] grownCap

theorem zeros_size (z : Value) (k n : Nat) (h : z.cells.size = k) : (Builtin.zeroCells z.cells n).size = n * k := by
  simp [Builtin.zeroCells, h]

theorem gcap (w : World) (n c : Nat) (e : TypeId) (hn : n ≤ 100001) : n ≤ grownCap w n c e ∧ grownCap w n c e ≤ maxLen :=
  ⟨grownCap_ge w n c e, grownCap_le_maxLen w n c e (by unfold maxLen; omega)⟩

set_option maxHeartbeats 4000000 in
set_option maxRecDepth 100000 in
theorem insert46_end {w : World} (p : Option Addr) (n : Nat) (cs : List Value) (hlen : cs.length = n * 3) (hp : p = none → n = 0) (hcs : ∀ a, p = some a → a.spot = none ∧ ∀ j v, cs[j]? = some v → w.cell? (a.add j) = some v) (hn : n ≤ 100000)
    (vb : Nat) (us : List Value) (hul : us.length = 3) (hv : w.heap[vb]? = some (.cells us.toArray 49 (0, 0))) (h1v : ∀ v ∈ us, v.oneCell' = true) :
    Calls Try.prog 46 #[.slice p n n, .int .i64 (n : Nat), .slice (some ⟨vb, 0, none⟩) 1 1] w fun e w' => ∃ p' c', e = .returned (.slice p' (n + 1) c') ∧ Own w' w.heap.size 49 3 p' (n + 1) c' (cs ++ us) ∧ Kept w w' := by
  have mixed : Try.prog.follows .mixedOrders = true := by kernel_rfl
  obtain ⟨i0, hi0, hz0, hzs, hzb⟩ := info_parts info49
  have hvs : ∀ (j : Nat) (v : Value), us[j]? = some v → w.cell? ((⟨vb, 0, none⟩ : Addr).add j) = some v := by
    intro j v hj
    rw [Addr.add_lit, Nat.zero_add, cell_of_row w vb j _ _ _ hv]; simpa using hj
  have hsrc : Src Try.prog i0.size 24 (.slice (some ⟨vb, 0, none⟩) 1 1) 1 us w := by
    rw [hzs]
    exact Src.ofSlice w Try.underlying24 ⟨vb, 0, none⟩ 1 1 us (by omega) hvs h1v
  have hold : (Builtin.firstCells i0.size n (.slice p n n)).run Try.prog w.drew = .ok cs.toArray w.drew := by
    rw [hzs]
    cases p with
    | none =>
      have h0 := hp rfl
      subst h0
      have e0 : cs = [] := List.length_eq_zero_iff.1 (by simpa using hlen)
      rw [e0]
      exact run_firstCells_none w.drew 3 0 0 0
    | some a => exact run_firstCells_some w.drew 3 n a n n cs (by omega) (fun j v hj => (hcs a rfl).2 j v hj)
  have hrun : ∀ ty, (Builtin.append_ #[24, 24] ty #[.slice p n n, .slice (some ⟨vb, 0, none⟩) 1 1]).run Try.prog w = _ := fun ty =>
    run_append_grow_src w 24 24 ty 49 i0 _ Try.underlying24 hi0 hz0 p n n cs hold _ 1 us hsrc (by omega) (by omega) (by rw [hzb]; exact growslice_fits (by omega) (by omega))
  obtain ⟨hG, hG2⟩ := gcap w (n + 1) n 49 (by omega)
  generalize grownCap w (n + 1) n 49 = G at hrun hG hG2
  have hfin : Own (w.drew.alloc (.cells ((cs ++ us).toArray ++ Builtin.zeroCells (Value.agg #[.string ⟨#[]⟩, .int .i64 0, .int .i64 0]).cells (G - (n + 1))) 49)) w.heap.size 49 3 (some ⟨w.heap.size, 0, none⟩) (n + 1) G (cs ++ us) := by
    refine ⟨by simp [hlen, hul]; omega, .inr ⟨_, _, _, rfl, Nat.le_refl _, heap_alloc_new _ _, hG, hG2, ?_, ?_⟩⟩
    · rw [Array.size_append, zeros_size _ 3 _ rfl]; simp [hlen, hul]; omega
    · rw [Array.toList_append]
      show List.take ((n + 1) * 3) (cs ++ us ++ _) = _
      rw [List.take_left' (by simp [hlen, hul]; omega)]
  have HF : Hid _ := hfin
  have HK : Hid (Kept w (w.drew.alloc (.cells ((cs ++ us).toArray ++ Builtin.zeroCells (Value.agg #[.string ⟨#[]⟩, .int .i64 0, .int .i64 0]).cells (G - (n + 1))) 49))) := (Kept.refl w).drew.alloc _
  obtain ⟨W1, hW1⟩ : ∃ W1, W1 = w.drew.alloc (.cells ((cs ++ us).toArray ++ Builtin.zeroCells (Value.agg #[.string ⟨#[]⟩, .int .i64 0, .int .i64 0]).cells (G - (n + 1))) 49) := ⟨_, rfl⟩
  rw [← hW1] at HF HK
  have hrun2 : ∀ ty, (Builtin.append_ #[24, 24] ty #[.slice p n n, .slice (some ⟨vb, 0, none⟩) 1 1]).run Try.prog w = .ok (.slice (some ⟨w.heap.size, 0, none⟩) (n + 1) G) W1 := fun ty => by rw [hrun ty, hW1]
  clear hfin hrun hold hsrc hvs hW1 hi0 hz0 hzs hzb
  go_enter Try.func46, Try.ntmps46
  cases p with
  | none =>
    have h0 := hp rfl
    subst h0
    go_wp2_with (at_builtin; refine Lib.wpList_append_run _ rfl _ _ _ _ rfl _ _ rfl rfl _ _ (hrun2 _) ?_)
    go_ret
    exact ⟨_, _, rfl, HF.out, HK.out⟩
  | some a =>
    obtain ⟨ab, ao, asp⟩ := a
    obtain rfl := (hcs _ rfl).1
    go_wp2_with (at_builtin; refine Lib.wpList_append_run _ rfl _ _ _ _ rfl _ _ rfl rfl _ _ (hrun2 _) ?_)
    all_goals (go_ret; exact ⟨_, _, rfl, HF.out, HK.out⟩)

set_option maxHeartbeats 4000000 in
set_option maxRecDepth 100000 in
theorem insert46_mid {w : World} (b : Nat) (n i : Nat) (cs : List Value) (hlen : cs.length = n * 3) (hcs : ∀ j v, cs[j]? = some v → w.cell? ⟨b, j, none⟩ = some v) (h1 : ∀ v ∈ cs, v.oneCell' = true) (hn : n ≤ 100000) (hi : i < n)
    (vb : Nat) (us : List Value) (hul : us.length = 3) (hv : w.heap[vb]? = some (.cells us.toArray 49 (0, 0))) (h1v : ∀ v ∈ us, v.oneCell' = true) :
    Calls Try.prog 46 #[.slice (some ⟨b, 0, none⟩) n n, .int .i64 (i : Nat), .slice (some ⟨vb, 0, none⟩) 1 1] w fun e w' => ∃ p' c', e = .returned (.slice p' (n + 1) c') ∧ Own w' w.heap.size 49 3 p' (n + 1) c' (cs.take (i * 3) ++ us ++ cs.drop (i * 3)) ∧ Kept w w' := by
  have mixed : Try.prog.follows .mixedOrders = true := by kernel_rfl
  obtain ⟨i0, hi0, hz0, hzs, hzb⟩ := info_parts info49
  have hsz : (Try.prog.info? 49).map (·.size) = some 3 := by rw [hi0]; simp [hzs]
  have hbw : b < w.heap.size := World.block_lt_of_cell? w _ (hcs 0 _ (List.getElem?_eq_getElem (by omega)))
  have hold : (Builtin.firstCells i0.size i (.slice (some ⟨b, 0, none⟩) i n)).run Try.prog w.drew = .ok (cs.take (i * 3)).toArray w.drew := by
    rw [hzs]
    exact run_firstCells_some w.drew 3 i ⟨b, 0, none⟩ i n (cs.take (i * 3)) (by rw [List.length_take]; omega) (fun j v hj => by
      rw [Addr.add_lit, Nat.zero_add]
      rw [List.getElem?_take] at hj
      split at hj
      · exact hcs j v hj
      · cases hj)
  have hrz : ∀ ty, (Builtin.append_ #[24, 3] ty #[.slice (some ⟨b, 0, none⟩) i n, .int .i64 ((n + 1 - i : Nat) : Int)]).run Try.prog w = _ := fun ty =>
    Lib.run_append_grow_zeros w 24 3 ty 49 i0 _ .i64 .i64 Try.underlying24 Try.underlying3 hi0 hz0 (some ⟨b, 0, none⟩) i n (cs.take (i * 3)) hold (n + 1 - i) (by omega) (by omega) (by omega) (by omega) (by rw [hzb]; omega) (by rw [hzb, show i + (n + 1 - i) = n + 1 by omega]; exact growslice_fits (by omega) (by omega))
  rw [show i + (n + 1 - i) = n + 1 by omega] at hrz
  obtain ⟨hG, hG2⟩ := gcap w (n + 1) n 49 (by omega)
  generalize grownCap w (n + 1) n 49 = G at hrz hG hG2
  obtain ⟨ROW, hROW⟩ : ∃ ROW : Array Value, ROW = (cs.take (i * 3)).toArray ++ Builtin.zeroCells (Value.agg #[.string ⟨#[]⟩, .int .i64 0, .int .i64 0]).cells (n + 1 - i) ++ Builtin.zeroCells (Value.agg #[.string ⟨#[]⟩, .int .i64 0, .int .i64 0]).cells (G - (n + 1)) := ⟨_, rfl⟩
  rw [← hROW] at hrz
  have hRs : ROW.size = G * 3 := by rw [hROW, Array.size_append, Array.size_append, zeros_size _ 3 _ rfl, zeros_size _ 3 _ rfl]; simp [hlen]; omega
  have hRt : ROW.toList.take (i * 3) = cs.take (i * 3) := by
    rw [hROW, Array.toList_append, Array.toList_append, List.append_assoc, List.take_left' (by simp [hlen]; omega)]
  obtain ⟨R2, hR2⟩ : ∃ R2 : Array Value, R2 = (ROW.toList.take (i * 3) ++ us ++ ROW.toList.drop (i * 3 + us.length)).toArray := ⟨_, rfl⟩
  have hR2s : R2.size = G * 3 := by rw [hR2]; simp; omega
  obtain ⟨R3, hR3⟩ : ∃ R3 : Array Value, R3 = (R2.toList.take ((i + 1) * 3) ++ cs.drop (i * 3) ++ R2.toList.drop ((i + 1) * 3 + (cs.drop (i * 3)).length)).toArray := ⟨_, rfl⟩
  have hR3s : R3.size = G * 3 := by rw [hR3]; simp [hlen]; omega
  have hR3t : R3.toList.take ((n + 1) * 3) = cs.take (i * 3) ++ us ++ cs.drop (i * 3) := by
    have ec : (cs.take (i * 3)).length = i * 3 := by simp [hlen]; omega
    have e5 : (cs.take (i * 3) ++ us ++ ROW.toList.drop (i * 3 + us.length)).take ((i + 1) * 3) = cs.take (i * 3) ++ us := List.take_left' (by simp only [List.length_append, ec, hul]; omega)
    rw [hR3, hR2, hRt]
    show List.take _ (List.take _ (_ ++ _ ++ _) ++ _ ++ _) = _
    rw [e5, List.take_left' (by simp [hlen, hul]; omega)]
  have hcpA : ∀ (W : World), W.heap = (w.alloc (.cells ROW 49)).heap → ∀ ty dc, (Builtin.copy_ #[24, 24] ty #[.slice (some ⟨w.heap.size, i * 3, none⟩) (n + 1 - i) dc, .slice (some ⟨vb, 0, none⟩) 1 1]).run Try.prog W = .ok (.int .i64 1) (W.setRow w.heap.size R2) := fun W hW ty dc => by
    have hq : W.heap[w.heap.size]? = some (.cells ROW 49 (0, 0)) := by rw [hW]; exact heap_alloc_new w _
    have hq2 : W.heap[vb]? = some (.cells us.toArray 49 (0, 0)) := by rw [hW]; exact ((Kept.refl w).alloc _).block hv
    have hmin : Nat.min 1 (n + 1 - i) = 1 := by show min 1 (n + 1 - i) = 1; omega
    rw [run_copy_rowN W 24 24 ty 49 3 w.heap.size (i * 3) (n + 1 - i) dc ⟨vb, 0, none⟩ 1 1 ROW 49 us Try.underlying24 hsz hq (by rw [hmin, hul]) (fun j v hj => by rw [Addr.add_lit, Nat.zero_add, cell_of_row W vb j _ _ _ hq2]; simpa using hj) (by omega) h1v, hmin, ← hR2]
    rfl
  have hcpB : ∀ (W : World), W.heap = ((w.alloc (.cells ROW 49)).setRow w.heap.size R2).heap → ∀ ty dc sc, (Builtin.copy_ #[24, 24] ty #[.slice (some ⟨w.heap.size, (i + 1) * 3, none⟩) (n + 1 - (i + 1)) dc, .slice (some ⟨b, i * 3, none⟩) (n - i) sc]).run Try.prog W = .ok (.int .i64 ((n - i : Nat) : Int)) (W.setRow w.heap.size R3) := fun W hW ty dc sc => by
    have hq : W.heap[w.heap.size]? = some (.cells R2 49 (0, 0)) := by rw [hW]; exact setRow_heap _ _ _ _ _ _ (heap_alloc_new w _)
    have hq2 : ∀ j v, cs[j]? = some v → W.cell? ⟨b, j, none⟩ = some v := fun j v hj => by
      have hk : Kept w ((w.alloc (.cells ROW 49)).setRow w.heap.size R2) := ((Kept.refl w).alloc _).setRow (Nat.le_refl _) _
      have := hk.cell (hcs j v hj)
      rw [← this]
      unfold World.cell?
      rw [hW]
    have hmin : Nat.min (n - i) (n + 1 - (i + 1)) = n - i := by show min (n - i) (n + 1 - (i + 1)) = n - i; omega
    rw [run_copy_rowN W 24 24 ty 49 3 w.heap.size ((i + 1) * 3) (n + 1 - (i + 1)) dc ⟨b, i * 3, none⟩ (n - i) sc R2 49 (cs.drop (i * 3)) Try.underlying24 hsz hq (by rw [hmin]; simp [hlen]; omega) (fun j v hj => by rw [Addr.add_lit]; exact hq2 _ _ (by rwa [List.getElem?_drop] at hj)) (by simp [hlen]; omega) (fun v hv => h1 v (List.mem_of_mem_drop hv)), hmin, ← hR3]
    rfl
  have HF : Hid (∀ W : World, W.heap[w.heap.size]? = some (.cells R3 49 (0, 0)) → Own W w.heap.size 49 3 (some ⟨w.heap.size, 0, none⟩) (n + 1) G (cs.take (i * 3) ++ us ++ cs.drop (i * 3))) := fun W hW =>
    ⟨by simp [hlen, hul]; omega, .inr ⟨_, _, _, rfl, Nat.le_refl _, hW, hG, hG2, hR3s, hR3t⟩⟩
  have hz2 : ¬ ((i : Int) = (n : Int)) := by omega
  have hz3 : (n : Int) < (n : Int) + 1 := by omega
  have hkk : (n : Int) + 1 - (i : Int) = ((n + 1 - i : Nat) : Int) := by omega
  have hG63 : G ≤ 9223372036854775807 := by unfold maxLen at hG2; omega
  have hGi : ¬ (G = i) := by omega
  have hGim : ¬ (G = i + 1) := by omega
  have hci : ¬ (n = i) := by omega
  have hw1 : IntKind.i64.wrap ((i : Int) + 1) = (i : Int) + 1 := by rw [IntKind.wrap_i64]; omega
  have hb1 : (0 : Int) ≤ (i : Int) + 1 := by omega
  have hin : i ≤ n := by omega
  have htn : ((i : Int) + 1).toNat = i + 1 := by omega
  have hb3 : (i : Int) ≤ (n : Int) := by omega
  rw [← hkk] at hrz
  have HG1 : Hid (n + 1 ≤ G) := hG
  have hA := hcpA (w.alloc (.cells ROW 49)).drew rfl
  have hB := hcpB (((w.alloc (.cells ROW 49)).drew.setRow w.heap.size R2).drew) rfl
  clear hcpA hcpB
  clear hkk hold hROW hRs hRt hR2 hR2s hR3 hR3s hR3t hsz hi0 hz0 hzs hzb hcs h1 hv h1v hlen hul
  go_enter Try.func46, Try.ntmps46
  go_wp2_with (first
    | (at_builtin; refine Lib.wpList_append_run _ rfl _ _ _ _ rfl _ _ rfl rfl _ _ (hrz _) ?_)
    | (at_builtin; refine wpList_copy_runI _ rfl _ _ 24 24 rfl _ _ rfl rfl (hA _ _) ?_)
    | (at_builtin; refine wpList_copy_runI _ rfl _ _ 24 24 rfl _ _ rfl rfl (hB _ _ _) ?_))
  go_region_law_o (refine step_copy_runI rfl _ _ 24 24 rfl (.slice (some ⟨w.heap.size, (i + 1) * 3, none⟩) (n + 1 - (i + 1)) (G - (i + 1))) (.slice (some ⟨b, i * 3, none⟩) (n - i) (n - i)) (by simp [Act.eval, Act.put]) (by simp [Act.eval, Act.put]) (hB 3 (G - (i + 1)) (n - i)) ?_)
  go_wp2
  go_ret
  refine ⟨_, _, rfl, HF.out _ ?_, ?_⟩
  · exact setRow_heap (((w.alloc (.cells ROW 49)).drew.setRow w.heap.size R2).drew) w.heap.size R2 R3 49 (0, 0) (setRow_heap (w.alloc (.cells ROW 49)).drew w.heap.size ROW R2 49 (0, 0) (heap_alloc_new w _))
  · exact (((((Kept.refl w).alloc (.cells ROW 49)).drew.setRow (Nat.le_refl _) R2).drew).setRow (Nat.le_refl _) R3)

theorem insert46 {w : World} {B : Nat} {p : Option Addr} {n : Nat} {cs : List Value} (h : Own w B 49 3 p n n cs) (i : Nat) (hi : i ≤ n) (hn : n ≤ 100000) (h1 : ∀ u ∈ cs, u.oneCell' = true)
    (vb : Nat) (us : List Value) (hul : us.length = 3) (hv : w.heap[vb]? = some (.cells us.toArray 49 (0, 0))) (h1v : ∀ v ∈ us, v.oneCell' = true) :
    Calls Try.prog 46 #[.slice p n n, .int .i64 (i : Nat), .slice (some ⟨vb, 0, none⟩) 1 1] w fun e w' => ∃ p' c', e = .returned (.slice p' (n + 1) c') ∧ Own w' w.heap.size 49 3 p' (n + 1) c' (cs.take (i * 3) ++ us ++ cs.drop (i * 3)) ∧ Kept w w' := by
  have hlen := h.rw.len
  have hcs : ∀ a, p = some a → a.spot = none ∧ a.off = 0 ∧ ∀ j v, cs[j]? = some v → w.cell? (a.add j) = some v := by
    intro a ha
    rcases h.cases with ⟨hx, _⟩ | ⟨g, cur, hx, _, _, hg, _, _, _, ht⟩
    · rw [ha] at hx; cases hx
    · rw [ha] at hx
      injection hx with hx
      subst hx
      refine ⟨rfl, rfl, fun j v hj => ?_⟩
      rw [Addr.add_lit, Nat.zero_add, cell_of_row w g j _ _ _ hg]
      rw [← ht, List.getElem?_take] at hj
      split at hj
      · simpa using hj
      · cases hj
  by_cases hin : i < n
  · cases p with
    | none =>
      rcases h.cases with ⟨_, h0, _⟩ | ⟨g, cur, hx, _⟩
      · omega
      · cases hx
    | some a =>
      obtain ⟨ab, ao, asp⟩ := a
      obtain ⟨e1, e2, h3⟩ := hcs _ rfl
      cases e1; cases e2
      exact insert46_mid ab n i cs hlen (fun j v hj => by have := h3 j v hj; rwa [Addr.add_lit, Nat.zero_add] at this) h1 hn hin vb us hul hv h1v
  · obtain rfl : i = n := by omega
    have e1 : cs.take (i * 3) = cs := List.take_of_length_le (by omega)
    have e2 : cs.drop (i * 3) = [] := List.drop_eq_nil_of_le (by omega)
    rw [e1, e2, List.append_nil]
    exact insert46_end p i cs hlen (fun hp => h.cases.elim (fun q => q.2.1) (fun ⟨g, cur, hx, _⟩ => by rw [hp] at hx; cases hx)) (fun a ha => ⟨(hcs a ha).1, (hcs a ha).2.2⟩) hn vb us hul hv h1v
end Go.Proofs.Ytgcfollelefmcaa
