/- The walk of slices.Delete at texts and at values, of one piece of a slice of one's own. Conditions: 100000 pieces at most. -/
import Derived.Test.YtgcfollelefmcaaSlB
import Derived.Deep.RegionLaw
import Derived.Shelf.RegionOpenPlain
namespace Go.Proofs.Ytgcfollelefmcaa
open Go.ChangeShapes Go.WideShapes Go.ChangeAt Go.RowKit

set_option maxHeartbeats 4000000 in
set_option maxRecDepth 1000000 in
theorem delete48 {w : World} {B g : Nat} {n c : Nat} {cs : List Value} (h : Own w B 9 1 (some ⟨g, 0, none⟩) n c cs) (i : Nat) (hi : i < n) (hn : n ≤ 100000) (h1 : ∀ u ∈ cs, u.oneCell' = true) :
    Calls Try.prog 48 #[.slice (some ⟨g, 0, none⟩) n c, .int .i64 (i : Nat), .int .i64 ((i + 1 : Nat) : Int)] w fun e w' => e = .returned (.slice (some ⟨g, 0, none⟩) (n - 1) c) ∧ Own w' B 9 1 (some ⟨g, 0, none⟩) (n - 1) c (cs.take (i * 1) ++ cs.drop ((i + 1) * 1)) ∧ w.grownBy w' (some g) := by
  have hlen := h.rw.len
  rcases h.cases with ⟨hx, _⟩ | ⟨g', cur, hx, hBg, hg1, hg, hnc, hcm, hcs, ht⟩
  · cases hx
  injection hx with hx
  injection hx with hx
  subst hx
  have hc63 : c ≤ 9223372036854775807 := by unfold maxLen at hcm; omega
  obtain ⟨i0, hi0, hz0, hz1, hz2⟩ := info_parts info9
  obtain ⟨news, hnews⟩ : ∃ news, news = cs.drop ((i + 1) * 1) := ⟨_, rfl⟩
  have hnl : news.length = (n - (i + 1)) * 1 := by rw [hnews, List.length_drop, hlen, ← Nat.sub_mul]
  have hcell : ∀ (j : Nat) (v : Value), cs[j]? = some v → w.cell? ⟨g, j, none⟩ = some v := by
    intro j v hj
    rw [cell_of_row w g j _ _ _ hg]
    rw [← ht, List.getElem?_take] at hj
    split at hj
    · simpa using hj
    · cases hj
  obtain ⟨A, hA, hsrc⟩ : ∃ A : Addr, (if c = i + 1 then some (⟨g, 0, none⟩ : Addr) else some ⟨g, i + 1, none⟩) = some A ∧ Hid (∀ t u, news[t]? = some u → w.drew.cell? (A.add t) = some u) := by
    by_cases hq : c = i + 1
    · refine ⟨⟨g, 0, none⟩, by simp [hq], fun t u hu => ?_⟩
      have h0 : news.length = 0 := by rw [hnl]; have : n - (i + 1) = 0 := by omega
                                      rw [this]
      rw [List.length_eq_zero_iff.1 h0] at hu
      simp at hu
    · refine ⟨⟨g, i + 1, none⟩, by simp [hq], fun t u hu => ?_⟩
      rw [Addr.add_lit]
      rw [hnews, List.getElem?_drop] at hu
      exact hcell _ _ (by simpa using hu)
  have s1 : Hid (news.length = (n - (i + 1)) * 1) := hnl
  have s2 : Hid (∀ u ∈ news, u.oneCell' = true) := fun u hu => h1 u (by rw [hnews] at hu; exact List.mem_of_mem_drop hu)
  have hfr : ∀ j, w.drew.frozen? ⟨g, j, none⟩ = false := fun j => frozen_of_row w g j _ _ hg
  have s3 : Hid (∀ t, t < news.length → (w.drew.cell? ⟨g, 0 + i * 1 + t, none⟩).isSome = true ∧ w.drew.frozen? ⟨g, 0 + i * 1 + t, none⟩ = false) := by
    intro t ht2
    refine ⟨?_, hfr _⟩
    show (w.cell? _).isSome = true
    rw [cell_of_row w g _ _ _ _ hg]
    simp; omega
  obtain ⟨W1, hW1⟩ : ∃ W1, W1 = w.drew.setCells g (0 + i * 1) news := ⟨_, rfl⟩
  have hW1' : W1 = w.drew.setRow g (cur.toList.take (i * 1) ++ news ++ cur.toList.drop (i * 1 + news.length)).toArray := by
    rw [hW1, Nat.zero_add, setCells_row g 9 news (i * 1) cur w.drew hg (by omega)]
  have hg2 : W1.heap[g]? = some (.cells (cur.toList.take (i * 1) ++ news ++ cur.toList.drop (i * 1 + news.length)).toArray 9 (0, 0)) := by rw [hW1']; exact setRow_heap w.drew g _ _ _ _ hg
  obtain ⟨R, hR⟩ : ∃ R : Array Value, R = (cur.toList.take (i * 1) ++ news ++ cur.toList.drop (i * 1 + news.length)).toArray := ⟨_, rfl⟩
  rw [← hR] at hg2 hW1'
  have hRs : R.size = c * 1 := by rw [hR]; simp; omega
  have hcl : ∀ ty cc, (Builtin.clear_ #[23] ty #[.slice (some ⟨g, i + (n - (i + 1)), none⟩) (n - (i + (n - (i + 1)))) cc]).run Try.prog W1 = .ok (.tuple #[]) (W1.setRow g (R.toList.take ((n - 1) * 1) ++ [Value.string ⟨#[]⟩] ++ R.toList.drop ((n - 1) * 1 + ([Value.string ⟨#[]⟩]).length)).toArray) := by
    intro ty cc
    have hadr : i + (n - (i + 1)) = (n - 1) * 1 := by omega
    rw [show n - (i + (n - (i + 1))) = 1 by omega, hadr]
    exact run_clear_rowN W1 23 9 ty (.string ⟨#[]⟩) Try.underlying23 Try.zeroValue9 g ((n - 1) * 1) 1 cc (by decide) R 9 hg2 [Value.string ⟨#[]⟩] (by kernel_rfl) (by simp; omega) (by intro v hv; simp at hv; rcases hv with rfl | rfl | rfl <;> rfl)
  have hW : Hid (W1 = w.drew.setCells g (0 + i * 1) news) := hW1
  have HW : Hid (W1 = w.drew.setRow g R) := hW1'
  have HR : Hid (R = (cur.toList.take (i * 1) ++ news ++ cur.toList.drop (i * 1 + news.length)).toArray) := hR
  have HN : Hid (news = cs.drop ((i + 1) * 1)) := hnews
  have HT : Hid (cur.toList.take (n * 1) = cs) := ht
  have HG2 : Hid (W1.heap[g]? = some (.cells R 9 (0, 0))) := hg2
  have hic : i ≤ c := by omega
  have hjc : i + 1 ≤ c := by omega
  have mixed : Try.prog.follows .mixedOrders = true := by kernel_rfl
  clear hW1 hW1' hR hnews ht hg2 hcell hnl
  have HJ : Hid (∃ j, j = i + 1) := ⟨_, rfl⟩
  obtain ⟨j, hj⟩ := HJ.out
  have e8 : n - 1 = i + (n - j) := by omega
  have HE : Hid (n - 1 = i + (n - j)) := e8
  have hij : ¬ ((i : Int) = (j : Int)) := by omega
  have hjn : j ≤ n := by omega
  have hlt : i < j := by omega
  have hjn2 : (j : Int) ≤ (n : Int) := by omega
  rw [← hj] at hA hcl hjc
  have s1' : Hid (news.length = (n - j) * 1) := by rw [hj]; exact s1.out
  have Hj : Hid (j = i + 1) := hj
  suffices hs : Calls Try.prog 48 #[.slice (some ⟨g, 0, none⟩) n c, .int .i64 (i : Nat), .int .i64 (j : Nat)] w fun e w' => e = .returned (.slice (some ⟨g, 0, none⟩) (i + (n - j)) c) ∧ w' = W1.setRow g (R.toList.take ((n - 1) * 1) ++ [Value.string ⟨#[]⟩] ++ R.toList.drop ((n - 1) * 1 + ([Value.string ⟨#[]⟩]).length)).toArray by
    rw [← hj]
    refine hs.mono ?_
    rintro e w' ⟨rfl, rfl⟩
    refine ⟨by rw [HE.out], ⟨?_, .inr ⟨g, c, _, rfl, hBg, setRow_heap W1 g _ _ _ _ HG2.out, by omega, hcm, ?_, ?_⟩⟩, ?_⟩
    · simp [hlen]; omega
    · simp [hRs]; omega
    · have e1 : R.toList.take ((n - 1) * 1) = cs.take (i * 1) ++ cs.drop ((i + 1) * 1) := by
        have q := s1.out
        rw [HR.out, HN.out]
        rw [HN.out] at q
        rw [show cur.toList.take (i * 1) = cs.take (i * 1) by rw [← HT.out, List.take_take]; congr 1; omega]
        show (List.take _ (_ ++ _ ++ _)) = _
        rw [List.take_left' (by simp only [List.length_append, List.length_take, q]; omega)]
      rw [List.toList_toArray, e1]
      rw [List.append_assoc, List.take_left' (by simp [hlen]; omega), hj]
    · rw [HW.out, setRow_setRow]
      exact grown_row _ (Kept.refl w).drew
  clear hj e8 HE
  go_enter Try.func48, Try.ntmps48
  go_wp2_with fail
  go_region_law_o (refine step_append_room rfl (.tmp 22) (.tmp 25) 23 rfl 9 i0 1 Try.underlying23 hi0 hz1 g 0 i c (by simp [Act.eval, Act.put]) A (n - j) (c - j) news (by simp [Act.eval, Act.put]) s1'.out hsrc.out s2.out (by omega) s3.out ?_; rw [← hW.out])
  go_wp2
  go_ret
  exact ⟨rfl, by simp⟩

set_option maxHeartbeats 4000000 in
set_option maxRecDepth 1000000 in
theorem delete49 {w : World} {B g : Nat} {n c : Nat} {cs : List Value} (h : Own w B 49 3 (some ⟨g, 0, none⟩) n c cs) (i : Nat) (hi : i < n) (hn : n ≤ 100000) (h1 : ∀ u ∈ cs, u.oneCell' = true) :
    Calls Try.prog 49 #[.slice (some ⟨g, 0, none⟩) n c, .int .i64 (i : Nat), .int .i64 ((i + 1 : Nat) : Int)] w fun e w' => e = .returned (.slice (some ⟨g, 0, none⟩) (n - 1) c) ∧ Own w' B 49 3 (some ⟨g, 0, none⟩) (n - 1) c (cs.take (i * 3) ++ cs.drop ((i + 1) * 3)) ∧ w.grownBy w' (some g) := by
  have hlen := h.rw.len
  rcases h.cases with ⟨hx, _⟩ | ⟨g', cur, hx, hBg, hg1, hg, hnc, hcm, hcs, ht⟩
  · cases hx
  injection hx with hx
  injection hx with hx
  subst hx
  have hc63 : c ≤ 9223372036854775807 := by unfold maxLen at hcm; omega
  obtain ⟨i0, hi0, hz0, hz1, hz2⟩ := info_parts info49
  obtain ⟨news, hnews⟩ : ∃ news, news = cs.drop ((i + 1) * 3) := ⟨_, rfl⟩
  have hnl : news.length = (n - (i + 1)) * 3 := by rw [hnews, List.length_drop, hlen, ← Nat.sub_mul]
  have hcell : ∀ (j : Nat) (v : Value), cs[j]? = some v → w.cell? ⟨g, j, none⟩ = some v := by
    intro j v hj
    rw [cell_of_row w g j _ _ _ hg]
    rw [← ht, List.getElem?_take] at hj
    split at hj
    · simpa using hj
    · cases hj
  obtain ⟨A, hA, hsrc⟩ : ∃ A : Addr, (if c = i + 1 then some (⟨g, 0, none⟩ : Addr) else some ⟨g, (i + 1) * 3, none⟩) = some A ∧ Hid (∀ t u, news[t]? = some u → w.drew.cell? (A.add t) = some u) := by
    by_cases hq : c = i + 1
    · refine ⟨⟨g, 0, none⟩, by simp [hq], fun t u hu => ?_⟩
      have h0 : news.length = 0 := by rw [hnl]; have : n - (i + 1) = 0 := by omega
                                      rw [this]
      rw [List.length_eq_zero_iff.1 h0] at hu
      simp at hu
    · refine ⟨⟨g, (i + 1) * 3, none⟩, by simp [hq], fun t u hu => ?_⟩
      rw [Addr.add_lit]
      rw [hnews, List.getElem?_drop] at hu
      exact hcell _ _ hu
  have s1 : Hid (news.length = (n - (i + 1)) * 3) := hnl
  have s2 : Hid (∀ u ∈ news, u.oneCell' = true) := fun u hu => h1 u (by rw [hnews] at hu; exact List.mem_of_mem_drop hu)
  have hfr : ∀ j, w.drew.frozen? ⟨g, j, none⟩ = false := fun j => frozen_of_row w g j _ _ hg
  have s3 : Hid (∀ t, t < news.length → (w.drew.cell? ⟨g, 0 + i * 3 + t, none⟩).isSome = true ∧ w.drew.frozen? ⟨g, 0 + i * 3 + t, none⟩ = false) := by
    intro t ht2
    refine ⟨?_, hfr _⟩
    show (w.cell? _).isSome = true
    rw [cell_of_row w g _ _ _ _ hg]
    simp; omega
  obtain ⟨W1, hW1⟩ : ∃ W1, W1 = w.drew.setCells g (0 + i * 3) news := ⟨_, rfl⟩
  have hW1' : W1 = w.drew.setRow g (cur.toList.take (i * 3) ++ news ++ cur.toList.drop (i * 3 + news.length)).toArray := by
    rw [hW1, Nat.zero_add, setCells_row g 49 news (i * 3) cur w.drew hg (by omega)]
  have hg2 : W1.heap[g]? = some (.cells (cur.toList.take (i * 3) ++ news ++ cur.toList.drop (i * 3 + news.length)).toArray 49 (0, 0)) := by rw [hW1']; exact setRow_heap w.drew g _ _ _ _ hg
  obtain ⟨R, hR⟩ : ∃ R : Array Value, R = (cur.toList.take (i * 3) ++ news ++ cur.toList.drop (i * 3 + news.length)).toArray := ⟨_, rfl⟩
  rw [← hR] at hg2 hW1'
  have hRs : R.size = c * 3 := by rw [hR]; simp; omega
  have hcl : ∀ ty cc, (Builtin.clear_ #[24] ty #[.slice (some ⟨g, (i + (n - (i + 1))) * 3, none⟩) (n - (i + (n - (i + 1)))) cc]).run Try.prog W1 = .ok (.tuple #[]) (W1.setRow g (R.toList.take ((n - 1) * 3) ++ [Value.string ⟨#[]⟩, Value.int .i64 0, Value.int .i64 0] ++ R.toList.drop ((n - 1) * 3 + ([Value.string ⟨#[]⟩, Value.int .i64 0, Value.int .i64 0]).length)).toArray) := by
    intro ty cc
    have hadr : (i + (n - (i + 1))) * 3 = (n - 1) * 3 := by omega
    rw [show n - (i + (n - (i + 1))) = 1 by omega, hadr]
    exact run_clear_rowN W1 24 49 ty (.agg #[.string ⟨#[]⟩, .int .i64 0, .int .i64 0]) Try.underlying24 Try.zeroValue49 g ((n - 1) * 3) 1 cc (by decide) R 49 hg2 [Value.string ⟨#[]⟩, Value.int .i64 0, Value.int .i64 0] (by kernel_rfl) (by simp; omega) (by intro v hv; simp at hv; rcases hv with rfl | rfl | rfl <;> rfl)
  have hW : Hid (W1 = w.drew.setCells g (0 + i * 3) news) := hW1
  have HW : Hid (W1 = w.drew.setRow g R) := hW1'
  have HR : Hid (R = (cur.toList.take (i * 3) ++ news ++ cur.toList.drop (i * 3 + news.length)).toArray) := hR
  have HN : Hid (news = cs.drop ((i + 1) * 3)) := hnews
  have HT : Hid (cur.toList.take (n * 3) = cs) := ht
  have HG2 : Hid (W1.heap[g]? = some (.cells R 49 (0, 0))) := hg2
  have hic : i ≤ c := by omega
  have hjc : i + 1 ≤ c := by omega
  have mixed : Try.prog.follows .mixedOrders = true := by kernel_rfl
  clear hW1 hW1' hR hnews ht hg2 hcell hnl
  have HJ : Hid (∃ j, j = i + 1) := ⟨_, rfl⟩
  obtain ⟨j, hj⟩ := HJ.out
  have e8 : n - 1 = i + (n - j) := by omega
  have HE : Hid (n - 1 = i + (n - j)) := e8
  have hij : ¬ ((i : Int) = (j : Int)) := by omega
  have hjn : j ≤ n := by omega
  have hlt : i < j := by omega
  have hjn2 : (j : Int) ≤ (n : Int) := by omega
  rw [← hj] at hA hcl hjc
  have s1' : Hid (news.length = (n - j) * 3) := by rw [hj]; exact s1.out
  have Hj : Hid (j = i + 1) := hj
  suffices hs : Calls Try.prog 49 #[.slice (some ⟨g, 0, none⟩) n c, .int .i64 (i : Nat), .int .i64 (j : Nat)] w fun e w' => e = .returned (.slice (some ⟨g, 0, none⟩) (i + (n - j)) c) ∧ w' = W1.setRow g (R.toList.take ((n - 1) * 3) ++ [Value.string ⟨#[]⟩, Value.int .i64 0, Value.int .i64 0] ++ R.toList.drop ((n - 1) * 3 + ([Value.string ⟨#[]⟩, Value.int .i64 0, Value.int .i64 0]).length)).toArray by
    rw [← hj]
    refine hs.mono ?_
    rintro e w' ⟨rfl, rfl⟩
    refine ⟨by rw [HE.out], ⟨?_, .inr ⟨g, c, _, rfl, hBg, setRow_heap W1 g _ _ _ _ HG2.out, by omega, hcm, ?_, ?_⟩⟩, ?_⟩
    · simp [hlen]; omega
    · simp [hRs]; omega
    · have e1 : R.toList.take ((n - 1) * 3) = cs.take (i * 3) ++ cs.drop ((i + 1) * 3) := by
        have q := s1.out
        rw [HR.out, HN.out]
        rw [HN.out] at q
        rw [show cur.toList.take (i * 3) = cs.take (i * 3) by rw [← HT.out, List.take_take]; congr 1; omega]
        show (List.take _ (_ ++ _ ++ _)) = _
        rw [List.take_left' (by simp only [List.length_append, List.length_take, q]; omega)]
      rw [List.toList_toArray, e1]
      rw [List.append_assoc, List.take_left' (by simp [hlen]; omega), hj]
    · rw [HW.out, setRow_setRow]
      exact grown_row _ (Kept.refl w).drew
  clear hj e8 HE
  go_enter Try.func49, Try.ntmps49
  go_wp2_with fail
  go_region_law_o (refine step_append_room rfl (.tmp 22) (.tmp 25) 24 rfl 49 i0 3 Try.underlying24 hi0 hz1 g 0 i c (by simp [Act.eval, Act.put]) A (n - j) (c - j) news (by simp [Act.eval, Act.put]) s1'.out hsrc.out s2.out (by omega) s3.out ?_; rw [← hW.out])
  go_wp2
  go_ret
  exact ⟨rfl, by simp⟩
end Go.Proofs.Ytgcfollelefmcaa
