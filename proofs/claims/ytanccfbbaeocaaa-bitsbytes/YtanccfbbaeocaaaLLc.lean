/- The walk of With. Conditions: those that each row names. -/
import Derived.Deep.RegionWith
import Derived.Test.YtanccfbbaeocaaaLLb
namespace Go.Proofs.Ytanccfbbaeocaaa.Bt
open Go.RowKit Go.Shelf
theorem so_one {w : World} {z : Int} : Il (w.alloc (.cells #[.int .i64 z] 3)) (some ⟨w.heap.size, 0, none⟩) 1 1 [z] :=
  ⟨⟨rfl, Nat.le_refl _, by unfold maxLen; omega, .inr ⟨w.heap.size, 0, rfl, fun j u hj => by
    rw [Nat.zero_add, cell_of_row _ _ _ _ _ _ (alloc_at w (.cells #[.int .i64 z] 3))]
    simpa [ic] using hj⟩⟩⟩
set_option maxRecDepth 100000 in
set_option maxHeartbeats 2000000 in
theorem with_walk {w : World} {ps : Option Addr} {ns cs : Nat} {P : List Pt} (hs : St w ps ns cs P) (z : Int) :
    Calls Try.prog 10 #[.agg #[.slice ps ns cs], .int .i64 z] w fun e w' => ∃ q n c, e = .returned (.agg #[.slice q n c]) ∧ So w' w.heap.size q n c (mrg orf P (one z)) ∧ Kept w w' := by
  have HOf : Hid (∀ W, Calls Try.prog 19 #[.slice (some ⟨W.heap.size, 0, none⟩) 1 1] (W.alloc (.cells #[.int .i64 z] 3)) fun e w' => ∃ q m c', e = .returned (.agg #[.slice q m c']) ∧ So w' W.heap.size q m c' (one z) ∧ Kept W w') := fun W => by
    have h := of_walk (so_one (w := W) (z := z)) (by omega) (by omega) (by rw [srt_one, ofs_one]; exact one_ok z)
    rw [srt_one, ofs_one, size_alloc] at h
    refine h.mono ?_
    rintro e w' ⟨q, m, c', rfl, h1, h2⟩
    exact ⟨q, m, c', rfl, h1.mono (by omega), ((Kept.refl W).alloc _).trans h2⟩
  have HOr : Hid (∀ W q n c, Kept w W → So W w.heap.size q n c (one z) → Calls Try.prog 25 #[.agg #[.slice ps ns cs], .agg #[.slice q n c]] W fun e w' => ∃ q n c, e = .returned (.agg #[.slice q n c]) ∧ So w' W.heap.size q n c (mrg orf P (one z)) ∧ Kept W w') := fun W q n c k h => or_walk (hs.kept k) h.st
  generalize mrg orf P (one z) = G at *
  obtain ⟨W0, hW0⟩ : ∃ W0, (w.alloc (.cells #[.slice ps ns cs] 25)).alloc (.cells #[.slice none 0 0] 25) = W0 := ⟨_, rfl⟩
  have k0 : Kept w W0 := by rw [← hW0]; exact ((Kept.refl w).alloc _).alloc _
  have b1 : W0.heap[w.heap.size + 1]? = some (.cells #[.slice none 0 0] 25) := by rw [← hW0]; have := alloc_at (w.alloc (.cells #[.slice ps ns cs] 25)) (.cells #[.slice none 0 0] 25); rwa [size_alloc] at this
  have b0 : W0.heap[w.heap.size]? = some (.cells #[.slice ps ns cs] 25) := by rw [← hW0]; exact ((Kept.refl _).alloc _).block (alloc_at w _)
  have hsz : W0.heap.size = w.heap.size + 1 + 1 := by rw [← hW0, size_alloc, size_alloc]
  have HC : Hid (∀ W, Kept W0 W → W.cell? ⟨w.heap.size, 0, none⟩ = some (.slice ps ns cs)) := fun W k => by rw [cell_of_row _ _ 0 _ _ _ (k.block b0)]; rfl
  have y0 := HC.out _ (Kept.refl W0).drew
  have y1 := fun o => HC.out _ ((Kept.refl W0).drew.alloc o)
  have y3 := fun o => HC.out _ (((Kept.refl W0).alloc o).drew)
  have HE : Hid (∀ W q n c, Kept W0 W → So W W0.heap.size q n c G → W.cell? ⟨w.heap.size + 1, 0, none⟩ = some (.slice none 0 0) ∧ W.frozen? ⟨w.heap.size + 1, 0, none⟩ = false ∧ So (W.setCell ⟨w.heap.size + 1, 0, none⟩ (.slice q n c)) w.heap.size q n c G ∧ Kept w (W.setCell ⟨w.heap.size + 1, 0, none⟩ (.slice q n c)) ∧ (W.setCell ⟨w.heap.size + 1, 0, none⟩ (.slice q n c)).heap[w.heap.size + 1]? = some (.cells #[.slice q n c] 25)) := fun W q n c k h => by
    have b3 := k.block b1
    exact ⟨by rw [cell_of_row _ _ 0 _ _ _ b3]; rfl, frozen_of_row _ _ 0 _ _ b3, (h.set (by omega) 0 _).mono (by omega), (k0.trans k).setCell (by show w.heap.size ≤ w.heap.size + 1; omega) _, by rw [heap_setCell_same _ _ 0 _ _ _ b3]; rfl⟩
  clear hs
  go_enter Try.func10, Try.ntmps10
  go_wp2
  (try rw [hW0])
  have fOf : Calls Try.prog 19 #[.slice (some ⟨w.heap.size + 1 + 1, 0, none⟩) 1 1] (W0.alloc (.cells #[.int .i64 z] 3)).drew fun e w' => ∃ q m c', e = .returned (.agg #[.slice q m c']) ∧ So w' W0.heap.size q m c' (one z) ∧ Kept W0 w' := by
    have h := (HOf.out W0.drew).mono (R' := fun e w' => ∃ q m c', e = .returned (.agg #[.slice q m c']) ∧ So w' W0.heap.size q m c' (one z) ∧ Kept W0 w') fun e w' ⟨q, m, c', h1, h2, h3⟩ => ⟨q, m, c', h1, h2, (Kept.refl W0).drew.trans h3⟩
    rw [show W0.drew.heap.size = w.heap.size + 1 + 1 from hsz] at h
    exact h
  clear hW0 b0 b1 HOf
  go_region_with (first
    | (go_at_call 19; (with_reducible refine fOf.mono ?_); rintro e w1 ⟨q1, n1, c1, rfl, S1, k2⟩; have y2 := HC.out _ k2; have fOr := HOr.out w1 q1 n1 c1 (k0.trans k2) (S1.mono k0.size))
    | (go_at_call 25; (with_reducible refine fOr.mono ?_); rintro e w3 ⟨q3, n3, c3, rfl, S3, k3⟩; obtain ⟨e1, e2, HF1, HF2, HF3⟩ := HE.out w3 q3 n3 c3 (k2.trans k3) (S3.mono k2.size)))
  all_goals (try (go_wp2_with fail))
  all_goals (refine bodyPost_ret (v := .agg #[.slice q3 n3 c3]) ?_ rfl ⟨q3, n3, c3, rfl, HF1, HF2⟩)
  all_goals exact results_one (p := 4) (ty := 25) rfl _ _ (w.heap.size + 1) 25 _ (0, 0) _ rfl HF3 Try.underlying25 rfl size25
end Go.Proofs.Ytanccfbbaeocaaa.Bt
