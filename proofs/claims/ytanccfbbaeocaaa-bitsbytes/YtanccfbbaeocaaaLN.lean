/- The walks of the statements' awake, set and same. Conditions: the library's table is laid (same); those that each row names. -/
import Derived.Test.YtanccfbbaeocaaaLIb
import Derived.Test.YtanccfbbaeocaaaLLc
import Derived.Test.YtanccfbbaeocaaaLMb
namespace Go.Proofs.Ytanccfbbaeocaaa.Bt
open Go.RowKit Go.Shelf

theorem results_two {P : Program} {fn : Func} {p u : Tmp} {ty : TypeId} (h : fn.results = #[.cell p ty, .tmp u]) (tmps : Array Value) (w : World) (g : Nat) (t : TypeId) (cs : Array Value) (fr : Nat × Nat) (d : TypeDesc)
    (hp : tmps.getD p undef = .pointer (some ⟨g, 0, none⟩)) (hg : w.heap[g]? = some (.cells cs t fr))
    (hu : P.underlying ty = some d) (hd : (match d with | .struct _ | .array _ _ => true | _ => false) = true) (hi : (P.info? ty).map (·.size) = some cs.size) :
    (results fn tmps).run P w = .ok (.tuple #[.agg cs, tmps.getD u undef]) w := by
  rw [results_cell_tmp h, hp]
  simp [asAddr, run_loadVar_row w g t ty cs fr d hg hu hd hi]
theorem srt_two : srt [64, 1] = [1, 64] := by
  have h1 : (srt [64, 1]).Pairwise (fun a b => decide (a ≤ b) = true) := List.pairwise_mergeSort (fun a b c h1 h2 => by simp at *; omega) (fun a b => by simp; omega) _
  have h2 : (srt [64, 1]).Perm [64, 1] := List.mergeSort_perm _ _
  have h3 : ([1, 64] : List Int).Perm [64, 1] := List.Perm.swap 64 1 []
  exact (h2.trans h3.symm).eq_of_pairwise (fun a b _ _ h4 h5 => by simp at *; omega) h1 (by simp)
def P2 : List Pt := [(0, 2), (1, 1)]
theorem ofs_two : ofs (srt [64, 1]) = P2 := by rw [srt_two]; decide +kernel
theorem P2_ok : Okp P2 := ⟨by simp [P2], fun p hp => by simp [P2] at hp; rcases hp with rfl | rfl <;> decide⟩
theorem P2_nm : nm P2 = [1, 64] := by decide +kernel
theorem P2_has1 : decide ((1 : Int) ∈ ni P2) = true := by unfold ni; rw [P2_nm]; decide
theorem P2_has2 : decide ((2 : Int) ∈ ni P2) = false := by unfold ni; rw [P2_nm]; decide
theorem il_two (w : World) : Il (w.alloc (.cells #[.int .i64 64, .int .i64 1] 3)) (some ⟨w.heap.size, 0, none⟩) 2 2 [64, 1] :=
  ⟨⟨rfl, Nat.le_refl _, by unfold maxLen; omega, .inr ⟨w.heap.size, 0, rfl, fun j u hj => by
    rw [Nat.zero_add, cell_of_row _ _ _ _ _ _ (alloc_at w (.cells #[.int .i64 64, .int .i64 1] 3))]
    simpa [ic] using hj⟩⟩⟩
set_option maxRecDepth 100000 in
set_option maxHeartbeats 2000000 in
theorem awake_walk (w : World) : Calls Try.prog 7 #[] w fun e w' => e = .returned (.bool true) ∧ Kept w w' := by
  have ka : Kept w (w.alloc (.cells #[.int .i64 64, .int .i64 1] 3)) := (Kept.refl w).alloc _
  have f1 := of_walk (il_two w) (by omega) (by omega) (by rw [ofs_two]; exact P2_ok)
  rw [ofs_two] at f1
  have fH1 : Hid (∀ W p n c, St W p n c P2 → Calls Try.prog 20 #[.agg #[.slice p n c], .int .i64 1] W fun e w' => e = .returned (.bool true) ∧ Kept W w') := fun W p n c h => by have := has_walk h 1; rwa [P2_has1] at this
  have fH2 : Hid (∀ W p n c, St W p n c P2 → Calls Try.prog 20 #[.agg #[.slice p n c], .int .i64 2] W fun e w' => e = .returned (.bool false) ∧ Kept W w') := fun W p n c h => by have := has_walk h 2; rwa [P2_has2] at this
  have fM : Hid (∀ W p n c, St W p n c P2 → Calls Try.prog 21 #[.agg #[.slice p n c]] W fun e w' => e = .returned (.int .i64 2) ∧ Kept W w') := fun W p n c h => by have := many_walk h; rwa [P2_nm] at this
  go_enter Try.func7, Try.ntmps7
  go_wp2_with (first
    | (go_at_call 19; (with_reducible refine f1.mono ?_); clear f1; rintro e w1 ⟨q, n, c, rfl, S1, k1⟩; have kb : Kept w1 (w1.alloc (.cells #[.slice q n c] 25)) := (Kept.refl w1).alloc _; have HK : Hid (Kept w (w1.alloc (.cells #[.slice q n c] 25))) := (ka.trans k1).trans kb; have HS1 : Hid (St (w1.alloc (.cells #[.slice q n c] 25)) q n c P2) := S1.st.kept kb; have HC1 : Hid (∀ W, Kept (w1.alloc (.cells #[.slice q n c] 25)) W → W.cell? ⟨w1.heap.size, 0, none⟩ = some (.slice q n c)) := (fun W k => by rw [cell_of_row _ _ 0 _ _ _ (k.block (alloc_at w1 _))]; rfl); have g1 := fH1.out _ _ _ _ HS1.out; clear S1 k1 kb)
    | (go_at_call 20; (with_reducible refine g1.mono ?_); clear g1; rintro e w2 ⟨rfl, k2⟩; have c2 := HC1.out _ k2; have g2 := fH2.out _ _ _ _ (HS1.out.kept k2))
    | (go_at_call 20; (with_reducible refine g2.mono ?_); clear g2; rintro e w3 ⟨rfl, k3⟩; have c3 := HC1.out _ (k2.trans k3); have g3 := fM.out _ _ _ _ (HS1.out.kept (k2.trans k3)))
    | (go_at_call 21; (with_reducible refine g3.mono ?_); clear g3; rintro e w4 ⟨rfl, k4⟩))
  go_ret
  exact ⟨rfl, HK.out.trans ((k2.trans k3).trans k4)⟩

/-- What set has in memory. -/
structure Sw (w W : World) (q : Option Addr) (m cc : Nat) (G : List Pt) : Prop where
  b2 : W.heap[w.heap.size]? = some (.cells #[.slice none 0 0] 25)
  b5 : W.heap[w.heap.size + 1]? = some (.cells #[.slice q m cc] 25)
  so : So W (w.heap.size + 2) q m cc G
  kept : Kept w W
  big : w.heap.size + 2 ≤ W.heap.size
theorem Sw.more {w W : World} {q : Option Addr} {m cc : Nat} {G : List Pt} (h : Sw w W q m cc G) {W' : World} (k : Kept W W') : Sw w W' q m cc G := ⟨k.block h.b2, k.block h.b5, h.so.kept k, h.kept.trans k, Nat.le_trans h.big k.size⟩
theorem Sw.put {w W : World} {q : Option Addr} {m cc : Nat} {G : List Pt} (h : Sw w W q m cc G) {q1 : Option Addr} {m1 c1 : Nat} {G1 : List Pt} {w1 : World} (k : Kept W w1) (s : So w1 W.heap.size q1 m1 c1 G1) :
    (w1.cell? ⟨w.heap.size + 1, 0, none⟩ = some (.slice q m cc) ∧ w1.frozen? ⟨w.heap.size + 1, 0, none⟩ = false) ∧ Sw w (w1.setCell ⟨w.heap.size + 1, 0, none⟩ (.slice q1 m1 c1)) q1 m1 c1 G1 := by
  have b5 := k.block h.b5
  have hb := h.big
  refine ⟨⟨by rw [cell_of_row _ _ 0 _ _ _ b5]; rfl, frozen_of_row _ _ 0 _ _ b5⟩, ⟨?_, by rw [heap_setCell_same _ _ 0 _ _ _ b5]; rfl, ?_, (h.kept.trans k).setCell (p := ⟨w.heap.size + 1, 0, none⟩) (by show w.heap.size ≤ w.heap.size + 1; omega) _, by have := k.size; simp; omega⟩⟩
  · exact (heap_setCell_other _ ⟨w.heap.size + 1, 0, none⟩ w.heap.size _ (by show w.heap.size ≠ w.heap.size + 1; omega)).trans (k.block h.b2)
  · exact (s.mono hb).set (by omega) 0 _
theorem Sw.fin {w W : World} {q : Option Addr} {m cc : Nat} {G : List Pt} (h : Sw w W q m cc G) : W.cell? ⟨w.heap.size, 0, none⟩ = some (.slice none 0 0) ∧ W.frozen? ⟨w.heap.size, 0, none⟩ = false ∧ St (W.setCell ⟨w.heap.size, 0, none⟩ (.slice q m cc)) q m cc G ∧ Kept w (W.setCell ⟨w.heap.size, 0, none⟩ (.slice q m cc)) ∧ (W.setCell ⟨w.heap.size, 0, none⟩ (.slice q m cc)).heap[w.heap.size]? = some (.cells #[.slice q m cc] 25) :=
  ⟨by rw [cell_of_row _ _ 0 _ _ _ h.b2]; rfl, frozen_of_row _ _ 0 _ _ h.b2, (h.so.set (by omega) 0 _).st, h.kept.setCell (p := ⟨w.heap.size, 0, none⟩) (Nat.le_refl _) _, by rw [heap_setCell_same _ _ 0 _ _ _ h.b2]; rfl⟩
end Go.Proofs.Ytanccfbbaeocaaa.Bt
