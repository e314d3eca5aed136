/- The statement's Leaf, inner and either of a list of none, wherever it may point; either of whatever list. No condition. -/
import Derived.Test.YtgcfollelefmcaaNN
import Derived.Test.YtgcfollelefmcaaGiven
namespace Go.Proofs.Ytgcfollelefmcaa
open Go.ChangeShapes Go.WideShapes Go.ChangeAt Go.RowKit

theorem leaf_empty {w : World} {p : Option Addr} {c : Nat} :
    Calls Try.prog 16 #[.slice p 0 c] w fun e w' => e = .returned (.agg #[.bool true, .slice none 0 0, .slice none 0 0, .slice none 0 0]) ∧ Kept w w' := by
  go_enter Try.func16, Try.ntmps16
  go_wp2
  go_loopg [3] 0 (fun _ v wx => v = .int .i64 0 ∧ wx = w.alloc (.cells #[.bool true, .slice none 0 0, .slice none 0 0, .slice none 0 0] 27))
  case atStart => exact ⟨rfl, rfl⟩
  case round =>
    obtain ⟨rfl, rfl⟩ := hrel
    go_wp2
    refine bodyPost_ret (v := .agg #[.bool true, .slice none 0 0, .slice none 0 0, .slice none 0 0]) ?_ rfl ⟨rfl, (Kept.refl w).alloc _⟩
    exact results_cell_row (p := 2) rfl _ _ w.heap.size 27 #[.bool true, .slice none 0 0, .slice none 0 0, .slice none 0 0] (0, 0) _ rfl (heap_alloc_new w _) Try.underlying27 rfl size27

set_option maxHeartbeats 1000000 in
set_option maxRecDepth 100000 in
theorem inner_empty {w : World} {p : Option Addr} {c : Nat} :
    Calls Try.prog 26 #[.slice p 0 c] w fun e w' => ∃ g, e = .returned (.agg #[.bool false, .slice none 0 0, .slice none 0 0, .slice (some ⟨g, 0, none⟩) 1 1]) ∧ Own w' w.heap.size 3 1 (some ⟨g, 0, none⟩) 1 1 (icl [5]) ∧ Kept w w' := by
  have K0 : Kept w (w.alloc (.cells #[.bool false, .slice none 0 0, .slice none 0 0, .slice none 0 0] 27)) := (Kept.refl w).alloc _
  have R0 := C4.alloc w 27 (.bool false) (.slice none 0 0) (.slice none 0 0) (.slice none 0 0)
  have S0 := size_alloc w (.cells #[.bool false, .slice none 0 0, .slice none 0 0, .slice none 0 0] 27)
  go_enter Try.func26, Try.ntmps26
  go_wp2_with (first
    | (go_at_call 16
       (with_reducible refine leaf_empty.mono ?_)
       rintro e v1 ⟨rfl, k1⟩
       have K1 := K0.trans k1
       have R1 := R0.kept k1
       have S1 := k1.size
       rw [S0] at S1
       clear K0 R0 S0 k1))
  have Y1 : C4 (((v1.alloc (.cells #[.bool true, .slice none 0 0, .slice none 0 0, .slice none 0 0] 27)).alloc (.cells #[.int .i64 5] 3)).alloc (.cells #[.bool false, .slice none 0 0, .slice none 0 0, .slice (some ⟨v1.heap.size + 1, 0, none⟩) 1 1] 27)) (v1.heap.size + 1 + 1) 27 (.bool false) (.slice none 0 0) (.slice none 0 0) (.slice (some ⟨v1.heap.size + 1, 0, none⟩) 1 1) := by
    have a := C4.alloc ((v1.alloc (.cells #[.bool true, .slice none 0 0, .slice none 0 0, .slice none 0 0] 27)).alloc (.cells #[.int .i64 5] 3)) 27 (.bool false) (.slice none 0 0) (.slice none 0 0) (.slice (some ⟨v1.heap.size + 1, 0, none⟩) 1 1)
    rw [size_alloc, size_alloc] at a
    exact a
  have X1 : C4 (((v1.alloc (.cells #[.bool true, .slice none 0 0, .slice none 0 0, .slice none 0 0] 27)).alloc (.cells #[.int .i64 5] 3)).alloc (.cells #[.bool false, .slice none 0 0, .slice none 0 0, .slice (some ⟨v1.heap.size + 1, 0, none⟩) 1 1] 27)) v1.heap.size 27 (.bool true) (.slice none 0 0) (.slice none 0 0) (.slice none 0 0) := (C4.alloc v1 27 _ _ _ _).kept (((Kept.refl _).alloc _).alloc _)
  have O5 : Own (((v1.alloc (.cells #[.bool true, .slice none 0 0, .slice none 0 0, .slice none 0 0] 27)).alloc (.cells #[.int .i64 5] 3)).alloc (.cells #[.bool false, .slice none 0 0, .slice none 0 0, .slice (some ⟨v1.heap.size + 1, 0, none⟩) 1 1] 27)) (v1.heap.size + 1) 3 1 (some ⟨v1.heap.size + 1, 0, none⟩) 1 1 (icl [5]) := by
    have a := heap_alloc_new (v1.alloc (.cells #[.bool true, .slice none 0 0, .slice none 0 0, .slice none 0 0] 27)) (.cells #[.int .i64 5] 3)
    rw [size_alloc] at a
    exact Own.kept ⟨by simp [icl], .inr ⟨_, 1, #[.int .i64 5], rfl, Nat.le_refl _, a, Nat.le_refl _, by decide, rfl, rfl⟩⟩ ((Kept.refl _).alloc _)
  have K5 : Kept v1 (((v1.alloc (.cells #[.bool true, .slice none 0 0, .slice none 0 0, .slice none 0 0] 27)).alloc (.cells #[.int .i64 5] 3)).alloc (.cells #[.bool false, .slice none 0 0, .slice none 0 0, .slice (some ⟨v1.heap.size + 1, 0, none⟩) 1 1] 27)) := (((Kept.refl v1).alloc _).alloc _).alloc _
  go_loopg [5] 0 (fun _ v wx => v = .int .i64 0 ∧ C4 wx v1.heap.size 27 (.bool true) (.slice none 0 0) (.slice none 0 0) (.slice none 0 0) ∧ C4 wx (v1.heap.size + 1 + 1) 27 (.bool false) (.slice none 0 0) (.slice none 0 0) (.slice (some ⟨v1.heap.size + 1, 0, none⟩) 1 1) ∧ Own wx (v1.heap.size + 1) 3 1 (some ⟨v1.heap.size + 1, 0, none⟩) 1 1 (icl [5]) ∧ Kept v1 wx)
  case atStart => exact ⟨rfl, X1, Y1, O5, K5⟩
  case round =>
    obtain ⟨rfl, X, Y, O, K⟩ := hrel
    clear X1 Y1 O5 K5
    obtain ⟨c0, c1, c2, c3⟩ := X.cs
    obtain ⟨d0, d1, d2, d3⟩ := Y.cs
    have R := R1.kept K
    obtain ⟨⟨g0, f0⟩, ⟨g1, f1⟩, ⟨g2, f2⟩, ⟨g3, f3⟩, hfin⟩ := ready4 R.out (.bool false) (.slice none 0 0) (.slice none 0 0) (.slice (some ⟨v1.heap.size + 1, 0, none⟩) 1 1)
    go_wp2
    have q2 := O.st4 (b := w.heap.size) (by omega) (.bool false) (.slice none 0 0) (.slice none 0 0) (.slice (some ⟨v1.heap.size + 1, 0, none⟩) 1 1)
    have q3 := (K1.trans K).st4 (b := w.heap.size) (Nat.le_refl _) (.bool false) (.slice none 0 0) (.slice none 0 0) (.slice (some ⟨v1.heap.size + 1, 0, none⟩) 1 1)
    generalize hW : ((((wr.setCell ⟨w.heap.size, 0, none⟩ (.bool false)).setCell ⟨w.heap.size, 1, none⟩ (.slice none 0 0)).setCell ⟨w.heap.size, 2, none⟩ (.slice none 0 0)).setCell ⟨w.heap.size, 3, none⟩ (.slice (some ⟨v1.heap.size + 1, 0, none⟩) 1 1)) = WF at hfin q2 q3 ⊢
    refine bodyPost_ret (v := .agg #[.bool false, .slice none 0 0, .slice none 0 0, .slice (some ⟨v1.heap.size + 1, 0, none⟩) 1 1]) ?_ rfl ⟨_, rfl, q2.mono (by omega), q3⟩
    exact results_cell_row (p := 2) rfl _ _ w.heap.size 27 #[.bool false, .slice none 0 0, .slice none 0 0, .slice (some ⟨v1.heap.size + 1, 0, none⟩) 1 1] (0, 0) _ rfl hfin Try.underlying27 rfl size27

theorem rw_nil (W : World) (sz : Nat) : Rw W sz none 0 0 [] := ⟨by simp, Nat.le_refl _, Nat.zero_le _, .inl ⟨rfl, rfl⟩⟩

set_option maxHeartbeats 1000000 in
set_option maxRecDepth 100000 in
theorem either_empty {w : World} {p : Option Addr} {c : Nat} (l : Bool) :
    Calls Try.prog 8 #[.slice p 0 c, .bool l] w fun e w' => ∃ kp nk kc vp nv vc ip ni ic, e = .returned (.agg #[.bool l, .slice kp nk kc, .slice vp nv vc, .slice ip ni ic]) ∧ NV w' l kp nk kc vp nv vc ip ni ic (eitherP [] l) ∧ Kept w w' := by
  have K0 : Kept w (w.alloc (.cells #[.bool false, .slice none 0 0, .slice none 0 0, .slice none 0 0] 27)) := (Kept.refl w).alloc _
  have R0 := C4.alloc w 27 (.bool false) (.slice none 0 0) (.slice none 0 0) (.slice none 0 0)
  have S0 := size_alloc w (.cells #[.bool false, .slice none 0 0, .slice none 0 0, .slice none 0 0] 27)
  cases l with
  | true =>
    go_enter Try.func8, Try.ntmps8
    go_wp2_with (first
      | (go_at_call 16
         (with_reducible refine leaf_empty.mono ?_)
         rintro e v1 ⟨rfl, k1⟩
         have K1 := K0.trans k1
         have R1 := R0.kept k1
         obtain ⟨⟨g0, f0⟩, ⟨g1, f1⟩, ⟨g2, f2⟩, ⟨g3, f3⟩, hfin⟩ := ready4 R1.out (.bool true) (.slice none 0 0) (.slice none 0 0) (.slice none 0 0)))
    have q3 := K1.st4 (b := w.heap.size) (Nat.le_refl _) (.bool true) (.slice none 0 0) (.slice none 0 0) (.slice none 0 0)
    generalize hW : ((((v1.setCell ⟨w.heap.size, 0, none⟩ (.bool true)).setCell ⟨w.heap.size, 1, none⟩ (.slice none 0 0)).setCell ⟨w.heap.size, 2, none⟩ (.slice none 0 0)).setCell ⟨w.heap.size, 3, none⟩ (.slice none 0 0)) = WF at hfin q3 ⊢
    refine bodyPost_ret (v := .agg #[.bool true, .slice none 0 0, .slice none 0 0, .slice none 0 0]) ?_ rfl ⟨_, _, _, _, _, _, _, _, _, rfl, ⟨rfl, rw_nil _ _, rw_nil _ _, rw_nil _ _⟩, q3⟩
    exact results_cell_row (p := 4) rfl _ _ w.heap.size 27 #[.bool true, .slice none 0 0, .slice none 0 0, .slice none 0 0] (0, 0) _ rfl hfin Try.underlying27 rfl size27
  | false =>
    go_enter Try.func8, Try.ntmps8
    go_wp2_with (first
      | (go_at_call 26
         (with_reducible refine inner_empty.mono ?_)
         rintro e v1 ⟨g, rfl, O1, k1⟩
         have K1 := K0.trans k1
         have R1 := R0.kept k1
         rw [S0] at O1
         obtain ⟨⟨g0, f0⟩, ⟨g1, f1⟩, ⟨g2, f2⟩, ⟨g3, f3⟩, hfin⟩ := ready4 R1.out (.bool false) (.slice none 0 0) (.slice none 0 0) (.slice (some ⟨g, 0, none⟩) 1 1)))
    have q2 := O1.st4 (b := w.heap.size) (Nat.lt_succ_self _) (.bool false) (.slice none 0 0) (.slice none 0 0) (.slice (some ⟨g, 0, none⟩) 1 1)
    have q3 := K1.st4 (b := w.heap.size) (Nat.le_refl _) (.bool false) (.slice none 0 0) (.slice none 0 0) (.slice (some ⟨g, 0, none⟩) 1 1)
    generalize hW : ((((v1.setCell ⟨w.heap.size, 0, none⟩ (.bool false)).setCell ⟨w.heap.size, 1, none⟩ (.slice none 0 0)).setCell ⟨w.heap.size, 2, none⟩ (.slice none 0 0)).setCell ⟨w.heap.size, 3, none⟩ (.slice (some ⟨g, 0, none⟩) 1 1)) = WF at hfin q2 q3 ⊢
    refine bodyPost_ret (v := .agg #[.bool false, .slice none 0 0, .slice none 0 0, .slice (some ⟨g, 0, none⟩) 1 1]) ?_ rfl ⟨_, _, _, _, _, _, _, _, _, rfl, ⟨rfl, rw_nil _ _, rw_nil _ _, q2.rw⟩, q3⟩
    exact results_cell_row (p := 4) rfl _ _ w.heap.size 27 #[.bool false, .slice none 0 0, .slice none 0 0, .slice (some ⟨g, 0, none⟩) 1 1] (0, 0) _ rfl hfin Try.underlying27 rfl size27

theorem either_gw {w : World} {p : Option Addr} {n c : Nat} {L : List Ki} (h : Gw w p n c L) (l : Bool) :
    Calls Try.prog 8 #[.slice p n c, .bool l] w fun e w' => ∃ kp nk kc vp nv vc ip ni ic, e = .returned (.agg #[.bool l, .slice kp nk kc, .slice vp nv vc, .slice ip ni ic]) ∧ NV w' l kp nk kc vp nv vc ip ni ic (eitherP L l) ∧ Kept w w' := by
  rcases h with h | ⟨rfl, rfl⟩
  · exact either_walk h l
  · exact either_empty l
end Go.Proofs.Ytgcfollelefmcaa
