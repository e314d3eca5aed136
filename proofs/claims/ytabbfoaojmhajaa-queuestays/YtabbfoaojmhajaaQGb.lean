/- The walks of a queue's behind where something stands there, and of end. Conditions: those that each row names. -/
import Derived.Test.YtabbfoaojmhajaaQG
namespace Go.Proofs.Ytabbfoaojmhajaa.Q
open Go.ChangeShapes Go.WideShapes Go.ChangeAt Go.RowKit
open N (Kept bs numL keyL Small Rd On)

theorem kept_on {w1 w3 w4 : World} (k3 : Kept w1 w3) (o4 : On w1.heap.size w3 w4) : Kept w1 w4 := ⟨k3.out.trans o4.out⟩
set_option maxRecDepth 100000 in
set_option maxHeartbeats 2000000 in
theorem behind_last {w : World} {B a b m : Nat} {nm : List Nat} {f : ByteArray → Option ByteArray} (h : Qs w B a b m nm f) (n : Nat) (hn : n ≤ 4611686018427387904) (l0 l1 l3 : Nat) (h0 : l0 ≠ 0)  (hf : f (bs (nm ++ keyL n)) = some (bs (numL 0))) :
    Calls Try.prog 16 #[.pointer (some ⟨a, 0, none⟩), .int .u64 (n : Nat), .agg #[.int .u64 (l0 : Nat), .int .u64 (l1 : Nat), .int .u64 (n : Nat), .int .u64 (l3 : Nat)]] w fun e w' => e = .returned (.tuple #[.int .u64 (0 : Nat), .bool true, .int .i64 0]) ∧ Kept w w' := by
  have hn2 : (n : Int) ≤ 4611686018427387904 := by omega
  have hz0 : ((l0 : Int) == 0) = false := by simp; exact h0

  have kd : ∀ o, Kept w (w.alloc o).drew := fun o => ((Kept.refl w).alloc o).drew
  have HQ : Hid (∀ W, Kept w W → Calls Try.prog 17 #[.pointer (some ⟨a, 0, none⟩), .int .u64 (n : Nat)] W fun e w' => e = .returned (.string (bs (nm ++ keyL n))) ∧ Kept W w') := fun W k => qkey_walk (h.qa.kept k) h.nml n (by omega)
  have HG : Hid (∀ W, Kept w W → Calls Try.prog 49 #[.pointer (some ⟨b, 0, none⟩), .string (bs (nm ++ keyL n))] W fun e w' => e = .returned (.tuple #[.string (bs (numL 0)), .bool true, .int .i64 0]) ∧ w' = W) := fun W k => by
    have := get_walk (h.kv.kept k) (bs (nm ++ keyL n))
    rwa [hf] at this
  have HC : Hid (∀ W, Kept w W → W.cell? ⟨a, 0, none⟩ = some (.iface 23 (.pointer (some ⟨b, 0, none⟩)))) := fun W k => (h.qa.kept k).c0
  have HN : Hid (∀ W c, Rd W c (bs (numL 0)) 0 → Calls Try.prog 25 #[.pointer (some ⟨c, 0, none⟩), .int .u64 4611686018427387905] W fun e w' => e = .returned (.int .u64 (0 : Nat)) ∧ Rd w' c ⟨#[]⟩ 0 ∧ On c W w') := fun W c k => rnum_in 0 (by omega) 4611686018427387905 (by omega) k
  have mg := fun w => m_get w b
  have HL : Hid (∀ W, Kept (w.alloc (.cells #[.int .u64 (l0 : Nat), .int .u64 (l1 : Nat), .int .u64 (n : Nat), .int .u64 (l3 : Nat)] 53)).drew W → W.cell? ⟨w.heap.size, 0, none⟩ = some (.int .u64 (l0 : Nat)) ∧ W.cell? ⟨w.heap.size, 2, none⟩ = some (.int .u64 (n : Nat))) := fun W k => by
    have e := k.block (show (w.alloc (.cells #[.int .u64 (l0 : Nat), .int .u64 (l1 : Nat), .int .u64 (n : Nat), .int .u64 (l3 : Nat)] 53)).drew.heap[w.heap.size]? = _ from heap_alloc_new w _)
    exact ⟨by rw [cell_of_row W _ 0 _ _ _ e]; rfl, by rw [cell_of_row W _ 2 _ _ _ e]; rfl⟩
  clear hf h h0
  generalize bs (nm ++ keyL n) = ky at *
  generalize bs (numL 0) = tx at *
  go_enter Try.func16, Try.ntmps16
  go_wp2_with fail
  have c0 := HC.out _ (Kept.refl w)
  have kA := kd (.cells #[.int .u64 (l0 : Nat), .int .u64 (l1 : Nat), .int .u64 (n : Nat), .int .u64 (l3 : Nat)] 53)
  have hk := HQ.out _ kA
  have d0 := HC.out _ kA
  go_region_held3 (fun W => W.cell? ⟨a, 0, none⟩ = some (.iface 23 (.pointer (some ⟨b, 0, none⟩)))) (first | exact d0 | exact HC.out _ K1.out | go_keep) (first
    | (go_at_call 17; (with_reducible refine hk.mono ?_); rintro e w1 ⟨rfl, k1⟩; have K1 : Hid (Kept w w1) := kA.trans k1; have KL : Hid (Kept (w.alloc (.cells #[.int .u64 (l0 : Nat), .int .u64 (l1 : Nat), .int .u64 (n : Nat), .int .u64 (l3 : Nat)] 53)).drew w1) := k1; have hg := HG.out _ K1.out; clear k1)
    | (go_at_call 49; (with_reducible refine hg.mono ?_); rintro e w2 ⟨rfl, hw2⟩; subst hw2))
  all_goals go_wp2_with (first
    | (go_at_call 24; (with_reducible refine (N.new_walk _ _).mono ?_); rintro e w3 ⟨rfl, r3, k3⟩; have KK3 : Hid (Kept _ w3) := k3; have KL3 : Hid (Kept (w.alloc (.cells #[.int .u64 (l0 : Nat), .int .u64 (l1 : Nat), .int .u64 (n : Nat), .int .u64 (l3 : Nat)] 53)).drew w3) := KL.out.trans k3; have hnm := HN.out _ _ r3; clear k3 r3)
    | (go_at_call 25; (with_reducible refine hnm.mono ?_); rintro e w4 ⟨rfl, r4, o4⟩; have KL4 : Hid (Kept (w.alloc (.cells #[.int .u64 (l0 : Nat), .int .u64 (l1 : Nat), .int .u64 (n : Nat), .int .u64 (l3 : Nat)] 53)).drew w4) := KL.out.trans (kept_on KK3.out o4); have K5 : Hid (Kept w w4) := kA.trans KL4.out; have he := N.end_walk r4; obtain ⟨x0, x2⟩ := HL.out _ KL4.out; clear r4 o4)
    | (go_at_call 26; (with_reducible refine he.mono ?_); rintro e w5 ⟨rfl, hw5⟩; subst hw5))
  all_goals go_ret3
  all_goals exact ⟨rfl, K5.out⟩
set_option maxRecDepth 100000 in
set_option maxHeartbeats 2000000 in
theorem behind_mid {w : World} {B a b m : Nat} {nm : List Nat} {f : ByteArray → Option ByteArray} (h : Qs w B a b m nm f) (n : Nat) (hn : n ≤ 4611686018427387904) (l0 l1 l2 l3 : Nat) (h0 : l0 ≠ 0) (v : Nat) (hv : v ≤ 4611686018427387904) (hv0 : v ≠ 0) (hne : n ≠ l2) (hf : f (bs (nm ++ keyL n)) = some (bs (numL v))) :
    Calls Try.prog 16 #[.pointer (some ⟨a, 0, none⟩), .int .u64 (n : Nat), .agg #[.int .u64 (l0 : Nat), .int .u64 (l1 : Nat), .int .u64 (l2 : Nat), .int .u64 (l3 : Nat)]] w fun e w' => e = .returned (.tuple #[.int .u64 (v : Nat), .bool true, .int .i64 0]) ∧ Kept w w' := by
  have hn2 : (n : Int) ≤ 4611686018427387904 := by omega
  have hz0 : ((l0 : Int) == 0) = false := by simp; exact h0
  have hz1 : ((v : Int) == 0) = false := by simp; exact hv0
  have hz2 : ((n : Int) == (l2 : Int)) = false := by simp; omega
  have kd : ∀ o, Kept w (w.alloc o).drew := fun o => ((Kept.refl w).alloc o).drew
  have HQ : Hid (∀ W, Kept w W → Calls Try.prog 17 #[.pointer (some ⟨a, 0, none⟩), .int .u64 (n : Nat)] W fun e w' => e = .returned (.string (bs (nm ++ keyL n))) ∧ Kept W w') := fun W k => qkey_walk (h.qa.kept k) h.nml n (by omega)
  have HG : Hid (∀ W, Kept w W → Calls Try.prog 49 #[.pointer (some ⟨b, 0, none⟩), .string (bs (nm ++ keyL n))] W fun e w' => e = .returned (.tuple #[.string (bs (numL v)), .bool true, .int .i64 0]) ∧ w' = W) := fun W k => by
    have := get_walk (h.kv.kept k) (bs (nm ++ keyL n))
    rwa [hf] at this
  have HC : Hid (∀ W, Kept w W → W.cell? ⟨a, 0, none⟩ = some (.iface 23 (.pointer (some ⟨b, 0, none⟩)))) := fun W k => (h.qa.kept k).c0
  have HN : Hid (∀ W c, Rd W c (bs (numL v)) 0 → Calls Try.prog 25 #[.pointer (some ⟨c, 0, none⟩), .int .u64 4611686018427387905] W fun e w' => e = .returned (.int .u64 (v : Nat)) ∧ Rd w' c ⟨#[]⟩ 0 ∧ On c W w') := fun W c k => rnum_in v (by omega) 4611686018427387905 (by omega) k
  have mg := fun w => m_get w b
  have HL : Hid (∀ W, Kept (w.alloc (.cells #[.int .u64 (l0 : Nat), .int .u64 (l1 : Nat), .int .u64 (l2 : Nat), .int .u64 (l3 : Nat)] 53)).drew W → W.cell? ⟨w.heap.size, 0, none⟩ = some (.int .u64 (l0 : Nat)) ∧ W.cell? ⟨w.heap.size, 2, none⟩ = some (.int .u64 (l2 : Nat))) := fun W k => by
    have e := k.block (show (w.alloc (.cells #[.int .u64 (l0 : Nat), .int .u64 (l1 : Nat), .int .u64 (l2 : Nat), .int .u64 (l3 : Nat)] 53)).drew.heap[w.heap.size]? = _ from heap_alloc_new w _)
    exact ⟨by rw [cell_of_row W _ 0 _ _ _ e]; rfl, by rw [cell_of_row W _ 2 _ _ _ e]; rfl⟩
  clear hf h h0
  generalize bs (nm ++ keyL n) = ky at *
  generalize bs (numL v) = tx at *
  go_enter Try.func16, Try.ntmps16
  go_wp2_with fail
  have c0 := HC.out _ (Kept.refl w)
  have kA := kd (.cells #[.int .u64 (l0 : Nat), .int .u64 (l1 : Nat), .int .u64 (l2 : Nat), .int .u64 (l3 : Nat)] 53)
  have hk := HQ.out _ kA
  have d0 := HC.out _ kA
  go_region_held3 (fun W => W.cell? ⟨a, 0, none⟩ = some (.iface 23 (.pointer (some ⟨b, 0, none⟩)))) (first | exact d0 | exact HC.out _ K1.out | go_keep) (first
    | (go_at_call 17; (with_reducible refine hk.mono ?_); rintro e w1 ⟨rfl, k1⟩; have K1 : Hid (Kept w w1) := kA.trans k1; have KL : Hid (Kept (w.alloc (.cells #[.int .u64 (l0 : Nat), .int .u64 (l1 : Nat), .int .u64 (l2 : Nat), .int .u64 (l3 : Nat)] 53)).drew w1) := k1; have hg := HG.out _ K1.out; clear k1)
    | (go_at_call 49; (with_reducible refine hg.mono ?_); rintro e w2 ⟨rfl, hw2⟩; subst hw2))
  all_goals go_wp2_with (first
    | (go_at_call 24; (with_reducible refine (N.new_walk _ _).mono ?_); rintro e w3 ⟨rfl, r3, k3⟩; have KK3 : Hid (Kept _ w3) := k3; have KL3 : Hid (Kept (w.alloc (.cells #[.int .u64 (l0 : Nat), .int .u64 (l1 : Nat), .int .u64 (l2 : Nat), .int .u64 (l3 : Nat)] 53)).drew w3) := KL.out.trans k3; have hnm := HN.out _ _ r3; clear k3 r3)
    | (go_at_call 25; (with_reducible refine hnm.mono ?_); rintro e w4 ⟨rfl, r4, o4⟩; have KL4 : Hid (Kept (w.alloc (.cells #[.int .u64 (l0 : Nat), .int .u64 (l1 : Nat), .int .u64 (l2 : Nat), .int .u64 (l3 : Nat)] 53)).drew w4) := KL.out.trans (kept_on KK3.out o4); have K5 : Hid (Kept w w4) := kA.trans KL4.out; have he := N.end_walk r4; obtain ⟨x0, x2⟩ := HL.out _ KL4.out; clear r4 o4)
    | (go_at_call 26; (with_reducible refine he.mono ?_); rintro e w5 ⟨rfl, hw5⟩; subst hw5))
  all_goals go_ret3
  all_goals exact ⟨rfl, K5.out⟩
end Go.Proofs.Ytabbfoaojmhajaa.Q
