/- The walks of Load and Save over the statement's keys and texts, and without any. Conditions: those that each row names. -/
import Derived.Test.YtpefmoddglpbfaaFD
import Derived.Test.YtpefmoddglpbfaaKF
namespace Go.Proofs.Ytpefmoddglpbfaa.Ph
open Go.ChangeShapes Go.WideShapes Go.ChangeAt Go.RowKit
open N (bs numL Small Kept)
open Q (Kv Vn put m_get m_put)

/-- No block is kept apart. -/
abbrev NE : Nat → Prop := fun _ => False
theorem L3.vn {w w' : World} {B b : Nat} {a s c : Int} (k : L3 w b a s c) (h : Vn NE B w w') : L3 w' b a s c := ⟨h.cells k.out (by decide) (by decide)⟩

theorem nil_no (w : World) (b : Nat) : (binOp .eql 52 (.iface 38 (.pointer (some ⟨b, 0, none⟩))) .nilIface).run Try.prog w = .ok (.bool false) w := rfl

theorem n_put (w : World) (b : Nat) : (nilAhead 178 38 (.pointer (some ⟨b, 0, none⟩)) "Put").run Try.prog w = .ok (some false) w := by kernel_rfl

/-- The record's key. -/
abbrev zk : ByteArray := ⟨#[122]⟩

set_option maxRecDepth 100000 in
theorem load_nil (w : World) : Calls Try.prog 13 #[.nilIface] w fun e w' => e = .returned (.tuple #[.agg #[.int .i64 0, .int .u64 0, .int .u64 0], .int .i64 1]) ∧ Kept w w' := by
  have kA : Kept w (w.alloc (.cells #[.int .i64 0, .int .u64 0, .int .u64 0] 24)) := (Kept.refl w).alloc _
  have Z0 : Hid (L3 (w.alloc (.cells #[.int .i64 0, .int .u64 0, .int .u64 0] 24)) w.heap.size 0 0 0) := L3.made w 0 0 0
  obtain ⟨⟨g0, h0⟩, ⟨g1, h1⟩, g2, h2⟩ := Z0.out.ready 0 0
  go_enter Try.func13, Try.ntmps13
  go_wp2
  refine bodyPost_ret (v := .tuple #[.agg #[.int .i64 0, .int .u64 0, .int .u64 0], .int .i64 1]) ?_ rfl ⟨rfl, ?_⟩
  · exact results_two (p := 2) (u := 3) (ty := 24) rfl _ _ w.heap.size 24 #[.int .i64 0, .int .u64 0, .int .u64 0] (0, 0) _ rfl Z0.out.out Try.underlying24 rfl size24
  · exact kA

set_option maxRecDepth 100000 in
set_option maxHeartbeats 1000000 in
theorem load_none {w : World} {B b m : Nat} {f : ByteArray → Option ByteArray} (h : Kv NE w B b m f) (hf : f zk = none) :
    Calls Try.prog 13 #[.iface 38 (.pointer (some ⟨b, 0, none⟩))] w fun e w' => e = .returned (.tuple #[.agg #[.int .i64 0, .int .u64 0, .int .u64 0], .int .i64 0]) ∧ Kept w w' := by
  have kA : Kept w (w.alloc (.cells #[.int .i64 0, .int .u64 0, .int .u64 0] 24)) := (Kept.refl w).alloc _
  have Z0 : Hid (L3 (w.alloc (.cells #[.int .i64 0, .int .u64 0, .int .u64 0] 24)) w.heap.size 0 0 0) := L3.made w 0 0 0
  obtain ⟨⟨g0, h0⟩, ⟨g1, h1⟩, g2, h2⟩ := Z0.out.ready 0 0
  have hg := Q.get_walk (h.kept kA) zk
  rw [hf] at hg
  have hg2 : Calls Try.prog 39 #[.pointer (some ⟨b, 0, none⟩), .string zk] (w.alloc (.cells #[.int .i64 0, .int .u64 0, .int .u64 0] 24)) fun e w' => e = .returned (.tuple #[.string ⟨#[]⟩, .bool false, .int .i64 0]) ∧ w' = (w.alloc (.cells #[.int .i64 0, .int .u64 0, .int .u64 0] 24)) := hg
  have nn := fun w => nil_no w b
  have mg := fun w => m_get w b
  clear hg h hf
  go_enter Try.func13, Try.ntmps13
  go_wp2_with (go_at_call 39; (with_reducible refine hg2.mono ?_); rintro e w2 ⟨rfl, hw2⟩; rw [hw2]; clear hw2 hg2)
  refine bodyPost_ret (v := .tuple #[.agg #[.int .i64 0, .int .u64 0, .int .u64 0], .int .i64 0]) ?_ rfl ⟨rfl, ?_⟩
  · exact results_two (p := 2) (u := 3) (ty := 24) rfl _ _ w.heap.size 24 #[.int .i64 0, .int .u64 0, .int .u64 0] (0, 0) _ rfl Z0.out.out Try.underlying24 rfl size24
  · exact kA

set_option maxRecDepth 100000 in
set_option maxHeartbeats 1000000 in
theorem load_some {w : World} {B b m : Nat} {f : ByteArray → Option ByteArray} (h : Kv NE w B b m f) {l : List Nat} (hf : f zk = some (bs l)) (hl : Small l) (ht : l.length ≤ 100000) {x : Int} {n1 n2 n3 : Nat} (hr : rec l = (x, n1, n2, n3)) :
    Calls Try.prog 13 #[.iface 38 (.pointer (some ⟨b, 0, none⟩))] w fun e w' => e = .returned (.tuple #[.agg #[.int .i64 (n1 : Nat), .int .u64 (n2 : Nat), .int .u64 (n3 : Nat)], .int .i64 x]) ∧ Kept w w' := by
  have kA : Kept w (w.alloc (.cells #[.int .i64 0, .int .u64 0, .int .u64 0] 24)) := (Kept.refl w).alloc _
  have Z0 : Hid (L3 (w.alloc (.cells #[.int .i64 0, .int .u64 0, .int .u64 0] 24)) w.heap.size 0 0 0) := L3.made w 0 0 0
  have hg := Q.get_walk (h.kept kA) zk
  rw [hf] at hg
  have hg2 : Calls Try.prog 39 #[.pointer (some ⟨b, 0, none⟩), .string zk] (w.alloc (.cells #[.int .i64 0, .int .u64 0, .int .u64 0] 24)) fun e w' => e = .returned (.tuple #[.string (bs l), .bool true, .int .i64 0]) ∧ w' = (w.alloc (.cells #[.int .i64 0, .int .u64 0, .int .u64 0] 24)) := hg
  have f2 := of_walk l hl ht (w.alloc (.cells #[.int .i64 0, .int .u64 0, .int .u64 0] 24))
  rw [hr] at f2
  have nn := fun w => nil_no w b
  have mg := fun w => m_get w b
  clear hg h hf hr hl ht
  generalize bs l = T at *
  go_enter Try.func13, Try.ntmps13
  go_wp2_with (first
    | (go_at_call 39; (with_reducible refine hg2.mono ?_); rintro e w2 ⟨rfl, hw2⟩; rw [hw2]; clear hw2 hg2)
    | (go_at_call 7; (with_reducible refine f2.mono ?_); rintro e w3 ⟨rfl, k3⟩; have K3 : Hid (Kept (w.alloc (.cells #[.int .i64 0, .int .u64 0, .int .u64 0] 24)) w3) := k3; obtain ⟨⟨g0, h0⟩, ⟨g1, h1⟩, g2, h2⟩ := (Z0.out.kept k3).ready (n1 : Nat) (n2 : Nat); clear k3 f2))
  refine bodyPost_ret (v := .tuple #[.agg #[.int .i64 (n1 : Nat), .int .u64 (n2 : Nat), .int .u64 (n3 : Nat)], .int .i64 x]) ?_ rfl ⟨rfl, ?_⟩
  · exact results_two (p := 2) (u := 3) (ty := 24) rfl _ _ w.heap.size 24 #[.int .i64 (n1 : Nat), .int .u64 (n2 : Nat), .int .u64 (n3 : Nat)] (0, 0) _ rfl ((Z0.out.kept K3.out).fill (n1 : Nat) (n2 : Nat) (n3 : Nat)).out Try.underlying24 rfl size24
  · exact kept_st (kA.trans K3.out) (Nat.le_refl _) _ _ _

set_option maxRecDepth 100000 in
theorem save_nil (a s c : Int) (w : World) : Calls Try.prog 14 #[.nilIface, .agg #[.int .i64 a, .int .u64 s, .int .u64 c]] w fun e w' => e = .returned (.int .i64 1) ∧ Kept w w' := by
  have kA : Kept w (w.alloc (.cells #[.int .i64 a, .int .u64 s, .int .u64 c] 24)) := (Kept.refl w).alloc _
  obtain ⟨c0, c1, c2⟩ := (L3.made w a s c).cs
  go_enter Try.func14, Try.ntmps14
  go_wp2
  go_ret
  exact ⟨rfl, kA⟩

set_option maxRecDepth 100000 in
theorem save_no {a : Int} {s c : Nat} (h : ¬ Okr a s c) (b : Nat) (w : World) : Calls Try.prog 14 #[.iface 38 (.pointer (some ⟨b, 0, none⟩)), .agg #[.int .i64 a, .int .u64 (s : Nat), .int .u64 (c : Nat)]] w fun e w' => e = .returned (.int .i64 1) ∧ Kept w w' := by
  have kA : Kept w (w.alloc (.cells #[.int .i64 a, .int .u64 (s : Nat), .int .u64 (c : Nat)] 24)) := (Kept.refl w).alloc _
  obtain ⟨c0, c1, c2⟩ := (L3.made w a s c).cs
  have f1 := fun W => may_walk a s c W
  rw [decide_eq_false h] at f1
  have nn := fun w => nil_no w b
  go_enter Try.func14, Try.ntmps14
  go_wp2_with (go_at_call 9; (with_reducible refine (f1 _).mono ?_); rintro e w1 ⟨rfl, k1⟩; have K1 : Hid (Kept w w1) := kA.trans k1; clear k1)
  go_ret
  exact ⟨rfl, K1.out⟩

set_option maxRecDepth 100000 in
set_option maxHeartbeats 2000000 in
theorem save_yes {w : World} {B b m : Nat} {f : ByteArray → Option ByteArray} (kv : Kv NE w B b m f) (hm : m ≤ 100000) (hB : B ≤ w.heap.size) {a : Int} {s c : Nat} (h : Okr a s c) :
    Calls Try.prog 14 #[.iface 38 (.pointer (some ⟨b, 0, none⟩)), .agg #[.int .i64 a, .int .u64 (s : Nat), .int .u64 (c : Nat)]] w fun e w' => e = .returned (.int .i64 0) ∧ (∃ m', m' ≤ m + 1 ∧ Kv NE w' B b m' (put f zk (bs (txt a s c)))) ∧ Vn NE B w w' := by
  have kA : Kept w (w.alloc (.cells #[.int .i64 a, .int .u64 (s : Nat), .int .u64 (c : Nat)] 24)) := (Kept.refl w).alloc _
  have hL := L3.made w a s c
  have hB2 : B ≤ (w.alloc (.cells #[.int .i64 a, .int .u64 (s : Nat), .int .u64 (c : Nat)] 24)).heap.size := Nat.le_trans hB kA.size
  have HSA : Hid (∀ W, Vn NE B (w.alloc (.cells #[.int .i64 a, .int .u64 (s : Nat), .int .u64 (c : Nat)] 24)) W → W.cell? ⟨w.heap.size, 0, none⟩ = some (.int .i64 a) ∧ W.cell? ⟨w.heap.size, 1, none⟩ = some (.int .u64 (s : Nat)) ∧ W.cell? ⟨w.heap.size, 2, none⟩ = some (.int .u64 (c : Nat))) := fun W k => (hL.vn k).cs
  obtain ⟨c0, c1, c2⟩ := hL.cs
  have f1 := fun W => may_walk a s c W
  rw [decide_eq_true h] at f1
  have f2 := fun W => text_walk a s c W
  have HP : Hid (∀ W, Kept (w.alloc (.cells #[.int .i64 a, .int .u64 (s : Nat), .int .u64 (c : Nat)] 24)) W → Calls Try.prog 41 #[.pointer (some ⟨b, 0, none⟩), .string zk, .string (bs (txt a s c))] W fun e w' => e = .returned (.int .i64 0) ∧ (∃ m', m' ≤ m + 1 ∧ Kv NE w' B b m' (put f zk (bs (txt a s c)))) ∧ Vn NE B W w') := fun W k => Q.put_walk (kv.kept (kA.trans k)) hm (Nat.le_trans hB2 k.size) zk _
  have nn := fun w => nil_no w b
  have mp := fun w => m_put w b
  have mn := fun w => n_put w b
  generalize hrf : put f zk (bs (txt a s c)) = rf at *
  generalize bs (txt a s c) = T at *
  clear hL h kv hrf
  generalize hW0 : w.alloc (.cells #[.int .i64 a, .int .u64 (s : Nat), .int .u64 (c : Nat)] 24) = W0 at *
  go_enter Try.func14, Try.ntmps14
  go_wp2_with (go_at_call 9; (with_reducible refine (f1 _).mono ?_); rintro e w1 ⟨rfl, k1⟩; have K1 : Kept W0 w1 := k1; clear k1)
  have KD : Kept W0 w1.drew := K1.drew
  have S0 := HSA.out _ (Vn.of KD hB2)
  go_region_held3 (fun W => W.cell? ⟨w.heap.size, 0, none⟩ = some (.int .i64 a) ∧ W.cell? ⟨w.heap.size, 1, none⟩ = some (.int .u64 (s : Nat)) ∧ W.cell? ⟨w.heap.size, 2, none⟩ = some (.int .u64 (c : Nat))) (first | exact S0 | exact S2.out | exact S3.out | go_keep) (first
    | (go_at_call 6; (with_reducible refine (f2 _).mono ?_); rintro e w2 ⟨rfl, k2⟩; have K2 : Hid (Kept W0 w2) := KD.trans k2; have S2 : Hid _ := HSA.out _ (Vn.of K2.out hB2); have hp := HP.out _ K2.out; clear k2 S0)
    | (go_at_call 41; (with_reducible refine hp.mono ?_); rintro e w3 ⟨rfl, q3, v3⟩; have Q3 : Hid (∃ m', m' ≤ m + 1 ∧ Kv NE w3 B b m' rf) := q3; have V3 : Hid (Vn NE B w w3) := Vn.pre (kA.trans K2.out) hB v3; have S3 : Hid _ := HSA.out _ ((Vn.of K2.out hB2).trans v3); clear q3 v3 S2))
  all_goals go_wp2
  all_goals go_ret
  all_goals exact ⟨rfl, Q3.out, V3.out⟩
end Go.Proofs.Ytpefmoddglpbfaa.Ph
