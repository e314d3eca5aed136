/- The walk of the law on what is kept. Conditions: steps and commits are numbers. -/
import Derived.Test.YtpefmoddglpbfaaFH
namespace Go.Proofs.Ytpefmoddglpbfaa.Ph
open Go.ChangeShapes Go.WideShapes Go.ChangeAt Go.RowKit
open N (bs numL Small Kept)
open Q (Kv Vn put m_get m_put)

set_option maxRecDepth 100000 in
set_option maxHeartbeats 2000000 in
theorem keeps_no {a : Int} {s c : Nat} (h : ¬ Okr a s c) (w : World) :
    Calls Try.prog 5 #[.agg #[.int .i64 a, .int .u64 (s : Nat), .int .u64 (c : Nat)]] w fun e w' => e = .returned (.bool true) ∧ Kept w w' := by
  have kA : Kept w (w.alloc (.cells #[.int .i64 a, .int .u64 (s : Nat), .int .u64 (c : Nat)] 24)) := (Kept.refl w).alloc _
  have LP := (L3.made w a s c).kept ((Kept.refl _).alloc (.cells #[.slice none 0 0, .slice none 0 0] 41))
  have KV := Q.kv_new (w.alloc (.cells #[.int .i64 a, .int .u64 (s : Nat), .int .u64 (c : Nat)] 24))
  have kB : Kept w ((w.alloc (.cells #[.int .i64 a, .int .u64 (s : Nat), .int .u64 (c : Nat)] 24)).alloc (.cells #[.slice none 0 0, .slice none 0 0] 41)) := kA.alloc _
  rw [Q.size_alloc] at KV
  have f1 := fun W => may_walk a s c W
  rw [decide_eq_false h] at f1
  have f2 := fun W => awake_walk W
  have f3 := fun W => save_nil a s c W
  have f4 := fun W => save_no h (w.heap.size + 1) W
  have l1 := load_none KV rfl
  have l3 := fun W => load_nil W
  clear h kA
  generalize hW1 : (w.alloc (.cells #[.int .i64 a, .int .u64 (s : Nat), .int .u64 (c : Nat)] 24)).alloc (.cells #[.slice none 0 0, .slice none 0 0] 41) = W1 at *
  have HP : Hid (∀ W, Kept W1 W → W.cell? ⟨w.heap.size, 0, none⟩ = some (.int .i64 a) ∧ W.cell? ⟨w.heap.size, 1, none⟩ = some (.int .u64 (s : Nat)) ∧ W.cell? ⟨w.heap.size, 2, none⟩ = some (.int .u64 (c : Nat))) := fun W k => (LP.kept k).cs
  have HL : Hid (∀ W, Kept W1 W → Calls Try.prog 13 #[.iface 38 (.pointer (some ⟨w.heap.size + 1, 0, none⟩))] W fun e w' => e = .returned (.tuple #[.agg #[.int .i64 0, .int .u64 0, .int .u64 0], .int .i64 0]) ∧ Kept W w') := fun W k => load_none (KV.kept k) rfl
  have KB : Hid (Kept w W1) := kB
  clear LP KV kB
  go_enter Try.func5, Try.ntmps5
  go_wp2_with (first
    | (go_at_call 13; (with_reducible refine l1.mono ?_); rintro e w2 ⟨rfl, k2⟩; have K2 : Hid (Kept W1 (w2.alloc (.cells #[.int .i64 0, .int .u64 0, .int .u64 0] 24))) := k2.alloc _; obtain ⟨c0, c1, c2⟩ := HP.out _ K2.out; clear k2 l1)
    | (go_at_call 14; (with_reducible refine (f4 _).mono ?_); rintro e w3 ⟨rfl, k3⟩; have K3 : Hid (Kept W1 w3) := K2.out.trans k3; have l2 := HL.out _ K3.out; clear k3 f4)
    | (go_at_call 13; (with_reducible refine l2.mono ?_); rintro e w4 ⟨rfl, k4⟩; have K4 : Hid (Kept W1 (w4.alloc (.cells #[.int .i64 0, .int .u64 0, .int .u64 0] 24))) := (K3.out.trans k4).alloc _; have Q4 : Hid (L3 (w4.alloc (.cells #[.int .i64 0, .int .u64 0, .int .u64 0] 24)) w4.heap.size 0 0 0) := L3.made w4 0 0 0; clear k4 l2)
    | (go_at_call 13; (with_reducible refine (l3 _).mono ?_); rintro e w5 ⟨rfl, k5⟩; have K5 : Hid (Kept (w4.alloc (.cells #[.int .i64 0, .int .u64 0, .int .u64 0] 24)) (w5.alloc (.cells #[.int .i64 0, .int .u64 0, .int .u64 0] 24))) := k5.alloc _; obtain ⟨c0, c1, c2⟩ := HP.out _ (K4.out.trans K5.out); clear k5 l3)
    | (go_at_call 9; (with_reducible refine (f1 _).mono ?_); rintro e w6 ⟨rfl, k6⟩; have K6 : Hid (Kept (w4.alloc (.cells #[.int .i64 0, .int .u64 0, .int .u64 0] 24)) w6) := K5.out.trans k6; clear k6 f1)
    | (go_at_call 8; (with_reducible refine (f2 _).mono ?_); rintro e w7 ⟨rfl, k7⟩; have K7 : Hid (Kept (w4.alloc (.cells #[.int .i64 0, .int .u64 0, .int .u64 0] 24)) w7) := K6.out.trans k7; obtain ⟨d0, d1, d2⟩ := HP.out _ (K4.out.trans K7.out); obtain ⟨e0, e1, e2⟩ := (Q4.out.kept K7.out).cs; clear k7 f2)
    | (go_at_call 14; (with_reducible refine (f3 _).mono ?_); rintro e w8 ⟨rfl, k8⟩; have K8 : Hid (Kept (w4.alloc (.cells #[.int .i64 0, .int .u64 0, .int .u64 0] 24)) w8) := K7.out.trans k8; clear k8 f3))
  go_ret
  exact ⟨rfl, KB.out.trans (K4.out.trans K8.out)⟩

set_option maxRecDepth 100000 in
set_option maxHeartbeats 2000000 in
theorem keeps_yes {a s c : Nat} (h : Okr a s c) (w : World) :
    Calls Try.prog 5 #[.agg #[.int .i64 (a : Nat), .int .u64 (s : Nat), .int .u64 (c : Nat)]] w fun e w' => e = .returned (.bool true) ∧ Kept w w' := by
  have kA : Kept w (w.alloc (.cells #[.int .i64 (a : Nat), .int .u64 (s : Nat), .int .u64 (c : Nat)] 24)) := (Kept.refl w).alloc _
  have LP := (L3.made w a s c).kept ((Kept.refl _).alloc (.cells #[.slice none 0 0, .slice none 0 0] 41))
  have KV := Q.kv_new (w.alloc (.cells #[.int .i64 (a : Nat), .int .u64 (s : Nat), .int .u64 (c : Nat)] 24))
  have kB : Kept w ((w.alloc (.cells #[.int .i64 (a : Nat), .int .u64 (s : Nat), .int .u64 (c : Nat)] 24)).alloc (.cells #[.slice none 0 0, .slice none 0 0] 41)) := kA.alloc _
  have hB1 : w.heap.size + 1 ≤ ((w.alloc (.cells #[.int .i64 (a : Nat), .int .u64 (s : Nat), .int .u64 (c : Nat)] 24)).alloc (.cells #[.slice none 0 0, .slice none 0 0] 41)).heap.size := by rw [Q.size_alloc, Q.size_alloc]; omega
  rw [Q.size_alloc] at KV
  have f1 := fun W => may_walk a s c W
  rw [decide_eq_true h] at f1
  have f2 := fun W => awake_walk W
  have f3 := fun W => save_nil a s c W
  have l1 := load_none KV rfl
  have l3 := fun W => load_nil W
  generalize hW1 : (w.alloc (.cells #[.int .i64 (a : Nat), .int .u64 (s : Nat), .int .u64 (c : Nat)] 24)).alloc (.cells #[.slice none 0 0, .slice none 0 0] 41) = W1 at *
  have HP : Hid (∀ W, Vn NE (w.heap.size + 1) W1 W → W.cell? ⟨w.heap.size, 0, none⟩ = some (.int .i64 (a : Nat)) ∧ W.cell? ⟨w.heap.size, 1, none⟩ = some (.int .u64 (s : Nat)) ∧ W.cell? ⟨w.heap.size, 2, none⟩ = some (.int .u64 (c : Nat))) := fun W k => (LP.vn k).cs
  have HB : Hid (w.heap.size + 1 ≤ W1.heap.size) := hB1
  have HS : Hid (∀ W, Kept W1 W → Calls Try.prog 14 #[.iface 38 (.pointer (some ⟨w.heap.size + 1, 0, none⟩)), .agg #[.int .i64 (a : Nat), .int .u64 (s : Nat), .int .u64 (c : Nat)]] W fun e w' => e = .returned (.int .i64 0) ∧ (∃ m', m' ≤ 0 + 1 ∧ Kv NE w' (w.heap.size + 1) (w.heap.size + 1) m' (put (fun _ => none) zk (bs (txt a s c)))) ∧ Vn NE (w.heap.size + 1) W w') := fun W k => save_yes (KV.kept k) (by omega) (Nat.le_trans hB1 k.size) h
  have HL : Hid (∀ W m', Kv NE W (w.heap.size + 1) (w.heap.size + 1) m' (put (fun _ => none) zk (bs (txt a s c))) → Calls Try.prog 13 #[.iface 38 (.pointer (some ⟨w.heap.size + 1, 0, none⟩))] W fun e w' => e = .returned (.tuple #[.agg #[.int .i64 (a : Nat), .int .u64 (s : Nat), .int .u64 (c : Nat)], .int .i64 0]) ∧ Kept W w') := fun W m' k => by
    have hr := rec_txt h
    rw [Int.toNat_natCast] at hr
    exact load_some k (Q.put_eq _ _ _) (txt_small a s c) (Nat.le_trans (txt_len a s c) (by decide)) hr
  have KB : Hid (Kept w W1) := kB
  clear LP KV kB h kA hB1
  go_enter Try.func5, Try.ntmps5
  go_wp2_with (first
    | (go_at_call 13; (with_reducible refine l1.mono ?_); rintro e w2 ⟨rfl, k2⟩; have K2 : Hid (Kept W1 (w2.alloc (.cells #[.int .i64 0, .int .u64 0, .int .u64 0] 24))) := k2.alloc _; have V2 : Hid (Vn NE (w.heap.size + 1) W1 (w2.alloc (.cells #[.int .i64 0, .int .u64 0, .int .u64 0] 24))) := Vn.of K2.out HB.out; have Q2 : Hid (L3 (w2.alloc (.cells #[.int .i64 0, .int .u64 0, .int .u64 0] 24)) w2.heap.size 0 0 0) := L3.made w2 0 0 0; obtain ⟨c0, c1, c2⟩ := HP.out _ V2.out; have s1 := HS.out _ K2.out; clear k2 l1)
    | (go_at_call 14; (with_reducible refine s1.mono ?_); rintro e w3 ⟨rfl, ⟨m3, _, q3⟩, v3⟩; have V3 : Hid (Vn NE (w.heap.size + 1) (w2.alloc (.cells #[.int .i64 0, .int .u64 0, .int .u64 0] 24)) w3) := v3; have H3 : Hid (w.heap.size + 1 ≤ w3.heap.size) := Nat.le_trans HB.out (Nat.le_trans V2.out.size v3.size); have l2 := HL.out _ _ q3; clear q3 v3 s1)
    | (go_at_call 13; (with_reducible refine l2.mono ?_); rintro e w4 ⟨rfl, k4⟩; have V4 : Hid (Vn NE (w.heap.size + 1) (w2.alloc (.cells #[.int .i64 0, .int .u64 0, .int .u64 0] 24)) (w4.alloc (.cells #[.int .i64 (a : Nat), .int .u64 (s : Nat), .int .u64 (c : Nat)] 24))) := V3.out.trans (Vn.of (k4.alloc _) H3.out); have Q4 : Hid (L3 (w4.alloc (.cells #[.int .i64 (a : Nat), .int .u64 (s : Nat), .int .u64 (c : Nat)] 24)) w4.heap.size a s c) := L3.made w4 a s c; clear k4 l2)
    | (go_at_call 13; (with_reducible refine (l3 _).mono ?_); rintro e w5 ⟨rfl, k5⟩; have K5 : Hid (Kept (w4.alloc (.cells #[.int .i64 (a : Nat), .int .u64 (s : Nat), .int .u64 (c : Nat)] 24)) (w5.alloc (.cells #[.int .i64 0, .int .u64 0, .int .u64 0] 24))) := k5.alloc _; have H4 : Hid (w.heap.size + 1 ≤ (w4.alloc (.cells #[.int .i64 (a : Nat), .int .u64 (s : Nat), .int .u64 (c : Nat)] 24)).heap.size) := Nat.le_trans HB.out (Nat.le_trans V2.out.size V4.out.size); obtain ⟨c0, c1, c2⟩ := HP.out _ (V2.out.trans (V4.out.trans (Vn.of K5.out H4.out))); clear k5 l3)
    | (go_at_call 9; (with_reducible refine (f1 _).mono ?_); rintro e w6 ⟨rfl, k6⟩; have K6 : Hid (Kept (w4.alloc (.cells #[.int .i64 (a : Nat), .int .u64 (s : Nat), .int .u64 (c : Nat)] 24)) w6) := K5.out.trans k6; clear k6 f1)
    | (go_at_call 8; (with_reducible refine (f2 _).mono ?_); rintro e w7 ⟨rfl, k7⟩; have K7 : Hid (Kept (w4.alloc (.cells #[.int .i64 (a : Nat), .int .u64 (s : Nat), .int .u64 (c : Nat)] 24)) w7) := K6.out.trans k7; have V7 : Hid (Vn NE (w.heap.size + 1) (w2.alloc (.cells #[.int .i64 0, .int .u64 0, .int .u64 0] 24)) w7) := V4.out.trans (Vn.of K7.out H4.out); obtain ⟨d0, d1, d2⟩ := HP.out _ (V2.out.trans V7.out); obtain ⟨e0, e1, e2⟩ := (Q4.out.kept K7.out).cs; obtain ⟨z0, z1, z2⟩ := (Q2.out.vn V7.out).cs; clear k7 f2)
    | (go_at_call 14; (with_reducible refine (f3 _).mono ?_); rintro e w8 ⟨rfl, k8⟩; have K8 : Hid (Kept (w4.alloc (.cells #[.int .i64 (a : Nat), .int .u64 (s : Nat), .int .u64 (c : Nat)] 24)) w8) := K7.out.trans k8; clear k8 f3))
  go_ret
  refine ⟨rfl, ?_⟩
  have V8 : Vn NE (w.heap.size + 1) W1 w8 := V2.out.trans (V4.out.trans (Vn.of K8.out H4.out))
  exact (Vn.pre KB.out (Nat.le_refl _) (V8.mono (Nat.le_succ _))).kept

theorem keeps_law (a : Int) (s c : Nat) (w : World) :
    Calls Try.prog 5 #[.agg #[.int .i64 a, .int .u64 (s : Nat), .int .u64 (c : Nat)]] w fun e w' => e = .returned (.bool true) ∧ Kept w w' := by
  by_cases h : Okr a s c
  · obtain ⟨n, rfl⟩ : ∃ n : Nat, a = n := ⟨a.toNat, by have := h.1; omega⟩
    exact keeps_yes h w
  · exact keeps_no h w
end Go.Proofs.Ytpefmoddglpbfaa.Ph
