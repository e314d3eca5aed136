/- The walk of a queue's load: the line, and what is behind its first one. Conditions: those that each row names. -/
import Derived.Test.YtabbfoaojmhajaaQHb
namespace Go.Proofs.Ytabbfoaojmhajaa.Q
open Go.ChangeShapes Go.WideShapes Go.ChangeAt Go.RowKit
open N (Kept bs numL keyL Small Rd On)

theorem nil_no (w : World) (b : Nat) : (binOp .eql 49 (.iface 23 (.pointer (some ⟨b, 0, none⟩))) .nilIface).run Try.prog w = .ok (.bool false) w := rfl

set_option maxRecDepth 100000 in
set_option maxHeartbeats 2000000 in
theorem load_none {w : World} {a b : Nat} {nm : List Nat} (hq : Qa w a b nm)
    (hs : ∀ W, Kept w W → Calls Try.prog 22 #[.pointer (some ⟨a, 0, none⟩)] W fun e w' => e = .returned (.tuple #[.agg #[.int .u64 0, .int .u64 0, .int .u64 0, .int .u64 0], .int .i64 0]) ∧ Kept W w') :
    Calls Try.prog 15 #[.pointer (some ⟨a, 0, none⟩)] w fun e w' => e = .returned (.tuple #[.agg #[.int .u64 0, .int .u64 0, .int .u64 0, .int .u64 0], .int .i64 0]) ∧ Kept w w' := by
  have HC : Hid (∀ W, Kept w W → W.cell? ⟨a, 0, none⟩ = some (.iface 23 (.pointer (some ⟨b, 0, none⟩)))) := fun W k => (hq.kept k).c0
  have HS : Hid (∀ W, Kept w W → Calls Try.prog 22 #[.pointer (some ⟨a, 0, none⟩)] W fun e w' => e = .returned (.tuple #[.agg #[.int .u64 0, .int .u64 0, .int .u64 0, .int .u64 0], .int .i64 0]) ∧ Kept W w') := hs
  have nn := fun w => nil_no w b
  have kA : Kept w (w.alloc (.cells #[.int .u64 0, .int .u64 0, .int .u64 0, .int .u64 0] 53)) := (Kept.refl w).alloc _
  have d0 := HC.out _ kA
  have h1 := HS.out _ kA
  have Z0 : Hid (L4 (w.alloc (.cells #[.int .u64 0, .int .u64 0, .int .u64 0, .int .u64 0] 53)) w.heap.size 0 0 0 0) := L4.made w 0 0 0 0
  clear hq hs
  go_enter Try.func15, Try.ntmps15
  go_wp2_with (go_at_call 22; (with_reducible refine h1.mono ?_); rintro e w1 ⟨rfl, k1⟩; have K2 : Hid (Kept (w.alloc (.cells #[.int .u64 0, .int .u64 0, .int .u64 0, .int .u64 0] 53)) (w1.alloc (.cells #[.int .u64 0, .int .u64 0, .int .u64 0, .int .u64 0] 53))) := k1.alloc _; obtain ⟨x0, x1, x2, x3⟩ := (L4.made w1 0 0 0 0).cs; obtain ⟨⟨g0, h0⟩, ⟨g1, h1⟩, ⟨g2, h2⟩, g3, h3⟩ := (Z0.out.kept K2.out).ready 0 0 0; clear k1)
  refine bodyPost_ret (v := .tuple #[.agg #[.int .u64 0, .int .u64 0, .int .u64 0, .int .u64 0], .int .i64 0]) ?_ rfl ⟨rfl, ?_⟩
  · exact results_two (p := 2) (u := 3) (ty := 53) rfl _ _ w.heap.size 53 #[.int .u64 0, .int .u64 0, .int .u64 0, .int .u64 0] (0, 0) _ rfl ((Z0.out.kept K2.out).fill 0 0 0 0).out Try.underlying53 rfl size53
  · exact kept_st (kA.trans K2.out) (Nat.le_refl _) _ _ _ _

set_option maxRecDepth 100000 in
set_option maxHeartbeats 4000000 in
theorem load_some {w : World} {a b : Nat} {nm : List Nat} (hq : Qa w a b nm) (M X Z V : Int) (hM : (M == 0) = false)
    (hs : ∀ W, Kept w W → Calls Try.prog 22 #[.pointer (some ⟨a, 0, none⟩)] W fun e w' => e = .returned (.tuple #[.agg #[.int .u64 M, .int .u64 X, .int .u64 Z, .int .u64 0], .int .i64 0]) ∧ Kept W w')
    (hl : ∀ W, Kept w W → Calls Try.prog 23 #[.pointer (some ⟨a, 0, none⟩), .int .u64 Z, .agg #[.int .u64 M, .int .u64 X, .int .u64 Z, .int .u64 0]] W fun e w' => e = .returned (.tuple #[.int .u64 0, .int .i64 0]) ∧ Kept W w')
    (hf : ∀ W, Kept w W → Calls Try.prog 23 #[.pointer (some ⟨a, 0, none⟩), .int .u64 X, .agg #[.int .u64 M, .int .u64 X, .int .u64 Z, .int .u64 0]] W fun e w' => e = .returned (.tuple #[.int .u64 V, .int .i64 0]) ∧ Kept W w') :
    Calls Try.prog 15 #[.pointer (some ⟨a, 0, none⟩)] w fun e w' => e = .returned (.tuple #[.agg #[.int .u64 M, .int .u64 X, .int .u64 Z, .int .u64 V], .int .i64 0]) ∧ Kept w w' := by
  have HC : Hid (∀ W, Kept w W → W.cell? ⟨a, 0, none⟩ = some (.iface 23 (.pointer (some ⟨b, 0, none⟩)))) := fun W k => (hq.kept k).c0
  have HL : Hid (∀ W, Kept w W → Calls Try.prog 23 #[.pointer (some ⟨a, 0, none⟩), .int .u64 Z, .agg #[.int .u64 M, .int .u64 X, .int .u64 Z, .int .u64 0]] W fun e w' => e = .returned (.tuple #[.int .u64 0, .int .i64 0]) ∧ Kept W w') := hl
  have HF : Hid (∀ W, Kept w W → Calls Try.prog 23 #[.pointer (some ⟨a, 0, none⟩), .int .u64 X, .agg #[.int .u64 M, .int .u64 X, .int .u64 Z, .int .u64 0]] W fun e w' => e = .returned (.tuple #[.int .u64 V, .int .i64 0]) ∧ Kept W w') := hf
  have nn := fun w => nil_no w b
  have kA : Kept w (w.alloc (.cells #[.int .u64 0, .int .u64 0, .int .u64 0, .int .u64 0] 53)) := (Kept.refl w).alloc _
  have d0 := HC.out _ kA
  have hh := hs _ kA
  have Z0 : Hid (L4 (w.alloc (.cells #[.int .u64 0, .int .u64 0, .int .u64 0, .int .u64 0] 53)) w.heap.size 0 0 0 0) := L4.made w 0 0 0 0
  clear hq hs hl hf
  go_enter Try.func15, Try.ntmps15
  go_wp2_with (first
    | (go_at_call 22; (with_reducible refine hh.mono ?_); rintro e w1 ⟨rfl, k1⟩
       have L1 : Hid (L4 (w1.alloc (.cells #[.int .u64 M, .int .u64 X, .int .u64 Z, .int .u64 0] 53)) w1.heap.size M X Z 0) := L4.made w1 M X Z 0
       have K2 : Hid (Kept (w.alloc (.cells #[.int .u64 0, .int .u64 0, .int .u64 0, .int .u64 0] 53)) (w1.alloc (.cells #[.int .u64 M, .int .u64 X, .int .u64 Z, .int .u64 0] 53))) := k1.alloc _
       have KS := k1.size
       have KS2 : Hid ((w.alloc (.cells #[.int .u64 0, .int .u64 0, .int .u64 0, .int .u64 0] 53)).heap.size ≤ w1.heap.size) := KS
       have hla := HL.out _ (kA.trans K2.out)
       obtain ⟨x0, x1, x2, x3⟩ := L1.out.cs
       clear k1 KS hh)
    | (go_at_call 23; (with_reducible refine hla.mono ?_); rintro e w2 ⟨rfl, k2⟩
       have K3 : Hid (Kept (w1.alloc (.cells #[.int .u64 M, .int .u64 X, .int .u64 Z, .int .u64 0] 53)) w2) := k2
       have hfa := HF.out _ (kA.trans (K2.out.trans K3.out))
       obtain ⟨y0, y1, y2, y3⟩ := (L1.out.kept K3.out).cs
       clear k2 hla)
    | (go_at_call 23; (with_reducible refine hfa.mono ?_); rintro e w3 ⟨rfl, k3⟩
       have K4 : Hid (Kept (w.alloc (.cells #[.int .u64 0, .int .u64 0, .int .u64 0, .int .u64 0] 53)) (w3.setCell ⟨w1.heap.size, 3, none⟩ (.int .u64 V))) := kept_set (K2.out.trans (K3.out.trans k3)) (p := ⟨w1.heap.size, 3, none⟩) KS2.out _
       have LV := (L1.out.kept (K3.out.trans k3))
       have z3 := LV.cs.2.2.2
       have zf := LV.fz 3
       obtain ⟨v0, v1, v2, v3⟩ := (LV.set3 V).cs
       obtain ⟨⟨g0, h0⟩, ⟨g1, h1⟩, ⟨g2, h2⟩, g3, h3⟩ := (Z0.out.kept K4.out).ready M X Z
       clear k3 hfa LV))
  refine bodyPost_ret (v := .tuple #[.agg #[.int .u64 M, .int .u64 X, .int .u64 Z, .int .u64 V], .int .i64 0]) ?_ rfl ⟨rfl, ?_⟩
  · exact results_two (p := 2) (u := 3) (ty := 53) rfl _ _ w.heap.size 53 #[.int .u64 M, .int .u64 X, .int .u64 Z, .int .u64 V] (0, 0) _ rfl ((Z0.out.kept K4.out).fill M X Z V).out Try.underlying53 rfl size53
  · exact kept_st (kA.trans K4.out) (Nat.le_refl _) _ _ _ _

/-- What is behind the first one. -/
def hd2 : List Nat → Nat
  | [] => 0
  | _ :: r => hd1 r
theorem Qs.said {w : World} {B a b m : Nat} {nm l : List Nat} {f : ByteArray → Option ByteArray} (h : Qs w B a b m nm f) (q : Qf nm l f) (hl : l.length ≤ 1000) :
    Calls Try.prog 22 #[.pointer (some ⟨a, 0, none⟩)] w fun e w' => e = .returned (.tuple #[.agg #[.int .u64 (l.length : Nat), .int .u64 (fst0 l : Nat), .int .u64 (lst l : Nat), .int .u64 0], .int .i64 0]) ∧ Kept w w' := by
  have hf := q.line
  have hll := q.lstlt
  match l, q, hl, hf, hll with
  | [], q, hl, hf, hll => exact said_none h hf
  | [x], q, hl, hf, hll =>
    have hx := q.small x (by simp)
    exact said_one h x (by omega) hf
  | x :: y :: r, q, hl, hf, hll =>
    have hx := q.small x (by simp)
    have hne : x ≠ lst (x :: y :: r) := fun e => (List.nodup_cons.1 q.nd).1 (by rw [e]; exact lst_mem (l := y :: r) (by simp))
    exact said_more h x _ _ (by simp) (by omega) (by omega) hne (by omega) hf
theorem Qs.behind {w : World} {B a b m : Nat} {nm l : List Nat} {f : ByteArray → Option ByteArray} (h : Qs w B a b m nm f) (q : Qf nm l f) (n : Nat) (hn : n ∈ l) (h1 h3 : Nat) :
    ∃ v : Nat, nxt l n = some v ∧ Calls Try.prog 16 #[.pointer (some ⟨a, 0, none⟩), .int .u64 (n : Nat), .agg #[.int .u64 (l.length : Nat), .int .u64 (h1 : Nat), .int .u64 (lst l : Nat), .int .u64 (h3 : Nat)]] w fun e w' => e = .returned (.tuple #[.int .u64 (v : Nat), .bool true, .int .i64 0]) ∧ Kept w w' := by
  obtain ⟨v, hv⟩ := nxt_some hn
  have h4 := q.small n hn
  have hf := q.item n (by omega)
  rw [hv] at hf
  have hz := nxt_zero q.nd hv
  have hb := nxt_lt q.small hv
  have hl0 : l.length ≠ 0 := by
    intro e
    rw [List.length_eq_zero_iff] at e
    subst e
    cases hn
  refine ⟨v, hv, ?_⟩
  by_cases hv0 : v = 0
  · subst hv0
    have hnl := hz.1 rfl
    have := behind_last h n (by omega) l.length h1 h3 hl0 hf
    rw [← hnl]
    exact this
  · exact behind_mid h n (by omega) l.length h1 (lst l) h3 hl0 v hb hv0 (fun e => hv0 (hz.2 e)) hf
theorem Qs.load {w : World} {B a b m : Nat} {nm l : List Nat} {f : ByteArray → Option ByteArray} (h : Qs w B a b m nm f) (q : Qf nm l f) (hl : l.length ≤ 1000) :
    Calls Try.prog 15 #[.pointer (some ⟨a, 0, none⟩)] w fun e w' => e = .returned (.tuple #[.agg #[.int .u64 (l.length : Nat), .int .u64 (fst0 l : Nat), .int .u64 (lst l : Nat), .int .u64 (hd2 l : Nat)], .int .i64 0]) ∧ Kept w w' := by
  by_cases hl0 : l = []
  · subst hl0
    exact load_none h.qa fun W k => (h.kept k).said q hl
  · have hlen : ¬ l.length = 0 := fun e => hl0 (List.length_eq_zero_iff.1 e)
    have hfm : fst0 l ∈ l := by
      cases l with
      | nil => exact absurd rfl hl0
      | cons x r => simp [fst0]
    have hfn : nxt l (fst0 l) = some (hd2 l) := by
      cases l with
      | nil => exact absurd rfl hl0
      | cons x r => exact nxt_head x r
    refine load_some h.qa _ _ _ _ (by simp; exact hl0) (fun W k => (h.kept k).said q hl) (fun W k => ?_) (fun W k => ?_)
    · refine qend_walk (lst l) l.length (fst0 l) (lst l) 0 0 fun W2 k2 => ?_
      obtain ⟨v, hv, hc⟩ := ((h.kept k).kept k2).behind q (lst l) (lst_mem hl0) (fst0 l) 0
      obtain rfl : v = 0 := (nxt_zero q.nd hv).2 rfl
      exact hc
    · refine qend_walk (fst0 l) l.length (fst0 l) (lst l) 0 (hd2 l) fun W2 k2 => ?_
      obtain ⟨v, hv, hc⟩ := ((h.kept k).kept k2).behind q (fst0 l) hfm (fst0 l) 0
      rw [hfn] at hv
      injection hv with hv
      subst hv
      exact hc
end Go.Proofs.Ytabbfoaojmhajaa.Q
