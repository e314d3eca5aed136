/- The walks of a queue's save, lengthen and of shorten. Conditions: those that each row names. -/
import Derived.Test.YtabbfoaojmhajaaQI
namespace Go.Proofs.Ytabbfoaojmhajaa.Q
open Go.ChangeShapes Go.WideShapes Go.ChangeAt Go.RowKit
open N (Kept bs numL keyL Small Rd On)

theorem Qs.next {w w' : World} {B a b m m' : Nat} {nm : List Nat} {f g : ByteArray → Option ByteArray} (h : Qs w B a b m nm f) (v : Vn B w w') (k : Kv w' B b m' g) (hm : m' ≤ 1000) : Qs w' B a b m' nm g :=
  ⟨h.qa.vn v, k, hm, Nat.le_trans h.base v.size, h.nml⟩
theorem Vn.pre {B : Nat} {a b c : World} (h : Kept a b) (hB : B ≤ a.heap.size) (k : Vn B b c) : Vn B a c := (Vn.of h hB).trans k
theorem Vn.more {B : Nat} {a b c : World} (h : Vn B a b) (k : Kept b c) (hB : B ≤ a.heap.size) : Vn B a c := h.trans (Vn.of k (Nat.le_trans hB h.size))

set_option maxRecDepth 100000 in
set_option maxHeartbeats 2000000 in
theorem save_none {w : World} {B a b m : Nat} {nm : List Nat} {f : ByteArray → Option ByteArray} (h : Qs w B a b m nm f) (X Z V : Int) :
    Calls Try.prog 20 #[.pointer (some ⟨a, 0, none⟩), .agg #[.int .u64 0, .int .u64 X, .int .u64 Z, .int .u64 V]] w fun e w' => e = .returned (.int .i64 0) ∧ (∃ m', m' ≤ m ∧ Kv w' B b m' (del f (bs nm))) ∧ Vn B w w' := by
  have kA : Kept w (w.alloc (.cells #[.int .u64 0, .int .u64 X, .int .u64 Z, .int .u64 V] 53)) := (Kept.refl w).alloc _
  have HC : Hid (∀ W, Kept w W → W.cell? ⟨a, 0, none⟩ = some (.iface 23 (.pointer (some ⟨b, 0, none⟩))) ∧ W.cell? ⟨a, 1, none⟩ = some (.string (bs nm))) := fun W k => ⟨(h.qa.kept k).c0, (h.qa.kept k).c1⟩
  have hd := del_walk (h.kv.kept kA.drew) h.few (Nat.le_trans h.base kA.drew.size) (bs nm)
  have HW : Hid (∀ W, Vn B (w.alloc (.cells #[.int .u64 0, .int .u64 X, .int .u64 Z, .int .u64 V] 53)).drew W → W.cell? ⟨a, 0, none⟩ = some (.iface 23 (.pointer (some ⟨b, 0, none⟩))) ∧ W.cell? ⟨a, 1, none⟩ = some (.string (bs nm))) := fun W v => ⟨((h.qa.kept kA.drew).vn v).c0, ((h.qa.kept kA.drew).vn v).c1⟩
  have hB := h.base
  have md := fun w => m_del w b
  obtain ⟨c0, c1, c2, c3⟩ := (L4.made w 0 X Z V).cs
  clear h
  generalize bs nm = ky at *
  go_enter Try.func20, Try.ntmps20
  go_wp2_with fail
  obtain ⟨d0, d1⟩ := HC.out _ kA.drew
  obtain ⟨e0, e1⟩ := HC.out _ kA
  go_region_held3 (fun W => W.cell? ⟨a, 0, none⟩ = some (.iface 23 (.pointer (some ⟨b, 0, none⟩))) ∧ W.cell? ⟨a, 1, none⟩ = some (.string ky)) (first | exact ⟨d0, d1⟩ | exact HS.out | go_keep) (first
    | (go_at_call 48; (with_reducible refine hd.mono ?_); rintro e w2 ⟨⟨is, rfl⟩, q2, v2⟩; have FI := (⟨q2, Vn.pre kA.drew hB v2⟩ : Hd2 (_ ∧ _)); have HS : Hid (w2.cell? ⟨a, 0, none⟩ = some (.iface 23 (.pointer (some ⟨b, 0, none⟩))) ∧ w2.cell? ⟨a, 1, none⟩ = some (.string ky)) := HW.out _ v2; clear q2 v2))
  all_goals go_wp2
  all_goals go_ret
  all_goals exact ⟨rfl, FI.out⟩

theorem stays {w W : World} {b : Nat} {x0 x1 x2 x3 : Int} {B a c : Nat} {nm : List Nat} (q : Qa w a c nm) (k : L4 w b x0 x1 x2 x3) (v : Vn B w W) :
    W.cell? ⟨a, 0, none⟩ = some (.iface 23 (.pointer (some ⟨c, 0, none⟩))) ∧ W.cell? ⟨a, 1, none⟩ = some (.string (bs nm)) ∧ W.cell? ⟨b, 0, none⟩ = some (.int .u64 x0) ∧ W.cell? ⟨b, 1, none⟩ = some (.int .u64 x1) ∧ W.cell? ⟨b, 2, none⟩ = some (.int .u64 x2) :=
  ⟨(q.vn v).c0, (q.vn v).c1, (k.vn v).cs.1, (k.vn v).cs.2.1, (k.vn v).cs.2.2.1⟩

set_option maxRecDepth 100000 in
set_option maxHeartbeats 4000000 in
theorem save_some {w : World} {B a b m : Nat} {nm : List Nat} {f : ByteArray → Option ByteArray} (h : Qs w B a b m nm f) (M X Z : Nat) (V : Int) (hM0 : M ≠ 0) (hM : M < 18446744073709551616) (hX : X < 18446744073709551616) (hZ : Z < 18446744073709551616) :
    Calls Try.prog 20 #[.pointer (some ⟨a, 0, none⟩), .agg #[.int .u64 (M : Nat), .int .u64 (X : Nat), .int .u64 (Z : Nat), .int .u64 V]] w fun e w' => e = .returned (.int .i64 0) ∧ (∃ m', m' ≤ m + 1 ∧ Kv w' B b m' (put f (bs nm) (bs (numL M ++ (numL X ++ numL Z))))) ∧ Vn B w w' := by
  have hm0 : ((M : Int) == 0) = false := by simp; exact hM0
  have kA : Kept w (w.alloc (.cells #[.int .u64 (M : Nat), .int .u64 (X : Nat), .int .u64 (Z : Nat), .int .u64 V] 53)) := (Kept.refl w).alloc _
  have LA := L4.made w (M : Nat) (X : Nat) (Z : Nat) V
  have HW : Hid (∀ W, Vn B (w.alloc (.cells #[.int .u64 (M : Nat), .int .u64 (X : Nat), .int .u64 (Z : Nat), .int .u64 V] 53)) W → W.cell? ⟨a, 0, none⟩ = some (.iface 23 (.pointer (some ⟨b, 0, none⟩))) ∧ W.cell? ⟨a, 1, none⟩ = some (.string (bs nm)) ∧ W.cell? ⟨w.heap.size, 0, none⟩ = some (.int .u64 (M : Nat)) ∧ W.cell? ⟨w.heap.size, 1, none⟩ = some (.int .u64 (X : Nat)) ∧ W.cell? ⟨w.heap.size, 2, none⟩ = some (.int .u64 (Z : Nat))) := fun W v => stays (h.qa.kept kA) LA v
  have hB := h.base
  have hB2 := Nat.le_trans hB kA.size
  have HP : Hid (∀ W, Kept (w.alloc (.cells #[.int .u64 (M : Nat), .int .u64 (X : Nat), .int .u64 (Z : Nat), .int .u64 V] 53)) W → Calls Try.prog 50 #[.pointer (some ⟨b, 0, none⟩), .string (bs nm), .string (bs (numL M) ++ bs (numL X) ++ bs (numL Z))] W fun e w' => e = .returned (.int .i64 0) ∧ (∃ m', m' ≤ m + 1 ∧ Kv w' B b m' (put f (bs nm) (bs (numL M ++ (numL X ++ numL Z))))) ∧ Vn B W w') := fun W k => by
    rw [N.bs_append, N.bs_append, List.append_assoc]
    exact put_walk ((h.kv.kept kA).kept k) h.few (Nat.le_trans hB2 k.size) _ _
  have mp := fun w => m_put w b
  have hn1 := N.num_walk M hM
  have hn2 := N.num_walk X hX
  have hn3 := N.num_walk Z hZ
  have s1 : (bs (numL M)).size ≤ 10 := by rw [N.bs_size]; exact N.numL_ten M hM
  have s2 : (bs (numL X)).size ≤ 10 := by rw [N.bs_size]; exact N.numL_ten X hX
  have s3 : (bs (numL Z)).size ≤ 10 := by rw [N.bs_size]; exact N.numL_ten Z hZ
  have HK : Hid (Kv w B b m f → True) := fun _ => trivial
  generalize hrf : put f (bs nm) (bs (numL M ++ (numL X ++ numL Z))) = rf at *
  clear h LA hrf HK hM0 hM hX hZ
  generalize bs nm = ky at *
  generalize bs (numL M) = t1 at *
  generalize bs (numL X) = t2 at *
  generalize bs (numL Z) = t3 at *
  have y1 : ¬ 9223372036854775807 < t1.size + t2.size := by omega
  have y2 : ¬ 9223372036854775807 < t1.size + t2.size + t3.size := by omega
  go_enter Try.func20, Try.ntmps20
  obtain ⟨e0, e1, e2, e3, e4⟩ := HW.out _ (Vn.refl _ _)
  go_wp2_with fail
  have kD := (Kept.refl (w.alloc (.cells #[.int .u64 (M : Nat), .int .u64 (X : Nat), .int .u64 (Z : Nat), .int .u64 V] 53))).drew
  have S0 := HW.out _ (Vn.of kD hB2)
  go_region_held3 (fun W => W.cell? ⟨a, 0, none⟩ = some (.iface 23 (.pointer (some ⟨b, 0, none⟩))) ∧ W.cell? ⟨a, 1, none⟩ = some (.string ky) ∧ W.cell? ⟨w.heap.size, 0, none⟩ = some (.int .u64 (M : Nat)) ∧ W.cell? ⟨w.heap.size, 1, none⟩ = some (.int .u64 (X : Nat)) ∧ W.cell? ⟨w.heap.size, 2, none⟩ = some (.int .u64 (Z : Nat))) (first | exact S0 | exact S4.out | exact S3.out | exact S2.out | exact S1.out | go_keep) (first
    | (go_at_call 18; (with_reducible refine (hn1 _).mono ?_); rintro e w1 ⟨rfl, k1⟩; have K1 : Hid (Kept (w.alloc (.cells #[.int .u64 (M : Nat), .int .u64 (X : Nat), .int .u64 (Z : Nat), .int .u64 V] 53)) w1) := kD.trans k1; have S1 : Hid _ := HW.out _ (Vn.of K1.out hB2); clear k1 hn1 S0)
    | (go_at_call 18; (with_reducible refine (hn2 _).mono ?_); rintro e w2 ⟨rfl, k2⟩; have K2 : Hid (Kept (w.alloc (.cells #[.int .u64 (M : Nat), .int .u64 (X : Nat), .int .u64 (Z : Nat), .int .u64 V] 53)) w2) := K1.out.trans k2; have S2 : Hid _ := HW.out _ (Vn.of K2.out hB2); clear k2 hn2 S1)
    | (go_at_call 18; (with_reducible refine (hn3 _).mono ?_); rintro e w3 ⟨rfl, k3⟩; have K3 : Hid (Kept (w.alloc (.cells #[.int .u64 (M : Nat), .int .u64 (X : Nat), .int .u64 (Z : Nat), .int .u64 V] 53)) w3) := K2.out.trans k3; have S3 : Hid _ := HW.out _ (Vn.of K3.out hB2); have hp := HP.out _ K3.out; clear k3 hn3 S2)
    | (go_at_call 50; (with_reducible refine hp.mono ?_); rintro e w4 ⟨rfl, q4, v4⟩; have FI := (⟨q4, Vn.pre (kA.trans K3.out) hB v4⟩ : Hd2 (_ ∧ _)); have S4 : Hid _ := HW.out _ ((Vn.of K3.out hB2).trans v4); clear q4 v4 S3))
  all_goals go_wp2
  all_goals go_ret
  all_goals exact ⟨rfl, FI.out⟩

set_option maxRecDepth 100000 in
theorem shorten_nil (M X Z : Int) (w : World) : Calls Try.prog 21 #[.agg #[.int .u64 M, .int .u64 X, .int .u64 Z, .int .u64 0]] w fun e w' => e = .returned (.agg #[.int .u64 0, .int .u64 0, .int .u64 0, .int .u64 0]) ∧ Kept w w' := by
  obtain ⟨c0, c1, c2, c3⟩ := (L4.made w M X Z 0).cs
  go_enter Try.func21, Try.ntmps21
  go_wp2
  refine bodyPost_ret (v := .agg #[.int .u64 0, .int .u64 0, .int .u64 0, .int .u64 0]) ?_ rfl ⟨rfl, ?_⟩
  · exact results_cell_row (p := 2) rfl _ _ (w.heap.size + 1) 53 #[.int .u64 0, .int .u64 0, .int .u64 0, .int .u64 0] (0, 0) _ rfl (by have := heap_alloc_new (w.alloc (.cells #[.int .u64 M, .int .u64 X, .int .u64 Z, .int .u64 0] 53)) (.cells #[.int .u64 0, .int .u64 0, .int .u64 0, .int .u64 0] 53); rwa [size_alloc] at this) Try.underlying53 rfl size53
  · exact ((Kept.refl w).alloc _).alloc _

set_option maxRecDepth 100000 in
theorem shorten_cons (M X Z V M1 V1 : Int) (hM : IntKind.u64.wrap (M - 1) = M1) (hV : IntKind.u64.wrap (V - 1) = V1) (hV0 : (V == 0) = false) (w : World) : Calls Try.prog 21 #[.agg #[.int .u64 M, .int .u64 X, .int .u64 Z, .int .u64 V]] w fun e w' => e = .returned (.agg #[.int .u64 M1, .int .u64 V1, .int .u64 Z, .int .u64 0]) ∧ Kept w w' := by
  have LA := (L4.made w M X Z V).kept ((Kept.refl (w.alloc (.cells #[.int .u64 M, .int .u64 X, .int .u64 Z, .int .u64 V] 53))).alloc (.cells #[.int .u64 0, .int .u64 0, .int .u64 0, .int .u64 0] 53))
  obtain ⟨c0, c1, c2, c3⟩ := LA.cs
  clear LA
  go_enter Try.func21, Try.ntmps21
  go_wp2
  refine bodyPost_ret (v := .agg #[.int .u64 M1, .int .u64 V1, .int .u64 Z, .int .u64 0]) ?_ rfl ⟨rfl, ?_⟩
  · exact results_cell_row (p := 2) rfl _ _ (w.heap.size + 1) 53 #[.int .u64 M1, .int .u64 V1, .int .u64 Z, .int .u64 0] (0, 0) _ rfl (by have := heap_alloc_new (w.alloc (.cells #[.int .u64 M, .int .u64 X, .int .u64 Z, .int .u64 V] 53)) (.cells #[.int .u64 M1, .int .u64 V1, .int .u64 Z, .int .u64 0] 53); rwa [size_alloc] at this) Try.underlying53 rfl size53
  · exact ((Kept.refl w).alloc _).alloc _
end Go.Proofs.Ytabbfoaojmhajaa.Q
