/- The walks of a queue's Push. Conditions: those that each row names. -/
import Derived.Test.YtabbfoaojmhajaaQL
namespace Go.Proofs.Ytabbfoaojmhajaa.Q
open Go.ChangeShapes Go.WideShapes Go.ChangeAt Go.RowKit
open N (Kept bs numL keyL Small Rd On)

theorem Qa.st {W : World} {a b : Nat} {nm : List Nat} (h : Qa W a b nm) {c : Nat} {x0 x1 x2 x3 : Int} (k : L4 W c x0 x1 x2 x3) (y0 y1 y2 y3 : Int) : Qa (stW W c y0 y1 y2 y3) a b nm := by
  have hne : a ≠ c := by
    intro e
    have := h.out
    rw [e, k.out] at this
    injection this with this
    injection this with _ e2
    exact absurd e2 (by decide)
  refine ⟨?_⟩
  unfold stW
  rw [heap_setCell_other _ ⟨c, 3, none⟩ a _ hne, heap_setCell_other _ ⟨c, 2, none⟩ a _ hne, heap_setCell_other _ ⟨c, 1, none⟩ a _ hne, heap_setCell_other _ ⟨c, 0, none⟩ a _ hne]
  exact h.out
theorem st_size (W : World) (c : Nat) (y0 y1 y2 y3 : Int) : (stW W c y0 y1 y2 y3).heap.size = W.heap.size := by unfold stW; simp
theorem Qs.st {W : World} {B a b m : Nat} {nm : List Nat} {f : ByteArray → Option ByteArray} (h : Qs W B a b m nm f) {c : Nat} {x0 x1 x2 x3 : Int} (k : L4 W c x0 x1 x2 x3) (y0 y1 y2 y3 : Int) : Qs (stW W c y0 y1 y2 y3) B a b m nm f :=
  ⟨h.qa.st k _ _ _ _, h.kv.st k _ _ _ _, h.few, by rw [st_size]; exact h.base, h.nml⟩

/-- A call of a queue that tells a line. -/
def LoadSays (w : World) (a : Nat) (A0 A1 A2 A3 : Int) : Prop := ∀ W, Kept w W → Calls Try.prog 15 #[.pointer (some ⟨a, 0, none⟩)] W fun e w' => e = .returned (.tuple #[.agg #[.int .u64 A0, .int .u64 A1, .int .u64 A2, .int .u64 A3], .int .i64 0]) ∧ Kept W w'
def BehindSays (w : World) (a : Nat) (n A0 A1 A2 A3 : Int) (v : Int) (is : Bool) : Prop := ∀ W, Kept w W → Calls Try.prog 16 #[.pointer (some ⟨a, 0, none⟩), .int .u64 n, .agg #[.int .u64 A0, .int .u64 A1, .int .u64 A2, .int .u64 A3]] W fun e w' => e = .returned (.tuple #[.int .u64 v, .bool is, .int .i64 0]) ∧ Kept W w'

set_option maxRecDepth 100000 in
set_option maxHeartbeats 2000000 in
theorem push_no {w : World} {a : Nat} (n A0 A1 A2 A3 v : Int) (is : Bool) (hl : LoadSays w a A0 A1 A2 A3) (hb : BehindSays w a n A0 A1 A2 A3 v is) (hn : is = true ∨ ¬ n ≤ 4611686018427387904) :
    Calls Try.prog 10 #[.pointer (some ⟨a, 0, none⟩), .int .u64 n] w fun e w' => e = .returned (.tuple #[.bool false, .int .i64 0]) ∧ Kept w w' := by
  have h1 := hl _ (Kept.refl w)
  have HBh : Hid (BehindSays w a n A0 A1 A2 A3 v is) := hb
  clear hl hb
  cases is with
  | true =>
    clear hn
    go_enter Try.func10, Try.ntmps10
    go_wp2_with (first
      | (go_at_call 15; (with_reducible refine h1.mono ?_); rintro e w1 ⟨rfl, k1⟩; have K1 : Hid (Kept w (w1.alloc (.cells #[.int .u64 A0, .int .u64 A1, .int .u64 A2, .int .u64 A3] 53))) := k1.alloc _; have h2 := HBh.out _ K1.out; obtain ⟨x0, x1, x2, x3⟩ := (L4.made w1 A0 A1 A2 A3).cs; clear k1 h1)
      | (go_at_call 16; (with_reducible refine h2.mono ?_); rintro e w2 ⟨rfl, k2⟩; have K2 : Hid (Kept w w2) := K1.out.trans k2; clear k2 h2))
    go_ret2
    exact ⟨rfl, K2.out⟩
  | false =>
    have hn : (4611686018427387904 : Int) < n := by rcases hn with hn | hn; cases hn; omega
    go_enter Try.func10, Try.ntmps10
    go_wp2_with (first
      | (go_at_call 15; (with_reducible refine h1.mono ?_); rintro e w1 ⟨rfl, k1⟩; have K1 : Hid (Kept w (w1.alloc (.cells #[.int .u64 A0, .int .u64 A1, .int .u64 A2, .int .u64 A3] 53))) := k1.alloc _; have h2 := HBh.out _ K1.out; obtain ⟨x0, x1, x2, x3⟩ := (L4.made w1 A0 A1 A2 A3).cs; clear k1 h1)
      | (go_at_call 16; (with_reducible refine h2.mono ?_); rintro e w2 ⟨rfl, k2⟩; have K2 : Hid (Kept w w2) := K1.out.trans k2; clear k2 h2))
    go_ret2
    exact ⟨rfl, K2.out⟩

set_option maxRecDepth 100000 in
set_option maxHeartbeats 4000000 in
theorem push_yes {w : World} {B a b m : Nat} {nm : List Nat} {f f2 f3 : ByteArray → Option ByteArray} (h : Qs w B a b m nm f) (hm : m ≤ 900) (n : Nat) (hn : n ≤ 4611686018427387904) (A0 A1 A2 A3 L0 L1 L2 : Int) (hl : LoadSays w a A0 A1 A2 A3) (hb : BehindSays w a (n : Nat) A0 A1 A2 A3 0 false)
    (hg : ∀ W m1, Qs W B a b m1 nm (put f (bs (nm ++ keyL n)) (bs (numL 0))) → Calls Try.prog 19 #[.pointer (some ⟨a, 0, none⟩), .agg #[.int .u64 A0, .int .u64 A1, .int .u64 A2, .int .u64 A3], .int .u64 (n : Nat)] W fun e w' => e = .returned (.tuple #[.agg #[.int .u64 L0, .int .u64 L1, .int .u64 L2, .int .u64 0], .int .i64 0]) ∧ (∃ m', m' ≤ m1 + 1 ∧ Kv w' B b m' f2) ∧ Vn B W w')
    (hv : ∀ W m2, Qs W B a b m2 nm f2 → Calls Try.prog 20 #[.pointer (some ⟨a, 0, none⟩), .agg #[.int .u64 L0, .int .u64 L1, .int .u64 L2, .int .u64 0]] W fun e w' => e = .returned (.int .i64 0) ∧ (∃ m', m' ≤ m2 + 1 ∧ Kv w' B b m' f3) ∧ Vn B W w') :
    Calls Try.prog 10 #[.pointer (some ⟨a, 0, none⟩), .int .u64 (n : Nat)] w fun e w' => e = .returned (.tuple #[.bool true, .int .i64 0]) ∧ (∃ m', m' ≤ m + 3 ∧ Kv w' B b m' f3) ∧ Vn B w w' := by
  have hn2 : (n : Int) ≤ 4611686018427387904 := by omega
  have h1 := hl _ (Kept.refl w)
  have HBh : Hid (BehindSays w a (n : Nat) A0 A1 A2 A3 0 false) := hb
  have H : Hid (Qs w B a b m nm f) := h
  have HG : Hid (∀ W m1, Qs W B a b m1 nm (put f (bs (nm ++ keyL n)) (bs (numL 0))) → Calls Try.prog 19 #[.pointer (some ⟨a, 0, none⟩), .agg #[.int .u64 A0, .int .u64 A1, .int .u64 A2, .int .u64 A3], .int .u64 (n : Nat)] W fun e w' => e = .returned (.tuple #[.agg #[.int .u64 L0, .int .u64 L1, .int .u64 L2, .int .u64 0], .int .i64 0]) ∧ (∃ m', m' ≤ m1 + 1 ∧ Kv w' B b m' f2) ∧ Vn B W w') := hg
  have HV : Hid (∀ W m2, Qs W B a b m2 nm f2 → Calls Try.prog 20 #[.pointer (some ⟨a, 0, none⟩), .agg #[.int .u64 L0, .int .u64 L1, .int .u64 L2, .int .u64 0]] W fun e w' => e = .returned (.int .i64 0) ∧ (∃ m', m' ≤ m2 + 1 ∧ Kv w' B b m' f3) ∧ Vn B W w') := hv
  have HB : Hid (B ≤ w.heap.size) := h.base
  have HM : Hid (m ≤ 900) := hm
  have HC : Hid (∀ W, Vn B w W → W.cell? ⟨a, 0, none⟩ = some (.iface 23 (.pointer (some ⟨b, 0, none⟩)))) := fun W v => (h.qa.vn v).c0
  have HQ : Hid (∀ W, Kept w W → Calls Try.prog 17 #[.pointer (some ⟨a, 0, none⟩), .int .u64 (n : Nat)] W fun e w' => e = .returned (.string (bs (nm ++ keyL n))) ∧ Kept W w') := fun W k => qkey_walk (h.qa.kept k) h.nml n (by omega)
  have HP : Hid (∀ W, Kept w W → Calls Try.prog 50 #[.pointer (some ⟨b, 0, none⟩), .string (bs (nm ++ keyL n)), .string (bs (numL 0))] W fun e w' => e = .returned (.int .i64 0) ∧ (∃ m', m' ≤ m + 1 ∧ Kv w' B b m' (put f (bs (nm ++ keyL n)) (bs (numL 0)))) ∧ Vn B W w') := fun W k => put_walk (h.kv.kept k) h.few (Nat.le_trans h.base k.size) _ _
  have mp := fun w => m_put w b
  have hnn : ∀ W, Calls Try.prog 18 #[.int .u64 0] W fun e w' => e = .returned (.string (bs (numL 0))) ∧ Kept W w' := fun W => N.num_walk 0 (by omega) W
  clear h hl hb hg hv hm hn
  generalize hf1 : put f (bs (nm ++ keyL n)) (bs (numL 0)) = f1 at *
  generalize bs (nm ++ keyL n) = ky at *
  generalize bs (numL 0) = tx at *
  clear hf1
  go_enter Try.func10, Try.ntmps10
  go_wp2_with (first
    | (go_at_call 15; (with_reducible refine h1.mono ?_); rintro e w1 ⟨rfl, k1⟩; have K1 : Hid (Kept w (w1.alloc (.cells #[.int .u64 A0, .int .u64 A1, .int .u64 A2, .int .u64 A3] 53))) := k1.alloc _; have KS : Hid (w.heap.size ≤ w1.heap.size) := k1.size; have h2 := HBh.out _ K1.out; obtain ⟨x0, x1, x2, x3⟩ := (L4.made w1 A0 A1 A2 A3).cs; clear k1 h1)
    | (go_at_call 16; (with_reducible refine h2.mono ?_); rintro e w2 ⟨rfl, k2⟩; have K2 : Hid (Kept w w2) := K1.out.trans k2; have LC : Hid (L4 w2 w1.heap.size A0 A1 A2 A3) := (L4.made w1 A0 A1 A2 A3).kept k2; clear k2 h2 x0 x1 x2 x3))
  have kD := K2.out.drew
  have S0 := HC.out _ (Vn.of kD HB.out)
  have e00 := HC.out _ (Vn.of K2.out HB.out)
  have hq := HQ.out _ kD
  go_region_held3 (fun W => W.cell? ⟨a, 0, none⟩ = some (.iface 23 (.pointer (some ⟨b, 0, none⟩)))) (first | exact S0 | exact S3.out | exact S2.out | exact S1.out | go_keep) (first
    | (go_at_call 17; (with_reducible refine hq.mono ?_); rintro e v1 ⟨rfl, k1⟩; have J1 : Hid (Kept w v1) := kD.trans k1; have KK1 : Hid (Kept w2.drew v1) := k1; have S1 : Hid _ := HC.out _ (Vn.of J1.out HB.out); clear k1 hq S0)
    | (go_at_call 18; (with_reducible refine (hnn _).mono ?_); rintro e v2 ⟨rfl, k2⟩; have J2 : Hid (Kept w v2) := J1.out.trans k2; have KK2 : Hid (Kept w2 v2) := ((Kept.refl w2).drew).trans (KK1.out.trans k2); have S2 : Hid _ := HC.out _ (Vn.of J2.out HB.out); have hp := HP.out _ J2.out; clear k2 hnn S1)
    | (go_at_call 50; (with_reducible refine hp.mono ?_); rintro e v3 ⟨rfl, ⟨m1, hm1, q3⟩, n3⟩; have HM1 : Hid (m1 ≤ m + 1) := hm1; have V3 : Hid (Vn B w v3) := Vn.pre J2.out HB.out n3; have LC3 : Hid (L4 v3 w1.heap.size A0 A1 A2 A3) := (LC.out.kept KK2.out).vn n3; have Q3 : Hid (Qs v3 B a b m1 nm f1) := H.out.next V3.out q3 (by have := HM.out; omega); have S3 : Hid _ := HC.out _ V3.out; have h4 := HG.out _ _ Q3.out; obtain ⟨x0, x1, x2, x3⟩ := LC3.out.cs; clear q3 n3 S2 hm1 hp))
  all_goals go_wp2_with (first
    | (go_at_call 19; (with_reducible refine h4.mono ?_); rintro e v4 ⟨rfl, ⟨m2, hm2, q4⟩, n4⟩; have HM2 : Hid (m2 ≤ m1 + 1) := hm2; have V4 : Hid (Vn B w v4) := V3.out.trans n4; have LC4 : Hid (L4 v4 w1.heap.size A0 A1 A2 A3) := LC3.out.vn n4; have Q4 : Hid (Qs v4 B a b m2 nm f2) := Q3.out.next n4 q4 (by have := HM.out; have := HM1.out; omega); have V5 : Hid (Vn B w (stW v4 w1.heap.size L0 L1 L2 0)) := vn_st V4.out KS.out HB.out _ _ _ _; have h5 : Calls Try.prog 20 #[.pointer (some ⟨a, 0, none⟩), .agg #[.int .u64 L0, .int .u64 L1, .int .u64 L2, .int .u64 0]] ((((v4.setCell ⟨w1.heap.size, 0, none⟩ (.int .u64 L0)).setCell ⟨w1.heap.size, 1, none⟩ (.int .u64 L1)).setCell ⟨w1.heap.size, 2, none⟩ (.int .u64 L2)).setCell ⟨w1.heap.size, 3, none⟩ (.int .u64 0)) _ := HV.out _ _ (Q4.out.st LC4.out L0 L1 L2 0); obtain ⟨⟨g0, z0⟩, ⟨g1, z1⟩, ⟨g2, z2⟩, g3, z3⟩ := LC4.out.ready L0 L1 L2; obtain ⟨y0, y1, y2, y3⟩ := ((((LC4.out.set0 L0).set1 L1).set2 L2).set3 0).cs; clear q4 n4 hm2 h4 x0 x1 x2 x3)
    | (go_at_call 20; (with_reducible refine h5.mono ?_); rintro e v6 ⟨rfl, ⟨m3, hm3, q6⟩, n6⟩; have HM3 : Hid (m3 ≤ m2 + 1) := hm3; have FI := (⟨⟨⟨m3, by (have := HM1.out; have := HM2.out; omega), q6⟩, V5.out.trans n6⟩⟩ : Hd2 ((∃ m', m' ≤ m + 3 ∧ Kv v6 B b m' f3) ∧ Vn B w v6)); clear q6 n6 hm3 h5))
  all_goals go_ret2
  all_goals exact ⟨rfl, FI.out⟩
end Go.Proofs.Ytabbfoaojmhajaa.Q
