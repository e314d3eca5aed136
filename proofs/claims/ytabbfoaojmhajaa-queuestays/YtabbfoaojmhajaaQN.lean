/- The walks of a queue's Pop, Len and Has. Conditions: those that each row names. -/
import Derived.Test.YtabbfoaojmhajaaQM
namespace Go.Proofs.Ytabbfoaojmhajaa.Q
open Go.ChangeShapes Go.WideShapes Go.ChangeAt Go.RowKit
open N (Kept bs numL keyL Small Rd On)

set_option maxRecDepth 100000 in
set_option maxHeartbeats 2000000 in
theorem pop_no {w : World} {a : Nat} (A1 A2 A3 : Int) (hl : LoadSays w a 0 A1 A2 A3) :
    Calls Try.prog 12 #[.pointer (some ⟨a, 0, none⟩)] w fun e w' => e = .returned (.tuple #[.int .u64 0, .bool false, .int .i64 0]) ∧ Kept w w' := by
  have h1 := hl _ (Kept.refl w)
  clear hl
  go_enter Try.func12, Try.ntmps12
  go_wp2_with (go_at_call 15; (with_reducible refine h1.mono ?_); rintro e w1 ⟨rfl, k1⟩; have K1 : Hid (Kept w (w1.alloc (.cells #[.int .u64 0, .int .u64 A1, .int .u64 A2, .int .u64 A3] 53))) := k1.alloc _; obtain ⟨x0, x1, x2, x3⟩ := (L4.made w1 0 A1 A2 A3).cs; clear k1 h1)
  go_ret3
  exact ⟨rfl, K1.out⟩

set_option maxRecDepth 100000 in
theorem qlen_walk {w : World} {a : Nat} (A0 A1 A2 A3 : Int) (h0 : IntKind.i64.wrap A0 = A0) (hl : LoadSays w a A0 A1 A2 A3) :
    Calls Try.prog 13 #[.pointer (some ⟨a, 0, none⟩)] w fun e w' => e = .returned (.tuple #[.int .i64 A0, .int .i64 0]) ∧ Kept w w' := by
  have h1 := hl _ (Kept.refl w)
  clear hl
  go_enter Try.func13, Try.ntmps13
  go_wp2_with (go_at_call 15; (with_reducible refine h1.mono ?_); rintro e w1 ⟨rfl, k1⟩; have K1 : Hid (Kept w (w1.alloc (.cells #[.int .u64 A0, .int .u64 A1, .int .u64 A2, .int .u64 A3] 53))) := k1.alloc _; obtain ⟨x0, x1, x2, x3⟩ := (L4.made w1 A0 A1 A2 A3).cs; clear k1 h1)
  go_ret2
  exact ⟨rfl, K1.out⟩

set_option maxRecDepth 100000 in
theorem qhas_walk {w : World} {a : Nat} (n A0 A1 A2 A3 v : Int) (is : Bool) (hl : LoadSays w a A0 A1 A2 A3) (hb : BehindSays w a n A0 A1 A2 A3 v is) :
    Calls Try.prog 14 #[.pointer (some ⟨a, 0, none⟩), .int .u64 n] w fun e w' => e = .returned (.tuple #[.bool is, .int .i64 0]) ∧ Kept w w' := by
  have h1 := hl _ (Kept.refl w)
  have HBh : Hid (BehindSays w a n A0 A1 A2 A3 v is) := hb
  clear hl hb
  go_enter Try.func14, Try.ntmps14
  go_wp2_with (first
    | (go_at_call 15; (with_reducible refine h1.mono ?_); rintro e w1 ⟨rfl, k1⟩; have K1 : Hid (Kept w (w1.alloc (.cells #[.int .u64 A0, .int .u64 A1, .int .u64 A2, .int .u64 A3] 53))) := k1.alloc _; have h2 := HBh.out _ K1.out; obtain ⟨x0, x1, x2, x3⟩ := (L4.made w1 A0 A1 A2 A3).cs; clear k1 h1)
    | (go_at_call 16; (with_reducible refine h2.mono ?_); rintro e w2 ⟨rfl, k2⟩; have K2 : Hid (Kept w w2) := K1.out.trans k2; clear k2 h2))
  go_ret2
  exact ⟨rfl, K2.out⟩

set_option maxRecDepth 100000 in
set_option maxHeartbeats 4000000 in
theorem pop_yes {w : World} {B a b m : Nat} {nm : List Nat} {f f3 : ByteArray → Option ByteArray} (h : Qs w B a b m nm f) (hm : m ≤ 900) (x : Nat) (hx : x < 18446744073709551616) (A0 A2 A3 L0 L1 L2 : Int) (h0 : (A0 == 0) = false) (hl : LoadSays w a A0 (x : Nat) A2 A3)
    (hs : ∀ W, Calls Try.prog 21 #[.agg #[.int .u64 A0, .int .u64 (x : Nat), .int .u64 A2, .int .u64 A3]] W fun e w' => e = .returned (.agg #[.int .u64 L0, .int .u64 L1, .int .u64 L2, .int .u64 0]) ∧ Kept W w')
    (hv : ∀ W m2, Qs W B a b m2 nm (del f (bs (nm ++ keyL x))) → Calls Try.prog 20 #[.pointer (some ⟨a, 0, none⟩), .agg #[.int .u64 L0, .int .u64 L1, .int .u64 L2, .int .u64 0]] W fun e w' => e = .returned (.int .i64 0) ∧ (∃ m', m' ≤ m2 + 1 ∧ Kv w' B b m' f3) ∧ Vn B W w') :
    Calls Try.prog 12 #[.pointer (some ⟨a, 0, none⟩)] w fun e w' => e = .returned (.tuple #[.int .u64 (x : Nat), .bool true, .int .i64 0]) ∧ (∃ m', m' ≤ m + 3 ∧ Kv w' B b m' f3) ∧ Vn B w w' := by
  have h1 := hl _ (Kept.refl w)
  have H : Hid (Qs w B a b m nm f) := h
  have HV : Hid (∀ W m2, Qs W B a b m2 nm (del f (bs (nm ++ keyL x))) → Calls Try.prog 20 #[.pointer (some ⟨a, 0, none⟩), .agg #[.int .u64 L0, .int .u64 L1, .int .u64 L2, .int .u64 0]] W fun e w' => e = .returned (.int .i64 0) ∧ (∃ m', m' ≤ m2 + 1 ∧ Kv w' B b m' f3) ∧ Vn B W w') := hv
  have HB : Hid (B ≤ w.heap.size) := h.base
  have HM : Hid (m ≤ 900) := hm
  have HC : Hid (∀ W, Vn B w W → W.cell? ⟨a, 0, none⟩ = some (.iface 23 (.pointer (some ⟨b, 0, none⟩)))) := fun W v => (h.qa.vn v).c0
  have HQ : Hid (∀ W, Kept w W → Calls Try.prog 17 #[.pointer (some ⟨a, 0, none⟩), .int .u64 (x : Nat)] W fun e w' => e = .returned (.string (bs (nm ++ keyL x))) ∧ Kept W w') := fun W k => qkey_walk (h.qa.kept k) h.nml x hx
  have HP : Hid (∀ W, Kept w W → Calls Try.prog 48 #[.pointer (some ⟨b, 0, none⟩), .string (bs (nm ++ keyL x))] W fun e w' => (∃ is, e = .returned (.tuple #[.bool is, .int .i64 0])) ∧ (∃ m', m' ≤ m ∧ Kv w' B b m' (del f (bs (nm ++ keyL x)))) ∧ Vn B W w') := fun W k => del_walk (h.kv.kept k) h.few (Nat.le_trans h.base k.size) _
  have md := fun w => m_del w b
  clear h hl hv hm hx
  generalize hf1 : del f (bs (nm ++ keyL x)) = f1 at *
  generalize bs (nm ++ keyL x) = ky at *
  clear hf1
  generalize (x : Int) = X at *
  go_enter Try.func12, Try.ntmps12
  go_wp2_with (first
    | (go_at_call 15; (with_reducible refine h1.mono ?_); rintro e w1 ⟨rfl, k1⟩; have K1 : Hid (Kept w (w1.alloc (.cells #[.int .u64 A0, .int .u64 X, .int .u64 A2, .int .u64 A3] 53))) := k1.alloc _; have KS : Hid (w.heap.size ≤ w1.heap.size) := k1.size; have LC : Hid (L4 (w1.alloc (.cells #[.int .u64 A0, .int .u64 X, .int .u64 A2, .int .u64 A3] 53)) w1.heap.size A0 X A2 A3) := L4.made w1 A0 X A2 A3; obtain ⟨x0, x1, x2, x3⟩ := LC.out.cs; clear k1 h1))
  generalize w1.alloc (.cells #[.int .u64 A0, .int .u64 X, .int .u64 A2, .int .u64 A3] 53) = w2 at *
  have kD := K1.out.drew
  have HC2 : Hid (∀ W, Vn B w2 W → W.cell? ⟨a, 0, none⟩ = some (.iface 23 (.pointer (some ⟨b, 0, none⟩))) ∧ W.cell? ⟨w1.heap.size, 1, none⟩ = some (.int .u64 X)) := fun W v => ⟨HC.out _ (Vn.pre K1.out HB.out v), (LC.out.vn v).cs.2.1⟩
  have HB2 : Hid (B ≤ w2.heap.size) := Nat.le_trans HB.out K1.out.size
  have S0 := HC2.out _ (Vn.of (Kept.refl w2).drew HB2.out)
  have e00 := (HC2.out _ (Vn.refl B w2)).1
  have hq := HQ.out _ kD
  go_region_held3 (fun W => W.cell? ⟨a, 0, none⟩ = some (.iface 23 (.pointer (some ⟨b, 0, none⟩))) ∧ W.cell? ⟨w1.heap.size, 1, none⟩ = some (.int .u64 X)) (first | exact S0 | exact S3.out | exact S1.out | go_keep) (first
    | (go_at_call 17; (with_reducible refine hq.mono ?_); rintro e v1 ⟨rfl, k1⟩; have J1 : Hid (Kept w v1) := kD.trans k1; have KK1 : Hid (Kept w2 v1) := ((Kept.refl w2).drew).trans k1; have S1 : Hid _ := HC2.out _ (Vn.of KK1.out HB2.out); have hp := HP.out _ J1.out; clear k1 hq S0)
    | (go_at_call 48; (with_reducible refine hp.mono ?_); rintro e v3 ⟨⟨is, rfl⟩, ⟨m1, hm1, q3⟩, n3⟩; have HM1 : Hid (m1 ≤ m) := hm1; have V3 : Hid (Vn B w v3) := Vn.pre J1.out HB.out n3; have LC3 : Hid (L4 v3 w1.heap.size A0 X A2 A3) := (LC.out.kept KK1.out).vn n3; have Q3 : Hid (Qs v3 B a b m1 nm f1) := H.out.next V3.out q3 (by have := HM.out; omega); have S3 : Hid _ := HC2.out _ (Vn.pre KK1.out HB2.out n3); have h4 := hs v3; obtain ⟨x0, x1, x2, x3⟩ := LC3.out.cs; clear q3 n3 S1 hm1 hp hs))
  all_goals go_wp2_with (first
    | (go_at_call 21; (with_reducible refine h4.mono ?_); rintro e v4 ⟨rfl, k4⟩; have K4 : Hid (Kept v3 v4) := k4; have h5 := HV.out _ _ (Q3.out.kept K4.out); clear k4 h4)
    | (go_at_call 20; (with_reducible refine h5.mono ?_); rintro e v6 ⟨rfl, ⟨m3, hm3, q6⟩, n6⟩; have HM3 : Hid (m3 ≤ m1 + 1) := hm3; have VV : Vn B w v6 := V3.out.trans ((Vn.of K4.out (Nat.le_trans HB.out V3.out.size)).trans n6); have FI := (⟨⟨⟨m3, by (have := HM1.out; omega), q6⟩, VV⟩⟩ : Hd2 ((∃ m', m' ≤ m + 3 ∧ Kv v6 B b m' f3) ∧ Vn B w v6)); obtain ⟨z0, z1, z2, z3⟩ := ((LC3.out.kept K4.out).vn n6).cs; clear q6 n6 hm3 h5 VV))
  all_goals go_ret3
  all_goals exact ⟨rfl, FI.out⟩
end Go.Proofs.Ytabbfoaojmhajaa.Q
