/- The walks of a queue's behind, said, end, load: what stands in the keys is read. Conditions: those that each row names. -/
import Derived.Test.YtabbfoaojmhajaaQF
namespace Go.Proofs.Ytabbfoaojmhajaa.Q
open Go.ChangeShapes Go.WideShapes Go.ChangeAt Go.RowKit
open N (Kept bs numL keyL Small Rd On)

theorem Vn.on {w w' : World} {b : Nat} (h : On b w w') (k : w.heap.size ≤ b) : Kept w w' := ⟨h.out.mono k⟩
theorem rnum_in (n : Nat) (hn : n < 18446744073709551616) (most : Nat) (hm : n ≤ most) {b : Nat} {w : World} (k : Rd w b (bs (numL n)) 0) :
    Calls Try.prog 25 #[.pointer (some ⟨b, 0, none⟩), .int .u64 (most : Nat)] w fun e w' => e = .returned (.int .u64 (n : Nat)) ∧ Rd w' b ⟨#[]⟩ 0 ∧ On b w w' :=
  N.rnum_walk n hn [] (by simp) most hm (by rw [List.append_nil]; exact k)

/-- A queue over its keys and texts. -/
structure Qs (w : World) (B a b m : Nat) (nm : List Nat) (f : ByteArray → Option ByteArray) : Prop where
  qa : Qa w a b nm
  kv : Kv w B b m f
  few : m ≤ 1000
  base : B ≤ w.heap.size
  nml : nm.length ≤ 1000
theorem Qs.kept {w w' : World} {B a b m : Nat} {nm : List Nat} {f : ByteArray → Option ByteArray} (h : Qs w B a b m nm f) (k : Kept w w') : Qs w' B a b m nm f :=
  ⟨h.qa.kept k, h.kv.kept k, h.few, Nat.le_trans h.base k.size, h.nml⟩

/-- A line as a value. -/
def lnV (m a z h : Nat) : Value := .agg #[.int .u64 (m : Nat), .int .u64 (a : Nat), .int .u64 (z : Nat), .int .u64 (h : Nat)]

set_option maxRecDepth 100000 in
set_option maxHeartbeats 2000000 in
theorem behind_none {w : World} {B a b m : Nat} {nm : List Nat} {f : ByteArray → Option ByteArray} (h : Qs w B a b m nm f) (n : Nat) (hn : n < 18446744073709551616) (l0 l1 l2 l3 : Nat) (hf : f (bs (nm ++ keyL n)) = none) :
    Calls Try.prog 16 #[.pointer (some ⟨a, 0, none⟩), .int .u64 (n : Nat), .agg #[.int .u64 (l0 : Nat), .int .u64 (l1 : Nat), .int .u64 (l2 : Nat), .int .u64 (l3 : Nat)]] w fun e w' => e = .returned (.tuple #[.int .u64 0, .bool false, .int .i64 0]) ∧ Kept w w' := by
  have kd : ∀ o, Kept w (w.alloc o).drew := fun o => ((Kept.refl w).alloc o).drew
  have HQ : Hid (∀ W, Kept w W → Calls Try.prog 17 #[.pointer (some ⟨a, 0, none⟩), .int .u64 (n : Nat)] W fun e w' => e = .returned (.string (bs (nm ++ keyL n))) ∧ Kept W w') := fun W k => qkey_walk (h.qa.kept k) h.nml n hn
  have HG : Hid (∀ W, Kept w W → Calls Try.prog 49 #[.pointer (some ⟨b, 0, none⟩), .string (bs (nm ++ keyL n))] W fun e w' => e = .returned (.tuple #[.string ⟨#[]⟩, .bool false, .int .i64 0]) ∧ w' = W) := fun W k => by
    have := get_walk (h.kv.kept k) (bs (nm ++ keyL n))
    rwa [hf] at this
  have HC : Hid (∀ W, Kept w W → W.cell? ⟨a, 0, none⟩ = some (.iface 23 (.pointer (some ⟨b, 0, none⟩)))) := fun W k => (h.qa.kept k).c0
  have mg := fun w => m_get w b
  clear hf h
  generalize bs (nm ++ keyL n) = ky at *
  go_enter Try.func16, Try.ntmps16
  go_wp2_with fail
  have c0 := HC.out _ (Kept.refl w)
  have kA := kd (.cells #[.int .u64 (l0 : Nat), .int .u64 (l1 : Nat), .int .u64 (l2 : Nat), .int .u64 (l3 : Nat)] 53)
  have hk := HQ.out _ kA
  have d0 := HC.out _ kA
  go_region_held3 (fun W => W.cell? ⟨a, 0, none⟩ = some (.iface 23 (.pointer (some ⟨b, 0, none⟩)))) (first | exact d0 | exact HC.out _ K1.out | go_keep) (first
    | (go_at_call 17; (with_reducible refine hk.mono ?_); rintro e w1 ⟨rfl, k1⟩; have K1 : Hid (Kept w w1) := kA.trans k1; have hg := HG.out _ K1.out; clear k1)
    | (go_at_call 49; (with_reducible refine hg.mono ?_); rintro e w2 ⟨rfl, hw2⟩; subst hw2))
  all_goals go_wp2
  all_goals go_ret3
  all_goals exact ⟨rfl, K1.out⟩
end Go.Proofs.Ytabbfoaojmhajaa.Q
