/- The walks of calls of no queue, of awake, and of the law on no queue. Conditions: a number is one of 64 bits. -/
import Derived.Test.YtabbfoaojmhajaaQO
namespace Go.Proofs.Ytabbfoaojmhajaa.Q
open Go.ChangeShapes Go.WideShapes Go.ChangeAt Go.RowKit
open N (Kept bs numL keyL Small Rd On)

theorem Aft.next {w w' : World} {B a b m : Nat} {nm l l' : List Nat} {f : ByteArray → Option ByteArray} (h : Qx w B a b m nm l f) (hm : m ≤ 900) (hl : l'.length ≤ 300) (t : Aft w w' B a b m nm l' f) : ∃ m' f', m' ≤ m + 3 ∧ Qx w' B a b m' nm l' f' ∧ ∀ k, ¬ Ow nm k → f' k = f k := by
  obtain ⟨m', f', h1, h2, h3, h4⟩ := t.out
  exact ⟨m', f', h1, ⟨h.s.next t.vn h2 (by omega), h3, hl⟩, h4⟩
theorem psh_len (l : List Nat) (n : Nat) : (psh l n).length ≤ l.length + 1 := by
  unfold psh
  split
  · omega
  · simp

/-- A load that tells an error. -/
def LoadFails (w : World) (q : Value) : Prop := ∀ W, Kept w W → Calls Try.prog 15 #[q] W fun e w' => e = .returned (.tuple #[.agg #[.int .u64 0, .int .u64 0, .int .u64 0, .int .u64 0], .int .i64 1]) ∧ Kept W w'

set_option maxRecDepth 100000 in
theorem load_nil (w : World) : LoadFails w (.pointer none) := by
  intro W _
  go_enter Try.func15, Try.ntmps15
  go_wp2
  refine bodyPost_ret (v := .tuple #[.agg #[.int .u64 0, .int .u64 0, .int .u64 0, .int .u64 0], .int .i64 1]) ?_ rfl ⟨rfl, ?_⟩
  · exact results_two (p := 2) (u := 3) (ty := 53) rfl _ _ W.heap.size 53 #[.int .u64 0, .int .u64 0, .int .u64 0, .int .u64 0] (0, 0) _ rfl (L4.made W 0 0 0 0).out Try.underlying53 rfl size53
  · exact (Kept.refl W).alloc _
set_option maxRecDepth 100000 in
theorem load_nokv {w : World} {a : Nat} {s : ByteArray} (h : w.heap[a]? = some (.cells #[.nilIface, .string s] 51)) : LoadFails w (.pointer (some ⟨a, 0, none⟩)) := by
  intro W k
  have kA : Kept w (W.alloc (.cells #[.int .u64 0, .int .u64 0, .int .u64 0, .int .u64 0] 53)) := k.alloc _
  have c0 : (W.alloc (.cells #[.int .u64 0, .int .u64 0, .int .u64 0, .int .u64 0] 53)).cell? ⟨a, 0, none⟩ = some .nilIface := by rw [cell_of_row _ a 0 _ _ _ (kA.block h)]; rfl
  have nn : ∀ w : World, (binOp .eql 49 .nilIface .nilIface).run Try.prog w = .ok (.bool true) w := fun _ => rfl
  clear h kA
  go_enter Try.func15, Try.ntmps15
  go_wp2
  refine bodyPost_ret (v := .tuple #[.agg #[.int .u64 0, .int .u64 0, .int .u64 0, .int .u64 0], .int .i64 1]) ?_ rfl ⟨rfl, ?_⟩
  · exact results_two (p := 2) (u := 3) (ty := 53) rfl _ _ W.heap.size 53 #[.int .u64 0, .int .u64 0, .int .u64 0, .int .u64 0] (0, 0) _ rfl (L4.made W 0 0 0 0).out Try.underlying53 rfl size53
  · exact (Kept.refl W).alloc _

set_option maxRecDepth 100000 in
theorem push_fail {w : World} {q : Value} (n : Int) (h : LoadFails w q) : Calls Try.prog 10 #[q, .int .u64 n] w fun e w' => e = .returned (.tuple #[.bool false, .int .i64 1]) ∧ Kept w w' := by
  have h1 := h _ (Kept.refl w)
  clear h
  go_enter Try.func10, Try.ntmps10
  go_wp2_with (go_at_call 15; (with_reducible refine h1.mono ?_); rintro e w1 ⟨rfl, k1⟩)
  go_ret2
  exact ⟨rfl, k1.alloc _⟩
set_option maxRecDepth 100000 in
theorem pop_fail {w : World} {q : Value} (h : LoadFails w q) : Calls Try.prog 12 #[q] w fun e w' => e = .returned (.tuple #[.int .u64 0, .bool false, .int .i64 1]) ∧ Kept w w' := by
  have h1 := h _ (Kept.refl w)
  clear h
  go_enter Try.func12, Try.ntmps12
  go_wp2_with (go_at_call 15; (with_reducible refine h1.mono ?_); rintro e w1 ⟨rfl, k1⟩)
  go_ret3
  exact ⟨rfl, k1.alloc _⟩
set_option maxRecDepth 100000 in
theorem len_fail {w : World} {q : Value} (h : LoadFails w q) : Calls Try.prog 13 #[q] w fun e w' => e = .returned (.tuple #[.int .i64 0, .int .i64 1]) ∧ Kept w w' := by
  have h1 := h _ (Kept.refl w)
  clear h
  go_enter Try.func13, Try.ntmps13
  go_wp2_with (go_at_call 15; (with_reducible refine h1.mono ?_); rintro e w1 ⟨rfl, k1⟩)
  go_ret2
  exact ⟨rfl, k1.alloc _⟩
set_option maxRecDepth 100000 in
theorem has_fail {w : World} {q : Value} (n : Int) (h : LoadFails w q) : Calls Try.prog 14 #[q, .int .u64 n] w fun e w' => e = .returned (.tuple #[.bool false, .int .i64 1]) ∧ Kept w w' := by
  have h1 := h _ (Kept.refl w)
  clear h
  go_enter Try.func14, Try.ntmps14
  go_wp2_with (go_at_call 15; (with_reducible refine h1.mono ?_); rintro e w1 ⟨rfl, k1⟩)
  go_ret2
  exact ⟨rfl, k1.alloc _⟩

/-- Keys and texts just made. -/
theorem kv_new (w : World) : Kv (w.alloc (.cells #[.slice none 0 0, .slice none 0 0] 26)) w.heap.size w.heap.size 0 (fun _ => none) :=
  ⟨[], none, none, 0, 0, ⟨heap_alloc_new w _, own_nil _ _, own_nil _ _, (fun _ _ h => by cases h), Nat.le_refl _, List.nodup_nil⟩, fun _ => rfl⟩
theorem small1 {x : Nat} (h : x < 256) : Small [x] := fun y hy => by simp at hy; omega
/-- A queue just made over keys and texts in which it has nothing. -/
theorem qx_new {w : World} {B b m x : Nat} {l : List Nat} {f : ByteArray → Option ByteArray} (k : Kv w B b m f) (hm : m ≤ 1000) (hB : B ≤ w.heap.size) (q : Qf [x] l f) (hl : l.length ≤ 300) :
    Qx (w.alloc (.cells #[.iface 23 (.pointer (some ⟨b, 0, none⟩)), .string (bs [x])] 51)) B w.heap.size b m [x] l f :=
  ⟨⟨⟨heap_alloc_new w _⟩, k.kept ((Kept.refl w).alloc _), hm, Nat.le_trans hB ((Kept.refl w).alloc _).size, by simp⟩, q, hl⟩

set_option maxRecDepth 100000 in
set_option maxHeartbeats 1000000 in
theorem awake_walk (w : World) : Calls Try.prog 7 #[] w fun e w' => e = .returned (.bool true) ∧ Kept w w' := by
  have kA : Kept w ((w.alloc (.cells #[.slice none 0 0, .slice none 0 0] 26)).alloc (.cells #[.iface 23 (.pointer (some ⟨w.heap.size, 0, none⟩)), .string ⟨#[113]⟩] 51)) := ((Kept.refl w).alloc _).alloc _
  have X0 : Hid (Qx ((w.alloc (.cells #[.slice none 0 0, .slice none 0 0] 26)).alloc (.cells #[.iface 23 (.pointer (some ⟨w.heap.size, 0, none⟩)), .string ⟨#[113]⟩] 51)) w.heap.size (w.heap.size + 1) w.heap.size 0 [113] [] (fun _ => none)) := by
    have := qx_new (kv_new w) (by omega) ((Kept.refl w).alloc _).size (Qf.nil (small1 (x := 113) (by omega))) (by simp)
    rw [size_alloc] at this
    exact this
  have hn := new_walk 23 (.pointer (some ⟨w.heap.size, 0, none⟩)) ⟨#[113]⟩ (w.alloc (.cells #[.slice none 0 0, .slice none 0 0] 26))
  rw [size_alloc] at hn
  have hp : Calls Try.prog 10 #[.pointer (some ⟨w.heap.size + 1, 0, none⟩), .int .u64 5] _ _ := X0.out.push (by omega) 5 (by omega)
  go_enter Try.func7, Try.ntmps7
  go_wp2_with (first
    | (go_at_call 6; (with_reducible refine hn.mono ?_); rintro e w1 ⟨rfl, hw1⟩; rw [hw1]; clear hw1 hn)
    | (go_at_call 10; (with_reducible refine hp.mono ?_); rintro e w2 ⟨rfl, t2⟩; obtain ⟨m2, f2, hm2, X2, _⟩ := t2.next X0.out (by omega) (by decide); have V2 : Hid (Vn w.heap.size _ w2) := t2.vn; have hq : Calls Try.prog 12 #[.pointer (some ⟨w.heap.size + 1, 0, none⟩)] w2 fun e w' => e = .returned (.tuple #[.int .u64 5, .bool true, .int .i64 0]) ∧ Aft w2 w' w.heap.size (w.heap.size + 1) w.heap.size m2 [113] [] f2 := X2.pop (by omega); clear t2 hp)
    | (go_at_call 12; (with_reducible refine hq.mono ?_); rintro e w3 ⟨rfl, t3⟩; have V3 : Hid (Vn w.heap.size w2 w3) := t3.vn; clear t3 hq))
  go_ret
  exact ⟨rfl, (Vn.pre kA (Nat.le_refl _) (V2.out.trans V3.out)).kept⟩
end Go.Proofs.Ytabbfoaojmhajaa.Q
