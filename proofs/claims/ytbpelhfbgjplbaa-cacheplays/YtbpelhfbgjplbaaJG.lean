/- The walks of idle, mayKey, read, remove, Held, Cost. Conditions: those that each row names. -/
import Derived.Test.YtbpelhfbgjplbaaJF
namespace Go.Proofs.Ytbpelhfbgjplbaa.Ca
open Go.ChangeShapes Go.WideShapes Go.ChangeAt Go.RowKit
open N (Kept)
open Q (kept_cell Kv Vn Km m_get m_put m_del)
variable {E : Nat → Prop} {X : List En}

set_option maxRecDepth 100000 in
theorem idle_walk {w : World} {p : Nat} {q : Cc} (h : CB w p q) : Calls Try.prog 18 #[.pointer (some ⟨p, 0, none⟩)] w fun r w' => r = .returned (.bool false) ∧ w' = w := by
  obtain ⟨c0, _⟩ := h.c
  clear h
  go_enter Try.func18, Try.ntmps18
  go_wp2
  go_ret
  exact ⟨rfl, rfl⟩
set_option maxRecDepth 100000 in
theorem idle_nil (w : World) : Calls Try.prog 18 #[.pointer none] w fun r w' => r = .returned (.bool true) ∧ w' = w := by
  go_enter Try.func18, Try.ntmps18
  go_wp2
  go_ret
  exact ⟨rfl, rfl⟩
set_option maxRecDepth 100000 in
theorem idle_nokv {w : World} {p : Nat} (c0 : w.cell? ⟨p, 0, none⟩ = some .nilIface) : Calls Try.prog 18 #[.pointer (some ⟨p, 0, none⟩)] w fun r w' => r = .returned (.bool true) ∧ w' = w := by
  have nn : ∀ w : World, (binOp .eql 53 .nilIface .nilIface).run Try.prog w = .ok (.bool true) w := fun _ => rfl
  go_enter Try.func18, Try.ntmps18
  go_wp2
  go_ret
  exact ⟨rfl, rfl⟩
set_option maxRecDepth 100000 in
theorem may_walk (s : ByteArray) (hs : s.size ≤ 64) (w : World) : Calls Try.prog 19 #[.string s] w fun r w' => r = .returned (.bool true) ∧ w' = w := by
  go_enter Try.func19, Try.ntmps19
  go_wp2
  go_ret
  refine ⟨?_, rfl⟩
  show Ending.returned (.bool (decide ((s.size : Int) ≤ 64))) = _
  rw [decide_eq_true (by omega)]
set_option maxRecDepth 100000 in
theorem may_not (s : ByteArray) (hs : ¬ s.size ≤ 64) (w : World) : Calls Try.prog 19 #[.string s] w fun r w' => r = .returned (.bool false) ∧ w' = w := by
  go_enter Try.func19, Try.ntmps19
  go_wp2
  go_ret
  refine ⟨?_, rfl⟩
  show Ending.returned (.bool (decide ((s.size : Int) ≤ 64))) = _
  rw [decide_eq_false (by omega)]
set_option maxRecDepth 100000 in
theorem held_walk {w : World} {p n : Nat} {q : Cc} {M : ByteArray → Option Nat} (h : CB w p q) (m : MP w q.mh M n) : Calls Try.prog 16 #[.pointer (some ⟨p, 0, none⟩)] w fun r w' => r = .returned (.int .i64 (n : Nat)) ∧ w' = w := by
  obtain ⟨_, _, c2, _⟩ := h.c
  have ml := m.len
  clear h m
  go_enter Try.func16, Try.ntmps16
  go_wp2
  go_ret
  exact ⟨rfl, rfl⟩
set_option maxRecDepth 100000 in
theorem held_nil (w : World) : Calls Try.prog 16 #[.pointer none] w fun r w' => r = .returned (.int .i64 0) ∧ w' = w := by
  go_enter Try.func16, Try.ntmps16
  go_wp2
  go_ret
  exact ⟨rfl, rfl⟩
set_option maxRecDepth 100000 in
theorem cost_walk {w : World} {p : Nat} {q : Cc} (h : CB w p q) : Calls Try.prog 17 #[.pointer (some ⟨p, 0, none⟩)] w fun r w' => r = .returned (.tuple #[.int .i64 q.r, .int .i64 q.x]) ∧ Kept w w' := by
  obtain ⟨_, _, _, _, _, c5, c6⟩ := h.c
  clear h
  go_enter Try.func17, Try.ntmps17
  go_wp2_with fail
  go_quiet (fail)
  go_wp2
  go_ret2
  exact ⟨rfl, Q.keptN _ _⟩
set_option maxRecDepth 100000 in
theorem cost_nil (w : World) : Calls Try.prog 17 #[.pointer none] w fun r w' => r = .returned (.tuple #[.int .i64 0, .int .i64 0]) ∧ w' = w := by
  go_enter Try.func17, Try.ntmps17
  go_wp2
  go_ret2
  exact ⟨rfl, rfl⟩

set_option maxRecDepth 100000 in
set_option maxHeartbeats 1000000 in
theorem read_walk {w : World} {B p n : Nat} {q : Cc} {f : ByteArray → Option ByteArray} (h : CB w p q) (kv : Kv E w B q.b n f) (hB : B ≤ p) (k : ByteArray) :
    Calls Try.prog 20 #[.pointer (some ⟨p, 0, none⟩), .string k] w fun r w' => r = .returned (.tuple #[.string ((f k).getD ⟨#[]⟩), .bool (f k).isSome, .int .i64 0]) ∧ CB w' p { q with r := IntKind.i64.wrap (q.r + 1) } ∧ Cf B p w w' := by
  obtain ⟨c0, _, _, _, _, c5, _⟩ := h.c
  have f5 := h.f 5
  obtain ⟨x, hx⟩ : ∃ x, IntKind.i64.wrap (q.r + 1) = x := ⟨_, rfl⟩
  obtain ⟨h1, h2⟩ := h.set 5 (.int .i64 x) (q' := { q with r := x }) rfl hB
  have HF : Hid (CB (w.setCell ⟨p, 5, none⟩ (.int .i64 x)) p { q with r := x } ∧ Cf B p w (w.setCell ⟨p, 5, none⟩ (.int .i64 x))) := ⟨h1, h2⟩
  obtain ⟨d0, _⟩ := h1.c
  have hg := Q.get_walk (Kv.ky kv (h2.ky cV)) k
  have mg := fun w => m_get w q.b
  rw [hx]
  cases hf : f k with
  | none =>
    rw [hf] at hg
    simp only [Option.getD_none, Option.isSome_none] at hg ⊢
    clear h h1 h2 hf kv
    go_enter Try.func20, Try.ntmps20
    go_wp2_with (go_at_call 26; (with_reducible refine hg.mono ?_); rintro r w2 ⟨rfl, hw2⟩; rw [hw2]; clear hw2 hg)
    go_ret3
    exact ⟨rfl, HF.out⟩
  | some t =>
    rw [hf] at hg
    simp only [Option.getD_some, Option.isSome_some] at hg ⊢
    clear h h1 h2 hf kv
    go_enter Try.func20, Try.ntmps20
    go_wp2_with (go_at_call 26; (with_reducible refine hg.mono ?_); rintro r w2 ⟨rfl, hw2⟩; rw [hw2]; clear hw2 hg)
    go_ret3
    exact ⟨rfl, HF.out⟩

set_option maxRecDepth 100000 in
set_option maxHeartbeats 1000000 in
theorem remove_walk {w : World} {B p n : Nat} {q : Cc} {f : ByteArray → Option ByteArray} (h : CB w p q) (kv : Kv E w B q.b n f) (hB : B ≤ p) (hn : n ≤ 100000) (hw : B ≤ w.heap.size) (k : ByteArray) :
    Calls Try.prog 22 #[.pointer (some ⟨p, 0, none⟩), .string k] w fun r w' => (∃ is, r = .returned (.tuple #[.bool is, .int .i64 0])) ∧ ∃ w1, CB w1 p { q with x := IntKind.i64.wrap (q.x + 1) } ∧ Cf B p w w1 ∧ (∃ n', n' ≤ n ∧ Kv E w' B q.b n' (Q.del f k)) ∧ Vn E B w1 w' := by
  obtain ⟨c0, _, _, _, _, _, c6⟩ := h.c
  have f6 := h.f 6
  obtain ⟨x, hx⟩ : ∃ x, IntKind.i64.wrap (q.x + 1) = x := ⟨_, rfl⟩
  obtain ⟨h1, h2⟩ := h.set 6 (.int .i64 x) (q' := { q with x := x }) rfl hB
  have HF : Hid (CB (w.setCell ⟨p, 6, none⟩ (.int .i64 x)) p { q with x := x } ∧ Cf B p w (w.setCell ⟨p, 6, none⟩ (.int .i64 x))) := ⟨h1, h2⟩
  obtain ⟨d0, _⟩ := h1.c
  have hg := Q.del_walk (Kv.ky kv (h2.ky cV)) hn (Nat.le_trans hw h2.low.size) k
  have mg := fun w => m_del w q.b
  rw [hx]
  clear h h1 h2 kv
  go_enter Try.func22, Try.ntmps22
  go_wp2_with (go_at_call 68; (with_reducible refine hg.mono ?_); rintro r w2 ⟨⟨is, rfl⟩, k2, v2⟩; have HK : Hid ((∃ n', n' ≤ n ∧ Kv E w2 B q.b n' (Q.del f k)) ∧ Vn E B _ w2) := ⟨k2, v2⟩; clear k2 v2 hg; cases is)
  all_goals go_ret2
  all_goals exact ⟨⟨_, rfl⟩, _, HF.out.1, HF.out.2, HK.out.1, HK.out.2⟩
end Go.Proofs.Ytbpelhfbgjplbaa.Ca
