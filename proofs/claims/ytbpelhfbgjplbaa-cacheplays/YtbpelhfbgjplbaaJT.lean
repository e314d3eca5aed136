/- The walks of New, and of calls of no cache. Conditions: those that each row names. -/
import Derived.Test.YtbpelhfbgjplbaaJS
import Derived.Laws.Bits64b
namespace Go.Proofs.Ytbpelhfbgjplbaa.Ca
open Go.ChangeShapes Go.WideShapes Go.ChangeAt Go.RowKit
open N (Kept)
open Q (kept_cell Kv Vn Km m_get m_put m_del Own sc one_cellA one_str)
variable {E : Nat → Prop} {X : List En}

/-- An item with nobody on the ring but its end. -/
theorem hs_new {w : World} {e : Nat} (h : w.heap[e]? = some (.cells #[.string ⟨#[]⟩, .string ⟨#[]⟩, .bool false, .pointer (some ⟨e, 0, none⟩), .pointer (some ⟨e, 0, none⟩)] 56)) : Hs [] w e [] := by
  refine ⟨fun b => if b = e then some ⟨⟨#[]⟩, ⟨#[]⟩, false, e, e⟩ else none, ⟨fun b x hb => ?_⟩, ⟨⟨?_, by simp [bl]⟩, ⟨_, if_pos rfl⟩, fun x hx => by cases hx⟩, ⟨fun x hx => by cases hx⟩⟩
  · by_cases eb : b = e
    · subst eb
      rw [if_pos rfl] at hb
      obtain rfl := Option.some.inj hb
      exact h
    · rw [if_neg eb] at hb; cases hb
  · refine ⟨?_, ?_, trivial⟩
    · exact nx_eq (x := ⟨⟨#[]⟩, ⟨#[]⟩, false, e, e⟩) (if_pos rfl)
    · exact pv_eq (x := ⟨⟨#[]⟩, ⟨#[]⟩, false, e, e⟩) (if_pos rfl)

/-- The worlds that New makes. -/
def nw2 (w : World) : World := w.alloc (.cells #[.string ⟨#[]⟩, .string ⟨#[]⟩, .bool false, .pointer (some ⟨w.heap.size, 0, none⟩), .pointer (some ⟨w.heap.size, 0, none⟩)] 56)
def nw4 (w : World) : World := ((nw2 w).alloc (.map #[] 0)).alloc (.map #[] 0)
theorem nw2_at (w : World) : (nw2 w).heap[w.heap.size]? = some (.cells #[.string ⟨#[]⟩, .string ⟨#[]⟩, .bool false, .pointer (some ⟨w.heap.size, 0, none⟩), .pointer (some ⟨w.heap.size, 0, none⟩)] 56) := heap_alloc_new w _
theorem nw2_kept (w : World) : Kept w (nw2 w) := (Kept.refl w).alloc _
theorem nw2_size (w : World) : (nw2 w).heap.size = w.heap.size + 1 := Q.size_alloc _ _
theorem us_new {w : World} {B b n m : Nat} {f : ByteArray → Option ByteArray} (kv : Kv NE w B b n f) (hB : B ≤ w.heap.size) (h1 : 1 ≤ m) (hm : m ≤ 900) (hn : n ≤ 90000) :
    Us NE ((nw4 w).alloc (.cells #[.iface 23 (.pointer (some ⟨b, 0, none⟩)), .int .i64 (m : Nat), .map (some (w.heap.size + 1)), .map (some (w.heap.size + 2)), .pointer (some ⟨w.heap.size, 0, none⟩), .int .i64 0, .int .i64 0] 59)) B (w.heap.size + 3) m b n ⟨b, (m : Nat), w.heap.size + 1, w.heap.size + 2, w.heap.size, 0, 0⟩ [] f ∧
    Kept w ((nw4 w).alloc (.cells #[.iface 23 (.pointer (some ⟨b, 0, none⟩)), .int .i64 (m : Nat), .map (some (w.heap.size + 1)), .map (some (w.heap.size + 2)), .pointer (some ⟨w.heap.size, 0, none⟩), .int .i64 0, .int .i64 0] 59)) := by
  have s2 := nw2_size w
  have k2 := nw2_kept w
  have k3 : Kept (nw2 w) ((nw2 w).alloc (.map #[] 0)) := (Kept.refl _).alloc _
  have s3 : ((nw2 w).alloc (.map #[] 0)).heap.size = w.heap.size + 2 := by rw [Q.size_alloc, s2]
  have k4 : Kept ((nw2 w).alloc (.map #[] 0)) (nw4 w) := (Kept.refl _).alloc _
  have s4 : (nw4 w).heap.size = w.heap.size + 3 := by unfold nw4; rw [Q.size_alloc, s3]
  have m1 := MP.made (nw2 w)
  rw [s2] at m1
  have m2 := MP.made ((nw2 w).alloc (.map #[] 0))
  rw [s3] at m2
  generalize ho : Obj.cells #[.iface 23 (.pointer (some ⟨b, 0, none⟩)), .int .i64 (m : Nat), .map (some (w.heap.size + 1)), .map (some (w.heap.size + 2)), .pointer (some ⟨w.heap.size, 0, none⟩), .int .i64 0, .int .i64 0] 59 = o
  have k5 : Kept (nw4 w) ((nw4 w).alloc o) := (Kept.refl _).alloc _
  have K := ((k2.trans k3).trans k4).trans k5
  refine ⟨⟨⟨f, ⟨⟨?_⟩, ?_, ?_, ?_, Q.Kv.kept kv K, List.nodup_nil, (fun x hx => by cases hx), ?_, ⟨?_, fun x hx => by cases hx⟩, ?_, Nat.le_trans hB K.size⟩, ⟨fun x hx => (by cases hx), fun k _ => rfl⟩⟩, rfl, rfl, h1, Nat.zero_le _, hm, hn⟩, K⟩
  · have := heap_alloc_new (nw4 w) o
    rw [s4] at this
    rw [this, ← ho]; rfl
  · exact (hs_new (k3.trans (k4.trans k5) |>.block (nw2_at w)))
  · exact m1.ky (.kept (k4.trans k5))
  · exact m2.ky (.kept k5)
  · show w.heap.size + 1 ≠ w.heap.size + 2
    omega
  · exact hB
  · show B ≤ w.heap.size + 3 ∧ B ≤ w.heap.size + 1 ∧ B ≤ w.heap.size + 2
    omega

set_option maxRecDepth 100000 in
set_option maxHeartbeats 2000000 in
theorem new_kv (w : World) (t : TypeId) (v : Value) (most : Int) (m : Nat) (hm : max most 1 = (m : Nat)) :
    Calls Try.prog 6 #[.iface t v, .int .i64 most] w fun r w' => r = .returned (.pointer (some ⟨w.heap.size + 3, 0, none⟩)) ∧ w' = (nw4 w).alloc (.cells #[.iface t v, .int .i64 (m : Nat), .map (some (w.heap.size + 1)), .map (some (w.heap.size + 2)), .pointer (some ⟨w.heap.size, 0, none⟩), .int .i64 0, .int .i64 0] 59) := by
  have s2 := nw2_size w
  have mm : ∀ W ta ty, (Builtin.max_ ta ty #[.int .i64 most, .int .i64 1]).run Try.prog W = .ok (.int .i64 (m : Nat)) W := fun W ta ty => by
    have h1 : (Builtin.max_ ta ty #[.int .i64 most, .int .i64 1]).run Try.prog W = .ok (.int .i64 (if (1 : Int) > most then 1 else most)) W := rfl
    rw [h1]
    have h2 : (if (1 : Int) > most then 1 else most) = (m : Nat) := by
      rw [← hm]
      split <;> omega
    rw [h2]
  have mk : ∀ W : World, (Instr.makeMap 57 none).run Try.prog W = .ok (.map (some W.heap.size)) (W.alloc (.map #[] 0)) := fun W => rfl
  clear hm
  go_enter Try.func6, Try.ntmps6
  go_wp2
  go_ret
  exact ⟨rfl, rfl⟩

set_option maxRecDepth 100000 in
set_option maxHeartbeats 2000000 in
theorem new_nil (w : World) (most : Int) (m : Nat) (hm : max most 1 = (m : Nat)) :
    Calls Try.prog 6 #[.nilIface, .int .i64 most] w fun r w' => r = .returned (.pointer (some ⟨w.heap.size + 3, 0, none⟩)) ∧ w' = (nw4 w).alloc (.cells #[.nilIface, .int .i64 (m : Nat), .map (some (w.heap.size + 1)), .map (some (w.heap.size + 2)), .pointer (some ⟨w.heap.size, 0, none⟩), .int .i64 0, .int .i64 0] 59) := by
  have s2 := nw2_size w
  have mm : ∀ W ta ty, (Builtin.max_ ta ty #[.int .i64 most, .int .i64 1]).run Try.prog W = .ok (.int .i64 (m : Nat)) W := fun W ta ty => by
    have h1 : (Builtin.max_ ta ty #[.int .i64 most, .int .i64 1]).run Try.prog W = .ok (.int .i64 (if (1 : Int) > most then 1 else most)) W := rfl
    rw [h1]
    have h2 : (if (1 : Int) > most then 1 else most) = (m : Nat) := by
      rw [← hm]
      split <;> omega
    rw [h2]
  have mk : ∀ W : World, (Instr.makeMap 57 none).run Try.prog W = .ok (.map (some W.heap.size)) (W.alloc (.map #[] 0)) := fun W => rfl
  clear hm
  go_enter Try.func6, Try.ntmps6
  go_wp2
  go_ret
  exact ⟨rfl, rfl⟩

/-- No cache, or one over nothing. -/
def Idle (w : World) (a : Value) : Prop := Calls Try.prog 18 #[a] w fun r w' => r = .returned (.bool true) ∧ w' = w
set_option maxRecDepth 100000 in
theorem get_idle {w : World} {a : Value} (h : Idle w a) (k : ByteArray) : Calls Try.prog 9 #[a, .string k] w fun r w' => r = .returned (.tuple #[.string ⟨#[]⟩, .bool false, .int .i64 1]) ∧ w' = w := by
  have i1 : Calls Try.prog 18 #[a] w fun r w' => r = .returned (.bool true) ∧ w' = w := h
  clear h
  go_enter Try.func9, Try.ntmps9
  go_wp2_with (go_at_call 18; (with_reducible refine i1.mono ?_); rintro r w1 ⟨rfl, hw1⟩; rw [hw1]; clear hw1 i1)
  go_ret3
  exact ⟨rfl, rfl⟩
set_option maxRecDepth 100000 in
theorem del_idle {w : World} {a : Value} (h : Idle w a) (k : ByteArray) : Calls Try.prog 10 #[a, .string k] w fun r w' => r = .returned (.tuple #[.bool false, .int .i64 1]) ∧ w' = w := by
  have i1 : Calls Try.prog 18 #[a] w fun r w' => r = .returned (.bool true) ∧ w' = w := h
  clear h
  go_enter Try.func10, Try.ntmps10
  go_wp2_with (go_at_call 18; (with_reducible refine i1.mono ?_); rintro r w1 ⟨rfl, hw1⟩; rw [hw1]; clear hw1 i1)
  go_ret2
  exact ⟨rfl, rfl⟩
set_option maxRecDepth 100000 in
theorem put_idle {w : World} {a : Value} (h : Idle w a) (k t : ByteArray) : Calls Try.prog 14 #[a, .string k, .string t] w fun r w' => r = .returned (.int .i64 1) ∧ w' = w := by
  have i1 : Calls Try.prog 18 #[a] w fun r w' => r = .returned (.bool true) ∧ w' = w := h
  clear h
  go_enter Try.func14, Try.ntmps14
  go_wp2_with (go_at_call 18; (with_reducible refine i1.mono ?_); rintro r w1 ⟨rfl, hw1⟩; rw [hw1]; clear hw1 i1)
  go_ret
  exact ⟨rfl, rfl⟩
set_option maxRecDepth 100000 in
theorem sync_idle {w : World} {a : Value} (h : Idle w a) : Calls Try.prog 12 #[a] w fun r w' => r = .returned (.int .i64 1) ∧ w' = w := by
  have i1 : Calls Try.prog 18 #[a] w fun r w' => r = .returned (.bool true) ∧ w' = w := h
  clear h
  go_enter Try.func12, Try.ntmps12
  go_wp2_with (go_at_call 18; (with_reducible refine i1.mono ?_); rintro r w1 ⟨rfl, hw1⟩; rw [hw1]; clear hw1 i1)
  go_ret
  exact ⟨rfl, rfl⟩
set_option maxRecDepth 100000 in
theorem put_key {w : World} {p : Nat} {q : Cc} (h : CB w p q) (k t : ByteArray) (hk : ¬ k.size ≤ 64) : Calls Try.prog 14 #[.pointer (some ⟨p, 0, none⟩), .string k, .string t] w fun r w' => r = .returned (.int .i64 1) ∧ w' = w := by
  have i1 := idle_walk h
  have i2 := may_not k hk w
  clear h
  go_enter Try.func14, Try.ntmps14
  go_wp2_with (first
    | (go_at_call 18; (with_reducible refine i1.mono ?_); rintro r w1 ⟨rfl, hw1⟩; rw [hw1]; clear hw1 i1)
    | (go_at_call 19; (with_reducible refine i2.mono ?_); rintro r w1 ⟨rfl, hw1⟩; rw [hw1]; clear hw1 i2))
  go_ret
  exact ⟨rfl, rfl⟩
set_option maxRecDepth 100000 in
theorem put_text {w : World} {p : Nat} {q : Cc} (h : CB w p q) (k t : ByteArray) (hk : k.size ≤ 64) (ht : 65536 < t.size) : Calls Try.prog 14 #[.pointer (some ⟨p, 0, none⟩), .string k, .string t] w fun r w' => r = .returned (.int .i64 1) ∧ w' = w := by
  have i1 := idle_walk h
  have i2 := may_walk k hk w
  have ht2 : (65536 : Int) < (t.size : Int) := by omega
  clear h
  go_enter Try.func14, Try.ntmps14
  go_wp2_with (first
    | (go_at_call 18; (with_reducible refine i1.mono ?_); rintro r w1 ⟨rfl, hw1⟩; rw [hw1]; clear hw1 i1)
    | (go_at_call 19; (with_reducible refine i2.mono ?_); rintro r w1 ⟨rfl, hw1⟩; rw [hw1]; clear hw1 i2))
  go_ret
  exact ⟨rfl, rfl⟩
end Go.Proofs.Ytbpelhfbgjplbaa.Ca
