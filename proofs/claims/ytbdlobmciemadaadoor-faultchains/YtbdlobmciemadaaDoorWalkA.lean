/- The walks of fault.New, fault.own and fault.through: what New makes, what an error itself is, and the faults that an error is and came of, as a list of its own. Conditions: errors.errorType holds the handle of the type error; the error is a chain of faults (nil at its end); at most 65537 of them are asked for. -/
import Derived.Test.YtbdlobmciemadaaDoorAs
import Derived.WalkSpells
import Derived.Deep.LoopGhost
namespace Go.Proofs.YtbdlobmciemadaaDoor
open Go.RowKit

/-- All blocks that were there are as they were. -/
structure Kept (w w' : World) : Prop where
  out : Below w.heap.size w w'

theorem Kept.refl (w : World) : Kept w w := ⟨Below.refl _ _⟩
theorem Kept.trans {a b c : World} (h : Kept a b) (k : Kept b c) : Kept a c := ⟨h.out.trans (k.out.mono h.out.size)⟩
theorem Kept.drew {a b : World} (h : Kept a b) : Kept a b.drew := ⟨h.out.drew⟩
theorem Kept.alloc {a b : World} (h : Kept a b) (o : Obj) : Kept a (b.alloc o) := ⟨h.out.alloc h.out.size o⟩
theorem Kept.block {w w' : World} (h : Kept w w') {k : Nat} {o : Obj} (hk : w.heap[k]? = some o) : w'.heap[k]? = some o :=
  (h.out.block k (Array.getElem?_eq_some_iff.1 hk).1).trans hk
theorem Kept.cell {w w' : World} (h : Kept w w') {a : Addr} {v : Value} (ha : w.cell? a = some v) : w'.cell? a = some v :=
  (h.out.cell (World.block_lt_of_cell? w a ha)).trans ha
theorem Kept.size {w w' : World} (h : Kept w w') : w.heap.size ≤ w'.heap.size := h.out.size

/-- A fault: its block, where, its number. -/
structure Nd where
  b : Nat
  s : ByteArray
  c : Int

/-- An error that is a chain of faults, nil at its end. -/
def Ch (w : World) : List Nd → Value → Prop
  | [], v => v = .nilIface
  | x :: r, v => v = .iface 39 (.pointer (some ⟨x.b, 0, none⟩)) ∧ ∃ u, w.heap[x.b]? = some (.cells #[.string x.s, .int .i64 x.c, u] 50) ∧ Ch w r u

theorem Ch.kept {w w' : World} (h : Kept w w') : ∀ (l : List Nd) (v : Value), Ch w l v → Ch w' l v
  | [], _, hv => hv
  | _ :: r, _, ⟨h1, u, h2, h3⟩ => ⟨h1, u, h.block h2, Ch.kept h r u h3⟩

/-- The pointers to faults. -/
def ptrs (l : List Nd) : List Value := l.map fun x => .pointer (some ⟨x.b, 0, none⟩)

theorem ptrs_length (l : List Nd) : (ptrs l).length = l.length := by simp [ptrs]

theorem new_ok (s u : Value) (w : World) :
    Calls Tryd.prog 15 #[s, .int .i64 0, u] w fun e w' => e = .returned .nilIface ∧ w' = w := by
  go_enter Tryd.func15, Tryd.ntmps15
  go_wp2
  go_ret
  exact ⟨rfl, rfl⟩

theorem new_walk (s : ByteArray) (c : Int) (u : Value) (hu : u = .nilIface ∨ ∃ p, u = .iface 39 p) (w : World) (hc : (c == 0) = false) :
    Calls Tryd.prog 15 #[.string s, .int .i64 c, u] w fun e w' => e = .returned (.iface 39 (.pointer (some ⟨w.heap.size, 0, none⟩))) ∧ w' = w.alloc (.cells #[.string s, .int .i64 c, u] 50) := by
  rcases hu with rfl | ⟨p, rfl⟩
  · go_enter Tryd.func15, Tryd.ntmps15
    go_wp2
    go_ret
    exact ⟨rfl, rfl⟩
  · go_enter Tryd.func15, Tryd.ntmps15
    go_wp2
    go_ret
    exact ⟨rfl, rfl⟩

theorem assertNil (w : World) : (Instr.typeAssert .nilIface 24 39 true).run Tryd.prog w = .ok (.tuple #[.pointer none, .bool false]) w := by kernel_rfl
theorem assertIs (v : Value) (w : World) : (Instr.typeAssert (.iface 39 v) 24 39 true).run Tryd.prog w = .ok (.tuple #[v, .bool true]) w := by kernel_rfl

theorem own_nil (w : World) :
    Calls Tryd.prog 21 #[.nilIface] w fun e w' => e = .returned (.tuple #[.pointer none, .bool false]) ∧ w' = w := by
  have h1 := assertNil
  have h2 := assertIs
  go_enter Tryd.func21, Tryd.ntmps21
  go_wp2
  go_ret2
  exact ⟨rfl, rfl⟩

theorem own_is (p : Option Addr) (w : World) :
    Calls Tryd.prog 21 #[.iface 39 (.pointer p)] w fun e w' => e = .returned (.tuple #[.pointer p, .bool true]) ∧ w' = w := by
  have h1 := assertNil
  have h2 := assertIs
  go_enter Tryd.func21, Tryd.ntmps21
  go_wp2
  go_ret2
  exact ⟨rfl, rfl⟩
end Go.Proofs.YtbdlobmciemadaaDoor
