/- What stays in memory, and keys and texts as a function. No condition but those that each row names. -/
import Derived.Test.YtbpelhfbgjplbaaRows
import Derived.WalkKit
import Derived.ProofKit
import Derived.WalkSpells
import Derived.Deep.LoopGhost
import Derived.Below
namespace Go.Proofs.Ytbpelhfbgjplbaa.N
open Go.ChangeShapes Go.WideShapes Go.ChangeAt Go.RowKit

/-- All blocks that were there are as they were. -/
structure Kept (w w' : World) : Prop where
  out : Below w.heap.size w w'

theorem Kept.refl (w : World) : Kept w w := ⟨Below.refl _ _⟩
theorem Kept.trans {a b c : World} (h : Kept a b) (k : Kept b c) : Kept a c := ⟨h.out.trans (k.out.mono h.out.size)⟩
theorem Kept.drew {a b : World} (h : Kept a b) : Kept a b.drew := ⟨h.out.drew⟩
theorem Kept.alloc {a b : World} (h : Kept a b) (o : Obj) : Kept a (b.alloc o) := ⟨h.out.alloc h.out.size o⟩
theorem Kept.block {w w' : World} (h : Kept w w') {k : Nat} {o : Obj} (hk : w.heap[k]? = some o) : w'.heap[k]? = some o :=
  (h.out.block k (Array.getElem?_eq_some_iff.1 hk).1).trans hk
theorem Kept.size {w w' : World} (h : Kept w w') : w.heap.size ≤ w'.heap.size := h.out.size
end Go.Proofs.Ytbpelhfbgjplbaa.N
namespace Go.Proofs.Ytbpelhfbgjplbaa.Q

/-- A key has this text from now on; a key has none. -/
def put (f : ByteArray → Option ByteArray) (k t : ByteArray) : ByteArray → Option ByteArray := fun x => if x = k then some t else f x
def del (f : ByteArray → Option ByteArray) (k : ByteArray) : ByteArray → Option ByteArray := fun x => if x = k then none else f x
theorem put_eq (f : ByteArray → Option ByteArray) (k t : ByteArray) : put f k t k = some t := if_pos rfl
theorem put_ne (f : ByteArray → Option ByteArray) {k x : ByteArray} (t : ByteArray) (h : x ≠ k) : put f k t x = f x := if_neg h
theorem del_eq (f : ByteArray → Option ByteArray) (k : ByteArray) : del f k k = none := if_pos rfl
theorem del_ne (f : ByteArray → Option ByteArray) {k x : ByteArray} (h : x ≠ k) : del f k x = f x := if_neg h
end Go.Proofs.Ytbpelhfbgjplbaa.Q
