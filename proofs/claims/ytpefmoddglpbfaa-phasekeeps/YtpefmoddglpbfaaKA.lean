/- Keys and texts as a function. No condition but those that each row names. -/
import Derived.Test.YtpefmoddglpbfaaNWWalkA
namespace Go.Proofs.Ytpefmoddglpbfaa.Q

/-- A key has this text from now on; a key has none. -/
def put (f : ByteArray → Option ByteArray) (k t : ByteArray) : ByteArray → Option ByteArray := fun x => if x = k then some t else f x
def del (f : ByteArray → Option ByteArray) (k : ByteArray) : ByteArray → Option ByteArray := fun x => if x = k then none else f x
theorem put_eq (f : ByteArray → Option ByteArray) (k t : ByteArray) : put f k t k = some t := if_pos rfl
theorem put_ne (f : ByteArray → Option ByteArray) {k x : ByteArray} (t : ByteArray) (h : x ≠ k) : put f k t x = f x := if_neg h
theorem del_eq (f : ByteArray → Option ByteArray) (k : ByteArray) : del f k k = none := if_pos rfl
theorem del_ne (f : ByteArray → Option ByteArray) {k x : ByteArray} (h : x ≠ k) : del f k x = f x := if_neg h
end Go.Proofs.Ytpefmoddglpbfaa.Q
