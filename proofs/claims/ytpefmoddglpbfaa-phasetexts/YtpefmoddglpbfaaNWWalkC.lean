/- The walks of awake and of the reference's Num. Conditions: a number is one of 64 bits. -/
import Derived.Test.YtpefmoddglpbfaaNWWalkA
import Derived.Deep.RegionWith
namespace Go.Proofs.Ytpefmoddglpbfaa.N
open Go.ChangeShapes Go.WideShapes Go.ChangeAt Go.RowKit

theorem num300 : bs (numL 300) = ⟨#[172, 2]⟩ := by
  rw [numL_more (by decide), numL_last (by decide)]; rfl

theorem key258 : bs (keyL 258) = ⟨#[2, 1, 2]⟩ := by
  have : lowL 258 = [2, 1] := by
    rw [lowL_more (by decide), lowL_more (by decide)]
    show [2, 1] ++ lowL 0 = _
    rw [lowL_zero]; rfl
  unfold keyL
  rw [this]; rfl

/-- A block that begins with this byte. -/
structure One (w : World) (b : Nat) (x : Int) : Prop where
  out : w.cell? ⟨b, 0, none⟩ = some (.int .u8 x)

theorem Kept.one {w w' : World} (h : Kept w w') (b : Nat) (x : Int) (k : One w b x) : One w' b x :=
  ⟨(h.out.cell (World.block_lt_of_cell? w _ k.out)).trans k.out⟩

theorem One.alloc (w : World) (x : Int) : One (w.alloc (.cells #[.int .u8 x] 5)) w.heap.size x := ⟨by simp⟩

theorem One.drew (w : World) (b : Nat) (x : Int) (h : One w b x) : One w.drew b x := (Kept.refl w).drew.one b x h

theorem One.text {w : World} {b : Nat} {x : Int} (h : One w b x) (h0 : 0 ≤ x) :
    (convert 48 9 (.slice (some ⟨b, 0, none⟩) 1 1)).run Try.prog w = .ok (.string (bs [x.toNat])) w := by
  rw [run_convert_bytes_arg w 48 5 Try.underlying48 Try.underlying5 b 0 1 1 [x] rfl (fun i hi => ?_) 9 Try.underlying9]
  · have : strOfNums [x] = bs [x.toNat] := by rw [← strOf]; simp; congr 1; simp; omega
    rw [this]
  · obtain rfl : i = 0 := by omega
    exact h.out

theorem Kept.drewN1 (w : World) : Kept w w.drew := (Kept.refl w).drew

end Go.Proofs.Ytpefmoddglpbfaa.N
