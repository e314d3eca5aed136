/- Numbers that came in. No condition. -/
import Derived.Test.YtabbfoaojmhajaaQP
import Derived.ChangeSlices
import Derived.OpenShut
import Derived.SizedLaws
import Derived.Carry
import Derived.Deep.SlicePairs
namespace Go.Proofs.Ytabbfoaojmhajaa.Q
open Go.RowKit

/-- A number of 64 bits is a plain one. -/
theorem u64_nat {a : Int} (h : (Lit.int .u64 a).wf = true) : ∃ n : Nat, a = n ∧ n < 18446744073709551616 := by
  simp only [Lit.wf, IntKind.min, IntKind.max, IntKind.bits, IntKind.signed] at h
  refine ⟨a.toNat, ?_, ?_⟩ <;> (simp at h; omega)
theorem laidOut : laidOutB Try.prog = true := by kernel_rfl
end Go.Proofs.Ytabbfoaojmhajaa.Q
