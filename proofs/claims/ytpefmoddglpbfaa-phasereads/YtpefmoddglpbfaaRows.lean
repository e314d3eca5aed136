/-
  No cell of these rows narrows 'for every input' (looked for: loops, veiled, ifaces, maps, wideKeys, modest, calm, conditions, laid).
  DERIVED. THE GIVEN ROWS OF THIS SEAT. 3 by the template 'for every input the law returns true; each argument reads behind the call as it read before'; 0 by the template 'total and deterministic' (their statements: YtpefmoddglpbfaaTotals.lean).
  GIVEN WITH THE SEED: the statements are not yours to turn. If you find one false, say at which input.
  Laid BY PROGRAM, IN A SANDBOX (cutbox-rows.mjs): the forced cells as the released guide's own fill.sh prints them over the translation 829e06813d938d7c… (all of the seat's roots in one cut). By AI agents, Wed Nov 11 2026. No macro, syntax, notation, axiom, sorry.
-/
import Derived.Test.YtpefmoddglpbfaaChecked
import GoSem.Claim
import GoSem.ClaimJoined
import GoSem.ClaimMapViews
import Derived.JoinedTies
import Derived.KernelRfl
namespace Go.Proofs.Ytpefmoddglpbfaa
/- THE CELL 'sum', in the pinned program and in every row, IS THE sha256 OF THE DUMP (.gsa) THAT YtpefmoddglpbfaaProg.lean LOADS. Nothing in Lean hashes anything: it is a label: what it is worth is what the hold of that sum in a sandbox is worth. -/
noncomputable def Try.pinned : Pinned := { name := "ytpefmoddglpbfaa", sum := "829e06813d938d7c9aeb4c85b597967fd1840ee6c7599026f42edd9319ed4426", checked := Try.checked }
namespace Rows
def none {H : Type} : Left H := { results := [], args := [] }

/-- 'keywaylaw17.PhaseTexts': WHATEVER THE INPUT: true; the input reads as it did. -/
def phaseTextsSpec : ChangeSpec := { name := "phaseTexts", fn := fun _ => fun
  | [d] => { results := [.lit (.bool true)], args := [d] }
  | _ => none }
def phaseTextsRow : OpenClaim := { program := "ytpefmoddglpbfaa", sum := "829e06813d938d7c9aeb4c85b597967fd1840ee6c7599026f42edd9319ed4426", func := "keyway/keywaylaw17.PhaseTexts", spec := "phaseTexts", recurses := true, apart := false }
def PhaseTextsSaid : Prop := phaseTextsRow.holds Try.pinned (OpenSpec.ofChange phaseTextsSpec)

/-- ITS FALSE NEIGHBOUR: 'it returns false'. Refute it at one input. -/
def phaseTextsWrong : ChangeSpec := { name := "phaseTexts", fn := fun _ => fun
  | [d] => { results := [.lit (.bool false)], args := [d] }
  | _ => none }
def PhaseTextsWrongFalsely : Prop := phaseTextsRow.holds Try.pinned (OpenSpec.ofChange phaseTextsWrong)

/-- 'keywaylaw17.PhaseReads': WHATEVER THE INPUT: true; the input reads as it did. -/
def phaseReadsSpec : ChangeSpec := { name := "phaseReads", fn := fun _ => fun
  | [d] => { results := [.lit (.bool true)], args := [d] }
  | _ => none }
def phaseReadsRow : OpenClaim := { program := "ytpefmoddglpbfaa", sum := "829e06813d938d7c9aeb4c85b597967fd1840ee6c7599026f42edd9319ed4426", func := "keyway/keywaylaw17.PhaseReads", spec := "phaseReads", apart := false }
def PhaseReadsSaid : Prop := phaseReadsRow.holds Try.pinned (OpenSpec.ofChange phaseReadsSpec)

/-- ITS FALSE NEIGHBOUR: 'it returns false'. Refute it at one input. -/
def phaseReadsWrong : ChangeSpec := { name := "phaseReads", fn := fun _ => fun
  | [d] => { results := [.lit (.bool false)], args := [d] }
  | _ => none }
def PhaseReadsWrongFalsely : Prop := phaseReadsRow.holds Try.pinned (OpenSpec.ofChange phaseReadsWrong)

/-- 'keywaylaw17.PhaseKeeps': WHATEVER THE INPUT: true; the input reads as it did. -/
def phaseKeepsSpec : ChangeSpec := { name := "phaseKeeps", fn := fun _ => fun
  | [d] => { results := [.lit (.bool true)], args := [d] }
  | _ => none }
def phaseKeepsRow : OpenClaim := { program := "ytpefmoddglpbfaa", sum := "829e06813d938d7c9aeb4c85b597967fd1840ee6c7599026f42edd9319ed4426", func := "keyway/keywaylaw17.PhaseKeeps", spec := "phaseKeeps", unfollowed := true, recurses := true, apart := false }
def PhaseKeepsSaid : Prop := phaseKeepsRow.holds Try.pinned (OpenSpec.ofChange phaseKeepsSpec)

/-- ITS FALSE NEIGHBOUR: 'it returns false'. Refute it at one input. -/
def phaseKeepsWrong : ChangeSpec := { name := "phaseKeeps", fn := fun _ => fun
  | [d] => { results := [.lit (.bool false)], args := [d] }
  | _ => none }
def PhaseKeepsWrongFalsely : Prop := phaseKeepsRow.holds Try.pinned (OpenSpec.ofChange phaseKeepsWrong)

/- THE SECOND FORM. 'bulk': how many values and letters a reading holds, each counted each time it is reached (what is shared counts as often as it is met; a slice's spare places count too). A statement '..UptoSaid' is the law's where the arguments, and the package variables that the reading takes, are together of bulk at most 1048576: NARROWER than '..Said'. Prove '..Said' where nothing that the law and all that it calls make is longer than what came in: it says more and counts as full. Else prove '..UptoSaid'. A law counts once. -/
mutual
def uptoBulk {H : Type} : DataW H → Nat
  | .lit (.string bytes) => bytes.length + 1
  | .lit _ => 1
  | .nil => 1
  | .ptr d => uptoBulk d + 1
  | .slice elems spare => uptoBulkAll elems + uptoBulkAll spare + 1
  | .agg parts => uptoBulkAll parts + 1
  | .iface _ d => uptoBulk d + 1
  | .map entries => uptoBulkEntries entries + 1
  | .held _ => 1
def uptoBulkAll {H : Type} : List (DataW H) → Nat
  | [] => 0
  | d :: r => uptoBulk d + uptoBulkAll r
def uptoBulkEntries {H : Type} : List (Lit × DataW H) → Nat
  | [] => 0
  | x :: r => uptoBulkEntry x + uptoBulkEntries r
def uptoBulkEntry {H : Type} : Lit × DataW H → Nat
  | (.string bytes, d) => bytes.length + uptoBulk d + 1
  | (_, d) => uptoBulk d + 1
 end
def uptoSmall : (H : Type) → List (DataW H) → Bool := fun _ ds => decide (uptoBulkAll ds ≤ 1048576)
def OpenSpec.upto (s : _root_.Go.ChangeSpec) : _root_.Go.OpenSpec := { _root_.Go.OpenSpec.ofChange s with cond := some uptoSmall }

/-- 'keywaylaw17.PhaseTexts', WHERE WHAT IT READS IS OF BULK AT MOST 1048576: true; the input reads as it did. -/
def phaseTextsUptoRow : OpenClaim := { program := "ytpefmoddglpbfaa", sum := "829e06813d938d7c9aeb4c85b597967fd1840ee6c7599026f42edd9319ed4426", func := "keyway/keywaylaw17.PhaseTexts", spec := "phaseTexts", recurses := true, apart := false, narrowed := true }
def PhaseTextsUptoSaid : Prop := phaseTextsUptoRow.holds Try.pinned (OpenSpec.upto phaseTextsSpec)

/-- 'keywaylaw17.PhaseReads', WHERE WHAT IT READS IS OF BULK AT MOST 1048576: true; the input reads as it did. -/
def phaseReadsUptoRow : OpenClaim := { program := "ytpefmoddglpbfaa", sum := "829e06813d938d7c9aeb4c85b597967fd1840ee6c7599026f42edd9319ed4426", func := "keyway/keywaylaw17.PhaseReads", spec := "phaseReads", apart := false, narrowed := true }
def PhaseReadsUptoSaid : Prop := phaseReadsUptoRow.holds Try.pinned (OpenSpec.upto phaseReadsSpec)

/-- 'keywaylaw17.PhaseKeeps', WHERE WHAT IT READS IS OF BULK AT MOST 1048576: true; the input reads as it did. -/
def phaseKeepsUptoRow : OpenClaim := { program := "ytpefmoddglpbfaa", sum := "829e06813d938d7c9aeb4c85b597967fd1840ee6c7599026f42edd9319ed4426", func := "keyway/keywaylaw17.PhaseKeeps", spec := "phaseKeeps", unfollowed := true, recurses := true, apart := false, narrowed := true }
def PhaseKeepsUptoSaid : Prop := phaseKeepsUptoRow.holds Try.pinned (OpenSpec.upto phaseKeepsSpec)

end Rows
end Go.Proofs.Ytpefmoddglpbfaa
