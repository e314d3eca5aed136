/-
  No cell of these rows narrows 'for every input' (looked for: loops, veiled, ifaces, maps, wideKeys, modest, calm, conditions, laid).
  DERIVED. THE GIVEN ROWS OF THIS SEAT. 5 by the template 'for every input the law returns true; each argument reads behind the call as it read before'; 0 by the template 'total and deterministic' (their statements: YtgcfollelefmcaaTotals.lean).
  GIVEN WITH THE SEED: the statements are not yours to turn. If you find one false, say at which input.
  Laid BY PROGRAM, IN A SANDBOX (cutbox-rows.mjs): the forced cells as the released guide's own fill.sh prints them over the translation 0b5d27293e180ffc… (all of the seat's roots in one cut). By AI agents, Wed Nov 11 2026. No macro, syntax, notation, axiom, sorry.
-/
import Derived.Test.YtgcfollelefmcaaChecked
import GoSem.Claim
import GoSem.ClaimJoined
import GoSem.ClaimMapViews
import Derived.JoinedTies
import Derived.KernelRfl
namespace Go.Proofs.Ytgcfollelefmcaa
/- THE CELL 'sum', in the pinned program and in every row, IS THE sha256 OF THE DUMP (.gsa) THAT YtgcfollelefmcaaProg.lean LOADS. Nothing in Lean hashes anything: it is a label: what it is worth is what the hold of that sum in a sandbox is worth. -/
noncomputable def Try.pinned : Pinned := { name := "ytgcfollelefmcaa", sum := "0b5d27293e180ffc6cc2e4359d0b72ab2d7864ea62fce60869722737e75b8b7b", checked := Try.checked }
namespace Rows
def none {H : Type} : Left H := { results := [], args := [] }

/-- 'keywaylaw09.NodePuts': WHATEVER THE INPUT: true; the input reads as it did. -/
def nodePutsSpec : ChangeSpec := { name := "nodePuts", fn := fun _ => fun
  | [d1, d2] => { results := [.lit (.bool true)], args := [d1, d2] }
  | _ => none }
def nodePutsRow : OpenClaim := { program := "ytgcfollelefmcaa", sum := "0b5d27293e180ffc6cc2e4359d0b72ab2d7864ea62fce60869722737e75b8b7b", func := "keyway/keywaylaw09.NodePuts", spec := "nodePuts", inPlace := ["slices.overlaps[string]", "slices.overlaps[keyway/api.Val]", "internal/abi.NoEscape"], recurses := true, apart := false }
def NodePutsSaid : Prop := nodePutsRow.holds Try.pinned (OpenSpec.ofChange nodePutsSpec)

/-- ITS FALSE NEIGHBOUR: 'it returns false'. Refute it at one input. -/
def nodePutsWrong : ChangeSpec := { name := "nodePuts", fn := fun _ => fun
  | [d1, d2] => { results := [.lit (.bool false)], args := [d1, d2] }
  | _ => none }
def NodePutsWrongFalsely : Prop := nodePutsRow.holds Try.pinned (OpenSpec.ofChange nodePutsWrong)

/-- 'keywaylaw09.NodeGets': WHATEVER THE INPUT: true; the input reads as it did. -/
def nodeGetsSpec : ChangeSpec := { name := "nodeGets", fn := fun _ => fun
  | [d1, d2] => { results := [.lit (.bool true)], args := [d1, d2] }
  | _ => none }
def nodeGetsRow : OpenClaim := { program := "ytgcfollelefmcaa", sum := "0b5d27293e180ffc6cc2e4359d0b72ab2d7864ea62fce60869722737e75b8b7b", func := "keyway/keywaylaw09.NodeGets", spec := "nodeGets", inPlace := ["internal/abi.NoEscape"], apart := false }
def NodeGetsSaid : Prop := nodeGetsRow.holds Try.pinned (OpenSpec.ofChange nodeGetsSpec)

/-- ITS FALSE NEIGHBOUR: 'it returns false'. Refute it at one input. -/
def nodeGetsWrong : ChangeSpec := { name := "nodeGets", fn := fun _ => fun
  | [d1, d2] => { results := [.lit (.bool false)], args := [d1, d2] }
  | _ => none }
def NodeGetsWrongFalsely : Prop := nodeGetsRow.holds Try.pinned (OpenSpec.ofChange nodeGetsWrong)

/-- 'keywaylaw09.NodeSets': WHATEVER THE INPUT: true; the input reads as it did. -/
def nodeSetsSpec : ChangeSpec := { name := "nodeSets", fn := fun _ => fun
  | [d1, d2] => { results := [.lit (.bool true)], args := [d1, d2] }
  | _ => none }
def nodeSetsRow : OpenClaim := { program := "ytgcfollelefmcaa", sum := "0b5d27293e180ffc6cc2e4359d0b72ab2d7864ea62fce60869722737e75b8b7b", func := "keyway/keywaylaw09.NodeSets", spec := "nodeSets", inPlace := ["slices.overlaps[string]", "slices.overlaps[keyway/api.Val]", "internal/abi.NoEscape"], apart := false }
def NodeSetsSaid : Prop := nodeSetsRow.holds Try.pinned (OpenSpec.ofChange nodeSetsSpec)

/-- ITS FALSE NEIGHBOUR: 'it returns false'. Refute it at one input. -/
def nodeSetsWrong : ChangeSpec := { name := "nodeSets", fn := fun _ => fun
  | [d1, d2] => { results := [.lit (.bool false)], args := [d1, d2] }
  | _ => none }
def NodeSetsWrongFalsely : Prop := nodeSetsRow.holds Try.pinned (OpenSpec.ofChange nodeSetsWrong)

/-- 'keywaylaw09.NodeParts': WHATEVER THE INPUT: true; the input reads as it did. -/
def nodePartsSpec : ChangeSpec := { name := "nodeParts", fn := fun _ => fun
  | [d1, d2] => { results := [.lit (.bool true)], args := [d1, d2] }
  | _ => none }
def nodePartsRow : OpenClaim := { program := "ytgcfollelefmcaa", sum := "0b5d27293e180ffc6cc2e4359d0b72ab2d7864ea62fce60869722737e75b8b7b", func := "keyway/keywaylaw09.NodeParts", spec := "nodeParts", inPlace := ["slices.overlaps[string]", "slices.overlaps[keyway/api.Val]", "internal/abi.NoEscape"], recurses := true, apart := false }
def NodePartsSaid : Prop := nodePartsRow.holds Try.pinned (OpenSpec.ofChange nodePartsSpec)

/-- ITS FALSE NEIGHBOUR: 'it returns false'. Refute it at one input. -/
def nodePartsWrong : ChangeSpec := { name := "nodeParts", fn := fun _ => fun
  | [d1, d2] => { results := [.lit (.bool false)], args := [d1, d2] }
  | _ => none }
def NodePartsWrongFalsely : Prop := nodePartsRow.holds Try.pinned (OpenSpec.ofChange nodePartsWrong)

/-- 'keywaylaw09.NodeFits': WHATEVER THE INPUT: true; the input reads as it did. -/
def nodeFitsSpec : ChangeSpec := { name := "nodeFits", fn := fun _ => fun
  | [d1, d2] => { results := [.lit (.bool true)], args := [d1, d2] }
  | _ => none }
def nodeFitsRow : OpenClaim := { program := "ytgcfollelefmcaa", sum := "0b5d27293e180ffc6cc2e4359d0b72ab2d7864ea62fce60869722737e75b8b7b", func := "keyway/keywaylaw09.NodeFits", spec := "nodeFits", inPlace := ["slices.overlaps[string]", "slices.overlaps[keyway/api.Val]", "internal/abi.NoEscape"], apart := false }
def NodeFitsSaid : Prop := nodeFitsRow.holds Try.pinned (OpenSpec.ofChange nodeFitsSpec)

/-- ITS FALSE NEIGHBOUR: 'it returns false'. Refute it at one input. -/
def nodeFitsWrong : ChangeSpec := { name := "nodeFits", fn := fun _ => fun
  | [d1, d2] => { results := [.lit (.bool false)], args := [d1, d2] }
  | _ => none }
def NodeFitsWrongFalsely : Prop := nodeFitsRow.holds Try.pinned (OpenSpec.ofChange nodeFitsWrong)

/- THE SECOND FORM. 'bulk': how many values and letters a reading holds, each counted each time it is reached (what is shared counts as often as it is met; a slice's spare places count too). A statement '..UptoSaid' is the law's where the arguments, and the package variables that the reading takes, are together of bulk at most 1048576: NARROWER than '..Said'. Prove '..Said' where nothing that the law and all that it calls make is longer than what came in: it says more and counts as full. Else prove '..UptoSaid'. A law counts once. -/
mutual
def uptoBulk {H : Type} : DataW H → Nat
  | .lit (.string bytes) => bytes.length + 1
  | .lit _ => 1
  | .nil => 1
  | .ptr d => uptoBulk d + 1
  | .slice elems spare => uptoBulkAll elems + uptoBulkAll spare + 1
  | .agg parts => uptoBulkAll parts + 1
  | .iface _ d => uptoBulk d + 1
  | .map entries => uptoBulkEntries entries + 1
  | .held _ => 1
def uptoBulkAll {H : Type} : List (DataW H) → Nat
  | [] => 0
  | d :: r => uptoBulk d + uptoBulkAll r
def uptoBulkEntries {H : Type} : List (Lit × DataW H) → Nat
  | [] => 0
  | x :: r => uptoBulkEntry x + uptoBulkEntries r
def uptoBulkEntry {H : Type} : Lit × DataW H → Nat
  | (.string bytes, d) => bytes.length + uptoBulk d + 1
  | (_, d) => uptoBulk d + 1
 end
def uptoSmall : (H : Type) → List (DataW H) → Bool := fun _ ds => decide (uptoBulkAll ds ≤ 1048576)
def OpenSpec.upto (s : _root_.Go.ChangeSpec) : _root_.Go.OpenSpec := { _root_.Go.OpenSpec.ofChange s with cond := some uptoSmall }

/-- 'keywaylaw09.NodePuts', WHERE WHAT IT READS IS OF BULK AT MOST 1048576: true; the input reads as it did. -/
def nodePutsUptoRow : OpenClaim := { program := "ytgcfollelefmcaa", sum := "0b5d27293e180ffc6cc2e4359d0b72ab2d7864ea62fce60869722737e75b8b7b", func := "keyway/keywaylaw09.NodePuts", spec := "nodePuts", inPlace := ["slices.overlaps[string]", "slices.overlaps[keyway/api.Val]", "internal/abi.NoEscape"], recurses := true, apart := false, narrowed := true }
def NodePutsUptoSaid : Prop := nodePutsUptoRow.holds Try.pinned (OpenSpec.upto nodePutsSpec)

/-- 'keywaylaw09.NodeGets', WHERE WHAT IT READS IS OF BULK AT MOST 1048576: true; the input reads as it did. -/
def nodeGetsUptoRow : OpenClaim := { program := "ytgcfollelefmcaa", sum := "0b5d27293e180ffc6cc2e4359d0b72ab2d7864ea62fce60869722737e75b8b7b", func := "keyway/keywaylaw09.NodeGets", spec := "nodeGets", inPlace := ["internal/abi.NoEscape"], apart := false, narrowed := true }
def NodeGetsUptoSaid : Prop := nodeGetsUptoRow.holds Try.pinned (OpenSpec.upto nodeGetsSpec)

/-- 'keywaylaw09.NodeSets', WHERE WHAT IT READS IS OF BULK AT MOST 1048576: true; the input reads as it did. -/
def nodeSetsUptoRow : OpenClaim := { program := "ytgcfollelefmcaa", sum := "0b5d27293e180ffc6cc2e4359d0b72ab2d7864ea62fce60869722737e75b8b7b", func := "keyway/keywaylaw09.NodeSets", spec := "nodeSets", inPlace := ["slices.overlaps[string]", "slices.overlaps[keyway/api.Val]", "internal/abi.NoEscape"], apart := false, narrowed := true }
def NodeSetsUptoSaid : Prop := nodeSetsUptoRow.holds Try.pinned (OpenSpec.upto nodeSetsSpec)

/-- 'keywaylaw09.NodeParts', WHERE WHAT IT READS IS OF BULK AT MOST 1048576: true; the input reads as it did. -/
def nodePartsUptoRow : OpenClaim := { program := "ytgcfollelefmcaa", sum := "0b5d27293e180ffc6cc2e4359d0b72ab2d7864ea62fce60869722737e75b8b7b", func := "keyway/keywaylaw09.NodeParts", spec := "nodeParts", inPlace := ["slices.overlaps[string]", "slices.overlaps[keyway/api.Val]", "internal/abi.NoEscape"], recurses := true, apart := false, narrowed := true }
def NodePartsUptoSaid : Prop := nodePartsUptoRow.holds Try.pinned (OpenSpec.upto nodePartsSpec)

/-- 'keywaylaw09.NodeFits', WHERE WHAT IT READS IS OF BULK AT MOST 1048576: true; the input reads as it did. -/
def nodeFitsUptoRow : OpenClaim := { program := "ytgcfollelefmcaa", sum := "0b5d27293e180ffc6cc2e4359d0b72ab2d7864ea62fce60869722737e75b8b7b", func := "keyway/keywaylaw09.NodeFits", spec := "nodeFits", inPlace := ["slices.overlaps[string]", "slices.overlaps[keyway/api.Val]", "internal/abi.NoEscape"], apart := false, narrowed := true }
def NodeFitsUptoSaid : Prop := nodeFitsUptoRow.holds Try.pinned (OpenSpec.upto nodeFitsSpec)

end Rows
end Go.Proofs.Ytgcfollelefmcaa
