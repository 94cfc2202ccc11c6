/-
  No cell of these rows narrows 'for every input' (looked for: loops, veiled, ifaces, maps, wideKeys, modest, calm, conditions, laid).
  DERIVED. THE GIVEN ROWS OF THIS SEAT. 6 by the template 'for every input the law returns true; each argument reads behind the call as it read before'; 0 by the template 'total and deterministic' (their statements: YtefcfhccbeaieaaTotals.lean).
  GIVEN WITH THE SEED: the statements are not yours to turn. If you find one false, say at which input.
  Laid BY PROGRAM, IN A SANDBOX (cutbox-rows.mjs): the forced cells as the released guide's own fill.sh prints them over the translation 426dd451e2a1db37… (all of the seat's roots in one cut). By AI agents, Wed Nov 11 2026. No macro, syntax, notation, axiom, sorry.
-/
import Derived.Test.YtefcfhccbeaieaaChecked
import GoSem.Claim
import GoSem.ClaimJoined
import GoSem.ClaimMapViews
import Derived.JoinedTies
import Derived.KernelRfl
namespace Go.Proofs.Ytefcfhccbeaieaa
/- THE CELL 'sum', in the pinned program and in every row, IS THE sha256 OF THE DUMP (.gsa) THAT YtefcfhccbeaieaaProg.lean LOADS. Nothing in Lean hashes anything: it is a label: what it is worth is what the hold of that sum in a sandbox is worth. -/
noncomputable def Try.pinned : Pinned := { name := "ytefcfhccbeaieaa", sum := "426dd451e2a1db375267fe2813c467725bac84654e375601d08e8478f33660c6", checked := Try.checked }
namespace Rows
def none {H : Type} : Left H := { results := [], args := [] }

/-- 'laws.FnExactFilesFault': WHATEVER THE INPUT: true; the input reads as it did. -/
def fnExactFilesFaultSpec : ChangeSpec := { name := "fnExactFilesFault", fn := fun _ => fun
  | [d] => { results := [.lit (.bool true)], args := [d] }
  | _ => none }
def fnExactFilesFaultRow : OpenClaim := { program := "ytefcfhccbeaieaa", sum := "426dd451e2a1db375267fe2813c467725bac84654e375601d08e8478f33660c6", func := "loop.example/g00311/laws.FnExactFilesFault", spec := "fnExactFilesFault", recurses := true, apart := false }
def FnExactFilesFaultSaid : Prop := fnExactFilesFaultRow.holds Try.pinned (OpenSpec.ofChange fnExactFilesFaultSpec)

/-- ITS FALSE NEIGHBOUR: 'it returns false'. Refute it at one input. -/
def fnExactFilesFaultWrong : ChangeSpec := { name := "fnExactFilesFault", fn := fun _ => fun
  | [d] => { results := [.lit (.bool false)], args := [d] }
  | _ => none }
def FnExactFilesFaultWrongFalsely : Prop := fnExactFilesFaultRow.holds Try.pinned (OpenSpec.ofChange fnExactFilesFaultWrong)

/-- 'laws.FnExactPackDir': WHATEVER THE INPUT: true; the input reads as it did. -/
def fnExactPackDirSpec : ChangeSpec := { name := "fnExactPackDir", fn := fun _ => fun
  | [d] => { results := [.lit (.bool true)], args := [d] }
  | _ => none }
def fnExactPackDirRow : OpenClaim := { program := "ytefcfhccbeaieaa", sum := "426dd451e2a1db375267fe2813c467725bac84654e375601d08e8478f33660c6", func := "loop.example/g00311/laws.FnExactPackDir", spec := "fnExactPackDir", recurses := true, apart := false }
def FnExactPackDirSaid : Prop := fnExactPackDirRow.holds Try.pinned (OpenSpec.ofChange fnExactPackDirSpec)

/-- ITS FALSE NEIGHBOUR: 'it returns false'. Refute it at one input. -/
def fnExactPackDirWrong : ChangeSpec := { name := "fnExactPackDir", fn := fun _ => fun
  | [d] => { results := [.lit (.bool false)], args := [d] }
  | _ => none }
def FnExactPackDirWrongFalsely : Prop := fnExactPackDirRow.holds Try.pinned (OpenSpec.ofChange fnExactPackDirWrong)

/-- 'laws.FnExactBlocksIn': WHATEVER THE INPUT: true; the input reads as it did. -/
def fnExactBlocksInSpec : ChangeSpec := { name := "fnExactBlocksIn", fn := fun _ => fun
  | [d] => { results := [.lit (.bool true)], args := [d] }
  | _ => none }
def fnExactBlocksInRow : OpenClaim := { program := "ytefcfhccbeaieaa", sum := "426dd451e2a1db375267fe2813c467725bac84654e375601d08e8478f33660c6", func := "loop.example/g00311/laws.FnExactBlocksIn", spec := "fnExactBlocksIn", recurses := true, apart := false }
def FnExactBlocksInSaid : Prop := fnExactBlocksInRow.holds Try.pinned (OpenSpec.ofChange fnExactBlocksInSpec)

/-- ITS FALSE NEIGHBOUR: 'it returns false'. Refute it at one input. -/
def fnExactBlocksInWrong : ChangeSpec := { name := "fnExactBlocksIn", fn := fun _ => fun
  | [d] => { results := [.lit (.bool false)], args := [d] }
  | _ => none }
def FnExactBlocksInWrongFalsely : Prop := fnExactBlocksInRow.holds Try.pinned (OpenSpec.ofChange fnExactBlocksInWrong)

/-- 'laws.FnExactFileAt': WHATEVER THE INPUT: true; the input reads as it did. -/
def fnExactFileAtSpec : ChangeSpec := { name := "fnExactFileAt", fn := fun _ => fun
  | [d1, d2] => { results := [.lit (.bool true)], args := [d1, d2] }
  | _ => none }
def fnExactFileAtRow : OpenClaim := { program := "ytefcfhccbeaieaa", sum := "426dd451e2a1db375267fe2813c467725bac84654e375601d08e8478f33660c6", func := "loop.example/g00311/laws.FnExactFileAt", spec := "fnExactFileAt", recurses := true, apart := false }
def FnExactFileAtSaid : Prop := fnExactFileAtRow.holds Try.pinned (OpenSpec.ofChange fnExactFileAtSpec)

/-- ITS FALSE NEIGHBOUR: 'it returns false'. Refute it at one input. -/
def fnExactFileAtWrong : ChangeSpec := { name := "fnExactFileAt", fn := fun _ => fun
  | [d1, d2] => { results := [.lit (.bool false)], args := [d1, d2] }
  | _ => none }
def FnExactFileAtWrongFalsely : Prop := fnExactFileAtRow.holds Try.pinned (OpenSpec.ofChange fnExactFileAtWrong)

/-- 'laws.FnExactDropFile': WHATEVER THE INPUT: true; the input reads as it did. -/
def fnExactDropFileSpec : ChangeSpec := { name := "fnExactDropFile", fn := fun _ => fun
  | [d1, d2] => { results := [.lit (.bool true)], args := [d1, d2] }
  | _ => none }
def fnExactDropFileRow : OpenClaim := { program := "ytefcfhccbeaieaa", sum := "426dd451e2a1db375267fe2813c467725bac84654e375601d08e8478f33660c6", func := "loop.example/g00311/laws.FnExactDropFile", spec := "fnExactDropFile", recurses := true, apart := false }
def FnExactDropFileSaid : Prop := fnExactDropFileRow.holds Try.pinned (OpenSpec.ofChange fnExactDropFileSpec)

/-- ITS FALSE NEIGHBOUR: 'it returns false'. Refute it at one input. -/
def fnExactDropFileWrong : ChangeSpec := { name := "fnExactDropFile", fn := fun _ => fun
  | [d1, d2] => { results := [.lit (.bool false)], args := [d1, d2] }
  | _ => none }
def FnExactDropFileWrongFalsely : Prop := fnExactDropFileRow.holds Try.pinned (OpenSpec.ofChange fnExactDropFileWrong)

/-- 'laws.FnExactUnpackDir': WHATEVER THE INPUT: true; the input reads as it did. -/
def fnExactUnpackDirSpec : ChangeSpec := { name := "fnExactUnpackDir", fn := fun _ => fun
  | [d] => { results := [.lit (.bool true)], args := [d] }
  | _ => none }
def fnExactUnpackDirRow : OpenClaim := { program := "ytefcfhccbeaieaa", sum := "426dd451e2a1db375267fe2813c467725bac84654e375601d08e8478f33660c6", func := "loop.example/g00311/laws.FnExactUnpackDir", spec := "fnExactUnpackDir", recurses := true, apart := false }
def FnExactUnpackDirSaid : Prop := fnExactUnpackDirRow.holds Try.pinned (OpenSpec.ofChange fnExactUnpackDirSpec)

/-- ITS FALSE NEIGHBOUR: 'it returns false'. Refute it at one input. -/
def fnExactUnpackDirWrong : ChangeSpec := { name := "fnExactUnpackDir", fn := fun _ => fun
  | [d] => { results := [.lit (.bool false)], args := [d] }
  | _ => none }
def FnExactUnpackDirWrongFalsely : Prop := fnExactUnpackDirRow.holds Try.pinned (OpenSpec.ofChange fnExactUnpackDirWrong)

/- THE SECOND FORM. 'bulk': how many values and letters a reading holds, each counted each time it is reached (what is shared counts as often as it is met; a slice's spare places count too). A statement '..UptoSaid' is the law's where the arguments, and the package variables that the reading takes, are together of bulk at most 1048576: NARROWER than '..Said'. Prove '..Said' where nothing that the law and all that it calls make is longer than what came in: it says more and counts as full. Else prove '..UptoSaid'. A law counts once. -/
mutual
def uptoBulk {H : Type} : DataW H → Nat
  | .lit (.string bytes) => bytes.length + 1
  | .lit _ => 1
  | .nil => 1
  | .ptr d => uptoBulk d + 1
  | .slice elems spare => uptoBulkAll elems + uptoBulkAll spare + 1
  | .agg parts => uptoBulkAll parts + 1
  | .iface _ d => uptoBulk d + 1
  | .map entries => uptoBulkEntries entries + 1
  | .held _ => 1
def uptoBulkAll {H : Type} : List (DataW H) → Nat
  | [] => 0
  | d :: r => uptoBulk d + uptoBulkAll r
def uptoBulkEntries {H : Type} : List (Lit × DataW H) → Nat
  | [] => 0
  | x :: r => uptoBulkEntry x + uptoBulkEntries r
def uptoBulkEntry {H : Type} : Lit × DataW H → Nat
  | (.string bytes, d) => bytes.length + uptoBulk d + 1
  | (_, d) => uptoBulk d + 1
 end
def uptoSmall : (H : Type) → List (DataW H) → Bool := fun _ ds => decide (uptoBulkAll ds ≤ 1048576)
def OpenSpec.upto (s : _root_.Go.ChangeSpec) : _root_.Go.OpenSpec := { _root_.Go.OpenSpec.ofChange s with cond := some uptoSmall }

/-- 'laws.FnExactFilesFault', WHERE WHAT IT READS IS OF BULK AT MOST 1048576: true; the input reads as it did. -/
def fnExactFilesFaultUptoRow : OpenClaim := { program := "ytefcfhccbeaieaa", sum := "426dd451e2a1db375267fe2813c467725bac84654e375601d08e8478f33660c6", func := "loop.example/g00311/laws.FnExactFilesFault", spec := "fnExactFilesFault", recurses := true, apart := false, narrowed := true }
def FnExactFilesFaultUptoSaid : Prop := fnExactFilesFaultUptoRow.holds Try.pinned (OpenSpec.upto fnExactFilesFaultSpec)

/-- 'laws.FnExactPackDir', WHERE WHAT IT READS IS OF BULK AT MOST 1048576: true; the input reads as it did. -/
def fnExactPackDirUptoRow : OpenClaim := { program := "ytefcfhccbeaieaa", sum := "426dd451e2a1db375267fe2813c467725bac84654e375601d08e8478f33660c6", func := "loop.example/g00311/laws.FnExactPackDir", spec := "fnExactPackDir", recurses := true, apart := false, narrowed := true }
def FnExactPackDirUptoSaid : Prop := fnExactPackDirUptoRow.holds Try.pinned (OpenSpec.upto fnExactPackDirSpec)

/-- 'laws.FnExactBlocksIn', WHERE WHAT IT READS IS OF BULK AT MOST 1048576: true; the input reads as it did. -/
def fnExactBlocksInUptoRow : OpenClaim := { program := "ytefcfhccbeaieaa", sum := "426dd451e2a1db375267fe2813c467725bac84654e375601d08e8478f33660c6", func := "loop.example/g00311/laws.FnExactBlocksIn", spec := "fnExactBlocksIn", recurses := true, apart := false, narrowed := true }
def FnExactBlocksInUptoSaid : Prop := fnExactBlocksInUptoRow.holds Try.pinned (OpenSpec.upto fnExactBlocksInSpec)

/-- 'laws.FnExactFileAt', WHERE WHAT IT READS IS OF BULK AT MOST 1048576: true; the input reads as it did. -/
def fnExactFileAtUptoRow : OpenClaim := { program := "ytefcfhccbeaieaa", sum := "426dd451e2a1db375267fe2813c467725bac84654e375601d08e8478f33660c6", func := "loop.example/g00311/laws.FnExactFileAt", spec := "fnExactFileAt", recurses := true, apart := false, narrowed := true }
def FnExactFileAtUptoSaid : Prop := fnExactFileAtUptoRow.holds Try.pinned (OpenSpec.upto fnExactFileAtSpec)

/-- 'laws.FnExactDropFile', WHERE WHAT IT READS IS OF BULK AT MOST 1048576: true; the input reads as it did. -/
def fnExactDropFileUptoRow : OpenClaim := { program := "ytefcfhccbeaieaa", sum := "426dd451e2a1db375267fe2813c467725bac84654e375601d08e8478f33660c6", func := "loop.example/g00311/laws.FnExactDropFile", spec := "fnExactDropFile", recurses := true, apart := false, narrowed := true }
def FnExactDropFileUptoSaid : Prop := fnExactDropFileUptoRow.holds Try.pinned (OpenSpec.upto fnExactDropFileSpec)

/-- 'laws.FnExactUnpackDir', WHERE WHAT IT READS IS OF BULK AT MOST 1048576: true; the input reads as it did. -/
def fnExactUnpackDirUptoRow : OpenClaim := { program := "ytefcfhccbeaieaa", sum := "426dd451e2a1db375267fe2813c467725bac84654e375601d08e8478f33660c6", func := "loop.example/g00311/laws.FnExactUnpackDir", spec := "fnExactUnpackDir", recurses := true, apart := false, narrowed := true }
def FnExactUnpackDirUptoSaid : Prop := fnExactUnpackDirUptoRow.holds Try.pinned (OpenSpec.upto fnExactUnpackDirSpec)

end Rows
end Go.Proofs.Ytefcfhccbeaieaa
