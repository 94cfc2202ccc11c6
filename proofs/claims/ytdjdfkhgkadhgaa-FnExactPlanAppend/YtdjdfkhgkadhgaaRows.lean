/-
  No cell of these rows narrows 'for every input' (looked for: loops, veiled, ifaces, maps, wideKeys, modest, calm, conditions, laid).
  DERIVED. THE GIVEN ROWS OF THIS SEAT. 5 by the template 'for every input the law returns true; each argument reads behind the call as it read before'; 0 by the template 'total and deterministic' (their statements: YtdjdfkhgkadhgaaTotals.lean).
  GIVEN WITH THE SEED: the statements are not yours to turn. If you find one false, say at which input.
  Laid BY PROGRAM, IN A SANDBOX (cutbox-rows.mjs): the forced cells as the released guide's own fill.sh prints them over the translation 1578b6bb669b6b9d… (all of the seat's roots in one cut). By AI agents, Wed Nov 11 2026. No macro, syntax, notation, axiom, sorry.
-/
import Derived.Test.YtdjdfkhgkadhgaaChecked
import GoSem.Claim
import GoSem.ClaimJoined
import GoSem.ClaimMapViews
import Derived.JoinedTies
import Derived.KernelRfl
namespace Go.Proofs.Ytdjdfkhgkadhgaa
/- THE CELL 'sum', in the pinned program and in every row, IS THE sha256 OF THE DUMP (.gsa) THAT YtdjdfkhgkadhgaaProg.lean LOADS. Nothing in Lean hashes anything: it is a label: what it is worth is what the hold of that sum in a sandbox is worth. -/
noncomputable def Try.pinned : Pinned := { name := "ytdjdfkhgkadhgaa", sum := "1578b6bb669b6b9d632f58af04765c46d532dc2920c59da58f4841733ecd3c67", checked := Try.checked }
namespace Rows
def none {H : Type} : Left H := { results := [], args := [] }

/-- 'laws.FnExactPlanInstall': WHATEVER THE INPUT: true; the input reads as it did. -/
def fnExactPlanInstallSpec : ChangeSpec := { name := "fnExactPlanInstall", fn := fun _ => fun
  | [d] => { results := [.lit (.bool true)], args := [d] }
  | _ => none }
def fnExactPlanInstallRow : OpenClaim := { program := "ytdjdfkhgkadhgaa", sum := "1578b6bb669b6b9d632f58af04765c46d532dc2920c59da58f4841733ecd3c67", func := "loop.example/g00311/laws.FnExactPlanInstall", spec := "fnExactPlanInstall", unfollowed := true, recurses := true, apart := false }
def FnExactPlanInstallSaid : Prop := fnExactPlanInstallRow.holds Try.pinned (OpenSpec.ofChange fnExactPlanInstallSpec)

/-- ITS FALSE NEIGHBOUR: 'it returns false'. Refute it at one input. -/
def fnExactPlanInstallWrong : ChangeSpec := { name := "fnExactPlanInstall", fn := fun _ => fun
  | [d] => { results := [.lit (.bool false)], args := [d] }
  | _ => none }
def FnExactPlanInstallWrongFalsely : Prop := fnExactPlanInstallRow.holds Try.pinned (OpenSpec.ofChange fnExactPlanInstallWrong)

/-- 'laws.FnExactLogOf': WHATEVER THE INPUT: true; the input reads as it did. -/
def fnExactLogOfSpec : ChangeSpec := { name := "fnExactLogOf", fn := fun _ => fun
  | [d] => { results := [.lit (.bool true)], args := [d] }
  | _ => none }
def fnExactLogOfRow : OpenClaim := { program := "ytdjdfkhgkadhgaa", sum := "1578b6bb669b6b9d632f58af04765c46d532dc2920c59da58f4841733ecd3c67", func := "loop.example/g00311/laws.FnExactLogOf", spec := "fnExactLogOf", apart := false }
def FnExactLogOfSaid : Prop := fnExactLogOfRow.holds Try.pinned (OpenSpec.ofChange fnExactLogOfSpec)

/-- ITS FALSE NEIGHBOUR: 'it returns false'. Refute it at one input. -/
def fnExactLogOfWrong : ChangeSpec := { name := "fnExactLogOf", fn := fun _ => fun
  | [d] => { results := [.lit (.bool false)], args := [d] }
  | _ => none }
def FnExactLogOfWrongFalsely : Prop := fnExactLogOfRow.holds Try.pinned (OpenSpec.ofChange fnExactLogOfWrong)

/-- 'laws.FnExactSlotOf': WHATEVER THE INPUT: true; the input reads as it did. -/
def fnExactSlotOfSpec : ChangeSpec := { name := "fnExactSlotOf", fn := fun _ => fun
  | [d1, d2] => { results := [.lit (.bool true)], args := [d1, d2] }
  | _ => none }
def fnExactSlotOfRow : OpenClaim := { program := "ytdjdfkhgkadhgaa", sum := "1578b6bb669b6b9d632f58af04765c46d532dc2920c59da58f4841733ecd3c67", func := "loop.example/g00311/laws.FnExactSlotOf", spec := "fnExactSlotOf", apart := false }
def FnExactSlotOfSaid : Prop := fnExactSlotOfRow.holds Try.pinned (OpenSpec.ofChange fnExactSlotOfSpec)

/-- ITS FALSE NEIGHBOUR: 'it returns false'. Refute it at one input. -/
def fnExactSlotOfWrong : ChangeSpec := { name := "fnExactSlotOf", fn := fun _ => fun
  | [d1, d2] => { results := [.lit (.bool false)], args := [d1, d2] }
  | _ => none }
def FnExactSlotOfWrongFalsely : Prop := fnExactSlotOfRow.holds Try.pinned (OpenSpec.ofChange fnExactSlotOfWrong)

/-- 'laws.FnExactPlanAppend': WHATEVER THE INPUT: true; the input reads as it did. -/
def fnExactPlanAppendSpec : ChangeSpec := { name := "fnExactPlanAppend", fn := fun _ => fun
  | [d1, d2] => { results := [.lit (.bool true)], args := [d1, d2] }
  | _ => none }
def fnExactPlanAppendRow : OpenClaim := { program := "ytdjdfkhgkadhgaa", sum := "1578b6bb669b6b9d632f58af04765c46d532dc2920c59da58f4841733ecd3c67", func := "loop.example/g00311/laws.FnExactPlanAppend", spec := "fnExactPlanAppend", unfollowed := true, recurses := true, apart := false }
def FnExactPlanAppendSaid : Prop := fnExactPlanAppendRow.holds Try.pinned (OpenSpec.ofChange fnExactPlanAppendSpec)

/-- ITS FALSE NEIGHBOUR: 'it returns false'. Refute it at one input. -/
def fnExactPlanAppendWrong : ChangeSpec := { name := "fnExactPlanAppend", fn := fun _ => fun
  | [d1, d2] => { results := [.lit (.bool false)], args := [d1, d2] }
  | _ => none }
def FnExactPlanAppendWrongFalsely : Prop := fnExactPlanAppendRow.holds Try.pinned (OpenSpec.ofChange fnExactPlanAppendWrong)

/-- 'laws.FnExactRoomIn': WHATEVER THE INPUT: true; the input reads as it did. -/
def fnExactRoomInSpec : ChangeSpec := { name := "fnExactRoomIn", fn := fun _ => fun
  | [d] => { results := [.lit (.bool true)], args := [d] }
  | _ => none }
def fnExactRoomInRow : OpenClaim := { program := "ytdjdfkhgkadhgaa", sum := "1578b6bb669b6b9d632f58af04765c46d532dc2920c59da58f4841733ecd3c67", func := "loop.example/g00311/laws.FnExactRoomIn", spec := "fnExactRoomIn", apart := false }
def FnExactRoomInSaid : Prop := fnExactRoomInRow.holds Try.pinned (OpenSpec.ofChange fnExactRoomInSpec)

/-- ITS FALSE NEIGHBOUR: 'it returns false'. Refute it at one input. -/
def fnExactRoomInWrong : ChangeSpec := { name := "fnExactRoomIn", fn := fun _ => fun
  | [d] => { results := [.lit (.bool false)], args := [d] }
  | _ => none }
def FnExactRoomInWrongFalsely : Prop := fnExactRoomInRow.holds Try.pinned (OpenSpec.ofChange fnExactRoomInWrong)

/- THE SECOND FORM. 'bulk': how many values and letters a reading holds, each counted each time it is reached (what is shared counts as often as it is met; a slice's spare places count too). A statement '..UptoSaid' is the law's where the arguments, and the package variables that the reading takes, are together of bulk at most 1048576: NARROWER than '..Said'. Prove '..Said' where nothing that the law and all that it calls make is longer than what came in: it says more and counts as full. Else prove '..UptoSaid'. A law counts once. -/
mutual
def uptoBulk {H : Type} : DataW H → Nat
  | .lit (.string bytes) => bytes.length + 1
  | .lit _ => 1
  | .nil => 1
  | .ptr d => uptoBulk d + 1
  | .slice elems spare => uptoBulkAll elems + uptoBulkAll spare + 1
  | .agg parts => uptoBulkAll parts + 1
  | .iface _ d => uptoBulk d + 1
  | .map entries => uptoBulkEntries entries + 1
  | .held _ => 1
def uptoBulkAll {H : Type} : List (DataW H) → Nat
  | [] => 0
  | d :: r => uptoBulk d + uptoBulkAll r
def uptoBulkEntries {H : Type} : List (Lit × DataW H) → Nat
  | [] => 0
  | x :: r => uptoBulkEntry x + uptoBulkEntries r
def uptoBulkEntry {H : Type} : Lit × DataW H → Nat
  | (.string bytes, d) => bytes.length + uptoBulk d + 1
  | (_, d) => uptoBulk d + 1
 end
def uptoSmall : (H : Type) → List (DataW H) → Bool := fun _ ds => decide (uptoBulkAll ds ≤ 1048576)
def OpenSpec.upto (s : _root_.Go.ChangeSpec) : _root_.Go.OpenSpec := { _root_.Go.OpenSpec.ofChange s with cond := some uptoSmall }

/-- 'laws.FnExactPlanInstall', WHERE WHAT IT READS IS OF BULK AT MOST 1048576: true; the input reads as it did. -/
def fnExactPlanInstallUptoRow : OpenClaim := { program := "ytdjdfkhgkadhgaa", sum := "1578b6bb669b6b9d632f58af04765c46d532dc2920c59da58f4841733ecd3c67", func := "loop.example/g00311/laws.FnExactPlanInstall", spec := "fnExactPlanInstall", unfollowed := true, recurses := true, apart := false, narrowed := true }
def FnExactPlanInstallUptoSaid : Prop := fnExactPlanInstallUptoRow.holds Try.pinned (OpenSpec.upto fnExactPlanInstallSpec)

/-- 'laws.FnExactLogOf', WHERE WHAT IT READS IS OF BULK AT MOST 1048576: true; the input reads as it did. -/
def fnExactLogOfUptoRow : OpenClaim := { program := "ytdjdfkhgkadhgaa", sum := "1578b6bb669b6b9d632f58af04765c46d532dc2920c59da58f4841733ecd3c67", func := "loop.example/g00311/laws.FnExactLogOf", spec := "fnExactLogOf", apart := false, narrowed := true }
def FnExactLogOfUptoSaid : Prop := fnExactLogOfUptoRow.holds Try.pinned (OpenSpec.upto fnExactLogOfSpec)

/-- 'laws.FnExactSlotOf', WHERE WHAT IT READS IS OF BULK AT MOST 1048576: true; the input reads as it did. -/
def fnExactSlotOfUptoRow : OpenClaim := { program := "ytdjdfkhgkadhgaa", sum := "1578b6bb669b6b9d632f58af04765c46d532dc2920c59da58f4841733ecd3c67", func := "loop.example/g00311/laws.FnExactSlotOf", spec := "fnExactSlotOf", apart := false, narrowed := true }
def FnExactSlotOfUptoSaid : Prop := fnExactSlotOfUptoRow.holds Try.pinned (OpenSpec.upto fnExactSlotOfSpec)

/-- 'laws.FnExactPlanAppend', WHERE WHAT IT READS IS OF BULK AT MOST 1048576: true; the input reads as it did. -/
def fnExactPlanAppendUptoRow : OpenClaim := { program := "ytdjdfkhgkadhgaa", sum := "1578b6bb669b6b9d632f58af04765c46d532dc2920c59da58f4841733ecd3c67", func := "loop.example/g00311/laws.FnExactPlanAppend", spec := "fnExactPlanAppend", unfollowed := true, recurses := true, apart := false, narrowed := true }
def FnExactPlanAppendUptoSaid : Prop := fnExactPlanAppendUptoRow.holds Try.pinned (OpenSpec.upto fnExactPlanAppendSpec)

/-- 'laws.FnExactRoomIn', WHERE WHAT IT READS IS OF BULK AT MOST 1048576: true; the input reads as it did. -/
def fnExactRoomInUptoRow : OpenClaim := { program := "ytdjdfkhgkadhgaa", sum := "1578b6bb669b6b9d632f58af04765c46d532dc2920c59da58f4841733ecd3c67", func := "loop.example/g00311/laws.FnExactRoomIn", spec := "fnExactRoomIn", apart := false, narrowed := true }
def FnExactRoomInUptoSaid : Prop := fnExactRoomInUptoRow.holds Try.pinned (OpenSpec.upto fnExactRoomInSpec)

end Rows
end Go.Proofs.Ytdjdfkhgkadhgaa
