/-
  No cell of these rows narrows 'for every input' (looked for: loops, veiled, ifaces, maps, wideKeys, modest, calm, conditions, laid).
  DERIVED. THE GIVEN ROWS OF THIS SEAT. 5 by the template 'for every input the law returns true; each argument reads behind the call as it read before'; 0 by the template 'total and deterministic' (their statements: YtknjfaebiljiiaaTotals.lean).
  GIVEN WITH THE SEED: the statements are not yours to turn. If you find one false, say at which input.
  Laid BY PROGRAM, IN A SANDBOX (cutbox-rows.mjs): the forced cells as the released guide's own fill.sh prints them over the translation 39a4e35dd8bb6ff0… (all of the seat's roots in one cut). By AI agents, Wed Nov 11 2026. No macro, syntax, notation, axiom, sorry.
-/
import Derived.Test.YtknjfaebiljiiaaChecked
import GoSem.Claim
import GoSem.ClaimJoined
import GoSem.ClaimMapViews
import Derived.JoinedTies
import Derived.KernelRfl
namespace Go.Proofs.Ytknjfaebiljiiaa
/- THE CELL 'sum', in the pinned program and in every row, IS THE sha256 OF THE DUMP (.gsa) THAT YtknjfaebiljiiaaProg.lean LOADS. Nothing in Lean hashes anything: it is a label: what it is worth is what the hold of that sum in a sandbox is worth. -/
noncomputable def Try.pinned : Pinned := { name := "ytknjfaebiljiiaa", sum := "39a4e35dd8bb6ff0d7e12e3f50064d833afcc1c90224c311ca310bc6956c9233", checked := Try.checked }
namespace Rows
def none {H : Type} : Left H := { results := [], args := [] }

/-- 'laws.FnObjects': WHATEVER THE INPUT: true; the input reads as it did. -/
def fnObjectsSpec : ChangeSpec := { name := "fnObjects", fn := fun _ => fun
  | [d] => { results := [.lit (.bool true)], args := [d] }
  | _ => none }
def fnObjectsRow : OpenClaim := { program := "ytknjfaebiljiiaa", sum := "39a4e35dd8bb6ff0d7e12e3f50064d833afcc1c90224c311ca310bc6956c9233", func := "loop.example/g00311/laws.FnObjects", spec := "fnObjects", apart := false }
def FnObjectsSaid : Prop := fnObjectsRow.holds Try.pinned (OpenSpec.ofChange fnObjectsSpec)

/-- ITS FALSE NEIGHBOUR: 'it returns false'. Refute it at one input. -/
def fnObjectsWrong : ChangeSpec := { name := "fnObjects", fn := fun _ => fun
  | [d] => { results := [.lit (.bool false)], args := [d] }
  | _ => none }
def FnObjectsWrongFalsely : Prop := fnObjectsRow.holds Try.pinned (OpenSpec.ofChange fnObjectsWrong)

/-- 'laws.FnExactObjectFault': WHATEVER THE INPUT: true; the input reads as it did. -/
def fnExactObjectFaultSpec : ChangeSpec := { name := "fnExactObjectFault", fn := fun _ => fun
  | [d] => { results := [.lit (.bool true)], args := [d] }
  | _ => none }
def fnExactObjectFaultRow : OpenClaim := { program := "ytknjfaebiljiiaa", sum := "39a4e35dd8bb6ff0d7e12e3f50064d833afcc1c90224c311ca310bc6956c9233", func := "loop.example/g00311/laws.FnExactObjectFault", spec := "fnExactObjectFault", apart := false }
def FnExactObjectFaultSaid : Prop := fnExactObjectFaultRow.holds Try.pinned (OpenSpec.ofChange fnExactObjectFaultSpec)

/-- ITS FALSE NEIGHBOUR: 'it returns false'. Refute it at one input. -/
def fnExactObjectFaultWrong : ChangeSpec := { name := "fnExactObjectFault", fn := fun _ => fun
  | [d] => { results := [.lit (.bool false)], args := [d] }
  | _ => none }
def FnExactObjectFaultWrongFalsely : Prop := fnExactObjectFaultRow.holds Try.pinned (OpenSpec.ofChange fnExactObjectFaultWrong)

/-- 'laws.FnExactReadObject': WHATEVER THE INPUT: true; the input reads as it did. -/
def fnExactReadObjectSpec : ChangeSpec := { name := "fnExactReadObject", fn := fun _ => fun
  | [d1, d2, d3] => { results := [.lit (.bool true)], args := [d1, d2, d3] }
  | _ => none }
def fnExactReadObjectRow : OpenClaim := { program := "ytknjfaebiljiiaa", sum := "39a4e35dd8bb6ff0d7e12e3f50064d833afcc1c90224c311ca310bc6956c9233", func := "loop.example/g00311/laws.FnExactReadObject", spec := "fnExactReadObject", apart := false }
def FnExactReadObjectSaid : Prop := fnExactReadObjectRow.holds Try.pinned (OpenSpec.ofChange fnExactReadObjectSpec)

/-- ITS FALSE NEIGHBOUR: 'it returns false'. Refute it at one input. -/
def fnExactReadObjectWrong : ChangeSpec := { name := "fnExactReadObject", fn := fun _ => fun
  | [d1, d2, d3] => { results := [.lit (.bool false)], args := [d1, d2, d3] }
  | _ => none }
def FnExactReadObjectWrongFalsely : Prop := fnExactReadObjectRow.holds Try.pinned (OpenSpec.ofChange fnExactReadObjectWrong)

/-- 'laws.FnExactMergeObject': WHATEVER THE INPUT: true; the input reads as it did. -/
def fnExactMergeObjectSpec : ChangeSpec := { name := "fnExactMergeObject", fn := fun _ => fun
  | [d1, d2] => { results := [.lit (.bool true)], args := [d1, d2] }
  | _ => none }
def fnExactMergeObjectRow : OpenClaim := { program := "ytknjfaebiljiiaa", sum := "39a4e35dd8bb6ff0d7e12e3f50064d833afcc1c90224c311ca310bc6956c9233", func := "loop.example/g00311/laws.FnExactMergeObject", spec := "fnExactMergeObject", apart := false }
def FnExactMergeObjectSaid : Prop := fnExactMergeObjectRow.holds Try.pinned (OpenSpec.ofChange fnExactMergeObjectSpec)

/-- ITS FALSE NEIGHBOUR: 'it returns false'. Refute it at one input. -/
def fnExactMergeObjectWrong : ChangeSpec := { name := "fnExactMergeObject", fn := fun _ => fun
  | [d1, d2] => { results := [.lit (.bool false)], args := [d1, d2] }
  | _ => none }
def FnExactMergeObjectWrongFalsely : Prop := fnExactMergeObjectRow.holds Try.pinned (OpenSpec.ofChange fnExactMergeObjectWrong)

/-- 'laws.FnExactClashObjects': WHATEVER THE INPUT: true; the input reads as it did. -/
def fnExactClashObjectsSpec : ChangeSpec := { name := "fnExactClashObjects", fn := fun _ => fun
  | [d1, d2] => { results := [.lit (.bool true)], args := [d1, d2] }
  | _ => none }
def fnExactClashObjectsRow : OpenClaim := { program := "ytknjfaebiljiiaa", sum := "39a4e35dd8bb6ff0d7e12e3f50064d833afcc1c90224c311ca310bc6956c9233", func := "loop.example/g00311/laws.FnExactClashObjects", spec := "fnExactClashObjects", apart := false }
def FnExactClashObjectsSaid : Prop := fnExactClashObjectsRow.holds Try.pinned (OpenSpec.ofChange fnExactClashObjectsSpec)

/-- ITS FALSE NEIGHBOUR: 'it returns false'. Refute it at one input. -/
def fnExactClashObjectsWrong : ChangeSpec := { name := "fnExactClashObjects", fn := fun _ => fun
  | [d1, d2] => { results := [.lit (.bool false)], args := [d1, d2] }
  | _ => none }
def FnExactClashObjectsWrongFalsely : Prop := fnExactClashObjectsRow.holds Try.pinned (OpenSpec.ofChange fnExactClashObjectsWrong)

/- THE SECOND FORM. 'bulk': how many values and letters a reading holds, each counted each time it is reached (what is shared counts as often as it is met; a slice's spare places count too). A statement '..UptoSaid' is the law's where the arguments, and the package variables that the reading takes, are together of bulk at most 1048576: NARROWER than '..Said'. Prove '..Said' where nothing that the law and all that it calls make is longer than what came in: it says more and counts as full. Else prove '..UptoSaid'. A law counts once. -/
mutual
def uptoBulk {H : Type} : DataW H → Nat
  | .lit (.string bytes) => bytes.length + 1
  | .lit _ => 1
  | .nil => 1
  | .ptr d => uptoBulk d + 1
  | .slice elems spare => uptoBulkAll elems + uptoBulkAll spare + 1
  | .agg parts => uptoBulkAll parts + 1
  | .iface _ d => uptoBulk d + 1
  | .map entries => uptoBulkEntries entries + 1
  | .held _ => 1
def uptoBulkAll {H : Type} : List (DataW H) → Nat
  | [] => 0
  | d :: r => uptoBulk d + uptoBulkAll r
def uptoBulkEntries {H : Type} : List (Lit × DataW H) → Nat
  | [] => 0
  | x :: r => uptoBulkEntry x + uptoBulkEntries r
def uptoBulkEntry {H : Type} : Lit × DataW H → Nat
  | (.string bytes, d) => bytes.length + uptoBulk d + 1
  | (_, d) => uptoBulk d + 1
 end
def uptoSmall : (H : Type) → List (DataW H) → Bool := fun _ ds => decide (uptoBulkAll ds ≤ 1048576)
def OpenSpec.upto (s : _root_.Go.ChangeSpec) : _root_.Go.OpenSpec := { _root_.Go.OpenSpec.ofChange s with cond := some uptoSmall }

/-- 'laws.FnObjects', WHERE WHAT IT READS IS OF BULK AT MOST 1048576: true; the input reads as it did. -/
def fnObjectsUptoRow : OpenClaim := { program := "ytknjfaebiljiiaa", sum := "39a4e35dd8bb6ff0d7e12e3f50064d833afcc1c90224c311ca310bc6956c9233", func := "loop.example/g00311/laws.FnObjects", spec := "fnObjects", apart := false, narrowed := true }
def FnObjectsUptoSaid : Prop := fnObjectsUptoRow.holds Try.pinned (OpenSpec.upto fnObjectsSpec)

/-- 'laws.FnExactObjectFault', WHERE WHAT IT READS IS OF BULK AT MOST 1048576: true; the input reads as it did. -/
def fnExactObjectFaultUptoRow : OpenClaim := { program := "ytknjfaebiljiiaa", sum := "39a4e35dd8bb6ff0d7e12e3f50064d833afcc1c90224c311ca310bc6956c9233", func := "loop.example/g00311/laws.FnExactObjectFault", spec := "fnExactObjectFault", apart := false, narrowed := true }
def FnExactObjectFaultUptoSaid : Prop := fnExactObjectFaultUptoRow.holds Try.pinned (OpenSpec.upto fnExactObjectFaultSpec)

/-- 'laws.FnExactReadObject', WHERE WHAT IT READS IS OF BULK AT MOST 1048576: true; the input reads as it did. -/
def fnExactReadObjectUptoRow : OpenClaim := { program := "ytknjfaebiljiiaa", sum := "39a4e35dd8bb6ff0d7e12e3f50064d833afcc1c90224c311ca310bc6956c9233", func := "loop.example/g00311/laws.FnExactReadObject", spec := "fnExactReadObject", apart := false, narrowed := true }
def FnExactReadObjectUptoSaid : Prop := fnExactReadObjectUptoRow.holds Try.pinned (OpenSpec.upto fnExactReadObjectSpec)

/-- 'laws.FnExactMergeObject', WHERE WHAT IT READS IS OF BULK AT MOST 1048576: true; the input reads as it did. -/
def fnExactMergeObjectUptoRow : OpenClaim := { program := "ytknjfaebiljiiaa", sum := "39a4e35dd8bb6ff0d7e12e3f50064d833afcc1c90224c311ca310bc6956c9233", func := "loop.example/g00311/laws.FnExactMergeObject", spec := "fnExactMergeObject", apart := false, narrowed := true }
def FnExactMergeObjectUptoSaid : Prop := fnExactMergeObjectUptoRow.holds Try.pinned (OpenSpec.upto fnExactMergeObjectSpec)

/-- 'laws.FnExactClashObjects', WHERE WHAT IT READS IS OF BULK AT MOST 1048576: true; the input reads as it did. -/
def fnExactClashObjectsUptoRow : OpenClaim := { program := "ytknjfaebiljiiaa", sum := "39a4e35dd8bb6ff0d7e12e3f50064d833afcc1c90224c311ca310bc6956c9233", func := "loop.example/g00311/laws.FnExactClashObjects", spec := "fnExactClashObjects", apart := false, narrowed := true }
def FnExactClashObjectsUptoSaid : Prop := fnExactClashObjectsUptoRow.holds Try.pinned (OpenSpec.upto fnExactClashObjectsSpec)

end Rows
end Go.Proofs.Ytknjfaebiljiiaa
