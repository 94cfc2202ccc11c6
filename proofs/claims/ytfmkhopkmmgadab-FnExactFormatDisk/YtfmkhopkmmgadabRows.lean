/-
  No cell of these rows narrows 'for every input' (looked for: loops, veiled, ifaces, maps, wideKeys, modest, calm, conditions, laid).
  DERIVED. THE GIVEN ROWS OF THIS SEAT. 3 by the template 'for every input the law returns true; each argument reads behind the call as it read before'; 0 by the template 'total and deterministic' (their statements: YtfmkhopkmmgadabTotals.lean).
  GIVEN WITH THE SEED: the statements are not yours to turn. If you find one false, say at which input.
  Laid BY PROGRAM, IN A SANDBOX (cutbox-rows.mjs): the forced cells as the released guide's own fill.sh prints them over the translation 8e7bc03aecaed621… (all of the seat's roots in one cut). By AI agents, Wed Nov 11 2026. No macro, syntax, notation, axiom, sorry.
-/
import Derived.Test.YtfmkhopkmmgadabChecked
import GoSem.Claim
import GoSem.ClaimJoined
import GoSem.ClaimMapViews
import Derived.JoinedTies
import Derived.KernelRfl
namespace Go.Proofs.Ytfmkhopkmmgadab
/- THE CELL 'sum', in the pinned program and in every row, IS THE sha256 OF THE DUMP (.gsa) THAT YtfmkhopkmmgadabProg.lean LOADS. Nothing in Lean hashes anything: it is a label: what it is worth is what the hold of that sum in a sandbox is worth. -/
noncomputable def Try.pinned : Pinned := { name := "ytfmkhopkmmgadab", sum := "8e7bc03aecaed621ed9dca47d88e0fcad3010ba98ab30e1b0a574e129f989008", checked := Try.checked }
namespace Rows
def none {H : Type} : Left H := { results := [], args := [] }

/-- 'laws.FnExactNewestOf': WHATEVER THE INPUT: true; the input reads as it did. -/
def fnExactNewestOfSpec : ChangeSpec := { name := "fnExactNewestOf", fn := fun _ => fun
  | [d1, d2] => { results := [.lit (.bool true)], args := [d1, d2] }
  | _ => none }
def fnExactNewestOfRow : OpenClaim := { program := "ytfmkhopkmmgadab", sum := "8e7bc03aecaed621ed9dca47d88e0fcad3010ba98ab30e1b0a574e129f989008", func := "loop.example/g00311/laws.FnExactNewestOf", spec := "fnExactNewestOf", apart := false }
def FnExactNewestOfSaid : Prop := fnExactNewestOfRow.holds Try.pinned (OpenSpec.ofChange fnExactNewestOfSpec)

/-- ITS FALSE NEIGHBOUR: 'it returns false'. Refute it at one input. -/
def fnExactNewestOfWrong : ChangeSpec := { name := "fnExactNewestOf", fn := fun _ => fun
  | [d1, d2] => { results := [.lit (.bool false)], args := [d1, d2] }
  | _ => none }
def FnExactNewestOfWrongFalsely : Prop := fnExactNewestOfRow.holds Try.pinned (OpenSpec.ofChange fnExactNewestOfWrong)

/-- 'laws.FnExactHeaderIn': WHATEVER THE INPUT: true; the input reads as it did. -/
def fnExactHeaderInSpec : ChangeSpec := { name := "fnExactHeaderIn", fn := fun _ => fun
  | [d] => { results := [.lit (.bool true)], args := [d] }
  | _ => none }
def fnExactHeaderInRow : OpenClaim := { program := "ytfmkhopkmmgadab", sum := "8e7bc03aecaed621ed9dca47d88e0fcad3010ba98ab30e1b0a574e129f989008", func := "loop.example/g00311/laws.FnExactHeaderIn", spec := "fnExactHeaderIn", apart := false }
def FnExactHeaderInSaid : Prop := fnExactHeaderInRow.holds Try.pinned (OpenSpec.ofChange fnExactHeaderInSpec)

/-- ITS FALSE NEIGHBOUR: 'it returns false'. Refute it at one input. -/
def fnExactHeaderInWrong : ChangeSpec := { name := "fnExactHeaderIn", fn := fun _ => fun
  | [d] => { results := [.lit (.bool false)], args := [d] }
  | _ => none }
def FnExactHeaderInWrongFalsely : Prop := fnExactHeaderInRow.holds Try.pinned (OpenSpec.ofChange fnExactHeaderInWrong)

/-- 'laws.FnExactFormatDisk': WHATEVER THE INPUT: true; the input reads as it did. -/
def fnExactFormatDiskSpec : ChangeSpec := { name := "fnExactFormatDisk", fn := fun _ => fun
  | [d] => { results := [.lit (.bool true)], args := [d] }
  | _ => none }
def fnExactFormatDiskRow : OpenClaim := { program := "ytfmkhopkmmgadab", sum := "8e7bc03aecaed621ed9dca47d88e0fcad3010ba98ab30e1b0a574e129f989008", func := "loop.example/g00311/laws.FnExactFormatDisk", spec := "fnExactFormatDisk", apart := false }
def FnExactFormatDiskSaid : Prop := fnExactFormatDiskRow.holds Try.pinned (OpenSpec.ofChange fnExactFormatDiskSpec)

/-- ITS FALSE NEIGHBOUR: 'it returns false'. Refute it at one input. -/
def fnExactFormatDiskWrong : ChangeSpec := { name := "fnExactFormatDisk", fn := fun _ => fun
  | [d] => { results := [.lit (.bool false)], args := [d] }
  | _ => none }
def FnExactFormatDiskWrongFalsely : Prop := fnExactFormatDiskRow.holds Try.pinned (OpenSpec.ofChange fnExactFormatDiskWrong)

/- THE SECOND FORM. 'bulk': how many values and letters a reading holds, each counted each time it is reached (what is shared counts as often as it is met; a slice's spare places count too). A statement '..UptoSaid' is the law's where the arguments, and the package variables that the reading takes, are together of bulk at most 1048576: NARROWER than '..Said'. Prove '..Said' where nothing that the law and all that it calls make is longer than what came in: it says more and counts as full. Else prove '..UptoSaid'. A law counts once. -/
mutual
def uptoBulk {H : Type} : DataW H → Nat
  | .lit (.string bytes) => bytes.length + 1
  | .lit _ => 1
  | .nil => 1
  | .ptr d => uptoBulk d + 1
  | .slice elems spare => uptoBulkAll elems + uptoBulkAll spare + 1
  | .agg parts => uptoBulkAll parts + 1
  | .iface _ d => uptoBulk d + 1
  | .map entries => uptoBulkEntries entries + 1
  | .held _ => 1
def uptoBulkAll {H : Type} : List (DataW H) → Nat
  | [] => 0
  | d :: r => uptoBulk d + uptoBulkAll r
def uptoBulkEntries {H : Type} : List (Lit × DataW H) → Nat
  | [] => 0
  | x :: r => uptoBulkEntry x + uptoBulkEntries r
def uptoBulkEntry {H : Type} : Lit × DataW H → Nat
  | (.string bytes, d) => bytes.length + uptoBulk d + 1
  | (_, d) => uptoBulk d + 1
 end
def uptoSmall : (H : Type) → List (DataW H) → Bool := fun _ ds => decide (uptoBulkAll ds ≤ 1048576)
def OpenSpec.upto (s : _root_.Go.ChangeSpec) : _root_.Go.OpenSpec := { _root_.Go.OpenSpec.ofChange s with cond := some uptoSmall }

/-- 'laws.FnExactNewestOf', WHERE WHAT IT READS IS OF BULK AT MOST 1048576: true; the input reads as it did. -/
def fnExactNewestOfUptoRow : OpenClaim := { program := "ytfmkhopkmmgadab", sum := "8e7bc03aecaed621ed9dca47d88e0fcad3010ba98ab30e1b0a574e129f989008", func := "loop.example/g00311/laws.FnExactNewestOf", spec := "fnExactNewestOf", apart := false, narrowed := true }
def FnExactNewestOfUptoSaid : Prop := fnExactNewestOfUptoRow.holds Try.pinned (OpenSpec.upto fnExactNewestOfSpec)

/-- 'laws.FnExactHeaderIn', WHERE WHAT IT READS IS OF BULK AT MOST 1048576: true; the input reads as it did. -/
def fnExactHeaderInUptoRow : OpenClaim := { program := "ytfmkhopkmmgadab", sum := "8e7bc03aecaed621ed9dca47d88e0fcad3010ba98ab30e1b0a574e129f989008", func := "loop.example/g00311/laws.FnExactHeaderIn", spec := "fnExactHeaderIn", apart := false, narrowed := true }
def FnExactHeaderInUptoSaid : Prop := fnExactHeaderInUptoRow.holds Try.pinned (OpenSpec.upto fnExactHeaderInSpec)

/-- 'laws.FnExactFormatDisk', WHERE WHAT IT READS IS OF BULK AT MOST 1048576: true; the input reads as it did. -/
def fnExactFormatDiskUptoRow : OpenClaim := { program := "ytfmkhopkmmgadab", sum := "8e7bc03aecaed621ed9dca47d88e0fcad3010ba98ab30e1b0a574e129f989008", func := "loop.example/g00311/laws.FnExactFormatDisk", spec := "fnExactFormatDisk", apart := false, narrowed := true }
def FnExactFormatDiskUptoSaid : Prop := fnExactFormatDiskUptoRow.holds Try.pinned (OpenSpec.upto fnExactFormatDiskSpec)

end Rows
end Go.Proofs.Ytfmkhopkmmgadab
