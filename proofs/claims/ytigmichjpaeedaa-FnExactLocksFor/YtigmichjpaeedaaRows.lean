/-
  No cell of these rows narrows 'for every input' (looked for: loops, veiled, ifaces, maps, wideKeys, modest, calm, conditions, laid).
  DERIVED. THE GIVEN ROWS OF THIS SEAT. 3 by the template 'for every input the law returns true; each argument reads behind the call as it read before'; 0 by the template 'total and deterministic' (their statements: YtigmichjpaeedaaTotals.lean).
  GIVEN WITH THE SEED: the statements are not yours to turn. If you find one false, say at which input.
  Laid BY PROGRAM, IN A SANDBOX (cutbox-rows.mjs): the forced cells as the released guide's own fill.sh prints them over the translation 3631b303a7a8fcb5… (all of the seat's roots in one cut). By AI agents, Wed Nov 11 2026. No macro, syntax, notation, axiom, sorry.
-/
import Derived.Test.YtigmichjpaeedaaChecked
import GoSem.Claim
import GoSem.ClaimJoined
import GoSem.ClaimMapViews
import Derived.JoinedTies
import Derived.KernelRfl
namespace Go.Proofs.Ytigmichjpaeedaa
/- THE CELL 'sum', in the pinned program and in every row, IS THE sha256 OF THE DUMP (.gsa) THAT YtigmichjpaeedaaProg.lean LOADS. Nothing in Lean hashes anything: it is a label: what it is worth is what the hold of that sum in a sandbox is worth. -/
noncomputable def Try.pinned : Pinned := { name := "ytigmichjpaeedaa", sum := "3631b303a7a8fcb507f71600032f6639155c08a01dcb75e7e31ac457a173055e", checked := Try.checked }
namespace Rows
def none {H : Type} : Left H := { results := [], args := [] }

/-- 'laws.FnExactOpFault': WHATEVER THE INPUT: true; the input reads as it did. -/
def fnExactOpFaultSpec : ChangeSpec := { name := "fnExactOpFault", fn := fun _ => fun
  | [d] => { results := [.lit (.bool true)], args := [d] }
  | _ => none }
def fnExactOpFaultRow : OpenClaim := { program := "ytigmichjpaeedaa", sum := "3631b303a7a8fcb507f71600032f6639155c08a01dcb75e7e31ac457a173055e", func := "loop.example/g00311/laws.FnExactOpFault", spec := "fnExactOpFault", apart := false }
def FnExactOpFaultSaid : Prop := fnExactOpFaultRow.holds Try.pinned (OpenSpec.ofChange fnExactOpFaultSpec)

/-- ITS FALSE NEIGHBOUR: 'it returns false'. Refute it at one input. -/
def fnExactOpFaultWrong : ChangeSpec := { name := "fnExactOpFault", fn := fun _ => fun
  | [d] => { results := [.lit (.bool false)], args := [d] }
  | _ => none }
def FnExactOpFaultWrongFalsely : Prop := fnExactOpFaultRow.holds Try.pinned (OpenSpec.ofChange fnExactOpFaultWrong)

/-- 'laws.FnExactCommitAt': WHATEVER THE INPUT: true; the input reads as it did. -/
def fnExactCommitAtSpec : ChangeSpec := { name := "fnExactCommitAt", fn := fun _ => fun
  | [d] => { results := [.lit (.bool true)], args := [d] }
  | _ => none }
def fnExactCommitAtRow : OpenClaim := { program := "ytigmichjpaeedaa", sum := "3631b303a7a8fcb507f71600032f6639155c08a01dcb75e7e31ac457a173055e", func := "loop.example/g00311/laws.FnExactCommitAt", spec := "fnExactCommitAt", apart := false }
def FnExactCommitAtSaid : Prop := fnExactCommitAtRow.holds Try.pinned (OpenSpec.ofChange fnExactCommitAtSpec)

/-- ITS FALSE NEIGHBOUR: 'it returns false'. Refute it at one input. -/
def fnExactCommitAtWrong : ChangeSpec := { name := "fnExactCommitAt", fn := fun _ => fun
  | [d] => { results := [.lit (.bool false)], args := [d] }
  | _ => none }
def FnExactCommitAtWrongFalsely : Prop := fnExactCommitAtRow.holds Try.pinned (OpenSpec.ofChange fnExactCommitAtWrong)

/-- 'laws.FnExactLocksFor': WHATEVER THE INPUT: true; the input reads as it did. -/
def fnExactLocksForSpec : ChangeSpec := { name := "fnExactLocksFor", fn := fun _ => fun
  | [d] => { results := [.lit (.bool true)], args := [d] }
  | _ => none }
def fnExactLocksForRow : OpenClaim := { program := "ytigmichjpaeedaa", sum := "3631b303a7a8fcb507f71600032f6639155c08a01dcb75e7e31ac457a173055e", func := "loop.example/g00311/laws.FnExactLocksFor", spec := "fnExactLocksFor", recurses := true, apart := false }
def FnExactLocksForSaid : Prop := fnExactLocksForRow.holds Try.pinned (OpenSpec.ofChange fnExactLocksForSpec)

/-- ITS FALSE NEIGHBOUR: 'it returns false'. Refute it at one input. -/
def fnExactLocksForWrong : ChangeSpec := { name := "fnExactLocksFor", fn := fun _ => fun
  | [d] => { results := [.lit (.bool false)], args := [d] }
  | _ => none }
def FnExactLocksForWrongFalsely : Prop := fnExactLocksForRow.holds Try.pinned (OpenSpec.ofChange fnExactLocksForWrong)

/- THE SECOND FORM. 'bulk': how many values and letters a reading holds, each counted each time it is reached (what is shared counts as often as it is met; a slice's spare places count too). A statement '..UptoSaid' is the law's where the arguments, and the package variables that the reading takes, are together of bulk at most 1048576: NARROWER than '..Said'. Prove '..Said' where nothing that the law and all that it calls make is longer than what came in: it says more and counts as full. Else prove '..UptoSaid'. A law counts once. -/
mutual
def uptoBulk {H : Type} : DataW H → Nat
  | .lit (.string bytes) => bytes.length + 1
  | .lit _ => 1
  | .nil => 1
  | .ptr d => uptoBulk d + 1
  | .slice elems spare => uptoBulkAll elems + uptoBulkAll spare + 1
  | .agg parts => uptoBulkAll parts + 1
  | .iface _ d => uptoBulk d + 1
  | .map entries => uptoBulkEntries entries + 1
  | .held _ => 1
def uptoBulkAll {H : Type} : List (DataW H) → Nat
  | [] => 0
  | d :: r => uptoBulk d + uptoBulkAll r
def uptoBulkEntries {H : Type} : List (Lit × DataW H) → Nat
  | [] => 0
  | x :: r => uptoBulkEntry x + uptoBulkEntries r
def uptoBulkEntry {H : Type} : Lit × DataW H → Nat
  | (.string bytes, d) => bytes.length + uptoBulk d + 1
  | (_, d) => uptoBulk d + 1
 end
def uptoSmall : (H : Type) → List (DataW H) → Bool := fun _ ds => decide (uptoBulkAll ds ≤ 1048576)
def OpenSpec.upto (s : _root_.Go.ChangeSpec) : _root_.Go.OpenSpec := { _root_.Go.OpenSpec.ofChange s with cond := some uptoSmall }

/-- 'laws.FnExactOpFault', WHERE WHAT IT READS IS OF BULK AT MOST 1048576: true; the input reads as it did. -/
def fnExactOpFaultUptoRow : OpenClaim := { program := "ytigmichjpaeedaa", sum := "3631b303a7a8fcb507f71600032f6639155c08a01dcb75e7e31ac457a173055e", func := "loop.example/g00311/laws.FnExactOpFault", spec := "fnExactOpFault", apart := false, narrowed := true }
def FnExactOpFaultUptoSaid : Prop := fnExactOpFaultUptoRow.holds Try.pinned (OpenSpec.upto fnExactOpFaultSpec)

/-- 'laws.FnExactCommitAt', WHERE WHAT IT READS IS OF BULK AT MOST 1048576: true; the input reads as it did. -/
def fnExactCommitAtUptoRow : OpenClaim := { program := "ytigmichjpaeedaa", sum := "3631b303a7a8fcb507f71600032f6639155c08a01dcb75e7e31ac457a173055e", func := "loop.example/g00311/laws.FnExactCommitAt", spec := "fnExactCommitAt", apart := false, narrowed := true }
def FnExactCommitAtUptoSaid : Prop := fnExactCommitAtUptoRow.holds Try.pinned (OpenSpec.upto fnExactCommitAtSpec)

/-- 'laws.FnExactLocksFor', WHERE WHAT IT READS IS OF BULK AT MOST 1048576: true; the input reads as it did. -/
def fnExactLocksForUptoRow : OpenClaim := { program := "ytigmichjpaeedaa", sum := "3631b303a7a8fcb507f71600032f6639155c08a01dcb75e7e31ac457a173055e", func := "loop.example/g00311/laws.FnExactLocksFor", spec := "fnExactLocksFor", recurses := true, apart := false, narrowed := true }
def FnExactLocksForUptoSaid : Prop := fnExactLocksForUptoRow.holds Try.pinned (OpenSpec.upto fnExactLocksForSpec)

end Rows
end Go.Proofs.Ytigmichjpaeedaa
