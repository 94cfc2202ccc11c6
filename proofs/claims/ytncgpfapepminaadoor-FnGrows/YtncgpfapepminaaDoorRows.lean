/-
  NARROWER THAN 'FOR EVERY INPUT', by the rows' own cells (each row's printed sentence says how): FnHards: ifaces, laid · FnGrows: ifaces, laid · FnCompacts: ifaces, laid.
  DERIVED. THE GIVEN ROWS OF THIS SEAT. 3 by the template 'for every input the law returns true; each argument reads behind the call as it read before'; 0 by the template 'total and deterministic' (their statements: YtncgpfapepminaaDoorTotals.lean).
  GIVEN WITH THE SEED: the statements are not yours to turn. If you find one false, say at which input.
  Laid BY PROGRAM, IN A SANDBOX (cutbox-rows.mjs): the forced cells as the released guide's own fill.sh prints them over the translation 077cda561d2d0e19… (all of the seat's roots in one cut). By AI agents, Wed Nov 11 2026. No macro, syntax, notation, axiom, sorry.
-/
import Derived.Test.YtncgpfapepminaaDoorChecked
import GoSem.Claim
import GoSem.ClaimJoined
import GoSem.ClaimMapViews
import Derived.JoinedTies
import Derived.KernelRfl
namespace Go.Proofs.YtncgpfapepminaaDoor
/- THE CELL 'sum', in the pinned program and in every row, IS THE sha256 OF THE DUMP (.gsa) THAT YtncgpfapepminaaDoorProg.lean LOADS. Nothing in Lean hashes anything: it is a label: what it is worth is what the hold of that sum in a sandbox is worth. -/
noncomputable def Tryd.pinned : Pinned := { name := "ytncgpfapepminaadoor", sum := "077cda561d2d0e196974a55982a97218f1810960a9382ce85ac7dee8cd581fd6", checked := Tryd.checked }
namespace Rows
def none {H : Type} : Left H := { results := [], args := [] }

/- WHAT THE LISTED PACKAGE-LEVEL VARIABLES READ AS WHEN THE CALL BEGINS. Each datum BY PROGRAM (the guide's laid-datum.mjs) off the statement by which the dump's own 'gosem.cut.vars' lays the variable. In a bare row this is a premise. The card (YtncgpfapepminaaDoorCards.lean) ties it to the program's text. -/
def laid_errors_errorType {H : Type} : DataW H := .iface "internal/reflectlite.rtype" (.agg [.ptr (.lit (.string [101, 114, 114, 111, 114]))])
def laid_loop_example_g00311_impl_errNotYet {H : Type} : DataW H := .iface "*errors.errorString" (.ptr (.agg [.lit (.string [110, 111, 116, 104, 105, 110, 103, 32, 105, 115, 32, 116, 104, 101, 114, 101, 32, 121, 101, 116])]))

/-- 'laws.FnHards': WHATEVER THE INPUT: true; the input reads as it did. -/
def fnHardsSpec : ChangeSpec := { name := "fnHards", vars := ["loop.example/g00311/impl.errNotYet"], fn := fun _ => fun
  | [d, g1] => { results := [.lit (.bool true)], args := [d], vars := [g1] }
  | _ => none }
def fnHardsRow : OpenClaim := { program := "ytncgpfapepminaadoor", sum := "077cda561d2d0e196974a55982a97218f1810960a9382ce85ac7dee8cd581fd6", func := "loop.example/g00311/laws.FnHards", spec := "fnHards", inPlace := ["internal/reflectlite.ValueOf", "(internal/reflectlite.Value).Type", "(internal/reflectlite.Value).IsNil", "internal/reflectlite.TypeOf", "(internal/reflectlite.Value).Elem", "(internal/reflectlite.Value).Set"], unfollowed := true, recurses := true, named := ["loop.example/g00311/impl.errNotYet", "errors.errorType"], ifaces := true, apart := false, laid := [("errors.errorType", laid_errors_errorType), ("loop.example/g00311/impl.errNotYet", laid_loop_example_g00311_impl_errNotYet)] }
def FnHardsSaid : Prop := fnHardsRow.holds Tryd.pinned (OpenSpec.ofChange fnHardsSpec)

/-- ITS FALSE NEIGHBOUR: 'it returns false'. Refute it at one input. -/
def fnHardsWrong : ChangeSpec := { name := "fnHards", vars := ["loop.example/g00311/impl.errNotYet"], fn := fun _ => fun
  | [d, g1] => { results := [.lit (.bool false)], args := [d], vars := [g1] }
  | _ => none }
def FnHardsWrongFalsely : Prop := fnHardsRow.holds Tryd.pinned (OpenSpec.ofChange fnHardsWrong)

/-- 'laws.FnGrows': WHATEVER THE INPUT: true; the input reads as it did. -/
def fnGrowsSpec : ChangeSpec := { name := "fnGrows", vars := ["loop.example/g00311/impl.errNotYet"], fn := fun _ => fun
  | [d, g1] => { results := [.lit (.bool true)], args := [d], vars := [g1] }
  | _ => none }
def fnGrowsRow : OpenClaim := { program := "ytncgpfapepminaadoor", sum := "077cda561d2d0e196974a55982a97218f1810960a9382ce85ac7dee8cd581fd6", func := "loop.example/g00311/laws.FnGrows", spec := "fnGrows", inPlace := ["internal/reflectlite.ValueOf", "(internal/reflectlite.Value).Type", "(internal/reflectlite.Value).IsNil", "internal/reflectlite.TypeOf", "(internal/reflectlite.Value).Elem", "(internal/reflectlite.Value).Set"], unfollowed := true, recurses := true, named := ["loop.example/g00311/impl.errNotYet", "errors.errorType"], ifaces := true, apart := false, laid := [("errors.errorType", laid_errors_errorType), ("loop.example/g00311/impl.errNotYet", laid_loop_example_g00311_impl_errNotYet)] }
def FnGrowsSaid : Prop := fnGrowsRow.holds Tryd.pinned (OpenSpec.ofChange fnGrowsSpec)

/-- ITS FALSE NEIGHBOUR: 'it returns false'. Refute it at one input. -/
def fnGrowsWrong : ChangeSpec := { name := "fnGrows", vars := ["loop.example/g00311/impl.errNotYet"], fn := fun _ => fun
  | [d, g1] => { results := [.lit (.bool false)], args := [d], vars := [g1] }
  | _ => none }
def FnGrowsWrongFalsely : Prop := fnGrowsRow.holds Tryd.pinned (OpenSpec.ofChange fnGrowsWrong)

/-- 'laws.FnCompacts': WHATEVER THE INPUT: true; the input reads as it did. -/
def fnCompactsSpec : ChangeSpec := { name := "fnCompacts", vars := ["loop.example/g00311/impl.errNotYet"], fn := fun _ => fun
  | [d, g1] => { results := [.lit (.bool true)], args := [d], vars := [g1] }
  | _ => none }
def fnCompactsRow : OpenClaim := { program := "ytncgpfapepminaadoor", sum := "077cda561d2d0e196974a55982a97218f1810960a9382ce85ac7dee8cd581fd6", func := "loop.example/g00311/laws.FnCompacts", spec := "fnCompacts", inPlace := ["internal/reflectlite.ValueOf", "(internal/reflectlite.Value).Type", "(internal/reflectlite.Value).IsNil", "internal/reflectlite.TypeOf", "(internal/reflectlite.Value).Elem", "(internal/reflectlite.Value).Set"], unfollowed := true, recurses := true, named := ["loop.example/g00311/impl.errNotYet", "errors.errorType"], ifaces := true, apart := false, laid := [("errors.errorType", laid_errors_errorType), ("loop.example/g00311/impl.errNotYet", laid_loop_example_g00311_impl_errNotYet)] }
def FnCompactsSaid : Prop := fnCompactsRow.holds Tryd.pinned (OpenSpec.ofChange fnCompactsSpec)

/-- ITS FALSE NEIGHBOUR: 'it returns false'. Refute it at one input. -/
def fnCompactsWrong : ChangeSpec := { name := "fnCompacts", vars := ["loop.example/g00311/impl.errNotYet"], fn := fun _ => fun
  | [d, g1] => { results := [.lit (.bool false)], args := [d], vars := [g1] }
  | _ => none }
def FnCompactsWrongFalsely : Prop := fnCompactsRow.holds Tryd.pinned (OpenSpec.ofChange fnCompactsWrong)

/- THE SECOND FORM. 'bulk': how many values and letters a reading holds, each counted each time it is reached (what is shared counts as often as it is met; a slice's spare places count too). A statement '..UptoSaid' is the law's where the arguments, and the package variables that the reading takes, are together of bulk at most 1048576: NARROWER than '..Said'. Prove '..Said' where nothing that the law and all that it calls make is longer than what came in: it says more and counts as full. Else prove '..UptoSaid'. A law counts once. -/
mutual
def uptoBulk {H : Type} : DataW H → Nat
  | .lit (.string bytes) => bytes.length + 1
  | .lit _ => 1
  | .nil => 1
  | .ptr d => uptoBulk d + 1
  | .slice elems spare => uptoBulkAll elems + uptoBulkAll spare + 1
  | .agg parts => uptoBulkAll parts + 1
  | .iface _ d => uptoBulk d + 1
  | .map entries => uptoBulkEntries entries + 1
  | .held _ => 1
def uptoBulkAll {H : Type} : List (DataW H) → Nat
  | [] => 0
  | d :: r => uptoBulk d + uptoBulkAll r
def uptoBulkEntries {H : Type} : List (Lit × DataW H) → Nat
  | [] => 0
  | x :: r => uptoBulkEntry x + uptoBulkEntries r
def uptoBulkEntry {H : Type} : Lit × DataW H → Nat
  | (.string bytes, d) => bytes.length + uptoBulk d + 1
  | (_, d) => uptoBulk d + 1
 end
def uptoSmall : (H : Type) → List (DataW H) → Bool := fun _ ds => decide (uptoBulkAll ds ≤ 1048576)
def OpenSpec.upto (s : _root_.Go.ChangeSpec) : _root_.Go.OpenSpec := { _root_.Go.OpenSpec.ofChange s with cond := some uptoSmall }

/-- 'laws.FnHards', WHERE WHAT IT READS IS OF BULK AT MOST 1048576: true; the input reads as it did. -/
def fnHardsUptoRow : OpenClaim := { program := "ytncgpfapepminaadoor", sum := "077cda561d2d0e196974a55982a97218f1810960a9382ce85ac7dee8cd581fd6", func := "loop.example/g00311/laws.FnHards", spec := "fnHards", inPlace := ["internal/reflectlite.ValueOf", "(internal/reflectlite.Value).Type", "(internal/reflectlite.Value).IsNil", "internal/reflectlite.TypeOf", "(internal/reflectlite.Value).Elem", "(internal/reflectlite.Value).Set"], unfollowed := true, recurses := true, named := ["loop.example/g00311/impl.errNotYet", "errors.errorType"], ifaces := true, apart := false, laid := [("errors.errorType", laid_errors_errorType), ("loop.example/g00311/impl.errNotYet", laid_loop_example_g00311_impl_errNotYet)], narrowed := true }
def FnHardsUptoSaid : Prop := fnHardsUptoRow.holds Tryd.pinned (OpenSpec.upto fnHardsSpec)

/-- 'laws.FnGrows', WHERE WHAT IT READS IS OF BULK AT MOST 1048576: true; the input reads as it did. -/
def fnGrowsUptoRow : OpenClaim := { program := "ytncgpfapepminaadoor", sum := "077cda561d2d0e196974a55982a97218f1810960a9382ce85ac7dee8cd581fd6", func := "loop.example/g00311/laws.FnGrows", spec := "fnGrows", inPlace := ["internal/reflectlite.ValueOf", "(internal/reflectlite.Value).Type", "(internal/reflectlite.Value).IsNil", "internal/reflectlite.TypeOf", "(internal/reflectlite.Value).Elem", "(internal/reflectlite.Value).Set"], unfollowed := true, recurses := true, named := ["loop.example/g00311/impl.errNotYet", "errors.errorType"], ifaces := true, apart := false, laid := [("errors.errorType", laid_errors_errorType), ("loop.example/g00311/impl.errNotYet", laid_loop_example_g00311_impl_errNotYet)], narrowed := true }
def FnGrowsUptoSaid : Prop := fnGrowsUptoRow.holds Tryd.pinned (OpenSpec.upto fnGrowsSpec)

/-- 'laws.FnCompacts', WHERE WHAT IT READS IS OF BULK AT MOST 1048576: true; the input reads as it did. -/
def fnCompactsUptoRow : OpenClaim := { program := "ytncgpfapepminaadoor", sum := "077cda561d2d0e196974a55982a97218f1810960a9382ce85ac7dee8cd581fd6", func := "loop.example/g00311/laws.FnCompacts", spec := "fnCompacts", inPlace := ["internal/reflectlite.ValueOf", "(internal/reflectlite.Value).Type", "(internal/reflectlite.Value).IsNil", "internal/reflectlite.TypeOf", "(internal/reflectlite.Value).Elem", "(internal/reflectlite.Value).Set"], unfollowed := true, recurses := true, named := ["loop.example/g00311/impl.errNotYet", "errors.errorType"], ifaces := true, apart := false, laid := [("errors.errorType", laid_errors_errorType), ("loop.example/g00311/impl.errNotYet", laid_loop_example_g00311_impl_errNotYet)], narrowed := true }
def FnCompactsUptoSaid : Prop := fnCompactsUptoRow.holds Tryd.pinned (OpenSpec.upto fnCompactsSpec)

end Rows
end Go.Proofs.YtncgpfapepminaaDoor
