/-
  No cell of these rows narrows 'for every input' (looked for: loops, veiled, ifaces, maps, wideKeys, modest, calm, conditions, laid).
  DERIVED. THE GIVEN ROWS OF THIS SEAT. 3 by the template 'for every input the law returns true; each argument reads behind the call as it read before'; 0 by the template 'total and deterministic' (their statements: YtlmaopljihbdkaaGreatTotals.lean).
  GIVEN WITH THE SEED: the statements are not yours to turn. If you find one false, say at which input.
  Laid BY PROGRAM, IN A SANDBOX (cutbox-rows.mjs): the forced cells as the released guide's own fill.sh prints them over the translation a7c30b7e00d40505… (all of the seat's roots in one cut). By AI agents, Wed Nov 11 2026. No macro, syntax, notation, axiom, sorry.
-/
import Derived.Test.YtlmaopljihbdkaaGreatChecked
import GoSem.Claim
import GoSem.ClaimJoined
import GoSem.ClaimMapViews
import Derived.JoinedTies
import Derived.KernelRfl
namespace Go.Proofs.YtlmaopljihbdkaaGreat
/- THE CELL 'sum', in the pinned program and in every row, IS THE sha256 OF THE DUMP (.gsa) THAT YtlmaopljihbdkaaGreatProg.lean LOADS. Nothing in Lean hashes anything: it is a label: what it is worth is what the hold of that sum in a sandbox is worth. -/
noncomputable def Tryz.pinned : Pinned := { name := "ytlmaopljihbdkaagreat", sum := "a7c30b7e00d4050543cda6f481bf03230fa63193b24222000333474e5f298c09", checked := Tryz.checked }
namespace Rows
def none {H : Type} : Left H := { results := [], args := [] }

/-- 'laws.FnExactImageOf': WHATEVER THE INPUT: true; the input reads as it did. -/
def fnExactImageOfSpec : ChangeSpec := { name := "fnExactImageOf", fn := fun _ => fun
  | [d] => { results := [.lit (.bool true)], args := [d] }
  | _ => none }
def fnExactImageOfRow : OpenClaim := { program := "ytlmaopljihbdkaagreat", sum := "a7c30b7e00d4050543cda6f481bf03230fa63193b24222000333474e5f298c09", func := "loop.example/g00311/laws.FnExactImageOf", spec := "fnExactImageOf", unfollowed := true, recurses := true, apart := false }
def FnExactImageOfSaid : Prop := fnExactImageOfRow.holds Tryz.pinned (OpenSpec.ofChange fnExactImageOfSpec)

/-- ITS FALSE NEIGHBOUR: 'it returns false'. Refute it at one input. -/
def fnExactImageOfWrong : ChangeSpec := { name := "fnExactImageOf", fn := fun _ => fun
  | [d] => { results := [.lit (.bool false)], args := [d] }
  | _ => none }
def FnExactImageOfWrongFalsely : Prop := fnExactImageOfRow.holds Tryz.pinned (OpenSpec.ofChange fnExactImageOfWrong)

/-- 'laws.FnExactLoadRaft': WHATEVER THE INPUT: true; the input reads as it did. -/
def fnExactLoadRaftSpec : ChangeSpec := { name := "fnExactLoadRaft", fn := fun _ => fun
  | [d] => { results := [.lit (.bool true)], args := [d] }
  | _ => none }
def fnExactLoadRaftRow : OpenClaim := { program := "ytlmaopljihbdkaagreat", sum := "a7c30b7e00d4050543cda6f481bf03230fa63193b24222000333474e5f298c09", func := "loop.example/g00311/laws.FnExactLoadRaft", spec := "fnExactLoadRaft", inPlace := ["maps.clone"], unfollowed := true, recurses := true, apart := false }
def FnExactLoadRaftSaid : Prop := fnExactLoadRaftRow.holds Tryz.pinned (OpenSpec.ofChange fnExactLoadRaftSpec)

/-- ITS FALSE NEIGHBOUR: 'it returns false'. Refute it at one input. -/
def fnExactLoadRaftWrong : ChangeSpec := { name := "fnExactLoadRaft", fn := fun _ => fun
  | [d] => { results := [.lit (.bool false)], args := [d] }
  | _ => none }
def FnExactLoadRaftWrongFalsely : Prop := fnExactLoadRaftRow.holds Tryz.pinned (OpenSpec.ofChange fnExactLoadRaftWrong)

/-- 'laws.FnExactWorldFault': WHATEVER THE INPUT: true; the input reads as it did. -/
def fnExactWorldFaultSpec : ChangeSpec := { name := "fnExactWorldFault", fn := fun _ => fun
  | [d] => { results := [.lit (.bool true)], args := [d] }
  | _ => none }
def fnExactWorldFaultRow : OpenClaim := { program := "ytlmaopljihbdkaagreat", sum := "a7c30b7e00d4050543cda6f481bf03230fa63193b24222000333474e5f298c09", func := "loop.example/g00311/laws.FnExactWorldFault", spec := "fnExactWorldFault", inPlace := ["maps.clone"], unfollowed := true, recurses := true, apart := false }
def FnExactWorldFaultSaid : Prop := fnExactWorldFaultRow.holds Tryz.pinned (OpenSpec.ofChange fnExactWorldFaultSpec)

/-- ITS FALSE NEIGHBOUR: 'it returns false'. Refute it at one input. -/
def fnExactWorldFaultWrong : ChangeSpec := { name := "fnExactWorldFault", fn := fun _ => fun
  | [d] => { results := [.lit (.bool false)], args := [d] }
  | _ => none }
def FnExactWorldFaultWrongFalsely : Prop := fnExactWorldFaultRow.holds Tryz.pinned (OpenSpec.ofChange fnExactWorldFaultWrong)

/- THE SECOND FORM. 'bulk': how many values and letters a reading holds, each counted each time it is reached (what is shared counts as often as it is met; a slice's spare places count too). A statement '..UptoSaid' is the law's where the arguments, and the package variables that the reading takes, are together of bulk at most 1048576: NARROWER than '..Said'. Prove '..Said' where nothing that the law and all that it calls make is longer than what came in: it says more and counts as full. Else prove '..UptoSaid'. A law counts once. -/
mutual
def uptoBulk {H : Type} : DataW H → Nat
  | .lit (.string bytes) => bytes.length + 1
  | .lit _ => 1
  | .nil => 1
  | .ptr d => uptoBulk d + 1
  | .slice elems spare => uptoBulkAll elems + uptoBulkAll spare + 1
  | .agg parts => uptoBulkAll parts + 1
  | .iface _ d => uptoBulk d + 1
  | .map entries => uptoBulkEntries entries + 1
  | .held _ => 1
def uptoBulkAll {H : Type} : List (DataW H) → Nat
  | [] => 0
  | d :: r => uptoBulk d + uptoBulkAll r
def uptoBulkEntries {H : Type} : List (Lit × DataW H) → Nat
  | [] => 0
  | x :: r => uptoBulkEntry x + uptoBulkEntries r
def uptoBulkEntry {H : Type} : Lit × DataW H → Nat
  | (.string bytes, d) => bytes.length + uptoBulk d + 1
  | (_, d) => uptoBulk d + 1
 end
def uptoSmall : (H : Type) → List (DataW H) → Bool := fun _ ds => decide (uptoBulkAll ds ≤ 1048576)
def OpenSpec.upto (s : _root_.Go.ChangeSpec) : _root_.Go.OpenSpec := { _root_.Go.OpenSpec.ofChange s with cond := some uptoSmall }

/-- 'laws.FnExactImageOf', WHERE WHAT IT READS IS OF BULK AT MOST 1048576: true; the input reads as it did. -/
def fnExactImageOfUptoRow : OpenClaim := { program := "ytlmaopljihbdkaagreat", sum := "a7c30b7e00d4050543cda6f481bf03230fa63193b24222000333474e5f298c09", func := "loop.example/g00311/laws.FnExactImageOf", spec := "fnExactImageOf", unfollowed := true, recurses := true, apart := false, narrowed := true }
def FnExactImageOfUptoSaid : Prop := fnExactImageOfUptoRow.holds Tryz.pinned (OpenSpec.upto fnExactImageOfSpec)

/-- 'laws.FnExactLoadRaft', WHERE WHAT IT READS IS OF BULK AT MOST 1048576: true; the input reads as it did. -/
def fnExactLoadRaftUptoRow : OpenClaim := { program := "ytlmaopljihbdkaagreat", sum := "a7c30b7e00d4050543cda6f481bf03230fa63193b24222000333474e5f298c09", func := "loop.example/g00311/laws.FnExactLoadRaft", spec := "fnExactLoadRaft", inPlace := ["maps.clone"], unfollowed := true, recurses := true, apart := false, narrowed := true }
def FnExactLoadRaftUptoSaid : Prop := fnExactLoadRaftUptoRow.holds Tryz.pinned (OpenSpec.upto fnExactLoadRaftSpec)

/-- 'laws.FnExactWorldFault', WHERE WHAT IT READS IS OF BULK AT MOST 1048576: true; the input reads as it did. -/
def fnExactWorldFaultUptoRow : OpenClaim := { program := "ytlmaopljihbdkaagreat", sum := "a7c30b7e00d4050543cda6f481bf03230fa63193b24222000333474e5f298c09", func := "loop.example/g00311/laws.FnExactWorldFault", spec := "fnExactWorldFault", inPlace := ["maps.clone"], unfollowed := true, recurses := true, apart := false, narrowed := true }
def FnExactWorldFaultUptoSaid : Prop := fnExactWorldFaultUptoRow.holds Tryz.pinned (OpenSpec.upto fnExactWorldFaultSpec)

end Rows
end Go.Proofs.YtlmaopljihbdkaaGreat
