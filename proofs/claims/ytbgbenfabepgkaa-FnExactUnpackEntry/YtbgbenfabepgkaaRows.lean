/-
  No cell of these rows narrows 'for every input' (looked for: loops, veiled, ifaces, maps, wideKeys, modest, calm, conditions, laid).
  DERIVED. THE GIVEN ROWS OF THIS SEAT. 6 by the template 'for every input the law returns true; each argument reads behind the call as it read before'; 0 by the template 'total and deterministic' (their statements: YtbgbenfabepgkaaTotals.lean).
  GIVEN WITH THE SEED: the statements are not yours to turn. If you find one false, say at which input.
  Laid BY PROGRAM, IN A SANDBOX (cutbox-rows.mjs): the forced cells as the released guide's own fill.sh prints them over the translation 1bf567126dc9b997… (all of the seat's roots in one cut). By AI agents, Wed Nov 11 2026. No macro, syntax, notation, axiom, sorry.
-/
import Derived.Test.YtbgbenfabepgkaaChecked
import GoSem.Claim
import GoSem.ClaimJoined
import GoSem.ClaimMapViews
import Derived.JoinedTies
import Derived.KernelRfl
namespace Go.Proofs.Ytbgbenfabepgkaa
/- THE CELL 'sum', in the pinned program and in every row, IS THE sha256 OF THE DUMP (.gsa) THAT YtbgbenfabepgkaaProg.lean LOADS. Nothing in Lean hashes anything: it is a label: what it is worth is what the hold of that sum in a sandbox is worth. -/
noncomputable def Try.pinned : Pinned := { name := "ytbgbenfabepgkaa", sum := "1bf567126dc9b9975690d453a2c02d5a76d00918c46b44aad219a9a799155533", checked := Try.checked }
namespace Rows
def none {H : Type} : Left H := { results := [], args := [] }

/-- 'laws.FnExactEntryFault': WHATEVER THE INPUT: true; the input reads as it did. -/
def fnExactEntryFaultSpec : ChangeSpec := { name := "fnExactEntryFault", fn := fun _ => fun
  | [d] => { results := [.lit (.bool true)], args := [d] }
  | _ => none }
def fnExactEntryFaultRow : OpenClaim := { program := "ytbgbenfabepgkaa", sum := "1bf567126dc9b9975690d453a2c02d5a76d00918c46b44aad219a9a799155533", func := "loop.example/g00311/laws.FnExactEntryFault", spec := "fnExactEntryFault", apart := false }
def FnExactEntryFaultSaid : Prop := fnExactEntryFaultRow.holds Try.pinned (OpenSpec.ofChange fnExactEntryFaultSpec)

/-- ITS FALSE NEIGHBOUR: 'it returns false'. Refute it at one input. -/
def fnExactEntryFaultWrong : ChangeSpec := { name := "fnExactEntryFault", fn := fun _ => fun
  | [d] => { results := [.lit (.bool false)], args := [d] }
  | _ => none }
def FnExactEntryFaultWrongFalsely : Prop := fnExactEntryFaultRow.holds Try.pinned (OpenSpec.ofChange fnExactEntryFaultWrong)

/-- 'laws.FnExactLogFault': WHATEVER THE INPUT: true; the input reads as it did. -/
def fnExactLogFaultSpec : ChangeSpec := { name := "fnExactLogFault", fn := fun _ => fun
  | [d] => { results := [.lit (.bool true)], args := [d] }
  | _ => none }
def fnExactLogFaultRow : OpenClaim := { program := "ytbgbenfabepgkaa", sum := "1bf567126dc9b9975690d453a2c02d5a76d00918c46b44aad219a9a799155533", func := "loop.example/g00311/laws.FnExactLogFault", spec := "fnExactLogFault", apart := false }
def FnExactLogFaultSaid : Prop := fnExactLogFaultRow.holds Try.pinned (OpenSpec.ofChange fnExactLogFaultSpec)

/-- ITS FALSE NEIGHBOUR: 'it returns false'. Refute it at one input. -/
def fnExactLogFaultWrong : ChangeSpec := { name := "fnExactLogFault", fn := fun _ => fun
  | [d] => { results := [.lit (.bool false)], args := [d] }
  | _ => none }
def FnExactLogFaultWrongFalsely : Prop := fnExactLogFaultRow.holds Try.pinned (OpenSpec.ofChange fnExactLogFaultWrong)

/-- 'laws.FnExactPackEntry': WHATEVER THE INPUT: true; the input reads as it did. -/
def fnExactPackEntrySpec : ChangeSpec := { name := "fnExactPackEntry", fn := fun _ => fun
  | [d] => { results := [.lit (.bool true)], args := [d] }
  | _ => none }
def fnExactPackEntryRow : OpenClaim := { program := "ytbgbenfabepgkaa", sum := "1bf567126dc9b9975690d453a2c02d5a76d00918c46b44aad219a9a799155533", func := "loop.example/g00311/laws.FnExactPackEntry", spec := "fnExactPackEntry", apart := false }
def FnExactPackEntrySaid : Prop := fnExactPackEntryRow.holds Try.pinned (OpenSpec.ofChange fnExactPackEntrySpec)

/-- ITS FALSE NEIGHBOUR: 'it returns false'. Refute it at one input. -/
def fnExactPackEntryWrong : ChangeSpec := { name := "fnExactPackEntry", fn := fun _ => fun
  | [d] => { results := [.lit (.bool false)], args := [d] }
  | _ => none }
def FnExactPackEntryWrongFalsely : Prop := fnExactPackEntryRow.holds Try.pinned (OpenSpec.ofChange fnExactPackEntryWrong)

/-- 'laws.FnExactUnpackEntry': WHATEVER THE INPUT: true; the input reads as it did. -/
def fnExactUnpackEntrySpec : ChangeSpec := { name := "fnExactUnpackEntry", fn := fun _ => fun
  | [d] => { results := [.lit (.bool true)], args := [d] }
  | _ => none }
def fnExactUnpackEntryRow : OpenClaim := { program := "ytbgbenfabepgkaa", sum := "1bf567126dc9b9975690d453a2c02d5a76d00918c46b44aad219a9a799155533", func := "loop.example/g00311/laws.FnExactUnpackEntry", spec := "fnExactUnpackEntry", unfollowed := true, recurses := true, apart := false }
def FnExactUnpackEntrySaid : Prop := fnExactUnpackEntryRow.holds Try.pinned (OpenSpec.ofChange fnExactUnpackEntrySpec)

/-- ITS FALSE NEIGHBOUR: 'it returns false'. Refute it at one input. -/
def fnExactUnpackEntryWrong : ChangeSpec := { name := "fnExactUnpackEntry", fn := fun _ => fun
  | [d] => { results := [.lit (.bool false)], args := [d] }
  | _ => none }
def FnExactUnpackEntryWrongFalsely : Prop := fnExactUnpackEntryRow.holds Try.pinned (OpenSpec.ofChange fnExactUnpackEntryWrong)

/-- 'laws.FnExactSlotFor': WHATEVER THE INPUT: true; the input reads as it did. -/
def fnExactSlotForSpec : ChangeSpec := { name := "fnExactSlotFor", fn := fun _ => fun
  | [d] => { results := [.lit (.bool true)], args := [d] }
  | _ => none }
def fnExactSlotForRow : OpenClaim := { program := "ytbgbenfabepgkaa", sum := "1bf567126dc9b9975690d453a2c02d5a76d00918c46b44aad219a9a799155533", func := "loop.example/g00311/laws.FnExactSlotFor", spec := "fnExactSlotFor", apart := false }
def FnExactSlotForSaid : Prop := fnExactSlotForRow.holds Try.pinned (OpenSpec.ofChange fnExactSlotForSpec)

/-- ITS FALSE NEIGHBOUR: 'it returns false'. Refute it at one input. -/
def fnExactSlotForWrong : ChangeSpec := { name := "fnExactSlotFor", fn := fun _ => fun
  | [d] => { results := [.lit (.bool false)], args := [d] }
  | _ => none }
def FnExactSlotForWrongFalsely : Prop := fnExactSlotForRow.holds Try.pinned (OpenSpec.ofChange fnExactSlotForWrong)

/-- 'laws.FnExactSameEntries': WHATEVER THE INPUT: true; the input reads as it did. -/
def fnExactSameEntriesSpec : ChangeSpec := { name := "fnExactSameEntries", fn := fun _ => fun
  | [d1, d2] => { results := [.lit (.bool true)], args := [d1, d2] }
  | _ => none }
def fnExactSameEntriesRow : OpenClaim := { program := "ytbgbenfabepgkaa", sum := "1bf567126dc9b9975690d453a2c02d5a76d00918c46b44aad219a9a799155533", func := "loop.example/g00311/laws.FnExactSameEntries", spec := "fnExactSameEntries", unfollowed := true, recurses := true, apart := false }
def FnExactSameEntriesSaid : Prop := fnExactSameEntriesRow.holds Try.pinned (OpenSpec.ofChange fnExactSameEntriesSpec)

/-- ITS FALSE NEIGHBOUR: 'it returns false'. Refute it at one input. -/
def fnExactSameEntriesWrong : ChangeSpec := { name := "fnExactSameEntries", fn := fun _ => fun
  | [d1, d2] => { results := [.lit (.bool false)], args := [d1, d2] }
  | _ => none }
def FnExactSameEntriesWrongFalsely : Prop := fnExactSameEntriesRow.holds Try.pinned (OpenSpec.ofChange fnExactSameEntriesWrong)

/- THE SECOND FORM. 'bulk': how many values and letters a reading holds, each counted each time it is reached (what is shared counts as often as it is met; a slice's spare places count too). A statement '..UptoSaid' is the law's where the arguments, and the package variables that the reading takes, are together of bulk at most 1048576: NARROWER than '..Said'. Prove '..Said' where nothing that the law and all that it calls make is longer than what came in: it says more and counts as full. Else prove '..UptoSaid'. A law counts once. -/
mutual
def uptoBulk {H : Type} : DataW H → Nat
  | .lit (.string bytes) => bytes.length + 1
  | .lit _ => 1
  | .nil => 1
  | .ptr d => uptoBulk d + 1
  | .slice elems spare => uptoBulkAll elems + uptoBulkAll spare + 1
  | .agg parts => uptoBulkAll parts + 1
  | .iface _ d => uptoBulk d + 1
  | .map entries => uptoBulkEntries entries + 1
  | .held _ => 1
def uptoBulkAll {H : Type} : List (DataW H) → Nat
  | [] => 0
  | d :: r => uptoBulk d + uptoBulkAll r
def uptoBulkEntries {H : Type} : List (Lit × DataW H) → Nat
  | [] => 0
  | x :: r => uptoBulkEntry x + uptoBulkEntries r
def uptoBulkEntry {H : Type} : Lit × DataW H → Nat
  | (.string bytes, d) => bytes.length + uptoBulk d + 1
  | (_, d) => uptoBulk d + 1
 end
def uptoSmall : (H : Type) → List (DataW H) → Bool := fun _ ds => decide (uptoBulkAll ds ≤ 1048576)
def OpenSpec.upto (s : _root_.Go.ChangeSpec) : _root_.Go.OpenSpec := { _root_.Go.OpenSpec.ofChange s with cond := some uptoSmall }

/-- 'laws.FnExactEntryFault', WHERE WHAT IT READS IS OF BULK AT MOST 1048576: true; the input reads as it did. -/
def fnExactEntryFaultUptoRow : OpenClaim := { program := "ytbgbenfabepgkaa", sum := "1bf567126dc9b9975690d453a2c02d5a76d00918c46b44aad219a9a799155533", func := "loop.example/g00311/laws.FnExactEntryFault", spec := "fnExactEntryFault", apart := false, narrowed := true }
def FnExactEntryFaultUptoSaid : Prop := fnExactEntryFaultUptoRow.holds Try.pinned (OpenSpec.upto fnExactEntryFaultSpec)

/-- 'laws.FnExactLogFault', WHERE WHAT IT READS IS OF BULK AT MOST 1048576: true; the input reads as it did. -/
def fnExactLogFaultUptoRow : OpenClaim := { program := "ytbgbenfabepgkaa", sum := "1bf567126dc9b9975690d453a2c02d5a76d00918c46b44aad219a9a799155533", func := "loop.example/g00311/laws.FnExactLogFault", spec := "fnExactLogFault", apart := false, narrowed := true }
def FnExactLogFaultUptoSaid : Prop := fnExactLogFaultUptoRow.holds Try.pinned (OpenSpec.upto fnExactLogFaultSpec)

/-- 'laws.FnExactPackEntry', WHERE WHAT IT READS IS OF BULK AT MOST 1048576: true; the input reads as it did. -/
def fnExactPackEntryUptoRow : OpenClaim := { program := "ytbgbenfabepgkaa", sum := "1bf567126dc9b9975690d453a2c02d5a76d00918c46b44aad219a9a799155533", func := "loop.example/g00311/laws.FnExactPackEntry", spec := "fnExactPackEntry", apart := false, narrowed := true }
def FnExactPackEntryUptoSaid : Prop := fnExactPackEntryUptoRow.holds Try.pinned (OpenSpec.upto fnExactPackEntrySpec)

/-- 'laws.FnExactUnpackEntry', WHERE WHAT IT READS IS OF BULK AT MOST 1048576: true; the input reads as it did. -/
def fnExactUnpackEntryUptoRow : OpenClaim := { program := "ytbgbenfabepgkaa", sum := "1bf567126dc9b9975690d453a2c02d5a76d00918c46b44aad219a9a799155533", func := "loop.example/g00311/laws.FnExactUnpackEntry", spec := "fnExactUnpackEntry", unfollowed := true, recurses := true, apart := false, narrowed := true }
def FnExactUnpackEntryUptoSaid : Prop := fnExactUnpackEntryUptoRow.holds Try.pinned (OpenSpec.upto fnExactUnpackEntrySpec)

/-- 'laws.FnExactSlotFor', WHERE WHAT IT READS IS OF BULK AT MOST 1048576: true; the input reads as it did. -/
def fnExactSlotForUptoRow : OpenClaim := { program := "ytbgbenfabepgkaa", sum := "1bf567126dc9b9975690d453a2c02d5a76d00918c46b44aad219a9a799155533", func := "loop.example/g00311/laws.FnExactSlotFor", spec := "fnExactSlotFor", apart := false, narrowed := true }
def FnExactSlotForUptoSaid : Prop := fnExactSlotForUptoRow.holds Try.pinned (OpenSpec.upto fnExactSlotForSpec)

/-- 'laws.FnExactSameEntries', WHERE WHAT IT READS IS OF BULK AT MOST 1048576: true; the input reads as it did. -/
def fnExactSameEntriesUptoRow : OpenClaim := { program := "ytbgbenfabepgkaa", sum := "1bf567126dc9b9975690d453a2c02d5a76d00918c46b44aad219a9a799155533", func := "loop.example/g00311/laws.FnExactSameEntries", spec := "fnExactSameEntries", unfollowed := true, recurses := true, apart := false, narrowed := true }
def FnExactSameEntriesUptoSaid : Prop := fnExactSameEntriesUptoRow.holds Try.pinned (OpenSpec.upto fnExactSameEntriesSpec)

end Rows
end Go.Proofs.Ytbgbenfabepgkaa
