/-
  No cell of these rows narrows 'for every input' (looked for: loops, veiled, ifaces, maps, wideKeys, modest, calm, conditions, laid).
  DERIVED. THE GIVEN ROWS OF THIS SEAT. 6 by the template 'for every input the law returns true; each argument reads behind the call as it read before'; 0 by the template 'total and deterministic' (their statements: YtcmkbcadnbdgmaaTotals.lean).
  GIVEN WITH THE SEED: the statements are not yours to turn. If you find one false, say at which input.
  Laid BY PROGRAM, IN A SANDBOX (cutbox-rows.mjs): the forced cells as the released guide's own fill.sh prints them over the translation a14b916cebe8f684… (all of the seat's roots in one cut). By AI agents, Wed Nov 11 2026. No macro, syntax, notation, axiom, sorry.
-/
import Derived.Test.YtcmkbcadnbdgmaaChecked
import GoSem.Claim
import GoSem.ClaimJoined
import GoSem.ClaimMapViews
import Derived.JoinedTies
import Derived.KernelRfl
namespace Go.Proofs.Ytcmkbcadnbdgmaa
/- THE CELL 'sum', in the pinned program and in every row, IS THE sha256 OF THE DUMP (.gsa) THAT YtcmkbcadnbdgmaaProg.lean LOADS. Nothing in Lean hashes anything: it is a label: what it is worth is what the hold of that sum in a sandbox is worth. -/
noncomputable def Try.pinned : Pinned := { name := "ytcmkbcadnbdgmaa", sum := "a14b916cebe8f68492b172d901793ee1a234e35f3623f0c938d8df599b439c79", checked := Try.checked }
namespace Rows
def none {H : Type} : Left H := { results := [], args := [] }

/-- 'laws.FnExactHeaderFault': WHATEVER THE INPUT: true; the input reads as it did. -/
def fnExactHeaderFaultSpec : ChangeSpec := { name := "fnExactHeaderFault", fn := fun _ => fun
  | [d] => { results := [.lit (.bool true)], args := [d] }
  | _ => none }
def fnExactHeaderFaultRow : OpenClaim := { program := "ytcmkbcadnbdgmaa", sum := "a14b916cebe8f68492b172d901793ee1a234e35f3623f0c938d8df599b439c79", func := "loop.example/g00311/laws.FnExactHeaderFault", spec := "fnExactHeaderFault", apart := false }
def FnExactHeaderFaultSaid : Prop := fnExactHeaderFaultRow.holds Try.pinned (OpenSpec.ofChange fnExactHeaderFaultSpec)

/-- ITS FALSE NEIGHBOUR: 'it returns false'. Refute it at one input. -/
def fnExactHeaderFaultWrong : ChangeSpec := { name := "fnExactHeaderFault", fn := fun _ => fun
  | [d] => { results := [.lit (.bool false)], args := [d] }
  | _ => none }
def FnExactHeaderFaultWrongFalsely : Prop := fnExactHeaderFaultRow.holds Try.pinned (OpenSpec.ofChange fnExactHeaderFaultWrong)

/-- 'laws.FnExactPackHeader': WHATEVER THE INPUT: true; the input reads as it did. -/
def fnExactPackHeaderSpec : ChangeSpec := { name := "fnExactPackHeader", fn := fun _ => fun
  | [d] => { results := [.lit (.bool true)], args := [d] }
  | _ => none }
def fnExactPackHeaderRow : OpenClaim := { program := "ytcmkbcadnbdgmaa", sum := "a14b916cebe8f68492b172d901793ee1a234e35f3623f0c938d8df599b439c79", func := "loop.example/g00311/laws.FnExactPackHeader", spec := "fnExactPackHeader", apart := false }
def FnExactPackHeaderSaid : Prop := fnExactPackHeaderRow.holds Try.pinned (OpenSpec.ofChange fnExactPackHeaderSpec)

/-- ITS FALSE NEIGHBOUR: 'it returns false'. Refute it at one input. -/
def fnExactPackHeaderWrong : ChangeSpec := { name := "fnExactPackHeader", fn := fun _ => fun
  | [d] => { results := [.lit (.bool false)], args := [d] }
  | _ => none }
def FnExactPackHeaderWrongFalsely : Prop := fnExactPackHeaderRow.holds Try.pinned (OpenSpec.ofChange fnExactPackHeaderWrong)

/-- 'laws.FnExactUnpackHeader': WHATEVER THE INPUT: true; the input reads as it did. -/
def fnExactUnpackHeaderSpec : ChangeSpec := { name := "fnExactUnpackHeader", fn := fun _ => fun
  | [d] => { results := [.lit (.bool true)], args := [d] }
  | _ => none }
def fnExactUnpackHeaderRow : OpenClaim := { program := "ytcmkbcadnbdgmaa", sum := "a14b916cebe8f68492b172d901793ee1a234e35f3623f0c938d8df599b439c79", func := "loop.example/g00311/laws.FnExactUnpackHeader", spec := "fnExactUnpackHeader", apart := false }
def FnExactUnpackHeaderSaid : Prop := fnExactUnpackHeaderRow.holds Try.pinned (OpenSpec.ofChange fnExactUnpackHeaderSpec)

/-- ITS FALSE NEIGHBOUR: 'it returns false'. Refute it at one input. -/
def fnExactUnpackHeaderWrong : ChangeSpec := { name := "fnExactUnpackHeader", fn := fun _ => fun
  | [d] => { results := [.lit (.bool false)], args := [d] }
  | _ => none }
def FnExactUnpackHeaderWrongFalsely : Prop := fnExactUnpackHeaderRow.holds Try.pinned (OpenSpec.ofChange fnExactUnpackHeaderWrong)

/-- 'laws.FnExactNewestOf': WHATEVER THE INPUT: true; the input reads as it did. -/
def fnExactNewestOfSpec : ChangeSpec := { name := "fnExactNewestOf", fn := fun _ => fun
  | [d1, d2] => { results := [.lit (.bool true)], args := [d1, d2] }
  | _ => none }
def fnExactNewestOfRow : OpenClaim := { program := "ytcmkbcadnbdgmaa", sum := "a14b916cebe8f68492b172d901793ee1a234e35f3623f0c938d8df599b439c79", func := "loop.example/g00311/laws.FnExactNewestOf", spec := "fnExactNewestOf", apart := false }
def FnExactNewestOfSaid : Prop := fnExactNewestOfRow.holds Try.pinned (OpenSpec.ofChange fnExactNewestOfSpec)

/-- ITS FALSE NEIGHBOUR: 'it returns false'. Refute it at one input. -/
def fnExactNewestOfWrong : ChangeSpec := { name := "fnExactNewestOf", fn := fun _ => fun
  | [d1, d2] => { results := [.lit (.bool false)], args := [d1, d2] }
  | _ => none }
def FnExactNewestOfWrongFalsely : Prop := fnExactNewestOfRow.holds Try.pinned (OpenSpec.ofChange fnExactNewestOfWrong)

/-- 'laws.FnExactHeaderIn': WHATEVER THE INPUT: true; the input reads as it did. -/
def fnExactHeaderInSpec : ChangeSpec := { name := "fnExactHeaderIn", fn := fun _ => fun
  | [d] => { results := [.lit (.bool true)], args := [d] }
  | _ => none }
def fnExactHeaderInRow : OpenClaim := { program := "ytcmkbcadnbdgmaa", sum := "a14b916cebe8f68492b172d901793ee1a234e35f3623f0c938d8df599b439c79", func := "loop.example/g00311/laws.FnExactHeaderIn", spec := "fnExactHeaderIn", apart := false }
def FnExactHeaderInSaid : Prop := fnExactHeaderInRow.holds Try.pinned (OpenSpec.ofChange fnExactHeaderInSpec)

/-- ITS FALSE NEIGHBOUR: 'it returns false'. Refute it at one input. -/
def fnExactHeaderInWrong : ChangeSpec := { name := "fnExactHeaderIn", fn := fun _ => fun
  | [d] => { results := [.lit (.bool false)], args := [d] }
  | _ => none }
def FnExactHeaderInWrongFalsely : Prop := fnExactHeaderInRow.holds Try.pinned (OpenSpec.ofChange fnExactHeaderInWrong)

/-- 'laws.FnExactFormatDisk': WHATEVER THE INPUT: true; the input reads as it did. -/
def fnExactFormatDiskSpec : ChangeSpec := { name := "fnExactFormatDisk", fn := fun _ => fun
  | [d] => { results := [.lit (.bool true)], args := [d] }
  | _ => none }
def fnExactFormatDiskRow : OpenClaim := { program := "ytcmkbcadnbdgmaa", sum := "a14b916cebe8f68492b172d901793ee1a234e35f3623f0c938d8df599b439c79", func := "loop.example/g00311/laws.FnExactFormatDisk", spec := "fnExactFormatDisk", apart := false }
def FnExactFormatDiskSaid : Prop := fnExactFormatDiskRow.holds Try.pinned (OpenSpec.ofChange fnExactFormatDiskSpec)

/-- ITS FALSE NEIGHBOUR: 'it returns false'. Refute it at one input. -/
def fnExactFormatDiskWrong : ChangeSpec := { name := "fnExactFormatDisk", fn := fun _ => fun
  | [d] => { results := [.lit (.bool false)], args := [d] }
  | _ => none }
def FnExactFormatDiskWrongFalsely : Prop := fnExactFormatDiskRow.holds Try.pinned (OpenSpec.ofChange fnExactFormatDiskWrong)

/- THE SECOND FORM. 'bulk': how many values and letters a reading holds, each counted each time it is reached (what is shared counts as often as it is met; a slice's spare places count too). A statement '..UptoSaid' is the law's where the arguments, and the package variables that the reading takes, are together of bulk at most 1048576: NARROWER than '..Said'. Prove '..Said' where nothing that the law and all that it calls make is longer than what came in: it says more and counts as full. Else prove '..UptoSaid'. A law counts once. -/
mutual
def uptoBulk {H : Type} : DataW H → Nat
  | .lit (.string bytes) => bytes.length + 1
  | .lit _ => 1
  | .nil => 1
  | .ptr d => uptoBulk d + 1
  | .slice elems spare => uptoBulkAll elems + uptoBulkAll spare + 1
  | .agg parts => uptoBulkAll parts + 1
  | .iface _ d => uptoBulk d + 1
  | .map entries => uptoBulkEntries entries + 1
  | .held _ => 1
def uptoBulkAll {H : Type} : List (DataW H) → Nat
  | [] => 0
  | d :: r => uptoBulk d + uptoBulkAll r
def uptoBulkEntries {H : Type} : List (Lit × DataW H) → Nat
  | [] => 0
  | x :: r => uptoBulkEntry x + uptoBulkEntries r
def uptoBulkEntry {H : Type} : Lit × DataW H → Nat
  | (.string bytes, d) => bytes.length + uptoBulk d + 1
  | (_, d) => uptoBulk d + 1
 end
def uptoSmall : (H : Type) → List (DataW H) → Bool := fun _ ds => decide (uptoBulkAll ds ≤ 1048576)
def OpenSpec.upto (s : _root_.Go.ChangeSpec) : _root_.Go.OpenSpec := { _root_.Go.OpenSpec.ofChange s with cond := some uptoSmall }

/-- 'laws.FnExactHeaderFault', WHERE WHAT IT READS IS OF BULK AT MOST 1048576: true; the input reads as it did. -/
def fnExactHeaderFaultUptoRow : OpenClaim := { program := "ytcmkbcadnbdgmaa", sum := "a14b916cebe8f68492b172d901793ee1a234e35f3623f0c938d8df599b439c79", func := "loop.example/g00311/laws.FnExactHeaderFault", spec := "fnExactHeaderFault", apart := false, narrowed := true }
def FnExactHeaderFaultUptoSaid : Prop := fnExactHeaderFaultUptoRow.holds Try.pinned (OpenSpec.upto fnExactHeaderFaultSpec)

/-- 'laws.FnExactPackHeader', WHERE WHAT IT READS IS OF BULK AT MOST 1048576: true; the input reads as it did. -/
def fnExactPackHeaderUptoRow : OpenClaim := { program := "ytcmkbcadnbdgmaa", sum := "a14b916cebe8f68492b172d901793ee1a234e35f3623f0c938d8df599b439c79", func := "loop.example/g00311/laws.FnExactPackHeader", spec := "fnExactPackHeader", apart := false, narrowed := true }
def FnExactPackHeaderUptoSaid : Prop := fnExactPackHeaderUptoRow.holds Try.pinned (OpenSpec.upto fnExactPackHeaderSpec)

/-- 'laws.FnExactUnpackHeader', WHERE WHAT IT READS IS OF BULK AT MOST 1048576: true; the input reads as it did. -/
def fnExactUnpackHeaderUptoRow : OpenClaim := { program := "ytcmkbcadnbdgmaa", sum := "a14b916cebe8f68492b172d901793ee1a234e35f3623f0c938d8df599b439c79", func := "loop.example/g00311/laws.FnExactUnpackHeader", spec := "fnExactUnpackHeader", apart := false, narrowed := true }
def FnExactUnpackHeaderUptoSaid : Prop := fnExactUnpackHeaderUptoRow.holds Try.pinned (OpenSpec.upto fnExactUnpackHeaderSpec)

/-- 'laws.FnExactNewestOf', WHERE WHAT IT READS IS OF BULK AT MOST 1048576: true; the input reads as it did. -/
def fnExactNewestOfUptoRow : OpenClaim := { program := "ytcmkbcadnbdgmaa", sum := "a14b916cebe8f68492b172d901793ee1a234e35f3623f0c938d8df599b439c79", func := "loop.example/g00311/laws.FnExactNewestOf", spec := "fnExactNewestOf", apart := false, narrowed := true }
def FnExactNewestOfUptoSaid : Prop := fnExactNewestOfUptoRow.holds Try.pinned (OpenSpec.upto fnExactNewestOfSpec)

/-- 'laws.FnExactHeaderIn', WHERE WHAT IT READS IS OF BULK AT MOST 1048576: true; the input reads as it did. -/
def fnExactHeaderInUptoRow : OpenClaim := { program := "ytcmkbcadnbdgmaa", sum := "a14b916cebe8f68492b172d901793ee1a234e35f3623f0c938d8df599b439c79", func := "loop.example/g00311/laws.FnExactHeaderIn", spec := "fnExactHeaderIn", apart := false, narrowed := true }
def FnExactHeaderInUptoSaid : Prop := fnExactHeaderInUptoRow.holds Try.pinned (OpenSpec.upto fnExactHeaderInSpec)

/-- 'laws.FnExactFormatDisk', WHERE WHAT IT READS IS OF BULK AT MOST 1048576: true; the input reads as it did. -/
def fnExactFormatDiskUptoRow : OpenClaim := { program := "ytcmkbcadnbdgmaa", sum := "a14b916cebe8f68492b172d901793ee1a234e35f3623f0c938d8df599b439c79", func := "loop.example/g00311/laws.FnExactFormatDisk", spec := "fnExactFormatDisk", apart := false, narrowed := true }
def FnExactFormatDiskUptoSaid : Prop := fnExactFormatDiskUptoRow.holds Try.pinned (OpenSpec.upto fnExactFormatDiskSpec)

end Rows
end Go.Proofs.Ytcmkbcadnbdgmaa
