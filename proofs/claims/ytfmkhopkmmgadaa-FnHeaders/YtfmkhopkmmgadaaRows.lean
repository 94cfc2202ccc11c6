/-
  No cell of these rows narrows 'for every input' (looked for: loops, veiled, ifaces, maps, wideKeys, modest, calm, conditions, laid).
  DERIVED. THE GIVEN ROWS OF THIS SEAT. 6 by the template 'for every input the law returns true; each argument reads behind the call as it read before'; 0 by the template 'total and deterministic' (their statements: YtfmkhopkmmgadaaTotals.lean).
  GIVEN WITH THE SEED: the statements are not yours to turn. If you find one false, say at which input.
  Laid BY PROGRAM, IN A SANDBOX (cutbox-rows.mjs): the forced cells as the released guide's own fill.sh prints them over the translation cbbdf5ba1a8581c8… (all of the seat's roots in one cut). By AI agents, Wed Nov 11 2026. No macro, syntax, notation, axiom, sorry.
-/
import Derived.Test.YtfmkhopkmmgadaaChecked
import GoSem.Claim
import GoSem.ClaimJoined
import GoSem.ClaimMapViews
import Derived.JoinedTies
import Derived.KernelRfl
namespace Go.Proofs.Ytfmkhopkmmgadaa
/- THE CELL 'sum', in the pinned program and in every row, IS THE sha256 OF THE DUMP (.gsa) THAT YtfmkhopkmmgadaaProg.lean LOADS. Nothing in Lean hashes anything: it is a label: what it is worth is what the hold of that sum in a sandbox is worth. -/
noncomputable def Try.pinned : Pinned := { name := "ytfmkhopkmmgadaa", sum := "cbbdf5ba1a8581c8f6732e28bc58da7708a32715439624c522367ce2777f9b09", checked := Try.checked }
namespace Rows
def none {H : Type} : Left H := { results := [], args := [] }

/-- 'laws.FnDisks': WHATEVER THE INPUT: true; the input reads as it did. -/
def fnDisksSpec : ChangeSpec := { name := "fnDisks", fn := fun _ => fun
  | [d] => { results := [.lit (.bool true)], args := [d] }
  | _ => none }
def fnDisksRow : OpenClaim := { program := "ytfmkhopkmmgadaa", sum := "cbbdf5ba1a8581c8f6732e28bc58da7708a32715439624c522367ce2777f9b09", func := "loop.example/g00311/laws.FnDisks", spec := "fnDisks", apart := false }
def FnDisksSaid : Prop := fnDisksRow.holds Try.pinned (OpenSpec.ofChange fnDisksSpec)

/-- ITS FALSE NEIGHBOUR: 'it returns false'. Refute it at one input. -/
def fnDisksWrong : ChangeSpec := { name := "fnDisks", fn := fun _ => fun
  | [d] => { results := [.lit (.bool false)], args := [d] }
  | _ => none }
def FnDisksWrongFalsely : Prop := fnDisksRow.holds Try.pinned (OpenSpec.ofChange fnDisksWrong)

/-- 'laws.FnHeaders': WHATEVER THE INPUT: true; the input reads as it did. -/
def fnHeadersSpec : ChangeSpec := { name := "fnHeaders", fn := fun _ => fun
  | [d] => { results := [.lit (.bool true)], args := [d] }
  | _ => none }
def fnHeadersRow : OpenClaim := { program := "ytfmkhopkmmgadaa", sum := "cbbdf5ba1a8581c8f6732e28bc58da7708a32715439624c522367ce2777f9b09", func := "loop.example/g00311/laws.FnHeaders", spec := "fnHeaders", apart := false }
def FnHeadersSaid : Prop := fnHeadersRow.holds Try.pinned (OpenSpec.ofChange fnHeadersSpec)

/-- ITS FALSE NEIGHBOUR: 'it returns false'. Refute it at one input. -/
def fnHeadersWrong : ChangeSpec := { name := "fnHeaders", fn := fun _ => fun
  | [d] => { results := [.lit (.bool false)], args := [d] }
  | _ => none }
def FnHeadersWrongFalsely : Prop := fnHeadersRow.holds Try.pinned (OpenSpec.ofChange fnHeadersWrong)

/-- 'laws.FnTorn': WHATEVER THE INPUT: true; the input reads as it did. -/
def fnTornSpec : ChangeSpec := { name := "fnTorn", fn := fun _ => fun
  | [d] => { results := [.lit (.bool true)], args := [d] }
  | _ => none }
def fnTornRow : OpenClaim := { program := "ytfmkhopkmmgadaa", sum := "cbbdf5ba1a8581c8f6732e28bc58da7708a32715439624c522367ce2777f9b09", func := "loop.example/g00311/laws.FnTorn", spec := "fnTorn", apart := false }
def FnTornSaid : Prop := fnTornRow.holds Try.pinned (OpenSpec.ofChange fnTornSpec)

/-- ITS FALSE NEIGHBOUR: 'it returns false'. Refute it at one input. -/
def fnTornWrong : ChangeSpec := { name := "fnTorn", fn := fun _ => fun
  | [d] => { results := [.lit (.bool false)], args := [d] }
  | _ => none }
def FnTornWrongFalsely : Prop := fnTornRow.holds Try.pinned (OpenSpec.ofChange fnTornWrong)

/-- 'laws.FnExactHeaderFault': WHATEVER THE INPUT: true; the input reads as it did. -/
def fnExactHeaderFaultSpec : ChangeSpec := { name := "fnExactHeaderFault", fn := fun _ => fun
  | [d] => { results := [.lit (.bool true)], args := [d] }
  | _ => none }
def fnExactHeaderFaultRow : OpenClaim := { program := "ytfmkhopkmmgadaa", sum := "cbbdf5ba1a8581c8f6732e28bc58da7708a32715439624c522367ce2777f9b09", func := "loop.example/g00311/laws.FnExactHeaderFault", spec := "fnExactHeaderFault", apart := false }
def FnExactHeaderFaultSaid : Prop := fnExactHeaderFaultRow.holds Try.pinned (OpenSpec.ofChange fnExactHeaderFaultSpec)

/-- ITS FALSE NEIGHBOUR: 'it returns false'. Refute it at one input. -/
def fnExactHeaderFaultWrong : ChangeSpec := { name := "fnExactHeaderFault", fn := fun _ => fun
  | [d] => { results := [.lit (.bool false)], args := [d] }
  | _ => none }
def FnExactHeaderFaultWrongFalsely : Prop := fnExactHeaderFaultRow.holds Try.pinned (OpenSpec.ofChange fnExactHeaderFaultWrong)

/-- 'laws.FnExactPackHeader': WHATEVER THE INPUT: true; the input reads as it did. -/
def fnExactPackHeaderSpec : ChangeSpec := { name := "fnExactPackHeader", fn := fun _ => fun
  | [d] => { results := [.lit (.bool true)], args := [d] }
  | _ => none }
def fnExactPackHeaderRow : OpenClaim := { program := "ytfmkhopkmmgadaa", sum := "cbbdf5ba1a8581c8f6732e28bc58da7708a32715439624c522367ce2777f9b09", func := "loop.example/g00311/laws.FnExactPackHeader", spec := "fnExactPackHeader", apart := false }
def FnExactPackHeaderSaid : Prop := fnExactPackHeaderRow.holds Try.pinned (OpenSpec.ofChange fnExactPackHeaderSpec)

/-- ITS FALSE NEIGHBOUR: 'it returns false'. Refute it at one input. -/
def fnExactPackHeaderWrong : ChangeSpec := { name := "fnExactPackHeader", fn := fun _ => fun
  | [d] => { results := [.lit (.bool false)], args := [d] }
  | _ => none }
def FnExactPackHeaderWrongFalsely : Prop := fnExactPackHeaderRow.holds Try.pinned (OpenSpec.ofChange fnExactPackHeaderWrong)

/-- 'laws.FnExactUnpackHeader': WHATEVER THE INPUT: true; the input reads as it did. -/
def fnExactUnpackHeaderSpec : ChangeSpec := { name := "fnExactUnpackHeader", fn := fun _ => fun
  | [d] => { results := [.lit (.bool true)], args := [d] }
  | _ => none }
def fnExactUnpackHeaderRow : OpenClaim := { program := "ytfmkhopkmmgadaa", sum := "cbbdf5ba1a8581c8f6732e28bc58da7708a32715439624c522367ce2777f9b09", func := "loop.example/g00311/laws.FnExactUnpackHeader", spec := "fnExactUnpackHeader", apart := false }
def FnExactUnpackHeaderSaid : Prop := fnExactUnpackHeaderRow.holds Try.pinned (OpenSpec.ofChange fnExactUnpackHeaderSpec)

/-- ITS FALSE NEIGHBOUR: 'it returns false'. Refute it at one input. -/
def fnExactUnpackHeaderWrong : ChangeSpec := { name := "fnExactUnpackHeader", fn := fun _ => fun
  | [d] => { results := [.lit (.bool false)], args := [d] }
  | _ => none }
def FnExactUnpackHeaderWrongFalsely : Prop := fnExactUnpackHeaderRow.holds Try.pinned (OpenSpec.ofChange fnExactUnpackHeaderWrong)

/- THE SECOND FORM. 'bulk': how many values and letters a reading holds, each counted each time it is reached (what is shared counts as often as it is met; a slice's spare places count too). A statement '..UptoSaid' is the law's where the arguments, and the package variables that the reading takes, are together of bulk at most 1048576: NARROWER than '..Said'. Prove '..Said' where nothing that the law and all that it calls make is longer than what came in: it says more and counts as full. Else prove '..UptoSaid'. A law counts once. -/
mutual
def uptoBulk {H : Type} : DataW H → Nat
  | .lit (.string bytes) => bytes.length + 1
  | .lit _ => 1
  | .nil => 1
  | .ptr d => uptoBulk d + 1
  | .slice elems spare => uptoBulkAll elems + uptoBulkAll spare + 1
  | .agg parts => uptoBulkAll parts + 1
  | .iface _ d => uptoBulk d + 1
  | .map entries => uptoBulkEntries entries + 1
  | .held _ => 1
def uptoBulkAll {H : Type} : List (DataW H) → Nat
  | [] => 0
  | d :: r => uptoBulk d + uptoBulkAll r
def uptoBulkEntries {H : Type} : List (Lit × DataW H) → Nat
  | [] => 0
  | x :: r => uptoBulkEntry x + uptoBulkEntries r
def uptoBulkEntry {H : Type} : Lit × DataW H → Nat
  | (.string bytes, d) => bytes.length + uptoBulk d + 1
  | (_, d) => uptoBulk d + 1
 end
def uptoSmall : (H : Type) → List (DataW H) → Bool := fun _ ds => decide (uptoBulkAll ds ≤ 1048576)
def OpenSpec.upto (s : _root_.Go.ChangeSpec) : _root_.Go.OpenSpec := { _root_.Go.OpenSpec.ofChange s with cond := some uptoSmall }

/-- 'laws.FnDisks', WHERE WHAT IT READS IS OF BULK AT MOST 1048576: true; the input reads as it did. -/
def fnDisksUptoRow : OpenClaim := { program := "ytfmkhopkmmgadaa", sum := "cbbdf5ba1a8581c8f6732e28bc58da7708a32715439624c522367ce2777f9b09", func := "loop.example/g00311/laws.FnDisks", spec := "fnDisks", apart := false, narrowed := true }
def FnDisksUptoSaid : Prop := fnDisksUptoRow.holds Try.pinned (OpenSpec.upto fnDisksSpec)

/-- 'laws.FnHeaders', WHERE WHAT IT READS IS OF BULK AT MOST 1048576: true; the input reads as it did. -/
def fnHeadersUptoRow : OpenClaim := { program := "ytfmkhopkmmgadaa", sum := "cbbdf5ba1a8581c8f6732e28bc58da7708a32715439624c522367ce2777f9b09", func := "loop.example/g00311/laws.FnHeaders", spec := "fnHeaders", apart := false, narrowed := true }
def FnHeadersUptoSaid : Prop := fnHeadersUptoRow.holds Try.pinned (OpenSpec.upto fnHeadersSpec)

/-- 'laws.FnTorn', WHERE WHAT IT READS IS OF BULK AT MOST 1048576: true; the input reads as it did. -/
def fnTornUptoRow : OpenClaim := { program := "ytfmkhopkmmgadaa", sum := "cbbdf5ba1a8581c8f6732e28bc58da7708a32715439624c522367ce2777f9b09", func := "loop.example/g00311/laws.FnTorn", spec := "fnTorn", apart := false, narrowed := true }
def FnTornUptoSaid : Prop := fnTornUptoRow.holds Try.pinned (OpenSpec.upto fnTornSpec)

/-- 'laws.FnExactHeaderFault', WHERE WHAT IT READS IS OF BULK AT MOST 1048576: true; the input reads as it did. -/
def fnExactHeaderFaultUptoRow : OpenClaim := { program := "ytfmkhopkmmgadaa", sum := "cbbdf5ba1a8581c8f6732e28bc58da7708a32715439624c522367ce2777f9b09", func := "loop.example/g00311/laws.FnExactHeaderFault", spec := "fnExactHeaderFault", apart := false, narrowed := true }
def FnExactHeaderFaultUptoSaid : Prop := fnExactHeaderFaultUptoRow.holds Try.pinned (OpenSpec.upto fnExactHeaderFaultSpec)

/-- 'laws.FnExactPackHeader', WHERE WHAT IT READS IS OF BULK AT MOST 1048576: true; the input reads as it did. -/
def fnExactPackHeaderUptoRow : OpenClaim := { program := "ytfmkhopkmmgadaa", sum := "cbbdf5ba1a8581c8f6732e28bc58da7708a32715439624c522367ce2777f9b09", func := "loop.example/g00311/laws.FnExactPackHeader", spec := "fnExactPackHeader", apart := false, narrowed := true }
def FnExactPackHeaderUptoSaid : Prop := fnExactPackHeaderUptoRow.holds Try.pinned (OpenSpec.upto fnExactPackHeaderSpec)

/-- 'laws.FnExactUnpackHeader', WHERE WHAT IT READS IS OF BULK AT MOST 1048576: true; the input reads as it did. -/
def fnExactUnpackHeaderUptoRow : OpenClaim := { program := "ytfmkhopkmmgadaa", sum := "cbbdf5ba1a8581c8f6732e28bc58da7708a32715439624c522367ce2777f9b09", func := "loop.example/g00311/laws.FnExactUnpackHeader", spec := "fnExactUnpackHeader", apart := false, narrowed := true }
def FnExactUnpackHeaderUptoSaid : Prop := fnExactUnpackHeaderUptoRow.holds Try.pinned (OpenSpec.upto fnExactUnpackHeaderSpec)

end Rows
end Go.Proofs.Ytfmkhopkmmgadaa
