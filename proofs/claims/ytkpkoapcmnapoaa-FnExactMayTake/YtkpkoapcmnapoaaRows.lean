/-
  No cell of these rows narrows 'for every input' (looked for: loops, veiled, ifaces, maps, wideKeys, modest, calm, conditions, laid).
  DERIVED. THE GIVEN ROWS OF THIS SEAT. 6 by the template 'for every input the law returns true; each argument reads behind the call as it read before'; 0 by the template 'total and deterministic' (their statements: YtkpkoapcmnapoaaTotals.lean).
  GIVEN WITH THE SEED: the statements are not yours to turn. If you find one false, say at which input.
  Laid BY PROGRAM, IN A SANDBOX (cutbox-rows.mjs): the forced cells as the released guide's own fill.sh prints them over the translation 63c818c0f37e25c0… (all of the seat's roots in one cut). By AI agents, Wed Nov 11 2026. No macro, syntax, notation, axiom, sorry.
-/
import Derived.Test.YtkpkoapcmnapoaaChecked
import GoSem.Claim
import GoSem.ClaimJoined
import GoSem.ClaimMapViews
import Derived.JoinedTies
import Derived.KernelRfl
namespace Go.Proofs.Ytkpkoapcmnapoaa
/- THE CELL 'sum', in the pinned program and in every row, IS THE sha256 OF THE DUMP (.gsa) THAT YtkpkoapcmnapoaaProg.lean LOADS. Nothing in Lean hashes anything: it is a label: what it is worth is what the hold of that sum in a sandbox is worth. -/
noncomputable def Try.pinned : Pinned := { name := "ytkpkoapcmnapoaa", sum := "63c818c0f37e25c03991d5ce1b9f157ef9cdba8f925c7c332aba79d166442f60", checked := Try.checked }
namespace Rows
def none {H : Type} : Left H := { results := [], args := [] }

/-- 'laws.FnExactOwnersFault': WHATEVER THE INPUT: true; the input reads as it did. -/
def fnExactOwnersFaultSpec : ChangeSpec := { name := "fnExactOwnersFault", fn := fun _ => fun
  | [d] => { results := [.lit (.bool true)], args := [d] }
  | _ => none }
def fnExactOwnersFaultRow : OpenClaim := { program := "ytkpkoapcmnapoaa", sum := "63c818c0f37e25c03991d5ce1b9f157ef9cdba8f925c7c332aba79d166442f60", func := "loop.example/g00311/laws.FnExactOwnersFault", spec := "fnExactOwnersFault", plainKeys := false, apart := false }
def FnExactOwnersFaultSaid : Prop := fnExactOwnersFaultRow.holds Try.pinned (OpenSpec.ofChange fnExactOwnersFaultSpec)

/-- ITS FALSE NEIGHBOUR: 'it returns false'. Refute it at one input. -/
def fnExactOwnersFaultWrong : ChangeSpec := { name := "fnExactOwnersFault", fn := fun _ => fun
  | [d] => { results := [.lit (.bool false)], args := [d] }
  | _ => none }
def FnExactOwnersFaultWrongFalsely : Prop := fnExactOwnersFaultRow.holds Try.pinned (OpenSpec.ofChange fnExactOwnersFaultWrong)

/-- 'laws.FnExactTakeLock': WHATEVER THE INPUT: true; the input reads as it did. -/
def fnExactTakeLockSpec : ChangeSpec := { name := "fnExactTakeLock", fn := fun _ => fun
  | [d1, d2, d3] => { results := [.lit (.bool true)], args := [d1, d2, d3] }
  | _ => none }
def fnExactTakeLockRow : OpenClaim := { program := "ytkpkoapcmnapoaa", sum := "63c818c0f37e25c03991d5ce1b9f157ef9cdba8f925c7c332aba79d166442f60", func := "loop.example/g00311/laws.FnExactTakeLock", spec := "fnExactTakeLock", unfollowed := true, recurses := true, plainKeys := false, apart := false }
def FnExactTakeLockSaid : Prop := fnExactTakeLockRow.holds Try.pinned (OpenSpec.ofChange fnExactTakeLockSpec)

/-- ITS FALSE NEIGHBOUR: 'it returns false'. Refute it at one input. -/
def fnExactTakeLockWrong : ChangeSpec := { name := "fnExactTakeLock", fn := fun _ => fun
  | [d1, d2, d3] => { results := [.lit (.bool false)], args := [d1, d2, d3] }
  | _ => none }
def FnExactTakeLockWrongFalsely : Prop := fnExactTakeLockRow.holds Try.pinned (OpenSpec.ofChange fnExactTakeLockWrong)

/-- 'laws.FnExactFreeLocks': WHATEVER THE INPUT: true; the input reads as it did. -/
def fnExactFreeLocksSpec : ChangeSpec := { name := "fnExactFreeLocks", fn := fun _ => fun
  | [d1, d2] => { results := [.lit (.bool true)], args := [d1, d2] }
  | _ => none }
def fnExactFreeLocksRow : OpenClaim := { program := "ytkpkoapcmnapoaa", sum := "63c818c0f37e25c03991d5ce1b9f157ef9cdba8f925c7c332aba79d166442f60", func := "loop.example/g00311/laws.FnExactFreeLocks", spec := "fnExactFreeLocks", unfollowed := true, recurses := true, plainKeys := false, apart := false }
def FnExactFreeLocksSaid : Prop := fnExactFreeLocksRow.holds Try.pinned (OpenSpec.ofChange fnExactFreeLocksSpec)

/-- ITS FALSE NEIGHBOUR: 'it returns false'. Refute it at one input. -/
def fnExactFreeLocksWrong : ChangeSpec := { name := "fnExactFreeLocks", fn := fun _ => fun
  | [d1, d2] => { results := [.lit (.bool false)], args := [d1, d2] }
  | _ => none }
def FnExactFreeLocksWrongFalsely : Prop := fnExactFreeLocksRow.holds Try.pinned (OpenSpec.ofChange fnExactFreeLocksWrong)

/-- 'laws.FnExactHeldBy': WHATEVER THE INPUT: true; the input reads as it did. -/
def fnExactHeldBySpec : ChangeSpec := { name := "fnExactHeldBy", fn := fun _ => fun
  | [d1, d2] => { results := [.lit (.bool true)], args := [d1, d2] }
  | _ => none }
def fnExactHeldByRow : OpenClaim := { program := "ytkpkoapcmnapoaa", sum := "63c818c0f37e25c03991d5ce1b9f157ef9cdba8f925c7c332aba79d166442f60", func := "loop.example/g00311/laws.FnExactHeldBy", spec := "fnExactHeldBy", recurses := true, plainKeys := false, apart := false }
def FnExactHeldBySaid : Prop := fnExactHeldByRow.holds Try.pinned (OpenSpec.ofChange fnExactHeldBySpec)

/-- ITS FALSE NEIGHBOUR: 'it returns false'. Refute it at one input. -/
def fnExactHeldByWrong : ChangeSpec := { name := "fnExactHeldBy", fn := fun _ => fun
  | [d1, d2] => { results := [.lit (.bool false)], args := [d1, d2] }
  | _ => none }
def FnExactHeldByWrongFalsely : Prop := fnExactHeldByRow.holds Try.pinned (OpenSpec.ofChange fnExactHeldByWrong)

/-- 'laws.FnExactOwnerOf': WHATEVER THE INPUT: true; the input reads as it did. -/
def fnExactOwnerOfSpec : ChangeSpec := { name := "fnExactOwnerOf", fn := fun _ => fun
  | [d1, d2] => { results := [.lit (.bool true)], args := [d1, d2] }
  | _ => none }
def fnExactOwnerOfRow : OpenClaim := { program := "ytkpkoapcmnapoaa", sum := "63c818c0f37e25c03991d5ce1b9f157ef9cdba8f925c7c332aba79d166442f60", func := "loop.example/g00311/laws.FnExactOwnerOf", spec := "fnExactOwnerOf", plainKeys := false, apart := false }
def FnExactOwnerOfSaid : Prop := fnExactOwnerOfRow.holds Try.pinned (OpenSpec.ofChange fnExactOwnerOfSpec)

/-- ITS FALSE NEIGHBOUR: 'it returns false'. Refute it at one input. -/
def fnExactOwnerOfWrong : ChangeSpec := { name := "fnExactOwnerOf", fn := fun _ => fun
  | [d1, d2] => { results := [.lit (.bool false)], args := [d1, d2] }
  | _ => none }
def FnExactOwnerOfWrongFalsely : Prop := fnExactOwnerOfRow.holds Try.pinned (OpenSpec.ofChange fnExactOwnerOfWrong)

/-- 'laws.FnExactMayTake': WHATEVER THE INPUT: true; the input reads as it did. -/
def fnExactMayTakeSpec : ChangeSpec := { name := "fnExactMayTake", fn := fun _ => fun
  | [d1, d2, d3] => { results := [.lit (.bool true)], args := [d1, d2, d3] }
  | _ => none }
def fnExactMayTakeRow : OpenClaim := { program := "ytkpkoapcmnapoaa", sum := "63c818c0f37e25c03991d5ce1b9f157ef9cdba8f925c7c332aba79d166442f60", func := "loop.example/g00311/laws.FnExactMayTake", spec := "fnExactMayTake", unfollowed := true, recurses := true, plainKeys := false, apart := false }
def FnExactMayTakeSaid : Prop := fnExactMayTakeRow.holds Try.pinned (OpenSpec.ofChange fnExactMayTakeSpec)

/-- ITS FALSE NEIGHBOUR: 'it returns false'. Refute it at one input. -/
def fnExactMayTakeWrong : ChangeSpec := { name := "fnExactMayTake", fn := fun _ => fun
  | [d1, d2, d3] => { results := [.lit (.bool false)], args := [d1, d2, d3] }
  | _ => none }
def FnExactMayTakeWrongFalsely : Prop := fnExactMayTakeRow.holds Try.pinned (OpenSpec.ofChange fnExactMayTakeWrong)

/- THE SECOND FORM. 'bulk': how many values and letters a reading holds, each counted each time it is reached (what is shared counts as often as it is met; a slice's spare places count too). A statement '..UptoSaid' is the law's where the arguments, and the package variables that the reading takes, are together of bulk at most 1048576: NARROWER than '..Said'. Prove '..Said' where nothing that the law and all that it calls make is longer than what came in: it says more and counts as full. Else prove '..UptoSaid'. A law counts once. -/
mutual
def uptoBulk {H : Type} : DataW H → Nat
  | .lit (.string bytes) => bytes.length + 1
  | .lit _ => 1
  | .nil => 1
  | .ptr d => uptoBulk d + 1
  | .slice elems spare => uptoBulkAll elems + uptoBulkAll spare + 1
  | .agg parts => uptoBulkAll parts + 1
  | .iface _ d => uptoBulk d + 1
  | .map entries => uptoBulkEntries entries + 1
  | .held _ => 1
def uptoBulkAll {H : Type} : List (DataW H) → Nat
  | [] => 0
  | d :: r => uptoBulk d + uptoBulkAll r
def uptoBulkEntries {H : Type} : List (Lit × DataW H) → Nat
  | [] => 0
  | x :: r => uptoBulkEntry x + uptoBulkEntries r
def uptoBulkEntry {H : Type} : Lit × DataW H → Nat
  | (.string bytes, d) => bytes.length + uptoBulk d + 1
  | (_, d) => uptoBulk d + 1
 end
def uptoSmall : (H : Type) → List (DataW H) → Bool := fun _ ds => decide (uptoBulkAll ds ≤ 1048576)
def OpenSpec.upto (s : _root_.Go.ChangeSpec) : _root_.Go.OpenSpec := { _root_.Go.OpenSpec.ofChange s with cond := some uptoSmall }

/-- 'laws.FnExactOwnersFault', WHERE WHAT IT READS IS OF BULK AT MOST 1048576: true; the input reads as it did. -/
def fnExactOwnersFaultUptoRow : OpenClaim := { program := "ytkpkoapcmnapoaa", sum := "63c818c0f37e25c03991d5ce1b9f157ef9cdba8f925c7c332aba79d166442f60", func := "loop.example/g00311/laws.FnExactOwnersFault", spec := "fnExactOwnersFault", plainKeys := false, apart := false, narrowed := true }
def FnExactOwnersFaultUptoSaid : Prop := fnExactOwnersFaultUptoRow.holds Try.pinned (OpenSpec.upto fnExactOwnersFaultSpec)

/-- 'laws.FnExactTakeLock', WHERE WHAT IT READS IS OF BULK AT MOST 1048576: true; the input reads as it did. -/
def fnExactTakeLockUptoRow : OpenClaim := { program := "ytkpkoapcmnapoaa", sum := "63c818c0f37e25c03991d5ce1b9f157ef9cdba8f925c7c332aba79d166442f60", func := "loop.example/g00311/laws.FnExactTakeLock", spec := "fnExactTakeLock", unfollowed := true, recurses := true, plainKeys := false, apart := false, narrowed := true }
def FnExactTakeLockUptoSaid : Prop := fnExactTakeLockUptoRow.holds Try.pinned (OpenSpec.upto fnExactTakeLockSpec)

/-- 'laws.FnExactFreeLocks', WHERE WHAT IT READS IS OF BULK AT MOST 1048576: true; the input reads as it did. -/
def fnExactFreeLocksUptoRow : OpenClaim := { program := "ytkpkoapcmnapoaa", sum := "63c818c0f37e25c03991d5ce1b9f157ef9cdba8f925c7c332aba79d166442f60", func := "loop.example/g00311/laws.FnExactFreeLocks", spec := "fnExactFreeLocks", unfollowed := true, recurses := true, plainKeys := false, apart := false, narrowed := true }
def FnExactFreeLocksUptoSaid : Prop := fnExactFreeLocksUptoRow.holds Try.pinned (OpenSpec.upto fnExactFreeLocksSpec)

/-- 'laws.FnExactHeldBy', WHERE WHAT IT READS IS OF BULK AT MOST 1048576: true; the input reads as it did. -/
def fnExactHeldByUptoRow : OpenClaim := { program := "ytkpkoapcmnapoaa", sum := "63c818c0f37e25c03991d5ce1b9f157ef9cdba8f925c7c332aba79d166442f60", func := "loop.example/g00311/laws.FnExactHeldBy", spec := "fnExactHeldBy", recurses := true, plainKeys := false, apart := false, narrowed := true }
def FnExactHeldByUptoSaid : Prop := fnExactHeldByUptoRow.holds Try.pinned (OpenSpec.upto fnExactHeldBySpec)

/-- 'laws.FnExactOwnerOf', WHERE WHAT IT READS IS OF BULK AT MOST 1048576: true; the input reads as it did. -/
def fnExactOwnerOfUptoRow : OpenClaim := { program := "ytkpkoapcmnapoaa", sum := "63c818c0f37e25c03991d5ce1b9f157ef9cdba8f925c7c332aba79d166442f60", func := "loop.example/g00311/laws.FnExactOwnerOf", spec := "fnExactOwnerOf", plainKeys := false, apart := false, narrowed := true }
def FnExactOwnerOfUptoSaid : Prop := fnExactOwnerOfUptoRow.holds Try.pinned (OpenSpec.upto fnExactOwnerOfSpec)

/-- 'laws.FnExactMayTake', WHERE WHAT IT READS IS OF BULK AT MOST 1048576: true; the input reads as it did. -/
def fnExactMayTakeUptoRow : OpenClaim := { program := "ytkpkoapcmnapoaa", sum := "63c818c0f37e25c03991d5ce1b9f157ef9cdba8f925c7c332aba79d166442f60", func := "loop.example/g00311/laws.FnExactMayTake", spec := "fnExactMayTake", unfollowed := true, recurses := true, plainKeys := false, apart := false, narrowed := true }
def FnExactMayTakeUptoSaid : Prop := fnExactMayTakeUptoRow.holds Try.pinned (OpenSpec.upto fnExactMayTakeSpec)

end Rows
end Go.Proofs.Ytkpkoapcmnapoaa
