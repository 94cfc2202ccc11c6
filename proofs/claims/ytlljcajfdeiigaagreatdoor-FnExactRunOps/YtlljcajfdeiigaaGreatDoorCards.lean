/-
  DERIVED. GIVEN WITH THE SEED: THE CARDS: each row of YtlljcajfdeiigaaGreatDoorRows.lean that lists a variable, with what it lists TIED to the program's text (the seventh form; the later family's looks); each row that meets fmt, with fmt's text TOLD by the authors' own Lean function (tested against real Go, not proved from fmt's source: count such statements apart). THE CARD IS WHAT COUNTS. Prove the row's statement (the work); the ties are given (YtlljcajfdeiigaaGreatDoorTie.lean); close each card by the builder's one call (the guide's Derived/Test/ToyasCard.lean, 'card_holds'). Laid BY PROGRAM, IN A SANDBOX (cutbox-door.mjs). By AI agents, Wed Nov 11 2026. No macro, syntax, notation, axiom, sorry.
-/
import Derived.Test.YtlljcajfdeiigaaGreatDoorRows
import GoSem.ClaimSeven
namespace Go.Proofs.YtlljcajfdeiigaaGreatDoor
namespace Rows

/-- THE TIED CARD OF 'laws.FnExactDoOp'. -/
def fnExactDoOpCard : Claim7 := { stood := { row := fnExactDoOpRow, standIns := [], harness := (true, "86110061de829424d33d170e6d64d9a48886f759fd3548abb9bd72f76ca2e442"), looks := true }, kinds := [], alts := [], laidByText := true, laidKinds := [.handle, .sentinel], laidTests := true, laidLooks := .later }
def FnExactDoOpCardSaid : Prop := Claim7.holds Tryz.pinned (.plain (OpenSpec.ofChange fnExactDoOpSpec)) fnExactDoOpCard

/-- THE TIED CARD OF 'laws.FnExactRunOps'. -/
def fnExactRunOpsCard : Claim7 := { stood := { row := fnExactRunOpsRow, standIns := [], harness := (true, "86110061de829424d33d170e6d64d9a48886f759fd3548abb9bd72f76ca2e442"), looks := true }, kinds := [], alts := [], laidByText := true, laidKinds := [.handle, .sentinel], laidTests := true, laidLooks := .later }
def FnExactRunOpsCardSaid : Prop := Claim7.holds Tryz.pinned (.plain (OpenSpec.ofChange fnExactRunOpsSpec)) fnExactRunOpsCard

/-- THE SECOND FORM's CARD OF 'laws.FnExactDoOp'. -/
def fnExactDoOpUptoCard : Claim7 := { stood := { row := fnExactDoOpUptoRow, standIns := [], harness := (true, "86110061de829424d33d170e6d64d9a48886f759fd3548abb9bd72f76ca2e442"), looks := true }, kinds := [], alts := [], laidByText := true, laidKinds := [.handle, .sentinel], laidTests := true, laidLooks := .later }
def FnExactDoOpUptoCardSaid : Prop := Claim7.holds Tryz.pinned (.plain (OpenSpec.upto fnExactDoOpSpec)) fnExactDoOpUptoCard

/-- THE SECOND FORM's CARD OF 'laws.FnExactRunOps'. -/
def fnExactRunOpsUptoCard : Claim7 := { stood := { row := fnExactRunOpsUptoRow, standIns := [], harness := (true, "86110061de829424d33d170e6d64d9a48886f759fd3548abb9bd72f76ca2e442"), looks := true }, kinds := [], alts := [], laidByText := true, laidKinds := [.handle, .sentinel], laidTests := true, laidLooks := .later }
def FnExactRunOpsUptoCardSaid : Prop := Claim7.holds Tryz.pinned (.plain (OpenSpec.upto fnExactRunOpsSpec)) fnExactRunOpsUptoCard
end Rows
end Go.Proofs.YtlljcajfdeiigaaGreatDoor
