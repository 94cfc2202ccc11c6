/-
  DERIVED. GIVEN WITH THE SEED: THE CARDS: each row of YtncgpfapepminaaGreatDoorRows.lean that lists a variable, with what it lists TIED to the program's text (the seventh form; the later family's looks); each row that meets fmt, with fmt's text TOLD by the authors' own Lean function (tested against real Go, not proved from fmt's source: count such statements apart). THE CARD IS WHAT COUNTS. Prove the row's statement (the work); the ties are given (YtncgpfapepminaaGreatDoorTie.lean); close each card by the builder's one call (the guide's Derived/Test/ToyasCard.lean, 'card_holds'). Laid BY PROGRAM, IN A SANDBOX (cutbox-door.mjs). By AI agents, Wed Nov 11 2026. No macro, syntax, notation, axiom, sorry.
-/
import Derived.Test.YtncgpfapepminaaGreatDoorRows
import GoSem.ClaimSeven
namespace Go.Proofs.YtncgpfapepminaaGreatDoor
namespace Rows

/-- THE TIED CARD OF 'laws.FnInstall'. -/
def fnInstallCard : Claim7 := { stood := { row := fnInstallRow, standIns := [], harness := (true, "3fe74cbacd7bd29c8996d95ea895835fd1edd012afdf378f80170639b090a769"), looks := true }, kinds := [], alts := [], laidByText := true, laidKinds := [.handle, .sentinel], laidTests := true, laidLooks := .later }
def FnInstallCardSaid : Prop := Claim7.holds Tryz.pinned (.plain (OpenSpec.ofChange fnInstallSpec)) fnInstallCard

/-- THE SECOND FORM's CARD OF 'laws.FnInstall'. -/
def fnInstallUptoCard : Claim7 := { stood := { row := fnInstallUptoRow, standIns := [], harness := (true, "3fe74cbacd7bd29c8996d95ea895835fd1edd012afdf378f80170639b090a769"), looks := true }, kinds := [], alts := [], laidByText := true, laidKinds := [.handle, .sentinel], laidTests := true, laidLooks := .later }
def FnInstallUptoCardSaid : Prop := Claim7.holds Tryz.pinned (.plain (OpenSpec.upto fnInstallSpec)) fnInstallUptoCard
end Rows
end Go.Proofs.YtncgpfapepminaaGreatDoor
