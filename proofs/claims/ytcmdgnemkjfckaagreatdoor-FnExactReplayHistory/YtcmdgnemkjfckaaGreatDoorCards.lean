/-
  DERIVED. GIVEN WITH THE SEED: THE CARDS: each row of YtcmdgnemkjfckaaGreatDoorRows.lean that lists a variable, with what it lists TIED to the program's text (the seventh form; the later family's looks); each row that meets fmt, with fmt's text TOLD by the authors' own Lean function (tested against real Go, not proved from fmt's source: count such statements apart). THE CARD IS WHAT COUNTS. Prove the row's statement (the work); the ties are given (YtcmdgnemkjfckaaGreatDoorTie.lean); close each card by the builder's one call (the guide's Derived/Test/ToyasCard.lean, 'card_holds'). Laid BY PROGRAM, IN A SANDBOX (cutbox-door.mjs). By AI agents, Wed Nov 11 2026. No macro, syntax, notation, axiom, sorry.
-/
import Derived.Test.YtcmdgnemkjfckaaGreatDoorRows
import GoSem.ClaimSeven
namespace Go.Proofs.YtcmdgnemkjfckaaGreatDoor
namespace Rows

/-- THE TIED CARD OF 'laws.FnExactReplayHistory'. -/
def fnExactReplayHistoryCard : Claim7 := { stood := { row := fnExactReplayHistoryRow, standIns := [], harness := (true, "05268a9124bb7483172b9d0d9df8f75113f168460e7fe5592ab73a8ec98b5151"), looks := true }, kinds := [], alts := [], laidByText := true, laidKinds := [.handle, .sentinel], laidTests := true, laidLooks := .later }
def FnExactReplayHistoryCardSaid : Prop := Claim7.holds Tryz.pinned (.plain (OpenSpec.ofChange fnExactReplayHistorySpec)) fnExactReplayHistoryCard

/-- THE SECOND FORM's CARD OF 'laws.FnExactReplayHistory'. -/
def fnExactReplayHistoryUptoCard : Claim7 := { stood := { row := fnExactReplayHistoryUptoRow, standIns := [], harness := (true, "05268a9124bb7483172b9d0d9df8f75113f168460e7fe5592ab73a8ec98b5151"), looks := true }, kinds := [], alts := [], laidByText := true, laidKinds := [.handle, .sentinel], laidTests := true, laidLooks := .later }
def FnExactReplayHistoryUptoCardSaid : Prop := Claim7.holds Tryz.pinned (.plain (OpenSpec.upto fnExactReplayHistorySpec)) fnExactReplayHistoryUptoCard
end Rows
end Go.Proofs.YtcmdgnemkjfckaaGreatDoor
