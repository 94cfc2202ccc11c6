/-
  DERIVED. GIVEN WITH THE SEED: THE CARDS: each row of YtehamhldnpngiaaDoorRows.lean that lists a variable, with what it lists TIED to the program's text (the seventh form; the later family's looks); each row that meets fmt, with fmt's text TOLD by the authors' own Lean function (tested against real Go, not proved from fmt's source: count such statements apart). THE CARD IS WHAT COUNTS. Prove the row's statement (the work); the ties are given (YtehamhldnpngiaaDoorTie.lean); close each card by the builder's one call (the guide's Derived/Test/ToyasCard.lean, 'card_holds'). Laid BY PROGRAM, IN A SANDBOX (cutbox-door.mjs). By AI agents, Wed Nov 11 2026. No macro, syntax, notation, axiom, sorry.
-/
import Derived.Test.YtehamhldnpngiaaDoorRows
import GoSem.ClaimSeven
namespace Go.Proofs.YtehamhldnpngiaaDoor
namespace Rows

/-- THE TIED CARD OF 'laws.FnExactAppendRaft'. -/
def fnExactAppendRaftCard : Claim7 := { stood := { row := fnExactAppendRaftRow, standIns := [], harness := (true, "37eeed2b1dcdc10a294c0721df8e7fc9e806235e02bd371e076df2719f4c7868"), looks := true }, kinds := [], alts := [], laidByText := true, laidKinds := [.handle, .sentinel], laidTests := true, laidLooks := .later }
def FnExactAppendRaftCardSaid : Prop := Claim7.holds Tryd.pinned (.plain (OpenSpec.ofChange fnExactAppendRaftSpec)) fnExactAppendRaftCard

/-- THE SECOND FORM's CARD OF 'laws.FnExactAppendRaft'. -/
def fnExactAppendRaftUptoCard : Claim7 := { stood := { row := fnExactAppendRaftUptoRow, standIns := [], harness := (true, "37eeed2b1dcdc10a294c0721df8e7fc9e806235e02bd371e076df2719f4c7868"), looks := true }, kinds := [], alts := [], laidByText := true, laidKinds := [.handle, .sentinel], laidTests := true, laidLooks := .later }
def FnExactAppendRaftUptoCardSaid : Prop := Claim7.holds Tryd.pinned (.plain (OpenSpec.upto fnExactAppendRaftSpec)) fnExactAppendRaftUptoCard
end Rows
end Go.Proofs.YtehamhldnpngiaaDoor
