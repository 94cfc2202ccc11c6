/-
  DERIVED. GIVEN WITH THE SEED: THE CARDS: each row of YthemdmefdelmoaaDoorRows.lean that lists a variable, with what it lists TIED to the program's text (the seventh form; the later family's looks); each row that meets fmt, with fmt's text TOLD by the authors' own Lean function (tested against real Go, not proved from fmt's source: count such statements apart). THE CARD IS WHAT COUNTS. Prove the row's statement (the work); the ties are given (YthemdmefdelmoaaDoorTie.lean); close each card by the builder's one call (the guide's Derived/Test/ToyasCard.lean, 'card_holds'). Laid BY PROGRAM, IN A SANDBOX (cutbox-door.mjs). By AI agents, Wed Nov 11 2026. No macro, syntax, notation, axiom, sorry.
-/
import Derived.Test.YthemdmefdelmoaaDoorRows
import GoSem.ClaimSeven
namespace Go.Proofs.YthemdmefdelmoaaDoor
namespace Rows

/-- THE TIED CARD OF 'laws.FnExactCompactRaft'. -/
def fnExactCompactRaftCard : Claim7 := { stood := { row := fnExactCompactRaftRow, standIns := [], harness := (true, "49d1e0a6b1bae3f30bb1276a8579a15995de6d82332dd0c1b41b40609799d16d"), looks := true }, kinds := [], alts := [], laidByText := true, laidKinds := [.handle, .sentinel], laidTests := true, laidLooks := .later }
def FnExactCompactRaftCardSaid : Prop := Claim7.holds Tryd.pinned (.plain (OpenSpec.ofChange fnExactCompactRaftSpec)) fnExactCompactRaftCard

/-- THE TIED CARD OF 'laws.FnExactInstallRaft'. -/
def fnExactInstallRaftCard : Claim7 := { stood := { row := fnExactInstallRaftRow, standIns := [], harness := (true, "49d1e0a6b1bae3f30bb1276a8579a15995de6d82332dd0c1b41b40609799d16d"), looks := true }, kinds := [], alts := [], laidByText := true, laidKinds := [.handle, .sentinel], laidTests := true, laidLooks := .later }
def FnExactInstallRaftCardSaid : Prop := Claim7.holds Tryd.pinned (.plain (OpenSpec.ofChange fnExactInstallRaftSpec)) fnExactInstallRaftCard

/-- THE TIED CARD OF 'laws.FnExactAppendRaft'. -/
def fnExactAppendRaftCard : Claim7 := { stood := { row := fnExactAppendRaftRow, standIns := [], harness := (true, "49d1e0a6b1bae3f30bb1276a8579a15995de6d82332dd0c1b41b40609799d16d"), looks := true }, kinds := [], alts := [], laidByText := true, laidKinds := [.handle, .sentinel], laidTests := true, laidLooks := .later }
def FnExactAppendRaftCardSaid : Prop := Claim7.holds Tryd.pinned (.plain (OpenSpec.ofChange fnExactAppendRaftSpec)) fnExactAppendRaftCard

/-- THE SECOND FORM's CARD OF 'laws.FnExactCompactRaft'. -/
def fnExactCompactRaftUptoCard : Claim7 := { stood := { row := fnExactCompactRaftUptoRow, standIns := [], harness := (true, "49d1e0a6b1bae3f30bb1276a8579a15995de6d82332dd0c1b41b40609799d16d"), looks := true }, kinds := [], alts := [], laidByText := true, laidKinds := [.handle, .sentinel], laidTests := true, laidLooks := .later }
def FnExactCompactRaftUptoCardSaid : Prop := Claim7.holds Tryd.pinned (.plain (OpenSpec.upto fnExactCompactRaftSpec)) fnExactCompactRaftUptoCard

/-- THE SECOND FORM's CARD OF 'laws.FnExactInstallRaft'. -/
def fnExactInstallRaftUptoCard : Claim7 := { stood := { row := fnExactInstallRaftUptoRow, standIns := [], harness := (true, "49d1e0a6b1bae3f30bb1276a8579a15995de6d82332dd0c1b41b40609799d16d"), looks := true }, kinds := [], alts := [], laidByText := true, laidKinds := [.handle, .sentinel], laidTests := true, laidLooks := .later }
def FnExactInstallRaftUptoCardSaid : Prop := Claim7.holds Tryd.pinned (.plain (OpenSpec.upto fnExactInstallRaftSpec)) fnExactInstallRaftUptoCard

/-- THE SECOND FORM's CARD OF 'laws.FnExactAppendRaft'. -/
def fnExactAppendRaftUptoCard : Claim7 := { stood := { row := fnExactAppendRaftUptoRow, standIns := [], harness := (true, "49d1e0a6b1bae3f30bb1276a8579a15995de6d82332dd0c1b41b40609799d16d"), looks := true }, kinds := [], alts := [], laidByText := true, laidKinds := [.handle, .sentinel], laidTests := true, laidLooks := .later }
def FnExactAppendRaftUptoCardSaid : Prop := Claim7.holds Tryd.pinned (.plain (OpenSpec.upto fnExactAppendRaftSpec)) fnExactAppendRaftUptoCard
end Rows
end Go.Proofs.YthemdmefdelmoaaDoor
