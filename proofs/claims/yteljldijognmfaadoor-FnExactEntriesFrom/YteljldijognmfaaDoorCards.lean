/-
  DERIVED. GIVEN WITH THE SEED: THE CARDS: each row of YteljldijognmfaaDoorRows.lean that lists a variable, with what it lists TIED to the program's text (the seventh form; the later family's looks); each row that meets fmt, with fmt's text TOLD by the authors' own Lean function (tested against real Go, not proved from fmt's source: count such statements apart). THE CARD IS WHAT COUNTS. Prove the row's statement (the work); the ties are given (YteljldijognmfaaDoorTie.lean); close each card by the builder's one call (the guide's Derived/Test/ToyasCard.lean, 'card_holds'). Laid BY PROGRAM, IN A SANDBOX (cutbox-door.mjs). By AI agents, Wed Nov 11 2026. No macro, syntax, notation, axiom, sorry.
-/
import Derived.Test.YteljldijognmfaaDoorRows
import GoSem.ClaimSeven
namespace Go.Proofs.YteljldijognmfaaDoor
namespace Rows

/-- THE TIED CARD OF 'laws.FnExactSetHard'. -/
def fnExactSetHardCard : Claim7 := { stood := { row := fnExactSetHardRow, standIns := [], harness := (true, "dfb478dfaaaea2d24d991c5bff197b2876e9178ac5c18b92bb993a0b9bbc71a7"), looks := true }, kinds := [], alts := [], laidByText := true, laidKinds := [.handle, .sentinel], laidTests := true, laidLooks := .later }
def FnExactSetHardCardSaid : Prop := Claim7.holds Tryd.pinned (.plain (OpenSpec.ofChange fnExactSetHardSpec)) fnExactSetHardCard

/-- THE TIED CARD OF 'laws.FnExactEntriesFrom'. -/
def fnExactEntriesFromCard : Claim7 := { stood := { row := fnExactEntriesFromRow, standIns := [], harness := (true, "dfb478dfaaaea2d24d991c5bff197b2876e9178ac5c18b92bb993a0b9bbc71a7"), looks := true }, kinds := [], alts := [], laidByText := true, laidKinds := [.handle, .sentinel], laidTests := true, laidLooks := .later }
def FnExactEntriesFromCardSaid : Prop := Claim7.holds Tryd.pinned (.plain (OpenSpec.ofChange fnExactEntriesFromSpec)) fnExactEntriesFromCard

/-- THE TIED CARD OF 'laws.FnExactCompactRaft'. -/
def fnExactCompactRaftCard : Claim7 := { stood := { row := fnExactCompactRaftRow, standIns := [], harness := (true, "dfb478dfaaaea2d24d991c5bff197b2876e9178ac5c18b92bb993a0b9bbc71a7"), looks := true }, kinds := [], alts := [], laidByText := true, laidKinds := [.handle, .sentinel], laidTests := true, laidLooks := .later }
def FnExactCompactRaftCardSaid : Prop := Claim7.holds Tryd.pinned (.plain (OpenSpec.ofChange fnExactCompactRaftSpec)) fnExactCompactRaftCard

/-- THE TIED CARD OF 'laws.FnExactInstallRaft'. -/
def fnExactInstallRaftCard : Claim7 := { stood := { row := fnExactInstallRaftRow, standIns := [], harness := (true, "dfb478dfaaaea2d24d991c5bff197b2876e9178ac5c18b92bb993a0b9bbc71a7"), looks := true }, kinds := [], alts := [], laidByText := true, laidKinds := [.handle, .sentinel], laidTests := true, laidLooks := .later }
def FnExactInstallRaftCardSaid : Prop := Claim7.holds Tryd.pinned (.plain (OpenSpec.ofChange fnExactInstallRaftSpec)) fnExactInstallRaftCard

/-- THE TIED CARD OF 'laws.FnExactAppendRaft'. -/
def fnExactAppendRaftCard : Claim7 := { stood := { row := fnExactAppendRaftRow, standIns := [], harness := (true, "dfb478dfaaaea2d24d991c5bff197b2876e9178ac5c18b92bb993a0b9bbc71a7"), looks := true }, kinds := [], alts := [], laidByText := true, laidKinds := [.handle, .sentinel], laidTests := true, laidLooks := .later }
def FnExactAppendRaftCardSaid : Prop := Claim7.holds Tryd.pinned (.plain (OpenSpec.ofChange fnExactAppendRaftSpec)) fnExactAppendRaftCard

/-- THE SECOND FORM's CARD OF 'laws.FnExactSetHard'. -/
def fnExactSetHardUptoCard : Claim7 := { stood := { row := fnExactSetHardUptoRow, standIns := [], harness := (true, "dfb478dfaaaea2d24d991c5bff197b2876e9178ac5c18b92bb993a0b9bbc71a7"), looks := true }, kinds := [], alts := [], laidByText := true, laidKinds := [.handle, .sentinel], laidTests := true, laidLooks := .later }
def FnExactSetHardUptoCardSaid : Prop := Claim7.holds Tryd.pinned (.plain (OpenSpec.upto fnExactSetHardSpec)) fnExactSetHardUptoCard

/-- THE SECOND FORM's CARD OF 'laws.FnExactEntriesFrom'. -/
def fnExactEntriesFromUptoCard : Claim7 := { stood := { row := fnExactEntriesFromUptoRow, standIns := [], harness := (true, "dfb478dfaaaea2d24d991c5bff197b2876e9178ac5c18b92bb993a0b9bbc71a7"), looks := true }, kinds := [], alts := [], laidByText := true, laidKinds := [.handle, .sentinel], laidTests := true, laidLooks := .later }
def FnExactEntriesFromUptoCardSaid : Prop := Claim7.holds Tryd.pinned (.plain (OpenSpec.upto fnExactEntriesFromSpec)) fnExactEntriesFromUptoCard

/-- THE SECOND FORM's CARD OF 'laws.FnExactCompactRaft'. -/
def fnExactCompactRaftUptoCard : Claim7 := { stood := { row := fnExactCompactRaftUptoRow, standIns := [], harness := (true, "dfb478dfaaaea2d24d991c5bff197b2876e9178ac5c18b92bb993a0b9bbc71a7"), looks := true }, kinds := [], alts := [], laidByText := true, laidKinds := [.handle, .sentinel], laidTests := true, laidLooks := .later }
def FnExactCompactRaftUptoCardSaid : Prop := Claim7.holds Tryd.pinned (.plain (OpenSpec.upto fnExactCompactRaftSpec)) fnExactCompactRaftUptoCard

/-- THE SECOND FORM's CARD OF 'laws.FnExactInstallRaft'. -/
def fnExactInstallRaftUptoCard : Claim7 := { stood := { row := fnExactInstallRaftUptoRow, standIns := [], harness := (true, "dfb478dfaaaea2d24d991c5bff197b2876e9178ac5c18b92bb993a0b9bbc71a7"), looks := true }, kinds := [], alts := [], laidByText := true, laidKinds := [.handle, .sentinel], laidTests := true, laidLooks := .later }
def FnExactInstallRaftUptoCardSaid : Prop := Claim7.holds Tryd.pinned (.plain (OpenSpec.upto fnExactInstallRaftSpec)) fnExactInstallRaftUptoCard

/-- THE SECOND FORM's CARD OF 'laws.FnExactAppendRaft'. -/
def fnExactAppendRaftUptoCard : Claim7 := { stood := { row := fnExactAppendRaftUptoRow, standIns := [], harness := (true, "dfb478dfaaaea2d24d991c5bff197b2876e9178ac5c18b92bb993a0b9bbc71a7"), looks := true }, kinds := [], alts := [], laidByText := true, laidKinds := [.handle, .sentinel], laidTests := true, laidLooks := .later }
def FnExactAppendRaftUptoCardSaid : Prop := Claim7.holds Tryd.pinned (.plain (OpenSpec.upto fnExactAppendRaftSpec)) fnExactAppendRaftUptoCard
end Rows
end Go.Proofs.YteljldijognmfaaDoor
