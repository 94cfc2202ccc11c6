/-
  DERIVED. GIVEN WITH THE SEED: THE CARDS: each row of YtchadekpiegfgaaDoorRows.lean that lists a variable, with what it lists TIED to the program's text (the seventh form; the later family's looks); each row that meets fmt, with fmt's text TOLD by the authors' own Lean function (tested against real Go, not proved from fmt's source: count such statements apart). THE CARD IS WHAT COUNTS. Prove the row's statement (the work); the ties are given (YtchadekpiegfgaaDoorTie.lean); close each card by the builder's one call (the guide's Derived/Test/ToyasCard.lean, 'card_holds'). Laid BY PROGRAM, IN A SANDBOX (cutbox-door.mjs). By AI agents, Wed Nov 11 2026. No macro, syntax, notation, axiom, sorry.
-/
import Derived.Test.YtchadekpiegfgaaDoorRows
import GoSem.ClaimSeven
namespace Go.Proofs.YtchadekpiegfgaaDoor
namespace Rows

/-- THE TIED CARD OF 'laws.FnExactTermAt'. -/
def fnExactTermAtCard : Claim7 := { stood := { row := fnExactTermAtRow, standIns := [], harness := (true, "6e804bd4ee76a87ef9eaa6e62ec2f650ac8197ea2394adc3e811954f3f83d4fc"), looks := true }, kinds := [], alts := [], laidByText := true, laidKinds := [.handle, .sentinel], laidTests := true, laidLooks := .later }
def FnExactTermAtCardSaid : Prop := Claim7.holds Tryd.pinned (.plain (OpenSpec.ofChange fnExactTermAtSpec)) fnExactTermAtCard

/-- THE TIED CARD OF 'laws.FnExactSetHard'. -/
def fnExactSetHardCard : Claim7 := { stood := { row := fnExactSetHardRow, standIns := [], harness := (true, "6e804bd4ee76a87ef9eaa6e62ec2f650ac8197ea2394adc3e811954f3f83d4fc"), looks := true }, kinds := [], alts := [], laidByText := true, laidKinds := [.handle, .sentinel], laidTests := true, laidLooks := .later }
def FnExactSetHardCardSaid : Prop := Claim7.holds Tryd.pinned (.plain (OpenSpec.ofChange fnExactSetHardSpec)) fnExactSetHardCard

/-- THE TIED CARD OF 'laws.FnExactEntriesFrom'. -/
def fnExactEntriesFromCard : Claim7 := { stood := { row := fnExactEntriesFromRow, standIns := [], harness := (true, "6e804bd4ee76a87ef9eaa6e62ec2f650ac8197ea2394adc3e811954f3f83d4fc"), looks := true }, kinds := [], alts := [], laidByText := true, laidKinds := [.handle, .sentinel], laidTests := true, laidLooks := .later }
def FnExactEntriesFromCardSaid : Prop := Claim7.holds Tryd.pinned (.plain (OpenSpec.ofChange fnExactEntriesFromSpec)) fnExactEntriesFromCard

/-- THE TIED CARD OF 'laws.FnExactAppendRaft'. -/
def fnExactAppendRaftCard : Claim7 := { stood := { row := fnExactAppendRaftRow, standIns := [], harness := (true, "6e804bd4ee76a87ef9eaa6e62ec2f650ac8197ea2394adc3e811954f3f83d4fc"), looks := true }, kinds := [], alts := [], laidByText := true, laidKinds := [.handle, .sentinel], laidTests := true, laidLooks := .later }
def FnExactAppendRaftCardSaid : Prop := Claim7.holds Tryd.pinned (.plain (OpenSpec.ofChange fnExactAppendRaftSpec)) fnExactAppendRaftCard

/-- THE SECOND FORM's CARD OF 'laws.FnExactTermAt'. -/
def fnExactTermAtUptoCard : Claim7 := { stood := { row := fnExactTermAtUptoRow, standIns := [], harness := (true, "6e804bd4ee76a87ef9eaa6e62ec2f650ac8197ea2394adc3e811954f3f83d4fc"), looks := true }, kinds := [], alts := [], laidByText := true, laidKinds := [.handle, .sentinel], laidTests := true, laidLooks := .later }
def FnExactTermAtUptoCardSaid : Prop := Claim7.holds Tryd.pinned (.plain (OpenSpec.upto fnExactTermAtSpec)) fnExactTermAtUptoCard

/-- THE SECOND FORM's CARD OF 'laws.FnExactSetHard'. -/
def fnExactSetHardUptoCard : Claim7 := { stood := { row := fnExactSetHardUptoRow, standIns := [], harness := (true, "6e804bd4ee76a87ef9eaa6e62ec2f650ac8197ea2394adc3e811954f3f83d4fc"), looks := true }, kinds := [], alts := [], laidByText := true, laidKinds := [.handle, .sentinel], laidTests := true, laidLooks := .later }
def FnExactSetHardUptoCardSaid : Prop := Claim7.holds Tryd.pinned (.plain (OpenSpec.upto fnExactSetHardSpec)) fnExactSetHardUptoCard

/-- THE SECOND FORM's CARD OF 'laws.FnExactEntriesFrom'. -/
def fnExactEntriesFromUptoCard : Claim7 := { stood := { row := fnExactEntriesFromUptoRow, standIns := [], harness := (true, "6e804bd4ee76a87ef9eaa6e62ec2f650ac8197ea2394adc3e811954f3f83d4fc"), looks := true }, kinds := [], alts := [], laidByText := true, laidKinds := [.handle, .sentinel], laidTests := true, laidLooks := .later }
def FnExactEntriesFromUptoCardSaid : Prop := Claim7.holds Tryd.pinned (.plain (OpenSpec.upto fnExactEntriesFromSpec)) fnExactEntriesFromUptoCard

/-- THE SECOND FORM's CARD OF 'laws.FnExactAppendRaft'. -/
def fnExactAppendRaftUptoCard : Claim7 := { stood := { row := fnExactAppendRaftUptoRow, standIns := [], harness := (true, "6e804bd4ee76a87ef9eaa6e62ec2f650ac8197ea2394adc3e811954f3f83d4fc"), looks := true }, kinds := [], alts := [], laidByText := true, laidKinds := [.handle, .sentinel], laidTests := true, laidLooks := .later }
def FnExactAppendRaftUptoCardSaid : Prop := Claim7.holds Tryd.pinned (.plain (OpenSpec.upto fnExactAppendRaftSpec)) fnExactAppendRaftUptoCard
end Rows
end Go.Proofs.YtchadekpiegfgaaDoor
