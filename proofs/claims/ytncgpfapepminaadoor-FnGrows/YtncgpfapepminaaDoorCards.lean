/-
  DERIVED. GIVEN WITH THE SEED: THE CARDS: each row of YtncgpfapepminaaDoorRows.lean that lists a variable, with what it lists TIED to the program's text (the seventh form; the later family's looks); each row that meets fmt, with fmt's text TOLD by the authors' own Lean function (tested against real Go, not proved from fmt's source: count such statements apart). THE CARD IS WHAT COUNTS. Prove the row's statement (the work); the ties are given (YtncgpfapepminaaDoorTie.lean); close each card by the builder's one call (the guide's Derived/Test/ToyasCard.lean, 'card_holds'). Laid BY PROGRAM, IN A SANDBOX (cutbox-door.mjs). By AI agents, Wed Nov 11 2026. No macro, syntax, notation, axiom, sorry.
-/
import Derived.Test.YtncgpfapepminaaDoorRows
import GoSem.ClaimSeven
namespace Go.Proofs.YtncgpfapepminaaDoor
namespace Rows

/-- THE TIED CARD OF 'laws.FnHards'. -/
def fnHardsCard : Claim7 := { stood := { row := fnHardsRow, standIns := [], harness := (true, "2655018899e5c179af2c19ef360440e0338bdde835efd9706cf4bef2f8440a92"), looks := true }, kinds := [], alts := [], laidByText := true, laidKinds := [.handle, .sentinel], laidTests := true, laidLooks := .later }
def FnHardsCardSaid : Prop := Claim7.holds Tryd.pinned (.plain (OpenSpec.ofChange fnHardsSpec)) fnHardsCard

/-- THE TIED CARD OF 'laws.FnGrows'. -/
def fnGrowsCard : Claim7 := { stood := { row := fnGrowsRow, standIns := [], harness := (true, "2655018899e5c179af2c19ef360440e0338bdde835efd9706cf4bef2f8440a92"), looks := true }, kinds := [], alts := [], laidByText := true, laidKinds := [.handle, .sentinel], laidTests := true, laidLooks := .later }
def FnGrowsCardSaid : Prop := Claim7.holds Tryd.pinned (.plain (OpenSpec.ofChange fnGrowsSpec)) fnGrowsCard

/-- THE TIED CARD OF 'laws.FnCompacts'. -/
def fnCompactsCard : Claim7 := { stood := { row := fnCompactsRow, standIns := [], harness := (true, "2655018899e5c179af2c19ef360440e0338bdde835efd9706cf4bef2f8440a92"), looks := true }, kinds := [], alts := [], laidByText := true, laidKinds := [.handle, .sentinel], laidTests := true, laidLooks := .later }
def FnCompactsCardSaid : Prop := Claim7.holds Tryd.pinned (.plain (OpenSpec.ofChange fnCompactsSpec)) fnCompactsCard

/-- THE SECOND FORM's CARD OF 'laws.FnHards'. -/
def fnHardsUptoCard : Claim7 := { stood := { row := fnHardsUptoRow, standIns := [], harness := (true, "2655018899e5c179af2c19ef360440e0338bdde835efd9706cf4bef2f8440a92"), looks := true }, kinds := [], alts := [], laidByText := true, laidKinds := [.handle, .sentinel], laidTests := true, laidLooks := .later }
def FnHardsUptoCardSaid : Prop := Claim7.holds Tryd.pinned (.plain (OpenSpec.upto fnHardsSpec)) fnHardsUptoCard

/-- THE SECOND FORM's CARD OF 'laws.FnGrows'. -/
def fnGrowsUptoCard : Claim7 := { stood := { row := fnGrowsUptoRow, standIns := [], harness := (true, "2655018899e5c179af2c19ef360440e0338bdde835efd9706cf4bef2f8440a92"), looks := true }, kinds := [], alts := [], laidByText := true, laidKinds := [.handle, .sentinel], laidTests := true, laidLooks := .later }
def FnGrowsUptoCardSaid : Prop := Claim7.holds Tryd.pinned (.plain (OpenSpec.upto fnGrowsSpec)) fnGrowsUptoCard

/-- THE SECOND FORM's CARD OF 'laws.FnCompacts'. -/
def fnCompactsUptoCard : Claim7 := { stood := { row := fnCompactsUptoRow, standIns := [], harness := (true, "2655018899e5c179af2c19ef360440e0338bdde835efd9706cf4bef2f8440a92"), looks := true }, kinds := [], alts := [], laidByText := true, laidKinds := [.handle, .sentinel], laidTests := true, laidLooks := .later }
def FnCompactsUptoCardSaid : Prop := Claim7.holds Tryd.pinned (.plain (OpenSpec.upto fnCompactsSpec)) fnCompactsUptoCard
end Rows
end Go.Proofs.YtncgpfapepminaaDoor
