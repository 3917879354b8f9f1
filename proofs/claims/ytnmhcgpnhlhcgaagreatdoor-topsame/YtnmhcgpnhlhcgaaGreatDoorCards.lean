/-
  DERIVED. GIVEN WITH THE SEED: THE CARDS: each row of YtnmhcgpnhlhcgaaGreatDoorRows.lean that lists a variable, with what it lists TIED to the program's text (the seventh form; the later family's looks); each row that meets fmt, with fmt's text TOLD by the authors' own Lean function (tested against real Go, not proved from fmt's source: count such statements apart). THE CARD IS WHAT COUNTS. Prove the row's statement (the work); the ties are given (YtnmhcgpnhlhcgaaGreatDoorTie.lean); close each card by the builder's one call (the guide's Derived/Test/ToyasCard.lean, 'card_holds'). Laid BY PROGRAM, IN A SANDBOX (cutbox-door.mjs). By AI agents, Wed Nov 11 2026. No macro, syntax, notation, axiom, sorry.
-/
import Derived.Test.YtnmhcgpnhlhcgaaGreatDoorRows
import GoSem.ClaimSeven
namespace Go.Proofs.YtnmhcgpnhlhcgaaGreatDoor
namespace Rows

/-- THE TIED CARD OF 'boatswainlaw14.SchedBudget'. -/
def schedBudgetCard : Claim7 := { stood := { row := schedBudgetRow, standIns := [], harness := (true, "30e42c217187ebde62fc9ee03aab0c8beecb320f5d7bfb5584ad23e6b8c01f8f"), looks := true }, kinds := [], alts := [], laidByText := true, laidKinds := [.data], laidTests := true, laidLooks := .later }
def SchedBudgetCardSaid : Prop := Claim7.holds Tryz.pinned (.plain (OpenSpec.ofChange schedBudgetSpec)) schedBudgetCard

/-- THE TIED CARD OF 'boatswainlaw16.RunAgain'. -/
def runAgainCard : Claim7 := { stood := { row := runAgainRow, standIns := [], harness := (true, "30e42c217187ebde62fc9ee03aab0c8beecb320f5d7bfb5584ad23e6b8c01f8f"), looks := true }, kinds := [], alts := [], laidByText := true, laidKinds := [.data], laidTests := true, laidLooks := .later }
def RunAgainCardSaid : Prop := Claim7.holds Tryz.pinned (.plain (OpenSpec.ofChange runAgainSpec)) runAgainCard

/-- THE TIED CARD OF 'boatswainlaw16.RunCounts'. -/
def runCountsCard : Claim7 := { stood := { row := runCountsRow, standIns := [], harness := (true, "30e42c217187ebde62fc9ee03aab0c8beecb320f5d7bfb5584ad23e6b8c01f8f"), looks := true }, kinds := [], alts := [], laidByText := true, laidKinds := [.data], laidTests := true, laidLooks := .later }
def RunCountsCardSaid : Prop := Claim7.holds Tryz.pinned (.plain (OpenSpec.ofChange runCountsSpec)) runCountsCard

/-- THE TIED CARD OF 'boatswainlaw16.RunUsed'. -/
def runUsedCard : Claim7 := { stood := { row := runUsedRow, standIns := [], harness := (true, "30e42c217187ebde62fc9ee03aab0c8beecb320f5d7bfb5584ad23e6b8c01f8f"), looks := true }, kinds := [], alts := [], laidByText := true, laidKinds := [.data], laidTests := true, laidLooks := .later }
def RunUsedCardSaid : Prop := Claim7.holds Tryz.pinned (.plain (OpenSpec.ofChange runUsedSpec)) runUsedCard

/-- THE TIED CARD OF 'boatswainlaw16.RunGrants'. -/
def runGrantsCard : Claim7 := { stood := { row := runGrantsRow, standIns := [], harness := (true, "30e42c217187ebde62fc9ee03aab0c8beecb320f5d7bfb5584ad23e6b8c01f8f"), looks := true }, kinds := [], alts := [], laidByText := true, laidKinds := [.data], laidTests := true, laidLooks := .later }
def RunGrantsCardSaid : Prop := Claim7.holds Tryz.pinned (.plain (OpenSpec.ofChange runGrantsSpec)) runGrantsCard

/-- THE TIED CARD OF 'boatswainlaw16.RunErrs'. -/
def runErrsCard : Claim7 := { stood := { row := runErrsRow, standIns := [], harness := (true, "30e42c217187ebde62fc9ee03aab0c8beecb320f5d7bfb5584ad23e6b8c01f8f"), looks := true }, kinds := [], alts := [], laidByText := true, laidKinds := [.data], laidTests := true, laidLooks := .later }
def RunErrsCardSaid : Prop := Claim7.holds Tryz.pinned (.plain (OpenSpec.ofChange runErrsSpec)) runErrsCard

/-- THE TIED CARD OF 'boatswaintop.TopSame'. -/
def topSameCard : Claim7 := { stood := { row := topSameRow, standIns := [], harness := (true, "30e42c217187ebde62fc9ee03aab0c8beecb320f5d7bfb5584ad23e6b8c01f8f"), looks := true }, kinds := [], alts := [], laidByText := true, laidKinds := [.data], laidTests := true, laidLooks := .later }
def TopSameCardSaid : Prop := Claim7.holds Tryz.pinned (.plain (OpenSpec.ofChange topSameSpec)) topSameCard

/-- THE TIED CARD OF 'boatswaintop.TopWrong'. -/
def topWrongCard : Claim7 := { stood := { row := topWrongRow, standIns := [], harness := (true, "30e42c217187ebde62fc9ee03aab0c8beecb320f5d7bfb5584ad23e6b8c01f8f"), looks := true }, kinds := [], alts := [], laidByText := true, laidKinds := [.data], laidTests := true, laidLooks := .later }
def TopWrongCardSaid : Prop := Claim7.holds Tryz.pinned (.plain (OpenSpec.ofChange topWrongSpec)) topWrongCard

/-- THE SECOND FORM's CARD OF 'boatswainlaw14.SchedBudget'. -/
def schedBudgetUptoCard : Claim7 := { stood := { row := schedBudgetUptoRow, standIns := [], harness := (true, "30e42c217187ebde62fc9ee03aab0c8beecb320f5d7bfb5584ad23e6b8c01f8f"), looks := true }, kinds := [], alts := [], laidByText := true, laidKinds := [.data], laidTests := true, laidLooks := .later }
def SchedBudgetUptoCardSaid : Prop := Claim7.holds Tryz.pinned (.plain (OpenSpec.upto schedBudgetSpec)) schedBudgetUptoCard

/-- THE SECOND FORM's CARD OF 'boatswainlaw16.RunAgain'. -/
def runAgainUptoCard : Claim7 := { stood := { row := runAgainUptoRow, standIns := [], harness := (true, "30e42c217187ebde62fc9ee03aab0c8beecb320f5d7bfb5584ad23e6b8c01f8f"), looks := true }, kinds := [], alts := [], laidByText := true, laidKinds := [.data], laidTests := true, laidLooks := .later }
def RunAgainUptoCardSaid : Prop := Claim7.holds Tryz.pinned (.plain (OpenSpec.upto runAgainSpec)) runAgainUptoCard

/-- THE SECOND FORM's CARD OF 'boatswainlaw16.RunCounts'. -/
def runCountsUptoCard : Claim7 := { stood := { row := runCountsUptoRow, standIns := [], harness := (true, "30e42c217187ebde62fc9ee03aab0c8beecb320f5d7bfb5584ad23e6b8c01f8f"), looks := true }, kinds := [], alts := [], laidByText := true, laidKinds := [.data], laidTests := true, laidLooks := .later }
def RunCountsUptoCardSaid : Prop := Claim7.holds Tryz.pinned (.plain (OpenSpec.upto runCountsSpec)) runCountsUptoCard

/-- THE SECOND FORM's CARD OF 'boatswainlaw16.RunUsed'. -/
def runUsedUptoCard : Claim7 := { stood := { row := runUsedUptoRow, standIns := [], harness := (true, "30e42c217187ebde62fc9ee03aab0c8beecb320f5d7bfb5584ad23e6b8c01f8f"), looks := true }, kinds := [], alts := [], laidByText := true, laidKinds := [.data], laidTests := true, laidLooks := .later }
def RunUsedUptoCardSaid : Prop := Claim7.holds Tryz.pinned (.plain (OpenSpec.upto runUsedSpec)) runUsedUptoCard

/-- THE SECOND FORM's CARD OF 'boatswainlaw16.RunGrants'. -/
def runGrantsUptoCard : Claim7 := { stood := { row := runGrantsUptoRow, standIns := [], harness := (true, "30e42c217187ebde62fc9ee03aab0c8beecb320f5d7bfb5584ad23e6b8c01f8f"), looks := true }, kinds := [], alts := [], laidByText := true, laidKinds := [.data], laidTests := true, laidLooks := .later }
def RunGrantsUptoCardSaid : Prop := Claim7.holds Tryz.pinned (.plain (OpenSpec.upto runGrantsSpec)) runGrantsUptoCard

/-- THE SECOND FORM's CARD OF 'boatswainlaw16.RunErrs'. -/
def runErrsUptoCard : Claim7 := { stood := { row := runErrsUptoRow, standIns := [], harness := (true, "30e42c217187ebde62fc9ee03aab0c8beecb320f5d7bfb5584ad23e6b8c01f8f"), looks := true }, kinds := [], alts := [], laidByText := true, laidKinds := [.data], laidTests := true, laidLooks := .later }
def RunErrsUptoCardSaid : Prop := Claim7.holds Tryz.pinned (.plain (OpenSpec.upto runErrsSpec)) runErrsUptoCard

/-- THE SECOND FORM's CARD OF 'boatswaintop.TopSame'. -/
def topSameUptoCard : Claim7 := { stood := { row := topSameUptoRow, standIns := [], harness := (true, "30e42c217187ebde62fc9ee03aab0c8beecb320f5d7bfb5584ad23e6b8c01f8f"), looks := true }, kinds := [], alts := [], laidByText := true, laidKinds := [.data], laidTests := true, laidLooks := .later }
def TopSameUptoCardSaid : Prop := Claim7.holds Tryz.pinned (.plain (OpenSpec.upto topSameSpec)) topSameUptoCard

/-- THE SECOND FORM's CARD OF 'boatswaintop.TopWrong'. -/
def topWrongUptoCard : Claim7 := { stood := { row := topWrongUptoRow, standIns := [], harness := (true, "30e42c217187ebde62fc9ee03aab0c8beecb320f5d7bfb5584ad23e6b8c01f8f"), looks := true }, kinds := [], alts := [], laidByText := true, laidKinds := [.data], laidTests := true, laidLooks := .later }
def TopWrongUptoCardSaid : Prop := Claim7.holds Tryz.pinned (.plain (OpenSpec.upto topWrongSpec)) topWrongUptoCard
end Rows
end Go.Proofs.YtnmhcgpnhlhcgaaGreatDoor
