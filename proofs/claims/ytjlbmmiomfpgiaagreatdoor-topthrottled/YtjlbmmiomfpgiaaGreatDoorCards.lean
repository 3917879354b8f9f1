/-
  DERIVED. GIVEN WITH THE SEED: THE CARDS: each row of YtjlbmmiomfpgiaaGreatDoorRows.lean that lists a variable, with what it lists TIED to the program's text (the seventh form; the later family's looks); each row that meets fmt, with fmt's text TOLD by the authors' own Lean function (tested against real Go, not proved from fmt's source: count such statements apart). THE CARD IS WHAT COUNTS. Prove the row's statement (the work); the ties are given (YtjlbmmiomfpgiaaGreatDoorTie.lean); close each card by the builder's one call (the guide's Derived/Test/ToyasCard.lean, 'card_holds'). Laid BY PROGRAM, IN A SANDBOX (cutbox-door.mjs). By AI agents, Wed Nov 11 2026. No macro, syntax, notation, axiom, sorry.
-/
import Derived.Test.YtjlbmmiomfpgiaaGreatDoorRows
import GoSem.ClaimSeven
namespace Go.Proofs.YtjlbmmiomfpgiaaGreatDoor
namespace Rows

/-- THE TIED CARD OF 'boatswainlaw14.SchedBudget'. -/
def schedBudgetCard : Claim7 := { stood := { row := schedBudgetRow, standIns := [], harness := (true, "3295476759cff1ef7bb19336110c0ecf767d18b7a3b5861d1290688a8bb375c2"), looks := true }, kinds := [], alts := [], laidByText := true, laidKinds := [.data], laidTests := true, laidLooks := .later }
def SchedBudgetCardSaid : Prop := Claim7.holds Tryz.pinned (.plain (OpenSpec.ofChange schedBudgetSpec)) schedBudgetCard

/-- THE TIED CARD OF 'boatswainlaw14.SchedNone'. -/
def schedNoneCard : Claim7 := { stood := { row := schedNoneRow, standIns := [], harness := (true, "3295476759cff1ef7bb19336110c0ecf767d18b7a3b5861d1290688a8bb375c2"), looks := true }, kinds := [], alts := [], laidByText := true, laidKinds := [.data], laidTests := true, laidLooks := .later }
def SchedNoneCardSaid : Prop := Claim7.holds Tryz.pinned (.plain (OpenSpec.ofChange schedNoneSpec)) schedNoneCard

/-- THE TIED CARD OF 'boatswainlaw14.SchedSleeps'. -/
def schedSleepsCard : Claim7 := { stood := { row := schedSleepsRow, standIns := [], harness := (true, "3295476759cff1ef7bb19336110c0ecf767d18b7a3b5861d1290688a8bb375c2"), looks := true }, kinds := [], alts := [], laidByText := true, laidKinds := [.data], laidTests := true, laidLooks := .later }
def SchedSleepsCardSaid : Prop := Claim7.holds Tryz.pinned (.plain (OpenSpec.ofChange schedSleepsSpec)) schedSleepsCard

/-- THE TIED CARD OF 'boatswaintop.TopAlone'. -/
def topAloneCard : Claim7 := { stood := { row := topAloneRow, standIns := [], harness := (true, "3295476759cff1ef7bb19336110c0ecf767d18b7a3b5861d1290688a8bb375c2"), looks := true }, kinds := [], alts := [], laidByText := true, laidKinds := [.data], laidTests := true, laidLooks := .later }
def TopAloneCardSaid : Prop := Claim7.holds Tryz.pinned (.plain (OpenSpec.ofChange topAloneSpec)) topAloneCard

/-- THE TIED CARD OF 'boatswaintop.TopInherits'. -/
def topInheritsCard : Claim7 := { stood := { row := topInheritsRow, standIns := [], harness := (true, "3295476759cff1ef7bb19336110c0ecf767d18b7a3b5861d1290688a8bb375c2"), looks := true }, kinds := [], alts := [], laidByText := true, laidKinds := [.data], laidTests := true, laidLooks := .later }
def TopInheritsCardSaid : Prop := Claim7.holds Tryz.pinned (.plain (OpenSpec.ofChange topInheritsSpec)) topInheritsCard

/-- THE TIED CARD OF 'boatswaintop.TopThrottled'. -/
def topThrottledCard : Claim7 := { stood := { row := topThrottledRow, standIns := [], harness := (true, "3295476759cff1ef7bb19336110c0ecf767d18b7a3b5861d1290688a8bb375c2"), looks := true }, kinds := [], alts := [], laidByText := true, laidKinds := [.data], laidTests := true, laidLooks := .later }
def TopThrottledCardSaid : Prop := Claim7.holds Tryz.pinned (.plain (OpenSpec.ofChange topThrottledSpec)) topThrottledCard

/-- THE TIED CARD OF 'boatswaintop.TopRounds'. -/
def topRoundsCard : Claim7 := { stood := { row := topRoundsRow, standIns := [], harness := (true, "3295476759cff1ef7bb19336110c0ecf767d18b7a3b5861d1290688a8bb375c2"), looks := true }, kinds := [], alts := [], laidByText := true, laidKinds := [.data], laidTests := true, laidLooks := .later }
def TopRoundsCardSaid : Prop := Claim7.holds Tryz.pinned (.plain (OpenSpec.ofChange topRoundsSpec)) topRoundsCard

/-- THE SECOND FORM's CARD OF 'boatswainlaw14.SchedBudget'. -/
def schedBudgetUptoCard : Claim7 := { stood := { row := schedBudgetUptoRow, standIns := [], harness := (true, "3295476759cff1ef7bb19336110c0ecf767d18b7a3b5861d1290688a8bb375c2"), looks := true }, kinds := [], alts := [], laidByText := true, laidKinds := [.data], laidTests := true, laidLooks := .later }
def SchedBudgetUptoCardSaid : Prop := Claim7.holds Tryz.pinned (.plain (OpenSpec.upto schedBudgetSpec)) schedBudgetUptoCard

/-- THE SECOND FORM's CARD OF 'boatswainlaw14.SchedNone'. -/
def schedNoneUptoCard : Claim7 := { stood := { row := schedNoneUptoRow, standIns := [], harness := (true, "3295476759cff1ef7bb19336110c0ecf767d18b7a3b5861d1290688a8bb375c2"), looks := true }, kinds := [], alts := [], laidByText := true, laidKinds := [.data], laidTests := true, laidLooks := .later }
def SchedNoneUptoCardSaid : Prop := Claim7.holds Tryz.pinned (.plain (OpenSpec.upto schedNoneSpec)) schedNoneUptoCard

/-- THE SECOND FORM's CARD OF 'boatswainlaw14.SchedSleeps'. -/
def schedSleepsUptoCard : Claim7 := { stood := { row := schedSleepsUptoRow, standIns := [], harness := (true, "3295476759cff1ef7bb19336110c0ecf767d18b7a3b5861d1290688a8bb375c2"), looks := true }, kinds := [], alts := [], laidByText := true, laidKinds := [.data], laidTests := true, laidLooks := .later }
def SchedSleepsUptoCardSaid : Prop := Claim7.holds Tryz.pinned (.plain (OpenSpec.upto schedSleepsSpec)) schedSleepsUptoCard

/-- THE SECOND FORM's CARD OF 'boatswaintop.TopAlone'. -/
def topAloneUptoCard : Claim7 := { stood := { row := topAloneUptoRow, standIns := [], harness := (true, "3295476759cff1ef7bb19336110c0ecf767d18b7a3b5861d1290688a8bb375c2"), looks := true }, kinds := [], alts := [], laidByText := true, laidKinds := [.data], laidTests := true, laidLooks := .later }
def TopAloneUptoCardSaid : Prop := Claim7.holds Tryz.pinned (.plain (OpenSpec.upto topAloneSpec)) topAloneUptoCard

/-- THE SECOND FORM's CARD OF 'boatswaintop.TopInherits'. -/
def topInheritsUptoCard : Claim7 := { stood := { row := topInheritsUptoRow, standIns := [], harness := (true, "3295476759cff1ef7bb19336110c0ecf767d18b7a3b5861d1290688a8bb375c2"), looks := true }, kinds := [], alts := [], laidByText := true, laidKinds := [.data], laidTests := true, laidLooks := .later }
def TopInheritsUptoCardSaid : Prop := Claim7.holds Tryz.pinned (.plain (OpenSpec.upto topInheritsSpec)) topInheritsUptoCard

/-- THE SECOND FORM's CARD OF 'boatswaintop.TopThrottled'. -/
def topThrottledUptoCard : Claim7 := { stood := { row := topThrottledUptoRow, standIns := [], harness := (true, "3295476759cff1ef7bb19336110c0ecf767d18b7a3b5861d1290688a8bb375c2"), looks := true }, kinds := [], alts := [], laidByText := true, laidKinds := [.data], laidTests := true, laidLooks := .later }
def TopThrottledUptoCardSaid : Prop := Claim7.holds Tryz.pinned (.plain (OpenSpec.upto topThrottledSpec)) topThrottledUptoCard

/-- THE SECOND FORM's CARD OF 'boatswaintop.TopRounds'. -/
def topRoundsUptoCard : Claim7 := { stood := { row := topRoundsUptoRow, standIns := [], harness := (true, "3295476759cff1ef7bb19336110c0ecf767d18b7a3b5861d1290688a8bb375c2"), looks := true }, kinds := [], alts := [], laidByText := true, laidKinds := [.data], laidTests := true, laidLooks := .later }
def TopRoundsUptoCardSaid : Prop := Claim7.holds Tryz.pinned (.plain (OpenSpec.upto topRoundsSpec)) topRoundsUptoCard
end Rows
end Go.Proofs.YtjlbmmiomfpgiaaGreatDoor
