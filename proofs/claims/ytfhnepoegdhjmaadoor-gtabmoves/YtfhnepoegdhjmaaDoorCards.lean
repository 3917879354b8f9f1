/-
  DERIVED. GIVEN WITH THE SEED: THE CARDS: each row of YtfhnepoegdhjmaaDoorRows.lean that lists a variable, with what it lists TIED to the program's text (the seventh form; the later family's looks); each row that meets fmt, with fmt's text TOLD by the authors' own Lean function (tested against real Go, not proved from fmt's source: count such statements apart). THE CARD IS WHAT COUNTS. Prove the row's statement (the work); the ties are given (YtfhnepoegdhjmaaDoorTie.lean); close each card by the builder's one call (the guide's Derived/Test/ToyasCard.lean, 'card_holds'). Laid BY PROGRAM, IN A SANDBOX (cutbox-door.mjs). By AI agents, Wed Nov 11 2026. No macro, syntax, notation, axiom, sorry.
-/
import Derived.Test.YtfhnepoegdhjmaaDoorRows
import GoSem.ClaimSeven
namespace Go.Proofs.YtfhnepoegdhjmaaDoor
namespace Rows

/-- THE TIED CARD OF 'boatswainlaw06.GtabPlays'. -/
def gtabPlaysCard : Claim7 := { stood := { row := gtabPlaysRow, standIns := [], harness := (true, "0b96b95fbb8ef6c0b220733ed92774f7352b3141a5e73d3b11ea8c1ab8784692"), looks := false }, kinds := [], alts := [], laidByText := true, laidKinds := [.data], laidTests := true, laidLooks := .later }
def GtabPlaysCardSaid : Prop := Claim7.holds Tryd.pinned (.plain (OpenSpec.ofChange gtabPlaysSpec)) gtabPlaysCard

/-- THE TIED CARD OF 'boatswainlaw06.GtabMay'. -/
def gtabMayCard : Claim7 := { stood := { row := gtabMayRow, standIns := [], harness := (true, "0b96b95fbb8ef6c0b220733ed92774f7352b3141a5e73d3b11ea8c1ab8784692"), looks := false }, kinds := [], alts := [], laidByText := true, laidKinds := [.data], laidTests := true, laidLooks := .later }
def GtabMayCardSaid : Prop := Claim7.holds Tryd.pinned (.plain (OpenSpec.ofChange gtabMaySpec)) gtabMayCard

/-- THE TIED CARD OF 'boatswainlaw06.GtabReleases'. -/
def gtabReleasesCard : Claim7 := { stood := { row := gtabReleasesRow, standIns := [], harness := (true, "0b96b95fbb8ef6c0b220733ed92774f7352b3141a5e73d3b11ea8c1ab8784692"), looks := false }, kinds := [], alts := [], laidByText := true, laidKinds := [.data], laidTests := true, laidLooks := .later }
def GtabReleasesCardSaid : Prop := Claim7.holds Tryd.pinned (.plain (OpenSpec.ofChange gtabReleasesSpec)) gtabReleasesCard

/-- THE TIED CARD OF 'boatswainlaw06.GtabMoves'. -/
def gtabMovesCard : Claim7 := { stood := { row := gtabMovesRow, standIns := [], harness := (true, "0b96b95fbb8ef6c0b220733ed92774f7352b3141a5e73d3b11ea8c1ab8784692"), looks := false }, kinds := [], alts := [], laidByText := true, laidKinds := [.data], laidTests := true, laidLooks := .later }
def GtabMovesCardSaid : Prop := Claim7.holds Tryd.pinned (.plain (OpenSpec.ofChange gtabMovesSpec)) gtabMovesCard

/-- THE TIED CARD OF 'boatswainlaw06.GtabForks'. -/
def gtabForksCard : Claim7 := { stood := { row := gtabForksRow, standIns := [], harness := (true, "0b96b95fbb8ef6c0b220733ed92774f7352b3141a5e73d3b11ea8c1ab8784692"), looks := false }, kinds := [], alts := [], laidByText := true, laidKinds := [.data], laidTests := true, laidLooks := .later }
def GtabForksCardSaid : Prop := Claim7.holds Tryd.pinned (.plain (OpenSpec.ofChange gtabForksSpec)) gtabForksCard

/-- THE TIED CARD OF 'boatswainlaw06.GtabNone'. -/
def gtabNoneCard : Claim7 := { stood := { row := gtabNoneRow, standIns := [], harness := (true, "0b96b95fbb8ef6c0b220733ed92774f7352b3141a5e73d3b11ea8c1ab8784692"), looks := false }, kinds := [], alts := [], laidByText := true, laidKinds := [.data], laidTests := true, laidLooks := .later }
def GtabNoneCardSaid : Prop := Claim7.holds Tryd.pinned (.plain (OpenSpec.ofChange gtabNoneSpec)) gtabNoneCard

/-- THE TIED CARD OF 'boatswainlaw06.GtabLeast'. -/
def gtabLeastCard : Claim7 := { stood := { row := gtabLeastRow, standIns := [], harness := (true, "0b96b95fbb8ef6c0b220733ed92774f7352b3141a5e73d3b11ea8c1ab8784692"), looks := false }, kinds := [], alts := [], laidByText := true, laidKinds := [.data], laidTests := true, laidLooks := .later }
def GtabLeastCardSaid : Prop := Claim7.holds Tryd.pinned (.plain (OpenSpec.ofChange gtabLeastSpec)) gtabLeastCard

/-- THE TIED CARD OF 'boatswaintop.TopLife'. -/
def topLifeCard : Claim7 := { stood := { row := topLifeRow, standIns := [], harness := (true, "0b96b95fbb8ef6c0b220733ed92774f7352b3141a5e73d3b11ea8c1ab8784692"), looks := false }, kinds := [], alts := [], laidByText := true, laidKinds := [.data], laidTests := true, laidLooks := .later }
def TopLifeCardSaid : Prop := Claim7.holds Tryd.pinned (.plain (OpenSpec.ofChange topLifeSpec)) topLifeCard

/-- THE SECOND FORM's CARD OF 'boatswainlaw06.GtabPlays'. -/
def gtabPlaysUptoCard : Claim7 := { stood := { row := gtabPlaysUptoRow, standIns := [], harness := (true, "0b96b95fbb8ef6c0b220733ed92774f7352b3141a5e73d3b11ea8c1ab8784692"), looks := false }, kinds := [], alts := [], laidByText := true, laidKinds := [.data], laidTests := true, laidLooks := .later }
def GtabPlaysUptoCardSaid : Prop := Claim7.holds Tryd.pinned (.plain (OpenSpec.upto gtabPlaysSpec)) gtabPlaysUptoCard

/-- THE SECOND FORM's CARD OF 'boatswainlaw06.GtabMay'. -/
def gtabMayUptoCard : Claim7 := { stood := { row := gtabMayUptoRow, standIns := [], harness := (true, "0b96b95fbb8ef6c0b220733ed92774f7352b3141a5e73d3b11ea8c1ab8784692"), looks := false }, kinds := [], alts := [], laidByText := true, laidKinds := [.data], laidTests := true, laidLooks := .later }
def GtabMayUptoCardSaid : Prop := Claim7.holds Tryd.pinned (.plain (OpenSpec.upto gtabMaySpec)) gtabMayUptoCard

/-- THE SECOND FORM's CARD OF 'boatswainlaw06.GtabReleases'. -/
def gtabReleasesUptoCard : Claim7 := { stood := { row := gtabReleasesUptoRow, standIns := [], harness := (true, "0b96b95fbb8ef6c0b220733ed92774f7352b3141a5e73d3b11ea8c1ab8784692"), looks := false }, kinds := [], alts := [], laidByText := true, laidKinds := [.data], laidTests := true, laidLooks := .later }
def GtabReleasesUptoCardSaid : Prop := Claim7.holds Tryd.pinned (.plain (OpenSpec.upto gtabReleasesSpec)) gtabReleasesUptoCard

/-- THE SECOND FORM's CARD OF 'boatswainlaw06.GtabMoves'. -/
def gtabMovesUptoCard : Claim7 := { stood := { row := gtabMovesUptoRow, standIns := [], harness := (true, "0b96b95fbb8ef6c0b220733ed92774f7352b3141a5e73d3b11ea8c1ab8784692"), looks := false }, kinds := [], alts := [], laidByText := true, laidKinds := [.data], laidTests := true, laidLooks := .later }
def GtabMovesUptoCardSaid : Prop := Claim7.holds Tryd.pinned (.plain (OpenSpec.upto gtabMovesSpec)) gtabMovesUptoCard

/-- THE SECOND FORM's CARD OF 'boatswainlaw06.GtabForks'. -/
def gtabForksUptoCard : Claim7 := { stood := { row := gtabForksUptoRow, standIns := [], harness := (true, "0b96b95fbb8ef6c0b220733ed92774f7352b3141a5e73d3b11ea8c1ab8784692"), looks := false }, kinds := [], alts := [], laidByText := true, laidKinds := [.data], laidTests := true, laidLooks := .later }
def GtabForksUptoCardSaid : Prop := Claim7.holds Tryd.pinned (.plain (OpenSpec.upto gtabForksSpec)) gtabForksUptoCard

/-- THE SECOND FORM's CARD OF 'boatswainlaw06.GtabNone'. -/
def gtabNoneUptoCard : Claim7 := { stood := { row := gtabNoneUptoRow, standIns := [], harness := (true, "0b96b95fbb8ef6c0b220733ed92774f7352b3141a5e73d3b11ea8c1ab8784692"), looks := false }, kinds := [], alts := [], laidByText := true, laidKinds := [.data], laidTests := true, laidLooks := .later }
def GtabNoneUptoCardSaid : Prop := Claim7.holds Tryd.pinned (.plain (OpenSpec.upto gtabNoneSpec)) gtabNoneUptoCard

/-- THE SECOND FORM's CARD OF 'boatswainlaw06.GtabLeast'. -/
def gtabLeastUptoCard : Claim7 := { stood := { row := gtabLeastUptoRow, standIns := [], harness := (true, "0b96b95fbb8ef6c0b220733ed92774f7352b3141a5e73d3b11ea8c1ab8784692"), looks := false }, kinds := [], alts := [], laidByText := true, laidKinds := [.data], laidTests := true, laidLooks := .later }
def GtabLeastUptoCardSaid : Prop := Claim7.holds Tryd.pinned (.plain (OpenSpec.upto gtabLeastSpec)) gtabLeastUptoCard

/-- THE SECOND FORM's CARD OF 'boatswaintop.TopLife'. -/
def topLifeUptoCard : Claim7 := { stood := { row := topLifeUptoRow, standIns := [], harness := (true, "0b96b95fbb8ef6c0b220733ed92774f7352b3141a5e73d3b11ea8c1ab8784692"), looks := false }, kinds := [], alts := [], laidByText := true, laidKinds := [.data], laidTests := true, laidLooks := .later }
def TopLifeUptoCardSaid : Prop := Claim7.holds Tryd.pinned (.plain (OpenSpec.upto topLifeSpec)) topLifeUptoCard
end Rows
end Go.Proofs.YtfhnepoegdhjmaaDoor
