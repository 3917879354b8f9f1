/-
  DERIVED. GIVEN WITH THE SEED: THE CARDS: each row of YtdbailcdlngemaaGreatDoorRows.lean that lists a variable, with what it lists TIED to the program's text (the seventh form; the later family's looks); each row that meets fmt, with fmt's text TOLD by the authors' own Lean function (tested against real Go, not proved from fmt's source: count such statements apart). THE CARD IS WHAT COUNTS. Prove the row's statement (the work); the ties are given (YtdbailcdlngemaaGreatDoorTie.lean); close each card by the builder's one call (the guide's Derived/Test/ToyasCard.lean, 'card_holds'). Laid BY PROGRAM, IN A SANDBOX (cutbox-door.mjs). By AI agents, Wed Nov 11 2026. No macro, syntax, notation, axiom, sorry.
-/
import Derived.Test.YtdbailcdlngemaaGreatDoorRows
import GoSem.ClaimSeven
namespace Go.Proofs.YtdbailcdlngemaaGreatDoor
namespace Rows

/-- THE TIED CARD OF 'boatswainlaw16.RunShares'. -/
def runSharesCard : Claim7 := { stood := { row := runSharesRow, standIns := [], harness := (true, "6525f86177b695bb4315b28bdab4837ba64bcffdf67bcdce19a00ed8f492bbaf"), looks := true }, kinds := [], alts := [], laidByText := true, laidKinds := [.data], laidTests := true, laidLooks := .later }
def RunSharesCardSaid : Prop := Claim7.holds Tryz.pinned (.plain (OpenSpec.ofChange runSharesSpec)) runSharesCard

/-- THE TIED CARD OF 'boatswainlaw16.RunEmpty'. -/
def runEmptyCard : Claim7 := { stood := { row := runEmptyRow, standIns := [], harness := (true, "6525f86177b695bb4315b28bdab4837ba64bcffdf67bcdce19a00ed8f492bbaf"), looks := true }, kinds := [], alts := [], laidByText := true, laidKinds := [.data], laidTests := true, laidLooks := .later }
def RunEmptyCardSaid : Prop := Claim7.holds Tryz.pinned (.plain (OpenSpec.ofChange runEmptySpec)) runEmptyCard

/-- THE TIED CARD OF 'boatswaintop.TopFull'. -/
def topFullCard : Claim7 := { stood := { row := topFullRow, standIns := [], harness := (true, "6525f86177b695bb4315b28bdab4837ba64bcffdf67bcdce19a00ed8f492bbaf"), looks := true }, kinds := [], alts := [], laidByText := true, laidKinds := [.data], laidTests := true, laidLooks := .later }
def TopFullCardSaid : Prop := Claim7.holds Tryz.pinned (.plain (OpenSpec.ofChange topFullSpec)) topFullCard

/-- THE SECOND FORM's CARD OF 'boatswainlaw16.RunShares'. -/
def runSharesUptoCard : Claim7 := { stood := { row := runSharesUptoRow, standIns := [], harness := (true, "6525f86177b695bb4315b28bdab4837ba64bcffdf67bcdce19a00ed8f492bbaf"), looks := true }, kinds := [], alts := [], laidByText := true, laidKinds := [.data], laidTests := true, laidLooks := .later }
def RunSharesUptoCardSaid : Prop := Claim7.holds Tryz.pinned (.plain (OpenSpec.upto runSharesSpec)) runSharesUptoCard

/-- THE SECOND FORM's CARD OF 'boatswainlaw16.RunEmpty'. -/
def runEmptyUptoCard : Claim7 := { stood := { row := runEmptyUptoRow, standIns := [], harness := (true, "6525f86177b695bb4315b28bdab4837ba64bcffdf67bcdce19a00ed8f492bbaf"), looks := true }, kinds := [], alts := [], laidByText := true, laidKinds := [.data], laidTests := true, laidLooks := .later }
def RunEmptyUptoCardSaid : Prop := Claim7.holds Tryz.pinned (.plain (OpenSpec.upto runEmptySpec)) runEmptyUptoCard

/-- THE SECOND FORM's CARD OF 'boatswaintop.TopFull'. -/
def topFullUptoCard : Claim7 := { stood := { row := topFullUptoRow, standIns := [], harness := (true, "6525f86177b695bb4315b28bdab4837ba64bcffdf67bcdce19a00ed8f492bbaf"), looks := true }, kinds := [], alts := [], laidByText := true, laidKinds := [.data], laidTests := true, laidLooks := .later }
def TopFullUptoCardSaid : Prop := Claim7.holds Tryz.pinned (.plain (OpenSpec.upto topFullSpec)) topFullUptoCard
end Rows
end Go.Proofs.YtdbailcdlngemaaGreatDoor
