/-
  NARROWER THAN 'FOR EVERY INPUT', by the rows' own cells (each row's printed sentence says how): GtabPlays: laid · GtabMay: laid · GtabReleases: laid · GtabMoves: laid · GtabForks: laid · GtabNone: laid · GtabLeast: laid · TopLife: laid.
  DERIVED. THE GIVEN ROWS OF THIS SEAT. 8 by the template 'for every input the law returns true; each argument reads behind the call as it read before'; 0 by the template 'total and deterministic' (their statements: YtfhnepoegdhjmaaDoorTotals.lean).
  GIVEN WITH THE SEED: the statements are not yours to turn. If you find one false, say at which input.
  Laid BY PROGRAM, IN A SANDBOX (cutbox-rows.mjs): the forced cells as the released guide's own fill.sh prints them over the translation a1dcb9f5146a9df2… (all of the seat's roots in one cut). By AI agents, Wed Nov 11 2026. No macro, syntax, notation, axiom, sorry.
-/
import Derived.Test.YtfhnepoegdhjmaaDoorChecked
import GoSem.Claim
import GoSem.ClaimJoined
import GoSem.ClaimMapViews
import Derived.JoinedTies
import Derived.KernelRfl
namespace Go.Proofs.YtfhnepoegdhjmaaDoor
/- THE CELL 'sum', in the pinned program and in every row, IS THE sha256 OF THE DUMP (.gsa) THAT YtfhnepoegdhjmaaDoorProg.lean LOADS. Nothing in Lean hashes anything: it is a label: what it is worth is what the hold of that sum in a sandbox is worth. -/
noncomputable def Tryd.pinned : Pinned := { name := "ytfhnepoegdhjmaadoor", sum := "a1dcb9f5146a9df2d973b427253f55fd7fa12c473447ffa4f611d3a6cfcca154", checked := Tryd.checked }
namespace Rows
def none {H : Type} : Left H := { results := [], args := [] }

/- WHAT THE LISTED PACKAGE-LEVEL VARIABLES READ AS WHEN THE CALL BEGINS. Each datum BY PROGRAM (the guide's laid-datum.mjs) off the statement by which the dump's own 'gosem.cut.vars' lays the variable. In a bare row this is a premise. The card (YtfhnepoegdhjmaaDoorCards.lean) ties it to the program's text. -/
def laid_boatswain_gtab_follows {H : Type} : DataW H := .agg [.agg [.lit (.bool false), .lit (.bool false), .lit (.bool false), .lit (.bool false), .lit (.bool false)], .agg [.lit (.bool false), .lit (.bool false), .lit (.bool true), .lit (.bool false), .lit (.bool false)], .agg [.lit (.bool false), .lit (.bool true), .lit (.bool false), .lit (.bool true), .lit (.bool true)], .agg [.lit (.bool false), .lit (.bool true), .lit (.bool false), .lit (.bool false), .lit (.bool false)], .agg [.lit (.bool false), .lit (.bool true), .lit (.bool false), .lit (.bool false), .lit (.bool false)]]

/-- 'boatswainlaw06.GtabPlays': WHATEVER THE INPUT: true; the input reads as it did. -/
def gtabPlaysSpec : ChangeSpec := { name := "gtabPlays", fn := fun _ => fun
  | [d1, d2, d3] => { results := [.lit (.bool true)], args := [d1, d2, d3] }
  | _ => none }
def gtabPlaysRow : OpenClaim := { program := "ytfhnepoegdhjmaadoor", sum := "a1dcb9f5146a9df2d973b427253f55fd7fa12c473447ffa4f611d3a6cfcca154", func := "boatswain/boatswainlaw06.GtabPlays", spec := "gtabPlays", unfollowed := true, recurses := true, named := ["boatswain/gtab.follows"], apart := false, laid := [("boatswain/gtab.follows", laid_boatswain_gtab_follows)] }
def GtabPlaysSaid : Prop := gtabPlaysRow.holds Tryd.pinned (OpenSpec.ofChange gtabPlaysSpec)

/-- ITS FALSE NEIGHBOUR: 'it returns false'. Refute it at one input. -/
def gtabPlaysWrong : ChangeSpec := { name := "gtabPlays", fn := fun _ => fun
  | [d1, d2, d3] => { results := [.lit (.bool false)], args := [d1, d2, d3] }
  | _ => none }
def GtabPlaysWrongFalsely : Prop := gtabPlaysRow.holds Tryd.pinned (OpenSpec.ofChange gtabPlaysWrong)

/-- 'boatswainlaw06.GtabMay': WHATEVER THE INPUT: true; the input reads as it did. -/
def gtabMaySpec : ChangeSpec := { name := "gtabMay", fn := fun _ => fun
  | [d1, d2] => { results := [.lit (.bool true)], args := [d1, d2] }
  | _ => none }
def gtabMayRow : OpenClaim := { program := "ytfhnepoegdhjmaadoor", sum := "a1dcb9f5146a9df2d973b427253f55fd7fa12c473447ffa4f611d3a6cfcca154", func := "boatswain/boatswainlaw06.GtabMay", spec := "gtabMay", unfollowed := true, recurses := true, named := ["boatswain/gtab.follows"], apart := false, laid := [("boatswain/gtab.follows", laid_boatswain_gtab_follows)] }
def GtabMaySaid : Prop := gtabMayRow.holds Tryd.pinned (OpenSpec.ofChange gtabMaySpec)

/-- ITS FALSE NEIGHBOUR: 'it returns false'. Refute it at one input. -/
def gtabMayWrong : ChangeSpec := { name := "gtabMay", fn := fun _ => fun
  | [d1, d2] => { results := [.lit (.bool false)], args := [d1, d2] }
  | _ => none }
def GtabMayWrongFalsely : Prop := gtabMayRow.holds Tryd.pinned (OpenSpec.ofChange gtabMayWrong)

/-- 'boatswainlaw06.GtabReleases': WHATEVER THE INPUT: true; the input reads as it did. -/
def gtabReleasesSpec : ChangeSpec := { name := "gtabReleases", fn := fun _ => fun
  | [d1, d2] => { results := [.lit (.bool true)], args := [d1, d2] }
  | _ => none }
def gtabReleasesRow : OpenClaim := { program := "ytfhnepoegdhjmaadoor", sum := "a1dcb9f5146a9df2d973b427253f55fd7fa12c473447ffa4f611d3a6cfcca154", func := "boatswain/boatswainlaw06.GtabReleases", spec := "gtabReleases", unfollowed := true, recurses := true, named := ["boatswain/gtab.follows"], apart := false, laid := [("boatswain/gtab.follows", laid_boatswain_gtab_follows)] }
def GtabReleasesSaid : Prop := gtabReleasesRow.holds Tryd.pinned (OpenSpec.ofChange gtabReleasesSpec)

/-- ITS FALSE NEIGHBOUR: 'it returns false'. Refute it at one input. -/
def gtabReleasesWrong : ChangeSpec := { name := "gtabReleases", fn := fun _ => fun
  | [d1, d2] => { results := [.lit (.bool false)], args := [d1, d2] }
  | _ => none }
def GtabReleasesWrongFalsely : Prop := gtabReleasesRow.holds Tryd.pinned (OpenSpec.ofChange gtabReleasesWrong)

/-- 'boatswainlaw06.GtabMoves': WHATEVER THE INPUT: true; the input reads as it did. -/
def gtabMovesSpec : ChangeSpec := { name := "gtabMoves", fn := fun _ => fun
  | [d1, d2, d3] => { results := [.lit (.bool true)], args := [d1, d2, d3] }
  | _ => none }
def gtabMovesRow : OpenClaim := { program := "ytfhnepoegdhjmaadoor", sum := "a1dcb9f5146a9df2d973b427253f55fd7fa12c473447ffa4f611d3a6cfcca154", func := "boatswain/boatswainlaw06.GtabMoves", spec := "gtabMoves", unfollowed := true, recurses := true, named := ["boatswain/gtab.follows"], apart := false, laid := [("boatswain/gtab.follows", laid_boatswain_gtab_follows)] }
def GtabMovesSaid : Prop := gtabMovesRow.holds Tryd.pinned (OpenSpec.ofChange gtabMovesSpec)

/-- ITS FALSE NEIGHBOUR: 'it returns false'. Refute it at one input. -/
def gtabMovesWrong : ChangeSpec := { name := "gtabMoves", fn := fun _ => fun
  | [d1, d2, d3] => { results := [.lit (.bool false)], args := [d1, d2, d3] }
  | _ => none }
def GtabMovesWrongFalsely : Prop := gtabMovesRow.holds Tryd.pinned (OpenSpec.ofChange gtabMovesWrong)

/-- 'boatswainlaw06.GtabForks': WHATEVER THE INPUT: true; the input reads as it did. -/
def gtabForksSpec : ChangeSpec := { name := "gtabForks", fn := fun _ => fun
  | [d1, d2] => { results := [.lit (.bool true)], args := [d1, d2] }
  | _ => none }
def gtabForksRow : OpenClaim := { program := "ytfhnepoegdhjmaadoor", sum := "a1dcb9f5146a9df2d973b427253f55fd7fa12c473447ffa4f611d3a6cfcca154", func := "boatswain/boatswainlaw06.GtabForks", spec := "gtabForks", unfollowed := true, recurses := true, named := ["boatswain/gtab.follows"], apart := false, laid := [("boatswain/gtab.follows", laid_boatswain_gtab_follows)] }
def GtabForksSaid : Prop := gtabForksRow.holds Tryd.pinned (OpenSpec.ofChange gtabForksSpec)

/-- ITS FALSE NEIGHBOUR: 'it returns false'. Refute it at one input. -/
def gtabForksWrong : ChangeSpec := { name := "gtabForks", fn := fun _ => fun
  | [d1, d2] => { results := [.lit (.bool false)], args := [d1, d2] }
  | _ => none }
def GtabForksWrongFalsely : Prop := gtabForksRow.holds Tryd.pinned (OpenSpec.ofChange gtabForksWrong)

/-- 'boatswainlaw06.GtabNone': WHATEVER THE INPUT: true; the input reads as it did. -/
def gtabNoneSpec : ChangeSpec := { name := "gtabNone", fn := fun _ => fun
  | [d1, d2] => { results := [.lit (.bool true)], args := [d1, d2] }
  | _ => none }
def gtabNoneRow : OpenClaim := { program := "ytfhnepoegdhjmaadoor", sum := "a1dcb9f5146a9df2d973b427253f55fd7fa12c473447ffa4f611d3a6cfcca154", func := "boatswain/boatswainlaw06.GtabNone", spec := "gtabNone", unfollowed := true, recurses := true, named := ["boatswain/gtab.follows"], apart := false, laid := [("boatswain/gtab.follows", laid_boatswain_gtab_follows)] }
def GtabNoneSaid : Prop := gtabNoneRow.holds Tryd.pinned (OpenSpec.ofChange gtabNoneSpec)

/-- ITS FALSE NEIGHBOUR: 'it returns false'. Refute it at one input. -/
def gtabNoneWrong : ChangeSpec := { name := "gtabNone", fn := fun _ => fun
  | [d1, d2] => { results := [.lit (.bool false)], args := [d1, d2] }
  | _ => none }
def GtabNoneWrongFalsely : Prop := gtabNoneRow.holds Tryd.pinned (OpenSpec.ofChange gtabNoneWrong)

/-- 'boatswainlaw06.GtabLeast': WHATEVER THE INPUT: true; the input reads as it did. -/
def gtabLeastSpec : ChangeSpec := { name := "gtabLeast", fn := fun _ => fun
  | [d1, d2] => { results := [.lit (.bool true)], args := [d1, d2] }
  | _ => none }
def gtabLeastRow : OpenClaim := { program := "ytfhnepoegdhjmaadoor", sum := "a1dcb9f5146a9df2d973b427253f55fd7fa12c473447ffa4f611d3a6cfcca154", func := "boatswain/boatswainlaw06.GtabLeast", spec := "gtabLeast", unfollowed := true, recurses := true, named := ["boatswain/gtab.follows"], apart := false, laid := [("boatswain/gtab.follows", laid_boatswain_gtab_follows)] }
def GtabLeastSaid : Prop := gtabLeastRow.holds Tryd.pinned (OpenSpec.ofChange gtabLeastSpec)

/-- ITS FALSE NEIGHBOUR: 'it returns false'. Refute it at one input. -/
def gtabLeastWrong : ChangeSpec := { name := "gtabLeast", fn := fun _ => fun
  | [d1, d2] => { results := [.lit (.bool false)], args := [d1, d2] }
  | _ => none }
def GtabLeastWrongFalsely : Prop := gtabLeastRow.holds Tryd.pinned (OpenSpec.ofChange gtabLeastWrong)

/-- 'boatswaintop.TopLife': WHATEVER THE INPUT: true; the input reads as it did. -/
def topLifeSpec : ChangeSpec := { name := "topLife", fn := fun _ => fun
  | [d] => { results := [.lit (.bool true)], args := [d] }
  | _ => none }
def topLifeRow : OpenClaim := { program := "ytfhnepoegdhjmaadoor", sum := "a1dcb9f5146a9df2d973b427253f55fd7fa12c473447ffa4f611d3a6cfcca154", func := "boatswain/boatswaintop.TopLife", spec := "topLife", unfollowed := true, recurses := true, named := ["boatswain/gtab.follows"], apart := false, laid := [("boatswain/gtab.follows", laid_boatswain_gtab_follows)] }
def TopLifeSaid : Prop := topLifeRow.holds Tryd.pinned (OpenSpec.ofChange topLifeSpec)

/-- ITS FALSE NEIGHBOUR: 'it returns false'. Refute it at one input. -/
def topLifeWrong : ChangeSpec := { name := "topLife", fn := fun _ => fun
  | [d] => { results := [.lit (.bool false)], args := [d] }
  | _ => none }
def TopLifeWrongFalsely : Prop := topLifeRow.holds Tryd.pinned (OpenSpec.ofChange topLifeWrong)

/- THE SECOND FORM. 'bulk': how many values and letters a reading holds, each counted each time it is reached (what is shared counts as often as it is met; a slice's spare places count too). A statement '..UptoSaid' is the law's where the arguments, and the package variables that the reading takes, are together of bulk at most 1048576: NARROWER than '..Said'. Prove '..Said' where nothing that the law and all that it calls make is longer than what came in: it says more and counts as full. Else prove '..UptoSaid'. A law counts once. -/
mutual
def uptoBulk {H : Type} : DataW H → Nat
  | .lit (.string bytes) => bytes.length + 1
  | .lit _ => 1
  | .nil => 1
  | .ptr d => uptoBulk d + 1
  | .slice elems spare => uptoBulkAll elems + uptoBulkAll spare + 1
  | .agg parts => uptoBulkAll parts + 1
  | .iface _ d => uptoBulk d + 1
  | .map entries => uptoBulkEntries entries + 1
  | .held _ => 1
def uptoBulkAll {H : Type} : List (DataW H) → Nat
  | [] => 0
  | d :: r => uptoBulk d + uptoBulkAll r
def uptoBulkEntries {H : Type} : List (Lit × DataW H) → Nat
  | [] => 0
  | x :: r => uptoBulkEntry x + uptoBulkEntries r
def uptoBulkEntry {H : Type} : Lit × DataW H → Nat
  | (.string bytes, d) => bytes.length + uptoBulk d + 1
  | (_, d) => uptoBulk d + 1
 end
def uptoSmall : (H : Type) → List (DataW H) → Bool := fun _ ds => decide (uptoBulkAll ds ≤ 1048576)
def OpenSpec.upto (s : _root_.Go.ChangeSpec) : _root_.Go.OpenSpec := { _root_.Go.OpenSpec.ofChange s with cond := some uptoSmall }

/-- 'boatswainlaw06.GtabPlays', WHERE WHAT IT READS IS OF BULK AT MOST 1048576: true; the input reads as it did. -/
def gtabPlaysUptoRow : OpenClaim := { program := "ytfhnepoegdhjmaadoor", sum := "a1dcb9f5146a9df2d973b427253f55fd7fa12c473447ffa4f611d3a6cfcca154", func := "boatswain/boatswainlaw06.GtabPlays", spec := "gtabPlays", unfollowed := true, recurses := true, named := ["boatswain/gtab.follows"], apart := false, laid := [("boatswain/gtab.follows", laid_boatswain_gtab_follows)], narrowed := true }
def GtabPlaysUptoSaid : Prop := gtabPlaysUptoRow.holds Tryd.pinned (OpenSpec.upto gtabPlaysSpec)

/-- 'boatswainlaw06.GtabMay', WHERE WHAT IT READS IS OF BULK AT MOST 1048576: true; the input reads as it did. -/
def gtabMayUptoRow : OpenClaim := { program := "ytfhnepoegdhjmaadoor", sum := "a1dcb9f5146a9df2d973b427253f55fd7fa12c473447ffa4f611d3a6cfcca154", func := "boatswain/boatswainlaw06.GtabMay", spec := "gtabMay", unfollowed := true, recurses := true, named := ["boatswain/gtab.follows"], apart := false, laid := [("boatswain/gtab.follows", laid_boatswain_gtab_follows)], narrowed := true }
def GtabMayUptoSaid : Prop := gtabMayUptoRow.holds Tryd.pinned (OpenSpec.upto gtabMaySpec)

/-- 'boatswainlaw06.GtabReleases', WHERE WHAT IT READS IS OF BULK AT MOST 1048576: true; the input reads as it did. -/
def gtabReleasesUptoRow : OpenClaim := { program := "ytfhnepoegdhjmaadoor", sum := "a1dcb9f5146a9df2d973b427253f55fd7fa12c473447ffa4f611d3a6cfcca154", func := "boatswain/boatswainlaw06.GtabReleases", spec := "gtabReleases", unfollowed := true, recurses := true, named := ["boatswain/gtab.follows"], apart := false, laid := [("boatswain/gtab.follows", laid_boatswain_gtab_follows)], narrowed := true }
def GtabReleasesUptoSaid : Prop := gtabReleasesUptoRow.holds Tryd.pinned (OpenSpec.upto gtabReleasesSpec)

/-- 'boatswainlaw06.GtabMoves', WHERE WHAT IT READS IS OF BULK AT MOST 1048576: true; the input reads as it did. -/
def gtabMovesUptoRow : OpenClaim := { program := "ytfhnepoegdhjmaadoor", sum := "a1dcb9f5146a9df2d973b427253f55fd7fa12c473447ffa4f611d3a6cfcca154", func := "boatswain/boatswainlaw06.GtabMoves", spec := "gtabMoves", unfollowed := true, recurses := true, named := ["boatswain/gtab.follows"], apart := false, laid := [("boatswain/gtab.follows", laid_boatswain_gtab_follows)], narrowed := true }
def GtabMovesUptoSaid : Prop := gtabMovesUptoRow.holds Tryd.pinned (OpenSpec.upto gtabMovesSpec)

/-- 'boatswainlaw06.GtabForks', WHERE WHAT IT READS IS OF BULK AT MOST 1048576: true; the input reads as it did. -/
def gtabForksUptoRow : OpenClaim := { program := "ytfhnepoegdhjmaadoor", sum := "a1dcb9f5146a9df2d973b427253f55fd7fa12c473447ffa4f611d3a6cfcca154", func := "boatswain/boatswainlaw06.GtabForks", spec := "gtabForks", unfollowed := true, recurses := true, named := ["boatswain/gtab.follows"], apart := false, laid := [("boatswain/gtab.follows", laid_boatswain_gtab_follows)], narrowed := true }
def GtabForksUptoSaid : Prop := gtabForksUptoRow.holds Tryd.pinned (OpenSpec.upto gtabForksSpec)

/-- 'boatswainlaw06.GtabNone', WHERE WHAT IT READS IS OF BULK AT MOST 1048576: true; the input reads as it did. -/
def gtabNoneUptoRow : OpenClaim := { program := "ytfhnepoegdhjmaadoor", sum := "a1dcb9f5146a9df2d973b427253f55fd7fa12c473447ffa4f611d3a6cfcca154", func := "boatswain/boatswainlaw06.GtabNone", spec := "gtabNone", unfollowed := true, recurses := true, named := ["boatswain/gtab.follows"], apart := false, laid := [("boatswain/gtab.follows", laid_boatswain_gtab_follows)], narrowed := true }
def GtabNoneUptoSaid : Prop := gtabNoneUptoRow.holds Tryd.pinned (OpenSpec.upto gtabNoneSpec)

/-- 'boatswainlaw06.GtabLeast', WHERE WHAT IT READS IS OF BULK AT MOST 1048576: true; the input reads as it did. -/
def gtabLeastUptoRow : OpenClaim := { program := "ytfhnepoegdhjmaadoor", sum := "a1dcb9f5146a9df2d973b427253f55fd7fa12c473447ffa4f611d3a6cfcca154", func := "boatswain/boatswainlaw06.GtabLeast", spec := "gtabLeast", unfollowed := true, recurses := true, named := ["boatswain/gtab.follows"], apart := false, laid := [("boatswain/gtab.follows", laid_boatswain_gtab_follows)], narrowed := true }
def GtabLeastUptoSaid : Prop := gtabLeastUptoRow.holds Tryd.pinned (OpenSpec.upto gtabLeastSpec)

/-- 'boatswaintop.TopLife', WHERE WHAT IT READS IS OF BULK AT MOST 1048576: true; the input reads as it did. -/
def topLifeUptoRow : OpenClaim := { program := "ytfhnepoegdhjmaadoor", sum := "a1dcb9f5146a9df2d973b427253f55fd7fa12c473447ffa4f611d3a6cfcca154", func := "boatswain/boatswaintop.TopLife", spec := "topLife", unfollowed := true, recurses := true, named := ["boatswain/gtab.follows"], apart := false, laid := [("boatswain/gtab.follows", laid_boatswain_gtab_follows)], narrowed := true }
def TopLifeUptoSaid : Prop := topLifeUptoRow.holds Tryd.pinned (OpenSpec.upto topLifeSpec)

end Rows
end Go.Proofs.YtfhnepoegdhjmaaDoor
