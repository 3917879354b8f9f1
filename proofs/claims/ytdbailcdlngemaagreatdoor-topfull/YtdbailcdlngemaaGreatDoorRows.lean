/-
  NARROWER THAN 'FOR EVERY INPUT', by the rows' own cells (each row's printed sentence says how): RunShares: laid · RunEmpty: laid · TopFull: laid.
  DERIVED. THE GIVEN ROWS OF THIS SEAT. 3 by the template 'for every input the law returns true; each argument reads behind the call as it read before'; 0 by the template 'total and deterministic' (their statements: YtdbailcdlngemaaGreatDoorTotals.lean).
  GIVEN WITH THE SEED: the statements are not yours to turn. If you find one false, say at which input.
  Laid BY PROGRAM, IN A SANDBOX (cutbox-rows.mjs): the forced cells as the released guide's own fill.sh prints them over the translation 9e089d1a6923f042… (all of the seat's roots in one cut). By AI agents, Wed Nov 11 2026. No macro, syntax, notation, axiom, sorry.
-/
import Derived.Test.YtdbailcdlngemaaGreatDoorChecked
import GoSem.Claim
import GoSem.ClaimJoined
import GoSem.ClaimMapViews
import Derived.JoinedTies
import Derived.KernelRfl
namespace Go.Proofs.YtdbailcdlngemaaGreatDoor
/- THE CELL 'sum', in the pinned program and in every row, IS THE sha256 OF THE DUMP (.gsa) THAT YtdbailcdlngemaaGreatDoorProg.lean LOADS. Nothing in Lean hashes anything: it is a label: what it is worth is what the hold of that sum in a sandbox is worth. -/
noncomputable def Tryz.pinned : Pinned := { name := "ytdbailcdlngemaagreatdoor", sum := "9e089d1a6923f042077b1e2cee12d4a661552fe1bca97cffa1f9ac8e20aebd61", checked := Tryz.checked }
namespace Rows
def none {H : Type} : Left H := { results := [], args := [] }

/- WHAT THE LISTED PACKAGE-LEVEL VARIABLES READ AS WHEN THE CALL BEGINS. Each datum BY PROGRAM (the guide's laid-datum.mjs) off the statement by which the dump's own 'gosem.cut.vars' lays the variable. In a bare row this is a premise. The card (YtdbailcdlngemaaGreatDoorCards.lean) ties it to the program's text. -/
def laid_boatswain_gtab_follows {H : Type} : DataW H := .agg [.agg [.lit (.bool false), .lit (.bool false), .lit (.bool false), .lit (.bool false), .lit (.bool false)], .agg [.lit (.bool false), .lit (.bool false), .lit (.bool true), .lit (.bool false), .lit (.bool false)], .agg [.lit (.bool false), .lit (.bool true), .lit (.bool false), .lit (.bool true), .lit (.bool true)], .agg [.lit (.bool false), .lit (.bool true), .lit (.bool false), .lit (.bool false), .lit (.bool false)], .agg [.lit (.bool false), .lit (.bool true), .lit (.bool false), .lit (.bool false), .lit (.bool false)]]

/-- 'boatswainlaw16.RunShares': WHATEVER THE INPUT: true; the input reads as it did. -/
def runSharesSpec : ChangeSpec := { name := "runShares", fn := fun _ => fun
  | [d] => { results := [.lit (.bool true)], args := [d] }
  | _ => none }
def runSharesRow : OpenClaim := { program := "ytdbailcdlngemaagreatdoor", sum := "9e089d1a6923f042077b1e2cee12d4a661552fe1bca97cffa1f9ac8e20aebd61", func := "boatswain/boatswainlaw16.RunShares", spec := "runShares", unfollowed := true, recurses := true, named := ["boatswain/gtab.follows"], apart := false, laid := [("boatswain/gtab.follows", laid_boatswain_gtab_follows)] }
def RunSharesSaid : Prop := runSharesRow.holds Tryz.pinned (OpenSpec.ofChange runSharesSpec)

/-- ITS FALSE NEIGHBOUR: 'it returns false'. Refute it at one input. -/
def runSharesWrong : ChangeSpec := { name := "runShares", fn := fun _ => fun
  | [d] => { results := [.lit (.bool false)], args := [d] }
  | _ => none }
def RunSharesWrongFalsely : Prop := runSharesRow.holds Tryz.pinned (OpenSpec.ofChange runSharesWrong)

/-- 'boatswainlaw16.RunEmpty': WHATEVER THE INPUT: true; the input reads as it did. -/
def runEmptySpec : ChangeSpec := { name := "runEmpty", fn := fun _ => fun
  | [d1, d2] => { results := [.lit (.bool true)], args := [d1, d2] }
  | _ => none }
def runEmptyRow : OpenClaim := { program := "ytdbailcdlngemaagreatdoor", sum := "9e089d1a6923f042077b1e2cee12d4a661552fe1bca97cffa1f9ac8e20aebd61", func := "boatswain/boatswainlaw16.RunEmpty", spec := "runEmpty", unfollowed := true, recurses := true, named := ["boatswain/gtab.follows"], apart := false, laid := [("boatswain/gtab.follows", laid_boatswain_gtab_follows)] }
def RunEmptySaid : Prop := runEmptyRow.holds Tryz.pinned (OpenSpec.ofChange runEmptySpec)

/-- ITS FALSE NEIGHBOUR: 'it returns false'. Refute it at one input. -/
def runEmptyWrong : ChangeSpec := { name := "runEmpty", fn := fun _ => fun
  | [d1, d2] => { results := [.lit (.bool false)], args := [d1, d2] }
  | _ => none }
def RunEmptyWrongFalsely : Prop := runEmptyRow.holds Tryz.pinned (OpenSpec.ofChange runEmptyWrong)

/-- 'boatswaintop.TopFull': WHATEVER THE INPUT: true; the input reads as it did. -/
def topFullSpec : ChangeSpec := { name := "topFull", fn := fun _ => fun
  | [d] => { results := [.lit (.bool true)], args := [d] }
  | _ => none }
def topFullRow : OpenClaim := { program := "ytdbailcdlngemaagreatdoor", sum := "9e089d1a6923f042077b1e2cee12d4a661552fe1bca97cffa1f9ac8e20aebd61", func := "boatswain/boatswaintop.TopFull", spec := "topFull", unfollowed := true, recurses := true, named := ["boatswain/gtab.follows"], apart := false, laid := [("boatswain/gtab.follows", laid_boatswain_gtab_follows)] }
def TopFullSaid : Prop := topFullRow.holds Tryz.pinned (OpenSpec.ofChange topFullSpec)

/-- ITS FALSE NEIGHBOUR: 'it returns false'. Refute it at one input. -/
def topFullWrong : ChangeSpec := { name := "topFull", fn := fun _ => fun
  | [d] => { results := [.lit (.bool false)], args := [d] }
  | _ => none }
def TopFullWrongFalsely : Prop := topFullRow.holds Tryz.pinned (OpenSpec.ofChange topFullWrong)

/- THE SECOND FORM. 'bulk': how many values and letters a reading holds, each counted each time it is reached (what is shared counts as often as it is met; a slice's spare places count too). A statement '..UptoSaid' is the law's where the arguments, and the package variables that the reading takes, are together of bulk at most 1048576: NARROWER than '..Said'. Prove '..Said' where nothing that the law and all that it calls make is longer than what came in: it says more and counts as full. Else prove '..UptoSaid'. A law counts once. -/
mutual
def uptoBulk {H : Type} : DataW H → Nat
  | .lit (.string bytes) => bytes.length + 1
  | .lit _ => 1
  | .nil => 1
  | .ptr d => uptoBulk d + 1
  | .slice elems spare => uptoBulkAll elems + uptoBulkAll spare + 1
  | .agg parts => uptoBulkAll parts + 1
  | .iface _ d => uptoBulk d + 1
  | .map entries => uptoBulkEntries entries + 1
  | .held _ => 1
def uptoBulkAll {H : Type} : List (DataW H) → Nat
  | [] => 0
  | d :: r => uptoBulk d + uptoBulkAll r
def uptoBulkEntries {H : Type} : List (Lit × DataW H) → Nat
  | [] => 0
  | x :: r => uptoBulkEntry x + uptoBulkEntries r
def uptoBulkEntry {H : Type} : Lit × DataW H → Nat
  | (.string bytes, d) => bytes.length + uptoBulk d + 1
  | (_, d) => uptoBulk d + 1
 end
def uptoSmall : (H : Type) → List (DataW H) → Bool := fun _ ds => decide (uptoBulkAll ds ≤ 1048576)
def OpenSpec.upto (s : _root_.Go.ChangeSpec) : _root_.Go.OpenSpec := { _root_.Go.OpenSpec.ofChange s with cond := some uptoSmall }

/-- 'boatswainlaw16.RunShares', WHERE WHAT IT READS IS OF BULK AT MOST 1048576: true; the input reads as it did. -/
def runSharesUptoRow : OpenClaim := { program := "ytdbailcdlngemaagreatdoor", sum := "9e089d1a6923f042077b1e2cee12d4a661552fe1bca97cffa1f9ac8e20aebd61", func := "boatswain/boatswainlaw16.RunShares", spec := "runShares", unfollowed := true, recurses := true, named := ["boatswain/gtab.follows"], apart := false, laid := [("boatswain/gtab.follows", laid_boatswain_gtab_follows)], narrowed := true }
def RunSharesUptoSaid : Prop := runSharesUptoRow.holds Tryz.pinned (OpenSpec.upto runSharesSpec)

/-- 'boatswainlaw16.RunEmpty', WHERE WHAT IT READS IS OF BULK AT MOST 1048576: true; the input reads as it did. -/
def runEmptyUptoRow : OpenClaim := { program := "ytdbailcdlngemaagreatdoor", sum := "9e089d1a6923f042077b1e2cee12d4a661552fe1bca97cffa1f9ac8e20aebd61", func := "boatswain/boatswainlaw16.RunEmpty", spec := "runEmpty", unfollowed := true, recurses := true, named := ["boatswain/gtab.follows"], apart := false, laid := [("boatswain/gtab.follows", laid_boatswain_gtab_follows)], narrowed := true }
def RunEmptyUptoSaid : Prop := runEmptyUptoRow.holds Tryz.pinned (OpenSpec.upto runEmptySpec)

/-- 'boatswaintop.TopFull', WHERE WHAT IT READS IS OF BULK AT MOST 1048576: true; the input reads as it did. -/
def topFullUptoRow : OpenClaim := { program := "ytdbailcdlngemaagreatdoor", sum := "9e089d1a6923f042077b1e2cee12d4a661552fe1bca97cffa1f9ac8e20aebd61", func := "boatswain/boatswaintop.TopFull", spec := "topFull", unfollowed := true, recurses := true, named := ["boatswain/gtab.follows"], apart := false, laid := [("boatswain/gtab.follows", laid_boatswain_gtab_follows)], narrowed := true }
def TopFullUptoSaid : Prop := topFullUptoRow.holds Tryz.pinned (OpenSpec.upto topFullSpec)

end Rows
end Go.Proofs.YtdbailcdlngemaaGreatDoor
