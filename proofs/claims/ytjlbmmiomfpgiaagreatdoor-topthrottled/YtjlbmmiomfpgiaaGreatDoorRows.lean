/-
  NARROWER THAN 'FOR EVERY INPUT', by the rows' own cells (each row's printed sentence says how): SchedBudget: laid · SchedNone: laid · SchedSleeps: laid · TopAlone: laid · TopInherits: laid · TopThrottled: laid · TopRounds: laid.
  DERIVED. THE GIVEN ROWS OF THIS SEAT. 7 by the template 'for every input the law returns true; each argument reads behind the call as it read before'; 0 by the template 'total and deterministic' (their statements: YtjlbmmiomfpgiaaGreatDoorTotals.lean).
  GIVEN WITH THE SEED: the statements are not yours to turn. If you find one false, say at which input.
  Laid BY PROGRAM, IN A SANDBOX (cutbox-rows.mjs): the forced cells as the released guide's own fill.sh prints them over the translation 38bdb3900f403000… (all of the seat's roots in one cut). By AI agents, Wed Nov 11 2026. No macro, syntax, notation, axiom, sorry.
-/
import Derived.Test.YtjlbmmiomfpgiaaGreatDoorChecked
import GoSem.Claim
import GoSem.ClaimJoined
import GoSem.ClaimMapViews
import Derived.JoinedTies
import Derived.KernelRfl
namespace Go.Proofs.YtjlbmmiomfpgiaaGreatDoor
/- THE CELL 'sum', in the pinned program and in every row, IS THE sha256 OF THE DUMP (.gsa) THAT YtjlbmmiomfpgiaaGreatDoorProg.lean LOADS. Nothing in Lean hashes anything: it is a label: what it is worth is what the hold of that sum in a sandbox is worth. -/
noncomputable def Tryz.pinned : Pinned := { name := "ytjlbmmiomfpgiaagreatdoor", sum := "38bdb3900f403000901ce4b79f031c2a619d6273bbfe920281d39f66f32e812b", checked := Tryz.checked }
namespace Rows
def none {H : Type} : Left H := { results := [], args := [] }

/- WHAT THE LISTED PACKAGE-LEVEL VARIABLES READ AS WHEN THE CALL BEGINS. Each datum BY PROGRAM (the guide's laid-datum.mjs) off the statement by which the dump's own 'gosem.cut.vars' lays the variable. In a bare row this is a premise. The card (YtjlbmmiomfpgiaaGreatDoorCards.lean) ties it to the program's text. -/
def laid_boatswain_gtab_follows {H : Type} : DataW H := .agg [.agg [.lit (.bool false), .lit (.bool false), .lit (.bool false), .lit (.bool false), .lit (.bool false)], .agg [.lit (.bool false), .lit (.bool false), .lit (.bool true), .lit (.bool false), .lit (.bool false)], .agg [.lit (.bool false), .lit (.bool true), .lit (.bool false), .lit (.bool true), .lit (.bool true)], .agg [.lit (.bool false), .lit (.bool true), .lit (.bool false), .lit (.bool false), .lit (.bool false)], .agg [.lit (.bool false), .lit (.bool true), .lit (.bool false), .lit (.bool false), .lit (.bool false)]]

/-- 'boatswainlaw14.SchedBudget': WHATEVER THE INPUT: true; the input reads as it did. -/
def schedBudgetSpec : ChangeSpec := { name := "schedBudget", fn := fun _ => fun
  | [d1, d2, d3] => { results := [.lit (.bool true)], args := [d1, d2, d3] }
  | _ => none }
def schedBudgetRow : OpenClaim := { program := "ytjlbmmiomfpgiaagreatdoor", sum := "38bdb3900f403000901ce4b79f031c2a619d6273bbfe920281d39f66f32e812b", func := "boatswain/boatswainlaw14.SchedBudget", spec := "schedBudget", unfollowed := true, recurses := true, named := ["boatswain/gtab.follows"], apart := false, laid := [("boatswain/gtab.follows", laid_boatswain_gtab_follows)] }
def SchedBudgetSaid : Prop := schedBudgetRow.holds Tryz.pinned (OpenSpec.ofChange schedBudgetSpec)

/-- ITS FALSE NEIGHBOUR: 'it returns false'. Refute it at one input. -/
def schedBudgetWrong : ChangeSpec := { name := "schedBudget", fn := fun _ => fun
  | [d1, d2, d3] => { results := [.lit (.bool false)], args := [d1, d2, d3] }
  | _ => none }
def SchedBudgetWrongFalsely : Prop := schedBudgetRow.holds Tryz.pinned (OpenSpec.ofChange schedBudgetWrong)

/-- 'boatswainlaw14.SchedNone': WHATEVER THE INPUT: true; the input reads as it did. -/
def schedNoneSpec : ChangeSpec := { name := "schedNone", fn := fun _ => fun
  | [d1, d2] => { results := [.lit (.bool true)], args := [d1, d2] }
  | _ => none }
def schedNoneRow : OpenClaim := { program := "ytjlbmmiomfpgiaagreatdoor", sum := "38bdb3900f403000901ce4b79f031c2a619d6273bbfe920281d39f66f32e812b", func := "boatswain/boatswainlaw14.SchedNone", spec := "schedNone", inPlace := ["maps.clone"], unfollowed := true, recurses := true, named := ["boatswain/gtab.follows"], apart := false, laid := [("boatswain/gtab.follows", laid_boatswain_gtab_follows)] }
def SchedNoneSaid : Prop := schedNoneRow.holds Tryz.pinned (OpenSpec.ofChange schedNoneSpec)

/-- ITS FALSE NEIGHBOUR: 'it returns false'. Refute it at one input. -/
def schedNoneWrong : ChangeSpec := { name := "schedNone", fn := fun _ => fun
  | [d1, d2] => { results := [.lit (.bool false)], args := [d1, d2] }
  | _ => none }
def SchedNoneWrongFalsely : Prop := schedNoneRow.holds Tryz.pinned (OpenSpec.ofChange schedNoneWrong)

/-- 'boatswainlaw14.SchedSleeps': WHATEVER THE INPUT: true; the input reads as it did. -/
def schedSleepsSpec : ChangeSpec := { name := "schedSleeps", fn := fun _ => fun
  | [d1, d2] => { results := [.lit (.bool true)], args := [d1, d2] }
  | _ => none }
def schedSleepsRow : OpenClaim := { program := "ytjlbmmiomfpgiaagreatdoor", sum := "38bdb3900f403000901ce4b79f031c2a619d6273bbfe920281d39f66f32e812b", func := "boatswain/boatswainlaw14.SchedSleeps", spec := "schedSleeps", unfollowed := true, recurses := true, named := ["boatswain/gtab.follows"], apart := false, laid := [("boatswain/gtab.follows", laid_boatswain_gtab_follows)] }
def SchedSleepsSaid : Prop := schedSleepsRow.holds Tryz.pinned (OpenSpec.ofChange schedSleepsSpec)

/-- ITS FALSE NEIGHBOUR: 'it returns false'. Refute it at one input. -/
def schedSleepsWrong : ChangeSpec := { name := "schedSleeps", fn := fun _ => fun
  | [d1, d2] => { results := [.lit (.bool false)], args := [d1, d2] }
  | _ => none }
def SchedSleepsWrongFalsely : Prop := schedSleepsRow.holds Tryz.pinned (OpenSpec.ofChange schedSleepsWrong)

/-- 'boatswaintop.TopAlone': WHATEVER THE INPUT: true; the input reads as it did. -/
def topAloneSpec : ChangeSpec := { name := "topAlone", fn := fun _ => fun
  | [d1, d2] => { results := [.lit (.bool true)], args := [d1, d2] }
  | _ => none }
def topAloneRow : OpenClaim := { program := "ytjlbmmiomfpgiaagreatdoor", sum := "38bdb3900f403000901ce4b79f031c2a619d6273bbfe920281d39f66f32e812b", func := "boatswain/boatswaintop.TopAlone", spec := "topAlone", unfollowed := true, recurses := true, named := ["boatswain/gtab.follows"], apart := false, laid := [("boatswain/gtab.follows", laid_boatswain_gtab_follows)] }
def TopAloneSaid : Prop := topAloneRow.holds Tryz.pinned (OpenSpec.ofChange topAloneSpec)

/-- ITS FALSE NEIGHBOUR: 'it returns false'. Refute it at one input. -/
def topAloneWrong : ChangeSpec := { name := "topAlone", fn := fun _ => fun
  | [d1, d2] => { results := [.lit (.bool false)], args := [d1, d2] }
  | _ => none }
def TopAloneWrongFalsely : Prop := topAloneRow.holds Tryz.pinned (OpenSpec.ofChange topAloneWrong)

/-- 'boatswaintop.TopInherits': WHATEVER THE INPUT: true; the input reads as it did. -/
def topInheritsSpec : ChangeSpec := { name := "topInherits", fn := fun _ => fun
  | [d1, d2, d3] => { results := [.lit (.bool true)], args := [d1, d2, d3] }
  | _ => none }
def topInheritsRow : OpenClaim := { program := "ytjlbmmiomfpgiaagreatdoor", sum := "38bdb3900f403000901ce4b79f031c2a619d6273bbfe920281d39f66f32e812b", func := "boatswain/boatswaintop.TopInherits", spec := "topInherits", unfollowed := true, recurses := true, named := ["boatswain/gtab.follows"], apart := false, laid := [("boatswain/gtab.follows", laid_boatswain_gtab_follows)] }
def TopInheritsSaid : Prop := topInheritsRow.holds Tryz.pinned (OpenSpec.ofChange topInheritsSpec)

/-- ITS FALSE NEIGHBOUR: 'it returns false'. Refute it at one input. -/
def topInheritsWrong : ChangeSpec := { name := "topInherits", fn := fun _ => fun
  | [d1, d2, d3] => { results := [.lit (.bool false)], args := [d1, d2, d3] }
  | _ => none }
def TopInheritsWrongFalsely : Prop := topInheritsRow.holds Tryz.pinned (OpenSpec.ofChange topInheritsWrong)

/-- 'boatswaintop.TopThrottled': WHATEVER THE INPUT: true; the input reads as it did. -/
def topThrottledSpec : ChangeSpec := { name := "topThrottled", fn := fun _ => fun
  | [d] => { results := [.lit (.bool true)], args := [d] }
  | _ => none }
def topThrottledRow : OpenClaim := { program := "ytjlbmmiomfpgiaagreatdoor", sum := "38bdb3900f403000901ce4b79f031c2a619d6273bbfe920281d39f66f32e812b", func := "boatswain/boatswaintop.TopThrottled", spec := "topThrottled", unfollowed := true, recurses := true, named := ["boatswain/gtab.follows"], apart := false, laid := [("boatswain/gtab.follows", laid_boatswain_gtab_follows)] }
def TopThrottledSaid : Prop := topThrottledRow.holds Tryz.pinned (OpenSpec.ofChange topThrottledSpec)

/-- ITS FALSE NEIGHBOUR: 'it returns false'. Refute it at one input. -/
def topThrottledWrong : ChangeSpec := { name := "topThrottled", fn := fun _ => fun
  | [d] => { results := [.lit (.bool false)], args := [d] }
  | _ => none }
def TopThrottledWrongFalsely : Prop := topThrottledRow.holds Tryz.pinned (OpenSpec.ofChange topThrottledWrong)

/-- 'boatswaintop.TopRounds': WHATEVER THE INPUT: true; the input reads as it did. -/
def topRoundsSpec : ChangeSpec := { name := "topRounds", fn := fun _ => fun
  | [d1, d2, d3] => { results := [.lit (.bool true)], args := [d1, d2, d3] }
  | _ => none }
def topRoundsRow : OpenClaim := { program := "ytjlbmmiomfpgiaagreatdoor", sum := "38bdb3900f403000901ce4b79f031c2a619d6273bbfe920281d39f66f32e812b", func := "boatswain/boatswaintop.TopRounds", spec := "topRounds", unfollowed := true, recurses := true, named := ["boatswain/gtab.follows"], apart := false, laid := [("boatswain/gtab.follows", laid_boatswain_gtab_follows)] }
def TopRoundsSaid : Prop := topRoundsRow.holds Tryz.pinned (OpenSpec.ofChange topRoundsSpec)

/-- ITS FALSE NEIGHBOUR: 'it returns false'. Refute it at one input. -/
def topRoundsWrong : ChangeSpec := { name := "topRounds", fn := fun _ => fun
  | [d1, d2, d3] => { results := [.lit (.bool false)], args := [d1, d2, d3] }
  | _ => none }
def TopRoundsWrongFalsely : Prop := topRoundsRow.holds Tryz.pinned (OpenSpec.ofChange topRoundsWrong)

/- THE SECOND FORM. 'bulk': how many values and letters a reading holds, each counted each time it is reached (what is shared counts as often as it is met; a slice's spare places count too). A statement '..UptoSaid' is the law's where the arguments, and the package variables that the reading takes, are together of bulk at most 1048576: NARROWER than '..Said'. Prove '..Said' where nothing that the law and all that it calls make is longer than what came in: it says more and counts as full. Else prove '..UptoSaid'. A law counts once. -/
mutual
def uptoBulk {H : Type} : DataW H → Nat
  | .lit (.string bytes) => bytes.length + 1
  | .lit _ => 1
  | .nil => 1
  | .ptr d => uptoBulk d + 1
  | .slice elems spare => uptoBulkAll elems + uptoBulkAll spare + 1
  | .agg parts => uptoBulkAll parts + 1
  | .iface _ d => uptoBulk d + 1
  | .map entries => uptoBulkEntries entries + 1
  | .held _ => 1
def uptoBulkAll {H : Type} : List (DataW H) → Nat
  | [] => 0
  | d :: r => uptoBulk d + uptoBulkAll r
def uptoBulkEntries {H : Type} : List (Lit × DataW H) → Nat
  | [] => 0
  | x :: r => uptoBulkEntry x + uptoBulkEntries r
def uptoBulkEntry {H : Type} : Lit × DataW H → Nat
  | (.string bytes, d) => bytes.length + uptoBulk d + 1
  | (_, d) => uptoBulk d + 1
 end
def uptoSmall : (H : Type) → List (DataW H) → Bool := fun _ ds => decide (uptoBulkAll ds ≤ 1048576)
def OpenSpec.upto (s : _root_.Go.ChangeSpec) : _root_.Go.OpenSpec := { _root_.Go.OpenSpec.ofChange s with cond := some uptoSmall }

/-- 'boatswainlaw14.SchedBudget', WHERE WHAT IT READS IS OF BULK AT MOST 1048576: true; the input reads as it did. -/
def schedBudgetUptoRow : OpenClaim := { program := "ytjlbmmiomfpgiaagreatdoor", sum := "38bdb3900f403000901ce4b79f031c2a619d6273bbfe920281d39f66f32e812b", func := "boatswain/boatswainlaw14.SchedBudget", spec := "schedBudget", unfollowed := true, recurses := true, named := ["boatswain/gtab.follows"], apart := false, laid := [("boatswain/gtab.follows", laid_boatswain_gtab_follows)], narrowed := true }
def SchedBudgetUptoSaid : Prop := schedBudgetUptoRow.holds Tryz.pinned (OpenSpec.upto schedBudgetSpec)

/-- 'boatswainlaw14.SchedNone', WHERE WHAT IT READS IS OF BULK AT MOST 1048576: true; the input reads as it did. -/
def schedNoneUptoRow : OpenClaim := { program := "ytjlbmmiomfpgiaagreatdoor", sum := "38bdb3900f403000901ce4b79f031c2a619d6273bbfe920281d39f66f32e812b", func := "boatswain/boatswainlaw14.SchedNone", spec := "schedNone", inPlace := ["maps.clone"], unfollowed := true, recurses := true, named := ["boatswain/gtab.follows"], apart := false, laid := [("boatswain/gtab.follows", laid_boatswain_gtab_follows)], narrowed := true }
def SchedNoneUptoSaid : Prop := schedNoneUptoRow.holds Tryz.pinned (OpenSpec.upto schedNoneSpec)

/-- 'boatswainlaw14.SchedSleeps', WHERE WHAT IT READS IS OF BULK AT MOST 1048576: true; the input reads as it did. -/
def schedSleepsUptoRow : OpenClaim := { program := "ytjlbmmiomfpgiaagreatdoor", sum := "38bdb3900f403000901ce4b79f031c2a619d6273bbfe920281d39f66f32e812b", func := "boatswain/boatswainlaw14.SchedSleeps", spec := "schedSleeps", unfollowed := true, recurses := true, named := ["boatswain/gtab.follows"], apart := false, laid := [("boatswain/gtab.follows", laid_boatswain_gtab_follows)], narrowed := true }
def SchedSleepsUptoSaid : Prop := schedSleepsUptoRow.holds Tryz.pinned (OpenSpec.upto schedSleepsSpec)

/-- 'boatswaintop.TopAlone', WHERE WHAT IT READS IS OF BULK AT MOST 1048576: true; the input reads as it did. -/
def topAloneUptoRow : OpenClaim := { program := "ytjlbmmiomfpgiaagreatdoor", sum := "38bdb3900f403000901ce4b79f031c2a619d6273bbfe920281d39f66f32e812b", func := "boatswain/boatswaintop.TopAlone", spec := "topAlone", unfollowed := true, recurses := true, named := ["boatswain/gtab.follows"], apart := false, laid := [("boatswain/gtab.follows", laid_boatswain_gtab_follows)], narrowed := true }
def TopAloneUptoSaid : Prop := topAloneUptoRow.holds Tryz.pinned (OpenSpec.upto topAloneSpec)

/-- 'boatswaintop.TopInherits', WHERE WHAT IT READS IS OF BULK AT MOST 1048576: true; the input reads as it did. -/
def topInheritsUptoRow : OpenClaim := { program := "ytjlbmmiomfpgiaagreatdoor", sum := "38bdb3900f403000901ce4b79f031c2a619d6273bbfe920281d39f66f32e812b", func := "boatswain/boatswaintop.TopInherits", spec := "topInherits", unfollowed := true, recurses := true, named := ["boatswain/gtab.follows"], apart := false, laid := [("boatswain/gtab.follows", laid_boatswain_gtab_follows)], narrowed := true }
def TopInheritsUptoSaid : Prop := topInheritsUptoRow.holds Tryz.pinned (OpenSpec.upto topInheritsSpec)

/-- 'boatswaintop.TopThrottled', WHERE WHAT IT READS IS OF BULK AT MOST 1048576: true; the input reads as it did. -/
def topThrottledUptoRow : OpenClaim := { program := "ytjlbmmiomfpgiaagreatdoor", sum := "38bdb3900f403000901ce4b79f031c2a619d6273bbfe920281d39f66f32e812b", func := "boatswain/boatswaintop.TopThrottled", spec := "topThrottled", unfollowed := true, recurses := true, named := ["boatswain/gtab.follows"], apart := false, laid := [("boatswain/gtab.follows", laid_boatswain_gtab_follows)], narrowed := true }
def TopThrottledUptoSaid : Prop := topThrottledUptoRow.holds Tryz.pinned (OpenSpec.upto topThrottledSpec)

/-- 'boatswaintop.TopRounds', WHERE WHAT IT READS IS OF BULK AT MOST 1048576: true; the input reads as it did. -/
def topRoundsUptoRow : OpenClaim := { program := "ytjlbmmiomfpgiaagreatdoor", sum := "38bdb3900f403000901ce4b79f031c2a619d6273bbfe920281d39f66f32e812b", func := "boatswain/boatswaintop.TopRounds", spec := "topRounds", unfollowed := true, recurses := true, named := ["boatswain/gtab.follows"], apart := false, laid := [("boatswain/gtab.follows", laid_boatswain_gtab_follows)], narrowed := true }
def TopRoundsUptoSaid : Prop := topRoundsUptoRow.holds Tryz.pinned (OpenSpec.upto topRoundsSpec)

end Rows
end Go.Proofs.YtjlbmmiomfpgiaaGreatDoor
