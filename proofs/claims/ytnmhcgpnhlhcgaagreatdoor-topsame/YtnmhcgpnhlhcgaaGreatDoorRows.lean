/-
  NARROWER THAN 'FOR EVERY INPUT', by the rows' own cells (each row's printed sentence says how): SchedBudget: laid · RunAgain: laid · RunCounts: laid · RunUsed: laid · RunGrants: laid · RunErrs: laid · TopSame: laid · TopWrong: laid.
  DERIVED. THE GIVEN ROWS OF THIS SEAT. 8 by the template 'for every input the law returns true; each argument reads behind the call as it read before'; 0 by the template 'total and deterministic' (their statements: YtnmhcgpnhlhcgaaGreatDoorTotals.lean).
  GIVEN WITH THE SEED: the statements are not yours to turn. If you find one false, say at which input.
  Laid BY PROGRAM, IN A SANDBOX (cutbox-rows.mjs): the forced cells as the released guide's own fill.sh prints them over the translation bcd61fc1d422bdc2… (all of the seat's roots in one cut). By AI agents, Wed Nov 11 2026. No macro, syntax, notation, axiom, sorry.
-/
import Derived.Test.YtnmhcgpnhlhcgaaGreatDoorChecked
import GoSem.Claim
import GoSem.ClaimJoined
import GoSem.ClaimMapViews
import Derived.JoinedTies
import Derived.KernelRfl
namespace Go.Proofs.YtnmhcgpnhlhcgaaGreatDoor
/- THE CELL 'sum', in the pinned program and in every row, IS THE sha256 OF THE DUMP (.gsa) THAT YtnmhcgpnhlhcgaaGreatDoorProg.lean LOADS. Nothing in Lean hashes anything: it is a label: what it is worth is what the hold of that sum in a sandbox is worth. -/
noncomputable def Tryz.pinned : Pinned := { name := "ytnmhcgpnhlhcgaagreatdoor", sum := "bcd61fc1d422bdc2f4eec429ba045c956f3dff70371cea516aeb66fff69d1122", checked := Tryz.checked }
namespace Rows
def none {H : Type} : Left H := { results := [], args := [] }

/- WHAT THE LISTED PACKAGE-LEVEL VARIABLES READ AS WHEN THE CALL BEGINS. Each datum BY PROGRAM (the guide's laid-datum.mjs) off the statement by which the dump's own 'gosem.cut.vars' lays the variable. In a bare row this is a premise. The card (YtnmhcgpnhlhcgaaGreatDoorCards.lean) ties it to the program's text. -/
def laid_boatswain_gtab_follows {H : Type} : DataW H := .agg [.agg [.lit (.bool false), .lit (.bool false), .lit (.bool false), .lit (.bool false), .lit (.bool false)], .agg [.lit (.bool false), .lit (.bool false), .lit (.bool true), .lit (.bool false), .lit (.bool false)], .agg [.lit (.bool false), .lit (.bool true), .lit (.bool false), .lit (.bool true), .lit (.bool true)], .agg [.lit (.bool false), .lit (.bool true), .lit (.bool false), .lit (.bool false), .lit (.bool false)], .agg [.lit (.bool false), .lit (.bool true), .lit (.bool false), .lit (.bool false), .lit (.bool false)]]

/-- 'boatswainlaw14.SchedBudget': WHATEVER THE INPUT: true; the input reads as it did. -/
def schedBudgetSpec : ChangeSpec := { name := "schedBudget", fn := fun _ => fun
  | [d1, d2, d3] => { results := [.lit (.bool true)], args := [d1, d2, d3] }
  | _ => none }
def schedBudgetRow : OpenClaim := { program := "ytnmhcgpnhlhcgaagreatdoor", sum := "bcd61fc1d422bdc2f4eec429ba045c956f3dff70371cea516aeb66fff69d1122", func := "boatswain/boatswainlaw14.SchedBudget", spec := "schedBudget", unfollowed := true, recurses := true, named := ["boatswain/gtab.follows"], apart := false, laid := [("boatswain/gtab.follows", laid_boatswain_gtab_follows)] }
def SchedBudgetSaid : Prop := schedBudgetRow.holds Tryz.pinned (OpenSpec.ofChange schedBudgetSpec)

/-- ITS FALSE NEIGHBOUR: 'it returns false'. Refute it at one input. -/
def schedBudgetWrong : ChangeSpec := { name := "schedBudget", fn := fun _ => fun
  | [d1, d2, d3] => { results := [.lit (.bool false)], args := [d1, d2, d3] }
  | _ => none }
def SchedBudgetWrongFalsely : Prop := schedBudgetRow.holds Tryz.pinned (OpenSpec.ofChange schedBudgetWrong)

/-- 'boatswainlaw16.RunAgain': WHATEVER THE INPUT: true; the input reads as it did. -/
def runAgainSpec : ChangeSpec := { name := "runAgain", fn := fun _ => fun
  | [d1, d2, d3] => { results := [.lit (.bool true)], args := [d1, d2, d3] }
  | _ => none }
def runAgainRow : OpenClaim := { program := "ytnmhcgpnhlhcgaagreatdoor", sum := "bcd61fc1d422bdc2f4eec429ba045c956f3dff70371cea516aeb66fff69d1122", func := "boatswain/boatswainlaw16.RunAgain", spec := "runAgain", unfollowed := true, recurses := true, named := ["boatswain/gtab.follows"], apart := false, laid := [("boatswain/gtab.follows", laid_boatswain_gtab_follows)] }
def RunAgainSaid : Prop := runAgainRow.holds Tryz.pinned (OpenSpec.ofChange runAgainSpec)

/-- ITS FALSE NEIGHBOUR: 'it returns false'. Refute it at one input. -/
def runAgainWrong : ChangeSpec := { name := "runAgain", fn := fun _ => fun
  | [d1, d2, d3] => { results := [.lit (.bool false)], args := [d1, d2, d3] }
  | _ => none }
def RunAgainWrongFalsely : Prop := runAgainRow.holds Tryz.pinned (OpenSpec.ofChange runAgainWrong)

/-- 'boatswainlaw16.RunCounts': WHATEVER THE INPUT: true; the input reads as it did. -/
def runCountsSpec : ChangeSpec := { name := "runCounts", fn := fun _ => fun
  | [d1, d2] => { results := [.lit (.bool true)], args := [d1, d2] }
  | _ => none }
def runCountsRow : OpenClaim := { program := "ytnmhcgpnhlhcgaagreatdoor", sum := "bcd61fc1d422bdc2f4eec429ba045c956f3dff70371cea516aeb66fff69d1122", func := "boatswain/boatswainlaw16.RunCounts", spec := "runCounts", unfollowed := true, recurses := true, named := ["boatswain/gtab.follows"], apart := false, laid := [("boatswain/gtab.follows", laid_boatswain_gtab_follows)] }
def RunCountsSaid : Prop := runCountsRow.holds Tryz.pinned (OpenSpec.ofChange runCountsSpec)

/-- ITS FALSE NEIGHBOUR: 'it returns false'. Refute it at one input. -/
def runCountsWrong : ChangeSpec := { name := "runCounts", fn := fun _ => fun
  | [d1, d2] => { results := [.lit (.bool false)], args := [d1, d2] }
  | _ => none }
def RunCountsWrongFalsely : Prop := runCountsRow.holds Tryz.pinned (OpenSpec.ofChange runCountsWrong)

/-- 'boatswainlaw16.RunUsed': WHATEVER THE INPUT: true; the input reads as it did. -/
def runUsedSpec : ChangeSpec := { name := "runUsed", fn := fun _ => fun
  | [d1, d2] => { results := [.lit (.bool true)], args := [d1, d2] }
  | _ => none }
def runUsedRow : OpenClaim := { program := "ytnmhcgpnhlhcgaagreatdoor", sum := "bcd61fc1d422bdc2f4eec429ba045c956f3dff70371cea516aeb66fff69d1122", func := "boatswain/boatswainlaw16.RunUsed", spec := "runUsed", unfollowed := true, recurses := true, named := ["boatswain/gtab.follows"], apart := false, laid := [("boatswain/gtab.follows", laid_boatswain_gtab_follows)] }
def RunUsedSaid : Prop := runUsedRow.holds Tryz.pinned (OpenSpec.ofChange runUsedSpec)

/-- ITS FALSE NEIGHBOUR: 'it returns false'. Refute it at one input. -/
def runUsedWrong : ChangeSpec := { name := "runUsed", fn := fun _ => fun
  | [d1, d2] => { results := [.lit (.bool false)], args := [d1, d2] }
  | _ => none }
def RunUsedWrongFalsely : Prop := runUsedRow.holds Tryz.pinned (OpenSpec.ofChange runUsedWrong)

/-- 'boatswainlaw16.RunGrants': WHATEVER THE INPUT: true; the input reads as it did. -/
def runGrantsSpec : ChangeSpec := { name := "runGrants", fn := fun _ => fun
  | [d1, d2] => { results := [.lit (.bool true)], args := [d1, d2] }
  | _ => none }
def runGrantsRow : OpenClaim := { program := "ytnmhcgpnhlhcgaagreatdoor", sum := "bcd61fc1d422bdc2f4eec429ba045c956f3dff70371cea516aeb66fff69d1122", func := "boatswain/boatswainlaw16.RunGrants", spec := "runGrants", unfollowed := true, recurses := true, named := ["boatswain/gtab.follows"], apart := false, laid := [("boatswain/gtab.follows", laid_boatswain_gtab_follows)] }
def RunGrantsSaid : Prop := runGrantsRow.holds Tryz.pinned (OpenSpec.ofChange runGrantsSpec)

/-- ITS FALSE NEIGHBOUR: 'it returns false'. Refute it at one input. -/
def runGrantsWrong : ChangeSpec := { name := "runGrants", fn := fun _ => fun
  | [d1, d2] => { results := [.lit (.bool false)], args := [d1, d2] }
  | _ => none }
def RunGrantsWrongFalsely : Prop := runGrantsRow.holds Tryz.pinned (OpenSpec.ofChange runGrantsWrong)

/-- 'boatswainlaw16.RunErrs': WHATEVER THE INPUT: true; the input reads as it did. -/
def runErrsSpec : ChangeSpec := { name := "runErrs", fn := fun _ => fun
  | [d1, d2, d3] => { results := [.lit (.bool true)], args := [d1, d2, d3] }
  | _ => none }
def runErrsRow : OpenClaim := { program := "ytnmhcgpnhlhcgaagreatdoor", sum := "bcd61fc1d422bdc2f4eec429ba045c956f3dff70371cea516aeb66fff69d1122", func := "boatswain/boatswainlaw16.RunErrs", spec := "runErrs", unfollowed := true, recurses := true, named := ["boatswain/gtab.follows"], apart := false, laid := [("boatswain/gtab.follows", laid_boatswain_gtab_follows)] }
def RunErrsSaid : Prop := runErrsRow.holds Tryz.pinned (OpenSpec.ofChange runErrsSpec)

/-- ITS FALSE NEIGHBOUR: 'it returns false'. Refute it at one input. -/
def runErrsWrong : ChangeSpec := { name := "runErrs", fn := fun _ => fun
  | [d1, d2, d3] => { results := [.lit (.bool false)], args := [d1, d2, d3] }
  | _ => none }
def RunErrsWrongFalsely : Prop := runErrsRow.holds Tryz.pinned (OpenSpec.ofChange runErrsWrong)

/-- 'boatswaintop.TopSame': WHATEVER THE INPUT: true; the input reads as it did. -/
def topSameSpec : ChangeSpec := { name := "topSame", fn := fun _ => fun
  | [d1, d2] => { results := [.lit (.bool true)], args := [d1, d2] }
  | _ => none }
def topSameRow : OpenClaim := { program := "ytnmhcgpnhlhcgaagreatdoor", sum := "bcd61fc1d422bdc2f4eec429ba045c956f3dff70371cea516aeb66fff69d1122", func := "boatswain/boatswaintop.TopSame", spec := "topSame", unfollowed := true, recurses := true, named := ["boatswain/gtab.follows"], apart := false, laid := [("boatswain/gtab.follows", laid_boatswain_gtab_follows)] }
def TopSameSaid : Prop := topSameRow.holds Tryz.pinned (OpenSpec.ofChange topSameSpec)

/-- ITS FALSE NEIGHBOUR: 'it returns false'. Refute it at one input. -/
def topSameWrong : ChangeSpec := { name := "topSame", fn := fun _ => fun
  | [d1, d2] => { results := [.lit (.bool false)], args := [d1, d2] }
  | _ => none }
def TopSameWrongFalsely : Prop := topSameRow.holds Tryz.pinned (OpenSpec.ofChange topSameWrong)

/-- 'boatswaintop.TopWrong': WHATEVER THE INPUT: true; the input reads as it did. -/
def topWrongSpec : ChangeSpec := { name := "topWrong", fn := fun _ => fun
  | [d] => { results := [.lit (.bool true)], args := [d] }
  | _ => none }
def topWrongRow : OpenClaim := { program := "ytnmhcgpnhlhcgaagreatdoor", sum := "bcd61fc1d422bdc2f4eec429ba045c956f3dff70371cea516aeb66fff69d1122", func := "boatswain/boatswaintop.TopWrong", spec := "topWrong", unfollowed := true, recurses := true, named := ["boatswain/gtab.follows"], apart := false, laid := [("boatswain/gtab.follows", laid_boatswain_gtab_follows)] }
def TopWrongSaid : Prop := topWrongRow.holds Tryz.pinned (OpenSpec.ofChange topWrongSpec)

/-- ITS FALSE NEIGHBOUR: 'it returns false'. Refute it at one input. -/
def topWrongWrong : ChangeSpec := { name := "topWrong", fn := fun _ => fun
  | [d] => { results := [.lit (.bool false)], args := [d] }
  | _ => none }
def TopWrongWrongFalsely : Prop := topWrongRow.holds Tryz.pinned (OpenSpec.ofChange topWrongWrong)

/- THE SECOND FORM. 'bulk': how many values and letters a reading holds, each counted each time it is reached (what is shared counts as often as it is met; a slice's spare places count too). A statement '..UptoSaid' is the law's where the arguments, and the package variables that the reading takes, are together of bulk at most 1048576: NARROWER than '..Said'. Prove '..Said' where nothing that the law and all that it calls make is longer than what came in: it says more and counts as full. Else prove '..UptoSaid'. A law counts once. -/
mutual
def uptoBulk {H : Type} : DataW H → Nat
  | .lit (.string bytes) => bytes.length + 1
  | .lit _ => 1
  | .nil => 1
  | .ptr d => uptoBulk d + 1
  | .slice elems spare => uptoBulkAll elems + uptoBulkAll spare + 1
  | .agg parts => uptoBulkAll parts + 1
  | .iface _ d => uptoBulk d + 1
  | .map entries => uptoBulkEntries entries + 1
  | .held _ => 1
def uptoBulkAll {H : Type} : List (DataW H) → Nat
  | [] => 0
  | d :: r => uptoBulk d + uptoBulkAll r
def uptoBulkEntries {H : Type} : List (Lit × DataW H) → Nat
  | [] => 0
  | x :: r => uptoBulkEntry x + uptoBulkEntries r
def uptoBulkEntry {H : Type} : Lit × DataW H → Nat
  | (.string bytes, d) => bytes.length + uptoBulk d + 1
  | (_, d) => uptoBulk d + 1
 end
def uptoSmall : (H : Type) → List (DataW H) → Bool := fun _ ds => decide (uptoBulkAll ds ≤ 1048576)
def OpenSpec.upto (s : _root_.Go.ChangeSpec) : _root_.Go.OpenSpec := { _root_.Go.OpenSpec.ofChange s with cond := some uptoSmall }

/-- 'boatswainlaw14.SchedBudget', WHERE WHAT IT READS IS OF BULK AT MOST 1048576: true; the input reads as it did. -/
def schedBudgetUptoRow : OpenClaim := { program := "ytnmhcgpnhlhcgaagreatdoor", sum := "bcd61fc1d422bdc2f4eec429ba045c956f3dff70371cea516aeb66fff69d1122", func := "boatswain/boatswainlaw14.SchedBudget", spec := "schedBudget", unfollowed := true, recurses := true, named := ["boatswain/gtab.follows"], apart := false, laid := [("boatswain/gtab.follows", laid_boatswain_gtab_follows)], narrowed := true }
def SchedBudgetUptoSaid : Prop := schedBudgetUptoRow.holds Tryz.pinned (OpenSpec.upto schedBudgetSpec)

/-- 'boatswainlaw16.RunAgain', WHERE WHAT IT READS IS OF BULK AT MOST 1048576: true; the input reads as it did. -/
def runAgainUptoRow : OpenClaim := { program := "ytnmhcgpnhlhcgaagreatdoor", sum := "bcd61fc1d422bdc2f4eec429ba045c956f3dff70371cea516aeb66fff69d1122", func := "boatswain/boatswainlaw16.RunAgain", spec := "runAgain", unfollowed := true, recurses := true, named := ["boatswain/gtab.follows"], apart := false, laid := [("boatswain/gtab.follows", laid_boatswain_gtab_follows)], narrowed := true }
def RunAgainUptoSaid : Prop := runAgainUptoRow.holds Tryz.pinned (OpenSpec.upto runAgainSpec)

/-- 'boatswainlaw16.RunCounts', WHERE WHAT IT READS IS OF BULK AT MOST 1048576: true; the input reads as it did. -/
def runCountsUptoRow : OpenClaim := { program := "ytnmhcgpnhlhcgaagreatdoor", sum := "bcd61fc1d422bdc2f4eec429ba045c956f3dff70371cea516aeb66fff69d1122", func := "boatswain/boatswainlaw16.RunCounts", spec := "runCounts", unfollowed := true, recurses := true, named := ["boatswain/gtab.follows"], apart := false, laid := [("boatswain/gtab.follows", laid_boatswain_gtab_follows)], narrowed := true }
def RunCountsUptoSaid : Prop := runCountsUptoRow.holds Tryz.pinned (OpenSpec.upto runCountsSpec)

/-- 'boatswainlaw16.RunUsed', WHERE WHAT IT READS IS OF BULK AT MOST 1048576: true; the input reads as it did. -/
def runUsedUptoRow : OpenClaim := { program := "ytnmhcgpnhlhcgaagreatdoor", sum := "bcd61fc1d422bdc2f4eec429ba045c956f3dff70371cea516aeb66fff69d1122", func := "boatswain/boatswainlaw16.RunUsed", spec := "runUsed", unfollowed := true, recurses := true, named := ["boatswain/gtab.follows"], apart := false, laid := [("boatswain/gtab.follows", laid_boatswain_gtab_follows)], narrowed := true }
def RunUsedUptoSaid : Prop := runUsedUptoRow.holds Tryz.pinned (OpenSpec.upto runUsedSpec)

/-- 'boatswainlaw16.RunGrants', WHERE WHAT IT READS IS OF BULK AT MOST 1048576: true; the input reads as it did. -/
def runGrantsUptoRow : OpenClaim := { program := "ytnmhcgpnhlhcgaagreatdoor", sum := "bcd61fc1d422bdc2f4eec429ba045c956f3dff70371cea516aeb66fff69d1122", func := "boatswain/boatswainlaw16.RunGrants", spec := "runGrants", unfollowed := true, recurses := true, named := ["boatswain/gtab.follows"], apart := false, laid := [("boatswain/gtab.follows", laid_boatswain_gtab_follows)], narrowed := true }
def RunGrantsUptoSaid : Prop := runGrantsUptoRow.holds Tryz.pinned (OpenSpec.upto runGrantsSpec)

/-- 'boatswainlaw16.RunErrs', WHERE WHAT IT READS IS OF BULK AT MOST 1048576: true; the input reads as it did. -/
def runErrsUptoRow : OpenClaim := { program := "ytnmhcgpnhlhcgaagreatdoor", sum := "bcd61fc1d422bdc2f4eec429ba045c956f3dff70371cea516aeb66fff69d1122", func := "boatswain/boatswainlaw16.RunErrs", spec := "runErrs", unfollowed := true, recurses := true, named := ["boatswain/gtab.follows"], apart := false, laid := [("boatswain/gtab.follows", laid_boatswain_gtab_follows)], narrowed := true }
def RunErrsUptoSaid : Prop := runErrsUptoRow.holds Tryz.pinned (OpenSpec.upto runErrsSpec)

/-- 'boatswaintop.TopSame', WHERE WHAT IT READS IS OF BULK AT MOST 1048576: true; the input reads as it did. -/
def topSameUptoRow : OpenClaim := { program := "ytnmhcgpnhlhcgaagreatdoor", sum := "bcd61fc1d422bdc2f4eec429ba045c956f3dff70371cea516aeb66fff69d1122", func := "boatswain/boatswaintop.TopSame", spec := "topSame", unfollowed := true, recurses := true, named := ["boatswain/gtab.follows"], apart := false, laid := [("boatswain/gtab.follows", laid_boatswain_gtab_follows)], narrowed := true }
def TopSameUptoSaid : Prop := topSameUptoRow.holds Tryz.pinned (OpenSpec.upto topSameSpec)

/-- 'boatswaintop.TopWrong', WHERE WHAT IT READS IS OF BULK AT MOST 1048576: true; the input reads as it did. -/
def topWrongUptoRow : OpenClaim := { program := "ytnmhcgpnhlhcgaagreatdoor", sum := "bcd61fc1d422bdc2f4eec429ba045c956f3dff70371cea516aeb66fff69d1122", func := "boatswain/boatswaintop.TopWrong", spec := "topWrong", unfollowed := true, recurses := true, named := ["boatswain/gtab.follows"], apart := false, laid := [("boatswain/gtab.follows", laid_boatswain_gtab_follows)], narrowed := true }
def TopWrongUptoSaid : Prop := topWrongUptoRow.holds Tryz.pinned (OpenSpec.upto topWrongSpec)

end Rows
end Go.Proofs.YtnmhcgpnhlhcgaaGreatDoor
