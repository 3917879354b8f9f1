/-
  No cell of these rows narrows 'for every input' (looked for: loops, veiled, ifaces, maps, wideKeys, modest, calm, conditions, laid).
  DERIVED. THE GIVEN ROWS OF THIS SEAT. 12 by the template 'for every input the law returns true; each argument reads behind the call as it read before'; 0 by the template 'total and deterministic' (their statements: YthpbehpeojacmaaTotals.lean).
  GIVEN WITH THE SEED: the statements are not yours to turn. If you find one false, say at which input.
  Laid BY PROGRAM, IN A SANDBOX (cutbox-rows.mjs): the forced cells as the released guide's own fill.sh prints them over the translation 420eff85f3a15915… (all of the seat's roots in one cut). By AI agents, Wed Nov 11 2026. No macro, syntax, notation, axiom, sorry.
-/
import Derived.Test.YthpbehpeojacmaaChecked
import GoSem.Claim
import GoSem.ClaimJoined
import GoSem.ClaimMapViews
import Derived.JoinedTies
import Derived.KernelRfl
namespace Go.Proofs.Ythpbehpeojacmaa
/- THE CELL 'sum', in the pinned program and in every row, IS THE sha256 OF THE DUMP (.gsa) THAT YthpbehpeojacmaaProg.lean LOADS. Nothing in Lean hashes anything: it is a label: what it is worth is what the hold of that sum in a sandbox is worth. -/
noncomputable def Try.pinned : Pinned := { name := "ythpbehpeojacmaa", sum := "420eff85f3a159154cf3583921167852338ebbfb477b8c2328974e0f1f00060c", checked := Try.checked }
namespace Rows
def none {H : Type} : Left H := { results := [], args := [] }

/-- 'boatswainlaw03.PheapPlays': WHATEVER THE INPUT: true; the input reads as it did. -/
def pheapPlaysSpec : ChangeSpec := { name := "pheapPlays", fn := fun _ => fun
  | [d1, d2, d3] => { results := [.lit (.bool true)], args := [d1, d2, d3] }
  | _ => none }
def pheapPlaysRow : OpenClaim := { program := "ythpbehpeojacmaa", sum := "420eff85f3a159154cf3583921167852338ebbfb477b8c2328974e0f1f00060c", func := "boatswain/boatswainlaw03.PheapPlays", spec := "pheapPlays", apart := false }
def PheapPlaysSaid : Prop := pheapPlaysRow.holds Try.pinned (OpenSpec.ofChange pheapPlaysSpec)

/-- ITS FALSE NEIGHBOUR: 'it returns false'. Refute it at one input. -/
def pheapPlaysWrong : ChangeSpec := { name := "pheapPlays", fn := fun _ => fun
  | [d1, d2, d3] => { results := [.lit (.bool false)], args := [d1, d2, d3] }
  | _ => none }
def PheapPlaysWrongFalsely : Prop := pheapPlaysRow.holds Try.pinned (OpenSpec.ofChange pheapPlaysWrong)

/-- 'boatswainlaw03.PheapRises': WHATEVER THE INPUT: true; the input reads as it did. -/
def pheapRisesSpec : ChangeSpec := { name := "pheapRises", fn := fun _ => fun
  | [d1, d2] => { results := [.lit (.bool true)], args := [d1, d2] }
  | _ => none }
def pheapRisesRow : OpenClaim := { program := "ythpbehpeojacmaa", sum := "420eff85f3a159154cf3583921167852338ebbfb477b8c2328974e0f1f00060c", func := "boatswain/boatswainlaw03.PheapRises", spec := "pheapRises", apart := false }
def PheapRisesSaid : Prop := pheapRisesRow.holds Try.pinned (OpenSpec.ofChange pheapRisesSpec)

/-- ITS FALSE NEIGHBOUR: 'it returns false'. Refute it at one input. -/
def pheapRisesWrong : ChangeSpec := { name := "pheapRises", fn := fun _ => fun
  | [d1, d2] => { results := [.lit (.bool false)], args := [d1, d2] }
  | _ => none }
def PheapRisesWrongFalsely : Prop := pheapRisesRow.holds Try.pinned (OpenSpec.ofChange pheapRisesWrong)

/-- 'boatswainlaw03.PheapChanges': WHATEVER THE INPUT: true; the input reads as it did. -/
def pheapChangesSpec : ChangeSpec := { name := "pheapChanges", fn := fun _ => fun
  | [d1, d2, d3] => { results := [.lit (.bool true)], args := [d1, d2, d3] }
  | _ => none }
def pheapChangesRow : OpenClaim := { program := "ythpbehpeojacmaa", sum := "420eff85f3a159154cf3583921167852338ebbfb477b8c2328974e0f1f00060c", func := "boatswain/boatswainlaw03.PheapChanges", spec := "pheapChanges", apart := false }
def PheapChangesSaid : Prop := pheapChangesRow.holds Try.pinned (OpenSpec.ofChange pheapChangesSpec)

/-- ITS FALSE NEIGHBOUR: 'it returns false'. Refute it at one input. -/
def pheapChangesWrong : ChangeSpec := { name := "pheapChanges", fn := fun _ => fun
  | [d1, d2, d3] => { results := [.lit (.bool false)], args := [d1, d2, d3] }
  | _ => none }
def PheapChangesWrongFalsely : Prop := pheapChangesRow.holds Try.pinned (OpenSpec.ofChange pheapChangesWrong)

/-- 'boatswainlaw03.PheapDeletes': WHATEVER THE INPUT: true; the input reads as it did. -/
def pheapDeletesSpec : ChangeSpec := { name := "pheapDeletes", fn := fun _ => fun
  | [d1, d2, d3] => { results := [.lit (.bool true)], args := [d1, d2, d3] }
  | _ => none }
def pheapDeletesRow : OpenClaim := { program := "ythpbehpeojacmaa", sum := "420eff85f3a159154cf3583921167852338ebbfb477b8c2328974e0f1f00060c", func := "boatswain/boatswainlaw03.PheapDeletes", spec := "pheapDeletes", apart := false }
def PheapDeletesSaid : Prop := pheapDeletesRow.holds Try.pinned (OpenSpec.ofChange pheapDeletesSpec)

/-- ITS FALSE NEIGHBOUR: 'it returns false'. Refute it at one input. -/
def pheapDeletesWrong : ChangeSpec := { name := "pheapDeletes", fn := fun _ => fun
  | [d1, d2, d3] => { results := [.lit (.bool false)], args := [d1, d2, d3] }
  | _ => none }
def PheapDeletesWrongFalsely : Prop := pheapDeletesRow.holds Try.pinned (OpenSpec.ofChange pheapDeletesWrong)

/-- 'boatswainlaw03.PheapForks': WHATEVER THE INPUT: true; the input reads as it did. -/
def pheapForksSpec : ChangeSpec := { name := "pheapForks", fn := fun _ => fun
  | [d1, d2] => { results := [.lit (.bool true)], args := [d1, d2] }
  | _ => none }
def pheapForksRow : OpenClaim := { program := "ythpbehpeojacmaa", sum := "420eff85f3a159154cf3583921167852338ebbfb477b8c2328974e0f1f00060c", func := "boatswain/boatswainlaw03.PheapForks", spec := "pheapForks", apart := false }
def PheapForksSaid : Prop := pheapForksRow.holds Try.pinned (OpenSpec.ofChange pheapForksSpec)

/-- ITS FALSE NEIGHBOUR: 'it returns false'. Refute it at one input. -/
def pheapForksWrong : ChangeSpec := { name := "pheapForks", fn := fun _ => fun
  | [d1, d2] => { results := [.lit (.bool false)], args := [d1, d2] }
  | _ => none }
def PheapForksWrongFalsely : Prop := pheapForksRow.holds Try.pinned (OpenSpec.ofChange pheapForksWrong)

/-- 'boatswainlaw03.PheapNone': WHATEVER THE INPUT: true; the input reads as it did. -/
def pheapNoneSpec : ChangeSpec := { name := "pheapNone", fn := fun _ => fun
  | [d1, d2] => { results := [.lit (.bool true)], args := [d1, d2] }
  | _ => none }
def pheapNoneRow : OpenClaim := { program := "ythpbehpeojacmaa", sum := "420eff85f3a159154cf3583921167852338ebbfb477b8c2328974e0f1f00060c", func := "boatswain/boatswainlaw03.PheapNone", spec := "pheapNone", apart := false }
def PheapNoneSaid : Prop := pheapNoneRow.holds Try.pinned (OpenSpec.ofChange pheapNoneSpec)

/-- ITS FALSE NEIGHBOUR: 'it returns false'. Refute it at one input. -/
def pheapNoneWrong : ChangeSpec := { name := "pheapNone", fn := fun _ => fun
  | [d1, d2] => { results := [.lit (.bool false)], args := [d1, d2] }
  | _ => none }
def PheapNoneWrongFalsely : Prop := pheapNoneRow.holds Try.pinned (OpenSpec.ofChange pheapNoneWrong)

/-- 'boatswainlaw03.PheapPuts': WHATEVER THE INPUT: true; the input reads as it did. -/
def pheapPutsSpec : ChangeSpec := { name := "pheapPuts", fn := fun _ => fun
  | [d1, d2, d3] => { results := [.lit (.bool true)], args := [d1, d2, d3] }
  | _ => none }
def pheapPutsRow : OpenClaim := { program := "ythpbehpeojacmaa", sum := "420eff85f3a159154cf3583921167852338ebbfb477b8c2328974e0f1f00060c", func := "boatswain/boatswainlaw03.PheapPuts", spec := "pheapPuts", apart := false }
def PheapPutsSaid : Prop := pheapPutsRow.holds Try.pinned (OpenSpec.ofChange pheapPutsSpec)

/-- ITS FALSE NEIGHBOUR: 'it returns false'. Refute it at one input. -/
def pheapPutsWrong : ChangeSpec := { name := "pheapPuts", fn := fun _ => fun
  | [d1, d2, d3] => { results := [.lit (.bool false)], args := [d1, d2, d3] }
  | _ => none }
def PheapPutsWrongFalsely : Prop := pheapPutsRow.holds Try.pinned (OpenSpec.ofChange pheapPutsWrong)

/-- 'boatswainlaw04.WheelPlays': WHATEVER THE INPUT: true; the input reads as it did. -/
def wheelPlaysSpec : ChangeSpec := { name := "wheelPlays", fn := fun _ => fun
  | [d1, d2, d3] => { results := [.lit (.bool true)], args := [d1, d2, d3] }
  | _ => none }
def wheelPlaysRow : OpenClaim := { program := "ythpbehpeojacmaa", sum := "420eff85f3a159154cf3583921167852338ebbfb477b8c2328974e0f1f00060c", func := "boatswain/boatswainlaw04.WheelPlays", spec := "wheelPlays", recurses := true, apart := false }
def WheelPlaysSaid : Prop := wheelPlaysRow.holds Try.pinned (OpenSpec.ofChange wheelPlaysSpec)

/-- ITS FALSE NEIGHBOUR: 'it returns false'. Refute it at one input. -/
def wheelPlaysWrong : ChangeSpec := { name := "wheelPlays", fn := fun _ => fun
  | [d1, d2, d3] => { results := [.lit (.bool false)], args := [d1, d2, d3] }
  | _ => none }
def WheelPlaysWrongFalsely : Prop := wheelPlaysRow.holds Try.pinned (OpenSpec.ofChange wheelPlaysWrong)

/-- 'boatswainlaw04.WheelOnce': WHATEVER THE INPUT: true; the input reads as it did. -/
def wheelOnceSpec : ChangeSpec := { name := "wheelOnce", fn := fun _ => fun
  | [d1, d2, d3] => { results := [.lit (.bool true)], args := [d1, d2, d3] }
  | _ => none }
def wheelOnceRow : OpenClaim := { program := "ythpbehpeojacmaa", sum := "420eff85f3a159154cf3583921167852338ebbfb477b8c2328974e0f1f00060c", func := "boatswain/boatswainlaw04.WheelOnce", spec := "wheelOnce", inPlace := ["maps.clone"], recurses := true, apart := false }
def WheelOnceSaid : Prop := wheelOnceRow.holds Try.pinned (OpenSpec.ofChange wheelOnceSpec)

/-- ITS FALSE NEIGHBOUR: 'it returns false'. Refute it at one input. -/
def wheelOnceWrong : ChangeSpec := { name := "wheelOnce", fn := fun _ => fun
  | [d1, d2, d3] => { results := [.lit (.bool false)], args := [d1, d2, d3] }
  | _ => none }
def WheelOnceWrongFalsely : Prop := wheelOnceRow.holds Try.pinned (OpenSpec.ofChange wheelOnceWrong)

/-- 'boatswainlaw04.WheelSteps': WHATEVER THE INPUT: true; the input reads as it did. -/
def wheelStepsSpec : ChangeSpec := { name := "wheelSteps", fn := fun _ => fun
  | [d1, d2, d3] => { results := [.lit (.bool true)], args := [d1, d2, d3] }
  | _ => none }
def wheelStepsRow : OpenClaim := { program := "ythpbehpeojacmaa", sum := "420eff85f3a159154cf3583921167852338ebbfb477b8c2328974e0f1f00060c", func := "boatswain/boatswainlaw04.WheelSteps", spec := "wheelSteps", inPlace := ["maps.clone"], recurses := true, apart := false }
def WheelStepsSaid : Prop := wheelStepsRow.holds Try.pinned (OpenSpec.ofChange wheelStepsSpec)

/-- ITS FALSE NEIGHBOUR: 'it returns false'. Refute it at one input. -/
def wheelStepsWrong : ChangeSpec := { name := "wheelSteps", fn := fun _ => fun
  | [d1, d2, d3] => { results := [.lit (.bool false)], args := [d1, d2, d3] }
  | _ => none }
def WheelStepsWrongFalsely : Prop := wheelStepsRow.holds Try.pinned (OpenSpec.ofChange wheelStepsWrong)

/-- 'boatswainlaw04.WheelSets': WHATEVER THE INPUT: true; the input reads as it did. -/
def wheelSetsSpec : ChangeSpec := { name := "wheelSets", fn := fun _ => fun
  | [d1, d2, d3] => { results := [.lit (.bool true)], args := [d1, d2, d3] }
  | _ => none }
def wheelSetsRow : OpenClaim := { program := "ythpbehpeojacmaa", sum := "420eff85f3a159154cf3583921167852338ebbfb477b8c2328974e0f1f00060c", func := "boatswain/boatswainlaw04.WheelSets", spec := "wheelSets", recurses := true, apart := false }
def WheelSetsSaid : Prop := wheelSetsRow.holds Try.pinned (OpenSpec.ofChange wheelSetsSpec)

/-- ITS FALSE NEIGHBOUR: 'it returns false'. Refute it at one input. -/
def wheelSetsWrong : ChangeSpec := { name := "wheelSets", fn := fun _ => fun
  | [d1, d2, d3] => { results := [.lit (.bool false)], args := [d1, d2, d3] }
  | _ => none }
def WheelSetsWrongFalsely : Prop := wheelSetsRow.holds Try.pinned (OpenSpec.ofChange wheelSetsWrong)

/-- 'boatswainlaw04.WheelForks': WHATEVER THE INPUT: true; the input reads as it did. -/
def wheelForksSpec : ChangeSpec := { name := "wheelForks", fn := fun _ => fun
  | [d1, d2] => { results := [.lit (.bool true)], args := [d1, d2] }
  | _ => none }
def wheelForksRow : OpenClaim := { program := "ythpbehpeojacmaa", sum := "420eff85f3a159154cf3583921167852338ebbfb477b8c2328974e0f1f00060c", func := "boatswain/boatswainlaw04.WheelForks", spec := "wheelForks", inPlace := ["maps.clone"], recurses := true, apart := false }
def WheelForksSaid : Prop := wheelForksRow.holds Try.pinned (OpenSpec.ofChange wheelForksSpec)

/-- ITS FALSE NEIGHBOUR: 'it returns false'. Refute it at one input. -/
def wheelForksWrong : ChangeSpec := { name := "wheelForks", fn := fun _ => fun
  | [d1, d2] => { results := [.lit (.bool false)], args := [d1, d2] }
  | _ => none }
def WheelForksWrongFalsely : Prop := wheelForksRow.holds Try.pinned (OpenSpec.ofChange wheelForksWrong)

/- THE SECOND FORM. 'bulk': how many values and letters a reading holds, each counted each time it is reached (what is shared counts as often as it is met; a slice's spare places count too). A statement '..UptoSaid' is the law's where the arguments, and the package variables that the reading takes, are together of bulk at most 1048576: NARROWER than '..Said'. Prove '..Said' where nothing that the law and all that it calls make is longer than what came in: it says more and counts as full. Else prove '..UptoSaid'. A law counts once. -/
mutual
def uptoBulk {H : Type} : DataW H → Nat
  | .lit (.string bytes) => bytes.length + 1
  | .lit _ => 1
  | .nil => 1
  | .ptr d => uptoBulk d + 1
  | .slice elems spare => uptoBulkAll elems + uptoBulkAll spare + 1
  | .agg parts => uptoBulkAll parts + 1
  | .iface _ d => uptoBulk d + 1
  | .map entries => uptoBulkEntries entries + 1
  | .held _ => 1
def uptoBulkAll {H : Type} : List (DataW H) → Nat
  | [] => 0
  | d :: r => uptoBulk d + uptoBulkAll r
def uptoBulkEntries {H : Type} : List (Lit × DataW H) → Nat
  | [] => 0
  | x :: r => uptoBulkEntry x + uptoBulkEntries r
def uptoBulkEntry {H : Type} : Lit × DataW H → Nat
  | (.string bytes, d) => bytes.length + uptoBulk d + 1
  | (_, d) => uptoBulk d + 1
 end
def uptoSmall : (H : Type) → List (DataW H) → Bool := fun _ ds => decide (uptoBulkAll ds ≤ 1048576)
def OpenSpec.upto (s : _root_.Go.ChangeSpec) : _root_.Go.OpenSpec := { _root_.Go.OpenSpec.ofChange s with cond := some uptoSmall }

/-- 'boatswainlaw03.PheapPlays', WHERE WHAT IT READS IS OF BULK AT MOST 1048576: true; the input reads as it did. -/
def pheapPlaysUptoRow : OpenClaim := { program := "ythpbehpeojacmaa", sum := "420eff85f3a159154cf3583921167852338ebbfb477b8c2328974e0f1f00060c", func := "boatswain/boatswainlaw03.PheapPlays", spec := "pheapPlays", apart := false, narrowed := true }
def PheapPlaysUptoSaid : Prop := pheapPlaysUptoRow.holds Try.pinned (OpenSpec.upto pheapPlaysSpec)

/-- 'boatswainlaw03.PheapRises', WHERE WHAT IT READS IS OF BULK AT MOST 1048576: true; the input reads as it did. -/
def pheapRisesUptoRow : OpenClaim := { program := "ythpbehpeojacmaa", sum := "420eff85f3a159154cf3583921167852338ebbfb477b8c2328974e0f1f00060c", func := "boatswain/boatswainlaw03.PheapRises", spec := "pheapRises", apart := false, narrowed := true }
def PheapRisesUptoSaid : Prop := pheapRisesUptoRow.holds Try.pinned (OpenSpec.upto pheapRisesSpec)

/-- 'boatswainlaw03.PheapChanges', WHERE WHAT IT READS IS OF BULK AT MOST 1048576: true; the input reads as it did. -/
def pheapChangesUptoRow : OpenClaim := { program := "ythpbehpeojacmaa", sum := "420eff85f3a159154cf3583921167852338ebbfb477b8c2328974e0f1f00060c", func := "boatswain/boatswainlaw03.PheapChanges", spec := "pheapChanges", apart := false, narrowed := true }
def PheapChangesUptoSaid : Prop := pheapChangesUptoRow.holds Try.pinned (OpenSpec.upto pheapChangesSpec)

/-- 'boatswainlaw03.PheapDeletes', WHERE WHAT IT READS IS OF BULK AT MOST 1048576: true; the input reads as it did. -/
def pheapDeletesUptoRow : OpenClaim := { program := "ythpbehpeojacmaa", sum := "420eff85f3a159154cf3583921167852338ebbfb477b8c2328974e0f1f00060c", func := "boatswain/boatswainlaw03.PheapDeletes", spec := "pheapDeletes", apart := false, narrowed := true }
def PheapDeletesUptoSaid : Prop := pheapDeletesUptoRow.holds Try.pinned (OpenSpec.upto pheapDeletesSpec)

/-- 'boatswainlaw03.PheapForks', WHERE WHAT IT READS IS OF BULK AT MOST 1048576: true; the input reads as it did. -/
def pheapForksUptoRow : OpenClaim := { program := "ythpbehpeojacmaa", sum := "420eff85f3a159154cf3583921167852338ebbfb477b8c2328974e0f1f00060c", func := "boatswain/boatswainlaw03.PheapForks", spec := "pheapForks", apart := false, narrowed := true }
def PheapForksUptoSaid : Prop := pheapForksUptoRow.holds Try.pinned (OpenSpec.upto pheapForksSpec)

/-- 'boatswainlaw03.PheapNone', WHERE WHAT IT READS IS OF BULK AT MOST 1048576: true; the input reads as it did. -/
def pheapNoneUptoRow : OpenClaim := { program := "ythpbehpeojacmaa", sum := "420eff85f3a159154cf3583921167852338ebbfb477b8c2328974e0f1f00060c", func := "boatswain/boatswainlaw03.PheapNone", spec := "pheapNone", apart := false, narrowed := true }
def PheapNoneUptoSaid : Prop := pheapNoneUptoRow.holds Try.pinned (OpenSpec.upto pheapNoneSpec)

/-- 'boatswainlaw03.PheapPuts', WHERE WHAT IT READS IS OF BULK AT MOST 1048576: true; the input reads as it did. -/
def pheapPutsUptoRow : OpenClaim := { program := "ythpbehpeojacmaa", sum := "420eff85f3a159154cf3583921167852338ebbfb477b8c2328974e0f1f00060c", func := "boatswain/boatswainlaw03.PheapPuts", spec := "pheapPuts", apart := false, narrowed := true }
def PheapPutsUptoSaid : Prop := pheapPutsUptoRow.holds Try.pinned (OpenSpec.upto pheapPutsSpec)

/-- 'boatswainlaw04.WheelPlays', WHERE WHAT IT READS IS OF BULK AT MOST 1048576: true; the input reads as it did. -/
def wheelPlaysUptoRow : OpenClaim := { program := "ythpbehpeojacmaa", sum := "420eff85f3a159154cf3583921167852338ebbfb477b8c2328974e0f1f00060c", func := "boatswain/boatswainlaw04.WheelPlays", spec := "wheelPlays", recurses := true, apart := false, narrowed := true }
def WheelPlaysUptoSaid : Prop := wheelPlaysUptoRow.holds Try.pinned (OpenSpec.upto wheelPlaysSpec)

/-- 'boatswainlaw04.WheelOnce', WHERE WHAT IT READS IS OF BULK AT MOST 1048576: true; the input reads as it did. -/
def wheelOnceUptoRow : OpenClaim := { program := "ythpbehpeojacmaa", sum := "420eff85f3a159154cf3583921167852338ebbfb477b8c2328974e0f1f00060c", func := "boatswain/boatswainlaw04.WheelOnce", spec := "wheelOnce", inPlace := ["maps.clone"], recurses := true, apart := false, narrowed := true }
def WheelOnceUptoSaid : Prop := wheelOnceUptoRow.holds Try.pinned (OpenSpec.upto wheelOnceSpec)

/-- 'boatswainlaw04.WheelSteps', WHERE WHAT IT READS IS OF BULK AT MOST 1048576: true; the input reads as it did. -/
def wheelStepsUptoRow : OpenClaim := { program := "ythpbehpeojacmaa", sum := "420eff85f3a159154cf3583921167852338ebbfb477b8c2328974e0f1f00060c", func := "boatswain/boatswainlaw04.WheelSteps", spec := "wheelSteps", inPlace := ["maps.clone"], recurses := true, apart := false, narrowed := true }
def WheelStepsUptoSaid : Prop := wheelStepsUptoRow.holds Try.pinned (OpenSpec.upto wheelStepsSpec)

/-- 'boatswainlaw04.WheelSets', WHERE WHAT IT READS IS OF BULK AT MOST 1048576: true; the input reads as it did. -/
def wheelSetsUptoRow : OpenClaim := { program := "ythpbehpeojacmaa", sum := "420eff85f3a159154cf3583921167852338ebbfb477b8c2328974e0f1f00060c", func := "boatswain/boatswainlaw04.WheelSets", spec := "wheelSets", recurses := true, apart := false, narrowed := true }
def WheelSetsUptoSaid : Prop := wheelSetsUptoRow.holds Try.pinned (OpenSpec.upto wheelSetsSpec)

/-- 'boatswainlaw04.WheelForks', WHERE WHAT IT READS IS OF BULK AT MOST 1048576: true; the input reads as it did. -/
def wheelForksUptoRow : OpenClaim := { program := "ythpbehpeojacmaa", sum := "420eff85f3a159154cf3583921167852338ebbfb477b8c2328974e0f1f00060c", func := "boatswain/boatswainlaw04.WheelForks", spec := "wheelForks", inPlace := ["maps.clone"], recurses := true, apart := false, narrowed := true }
def WheelForksUptoSaid : Prop := wheelForksUptoRow.holds Try.pinned (OpenSpec.upto wheelForksSpec)

end Rows
end Go.Proofs.Ythpbehpeojacmaa
