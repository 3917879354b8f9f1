/-
  No cell of these rows narrows 'for every input' (looked for: loops, veiled, ifaces, maps, wideKeys, modest, calm, conditions, laid).
  DERIVED. THE GIVEN ROWS OF THIS SEAT. 8 by the template 'for every input the law returns true; each argument reads behind the call as it read before'; 0 by the template 'total and deterministic' (their statements: YtiledmfnhahmiaaTotals.lean).
  GIVEN WITH THE SEED: the statements are not yours to turn. If you find one false, say at which input.
  Laid BY PROGRAM, IN A SANDBOX (cutbox-rows.mjs): the forced cells as the released guide's own fill.sh prints them over the translation e8f03d796ea660b3… (all of the seat's roots in one cut). By AI agents, Wed Nov 11 2026. No macro, syntax, notation, axiom, sorry.
-/
import Derived.Test.YtiledmfnhahmiaaChecked
import GoSem.Claim
import GoSem.ClaimJoined
import GoSem.ClaimMapViews
import Derived.JoinedTies
import Derived.KernelRfl
namespace Go.Proofs.Ytiledmfnhahmiaa
/- THE CELL 'sum', in the pinned program and in every row, IS THE sha256 OF THE DUMP (.gsa) THAT YtiledmfnhahmiaaProg.lean LOADS. Nothing in Lean hashes anything: it is a label: what it is worth is what the hold of that sum in a sandbox is worth. -/
noncomputable def Try.pinned : Pinned := { name := "ytiledmfnhahmiaa", sum := "e8f03d796ea660b337fdf20313a8dc7975c97ebd49916755bb7842660f1adba6", checked := Try.checked }
namespace Rows
def none {H : Type} : Left H := { results := [], args := [] }

/-- 'boatswainlaw03.PheapPlays': WHATEVER THE INPUT: true; the input reads as it did. -/
def pheapPlaysSpec : ChangeSpec := { name := "pheapPlays", fn := fun _ => fun
  | [d1, d2, d3] => { results := [.lit (.bool true)], args := [d1, d2, d3] }
  | _ => none }
def pheapPlaysRow : OpenClaim := { program := "ytiledmfnhahmiaa", sum := "e8f03d796ea660b337fdf20313a8dc7975c97ebd49916755bb7842660f1adba6", func := "boatswain/boatswainlaw03.PheapPlays", spec := "pheapPlays", apart := false }
def PheapPlaysSaid : Prop := pheapPlaysRow.holds Try.pinned (OpenSpec.ofChange pheapPlaysSpec)

/-- ITS FALSE NEIGHBOUR: 'it returns false'. Refute it at one input. -/
def pheapPlaysWrong : ChangeSpec := { name := "pheapPlays", fn := fun _ => fun
  | [d1, d2, d3] => { results := [.lit (.bool false)], args := [d1, d2, d3] }
  | _ => none }
def PheapPlaysWrongFalsely : Prop := pheapPlaysRow.holds Try.pinned (OpenSpec.ofChange pheapPlaysWrong)

/-- 'boatswainlaw03.PheapRises': WHATEVER THE INPUT: true; the input reads as it did. -/
def pheapRisesSpec : ChangeSpec := { name := "pheapRises", fn := fun _ => fun
  | [d1, d2] => { results := [.lit (.bool true)], args := [d1, d2] }
  | _ => none }
def pheapRisesRow : OpenClaim := { program := "ytiledmfnhahmiaa", sum := "e8f03d796ea660b337fdf20313a8dc7975c97ebd49916755bb7842660f1adba6", func := "boatswain/boatswainlaw03.PheapRises", spec := "pheapRises", apart := false }
def PheapRisesSaid : Prop := pheapRisesRow.holds Try.pinned (OpenSpec.ofChange pheapRisesSpec)

/-- ITS FALSE NEIGHBOUR: 'it returns false'. Refute it at one input. -/
def pheapRisesWrong : ChangeSpec := { name := "pheapRises", fn := fun _ => fun
  | [d1, d2] => { results := [.lit (.bool false)], args := [d1, d2] }
  | _ => none }
def PheapRisesWrongFalsely : Prop := pheapRisesRow.holds Try.pinned (OpenSpec.ofChange pheapRisesWrong)

/-- 'boatswainlaw03.PheapChanges': WHATEVER THE INPUT: true; the input reads as it did. -/
def pheapChangesSpec : ChangeSpec := { name := "pheapChanges", fn := fun _ => fun
  | [d1, d2, d3] => { results := [.lit (.bool true)], args := [d1, d2, d3] }
  | _ => none }
def pheapChangesRow : OpenClaim := { program := "ytiledmfnhahmiaa", sum := "e8f03d796ea660b337fdf20313a8dc7975c97ebd49916755bb7842660f1adba6", func := "boatswain/boatswainlaw03.PheapChanges", spec := "pheapChanges", apart := false }
def PheapChangesSaid : Prop := pheapChangesRow.holds Try.pinned (OpenSpec.ofChange pheapChangesSpec)

/-- ITS FALSE NEIGHBOUR: 'it returns false'. Refute it at one input. -/
def pheapChangesWrong : ChangeSpec := { name := "pheapChanges", fn := fun _ => fun
  | [d1, d2, d3] => { results := [.lit (.bool false)], args := [d1, d2, d3] }
  | _ => none }
def PheapChangesWrongFalsely : Prop := pheapChangesRow.holds Try.pinned (OpenSpec.ofChange pheapChangesWrong)

/-- 'boatswainlaw03.PheapDeletes': WHATEVER THE INPUT: true; the input reads as it did. -/
def pheapDeletesSpec : ChangeSpec := { name := "pheapDeletes", fn := fun _ => fun
  | [d1, d2, d3] => { results := [.lit (.bool true)], args := [d1, d2, d3] }
  | _ => none }
def pheapDeletesRow : OpenClaim := { program := "ytiledmfnhahmiaa", sum := "e8f03d796ea660b337fdf20313a8dc7975c97ebd49916755bb7842660f1adba6", func := "boatswain/boatswainlaw03.PheapDeletes", spec := "pheapDeletes", apart := false }
def PheapDeletesSaid : Prop := pheapDeletesRow.holds Try.pinned (OpenSpec.ofChange pheapDeletesSpec)

/-- ITS FALSE NEIGHBOUR: 'it returns false'. Refute it at one input. -/
def pheapDeletesWrong : ChangeSpec := { name := "pheapDeletes", fn := fun _ => fun
  | [d1, d2, d3] => { results := [.lit (.bool false)], args := [d1, d2, d3] }
  | _ => none }
def PheapDeletesWrongFalsely : Prop := pheapDeletesRow.holds Try.pinned (OpenSpec.ofChange pheapDeletesWrong)

/-- 'boatswainlaw03.PheapForks': WHATEVER THE INPUT: true; the input reads as it did. -/
def pheapForksSpec : ChangeSpec := { name := "pheapForks", fn := fun _ => fun
  | [d1, d2] => { results := [.lit (.bool true)], args := [d1, d2] }
  | _ => none }
def pheapForksRow : OpenClaim := { program := "ytiledmfnhahmiaa", sum := "e8f03d796ea660b337fdf20313a8dc7975c97ebd49916755bb7842660f1adba6", func := "boatswain/boatswainlaw03.PheapForks", spec := "pheapForks", apart := false }
def PheapForksSaid : Prop := pheapForksRow.holds Try.pinned (OpenSpec.ofChange pheapForksSpec)

/-- ITS FALSE NEIGHBOUR: 'it returns false'. Refute it at one input. -/
def pheapForksWrong : ChangeSpec := { name := "pheapForks", fn := fun _ => fun
  | [d1, d2] => { results := [.lit (.bool false)], args := [d1, d2] }
  | _ => none }
def PheapForksWrongFalsely : Prop := pheapForksRow.holds Try.pinned (OpenSpec.ofChange pheapForksWrong)

/-- 'boatswainlaw03.PheapNone': WHATEVER THE INPUT: true; the input reads as it did. -/
def pheapNoneSpec : ChangeSpec := { name := "pheapNone", fn := fun _ => fun
  | [d1, d2] => { results := [.lit (.bool true)], args := [d1, d2] }
  | _ => none }
def pheapNoneRow : OpenClaim := { program := "ytiledmfnhahmiaa", sum := "e8f03d796ea660b337fdf20313a8dc7975c97ebd49916755bb7842660f1adba6", func := "boatswain/boatswainlaw03.PheapNone", spec := "pheapNone", apart := false }
def PheapNoneSaid : Prop := pheapNoneRow.holds Try.pinned (OpenSpec.ofChange pheapNoneSpec)

/-- ITS FALSE NEIGHBOUR: 'it returns false'. Refute it at one input. -/
def pheapNoneWrong : ChangeSpec := { name := "pheapNone", fn := fun _ => fun
  | [d1, d2] => { results := [.lit (.bool false)], args := [d1, d2] }
  | _ => none }
def PheapNoneWrongFalsely : Prop := pheapNoneRow.holds Try.pinned (OpenSpec.ofChange pheapNoneWrong)

/-- 'boatswainlaw03.PheapPuts': WHATEVER THE INPUT: true; the input reads as it did. -/
def pheapPutsSpec : ChangeSpec := { name := "pheapPuts", fn := fun _ => fun
  | [d1, d2, d3] => { results := [.lit (.bool true)], args := [d1, d2, d3] }
  | _ => none }
def pheapPutsRow : OpenClaim := { program := "ytiledmfnhahmiaa", sum := "e8f03d796ea660b337fdf20313a8dc7975c97ebd49916755bb7842660f1adba6", func := "boatswain/boatswainlaw03.PheapPuts", spec := "pheapPuts", apart := false }
def PheapPutsSaid : Prop := pheapPutsRow.holds Try.pinned (OpenSpec.ofChange pheapPutsSpec)

/-- ITS FALSE NEIGHBOUR: 'it returns false'. Refute it at one input. -/
def pheapPutsWrong : ChangeSpec := { name := "pheapPuts", fn := fun _ => fun
  | [d1, d2, d3] => { results := [.lit (.bool false)], args := [d1, d2, d3] }
  | _ => none }
def PheapPutsWrongFalsely : Prop := pheapPutsRow.holds Try.pinned (OpenSpec.ofChange pheapPutsWrong)

/-- 'boatswaintop.TopSorts': WHATEVER THE INPUT: true; the input reads as it did. -/
def topSortsSpec : ChangeSpec := { name := "topSorts", fn := fun _ => fun
  | [d] => { results := [.lit (.bool true)], args := [d] }
  | _ => none }
def topSortsRow : OpenClaim := { program := "ytiledmfnhahmiaa", sum := "e8f03d796ea660b337fdf20313a8dc7975c97ebd49916755bb7842660f1adba6", func := "boatswain/boatswaintop.TopSorts", spec := "topSorts", apart := false }
def TopSortsSaid : Prop := topSortsRow.holds Try.pinned (OpenSpec.ofChange topSortsSpec)

/-- ITS FALSE NEIGHBOUR: 'it returns false'. Refute it at one input. -/
def topSortsWrong : ChangeSpec := { name := "topSorts", fn := fun _ => fun
  | [d] => { results := [.lit (.bool false)], args := [d] }
  | _ => none }
def TopSortsWrongFalsely : Prop := topSortsRow.holds Try.pinned (OpenSpec.ofChange topSortsWrong)

/- THE SECOND FORM. 'bulk': how many values and letters a reading holds, each counted each time it is reached (what is shared counts as often as it is met; a slice's spare places count too). A statement '..UptoSaid' is the law's where the arguments, and the package variables that the reading takes, are together of bulk at most 1048576: NARROWER than '..Said'. Prove '..Said' where nothing that the law and all that it calls make is longer than what came in: it says more and counts as full. Else prove '..UptoSaid'. A law counts once. -/
mutual
def uptoBulk {H : Type} : DataW H → Nat
  | .lit (.string bytes) => bytes.length + 1
  | .lit _ => 1
  | .nil => 1
  | .ptr d => uptoBulk d + 1
  | .slice elems spare => uptoBulkAll elems + uptoBulkAll spare + 1
  | .agg parts => uptoBulkAll parts + 1
  | .iface _ d => uptoBulk d + 1
  | .map entries => uptoBulkEntries entries + 1
  | .held _ => 1
def uptoBulkAll {H : Type} : List (DataW H) → Nat
  | [] => 0
  | d :: r => uptoBulk d + uptoBulkAll r
def uptoBulkEntries {H : Type} : List (Lit × DataW H) → Nat
  | [] => 0
  | x :: r => uptoBulkEntry x + uptoBulkEntries r
def uptoBulkEntry {H : Type} : Lit × DataW H → Nat
  | (.string bytes, d) => bytes.length + uptoBulk d + 1
  | (_, d) => uptoBulk d + 1
 end
def uptoSmall : (H : Type) → List (DataW H) → Bool := fun _ ds => decide (uptoBulkAll ds ≤ 1048576)
def OpenSpec.upto (s : _root_.Go.ChangeSpec) : _root_.Go.OpenSpec := { _root_.Go.OpenSpec.ofChange s with cond := some uptoSmall }

/-- 'boatswainlaw03.PheapPlays', WHERE WHAT IT READS IS OF BULK AT MOST 1048576: true; the input reads as it did. -/
def pheapPlaysUptoRow : OpenClaim := { program := "ytiledmfnhahmiaa", sum := "e8f03d796ea660b337fdf20313a8dc7975c97ebd49916755bb7842660f1adba6", func := "boatswain/boatswainlaw03.PheapPlays", spec := "pheapPlays", apart := false, narrowed := true }
def PheapPlaysUptoSaid : Prop := pheapPlaysUptoRow.holds Try.pinned (OpenSpec.upto pheapPlaysSpec)

/-- 'boatswainlaw03.PheapRises', WHERE WHAT IT READS IS OF BULK AT MOST 1048576: true; the input reads as it did. -/
def pheapRisesUptoRow : OpenClaim := { program := "ytiledmfnhahmiaa", sum := "e8f03d796ea660b337fdf20313a8dc7975c97ebd49916755bb7842660f1adba6", func := "boatswain/boatswainlaw03.PheapRises", spec := "pheapRises", apart := false, narrowed := true }
def PheapRisesUptoSaid : Prop := pheapRisesUptoRow.holds Try.pinned (OpenSpec.upto pheapRisesSpec)

/-- 'boatswainlaw03.PheapChanges', WHERE WHAT IT READS IS OF BULK AT MOST 1048576: true; the input reads as it did. -/
def pheapChangesUptoRow : OpenClaim := { program := "ytiledmfnhahmiaa", sum := "e8f03d796ea660b337fdf20313a8dc7975c97ebd49916755bb7842660f1adba6", func := "boatswain/boatswainlaw03.PheapChanges", spec := "pheapChanges", apart := false, narrowed := true }
def PheapChangesUptoSaid : Prop := pheapChangesUptoRow.holds Try.pinned (OpenSpec.upto pheapChangesSpec)

/-- 'boatswainlaw03.PheapDeletes', WHERE WHAT IT READS IS OF BULK AT MOST 1048576: true; the input reads as it did. -/
def pheapDeletesUptoRow : OpenClaim := { program := "ytiledmfnhahmiaa", sum := "e8f03d796ea660b337fdf20313a8dc7975c97ebd49916755bb7842660f1adba6", func := "boatswain/boatswainlaw03.PheapDeletes", spec := "pheapDeletes", apart := false, narrowed := true }
def PheapDeletesUptoSaid : Prop := pheapDeletesUptoRow.holds Try.pinned (OpenSpec.upto pheapDeletesSpec)

/-- 'boatswainlaw03.PheapForks', WHERE WHAT IT READS IS OF BULK AT MOST 1048576: true; the input reads as it did. -/
def pheapForksUptoRow : OpenClaim := { program := "ytiledmfnhahmiaa", sum := "e8f03d796ea660b337fdf20313a8dc7975c97ebd49916755bb7842660f1adba6", func := "boatswain/boatswainlaw03.PheapForks", spec := "pheapForks", apart := false, narrowed := true }
def PheapForksUptoSaid : Prop := pheapForksUptoRow.holds Try.pinned (OpenSpec.upto pheapForksSpec)

/-- 'boatswainlaw03.PheapNone', WHERE WHAT IT READS IS OF BULK AT MOST 1048576: true; the input reads as it did. -/
def pheapNoneUptoRow : OpenClaim := { program := "ytiledmfnhahmiaa", sum := "e8f03d796ea660b337fdf20313a8dc7975c97ebd49916755bb7842660f1adba6", func := "boatswain/boatswainlaw03.PheapNone", spec := "pheapNone", apart := false, narrowed := true }
def PheapNoneUptoSaid : Prop := pheapNoneUptoRow.holds Try.pinned (OpenSpec.upto pheapNoneSpec)

/-- 'boatswainlaw03.PheapPuts', WHERE WHAT IT READS IS OF BULK AT MOST 1048576: true; the input reads as it did. -/
def pheapPutsUptoRow : OpenClaim := { program := "ytiledmfnhahmiaa", sum := "e8f03d796ea660b337fdf20313a8dc7975c97ebd49916755bb7842660f1adba6", func := "boatswain/boatswainlaw03.PheapPuts", spec := "pheapPuts", apart := false, narrowed := true }
def PheapPutsUptoSaid : Prop := pheapPutsUptoRow.holds Try.pinned (OpenSpec.upto pheapPutsSpec)

/-- 'boatswaintop.TopSorts', WHERE WHAT IT READS IS OF BULK AT MOST 1048576: true; the input reads as it did. -/
def topSortsUptoRow : OpenClaim := { program := "ytiledmfnhahmiaa", sum := "e8f03d796ea660b337fdf20313a8dc7975c97ebd49916755bb7842660f1adba6", func := "boatswain/boatswaintop.TopSorts", spec := "topSorts", apart := false, narrowed := true }
def TopSortsUptoSaid : Prop := topSortsUptoRow.holds Try.pinned (OpenSpec.upto topSortsSpec)

end Rows
end Go.Proofs.Ytiledmfnhahmiaa
