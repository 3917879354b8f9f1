/-
  No cell of these rows narrows 'for every input' (looked for: loops, veiled, ifaces, maps, wideKeys, modest, calm, conditions, laid).
  DERIVED. THE GIVEN ROWS OF THIS SEAT. 8 by the template 'for every input the law returns true; each argument reads behind the call as it read before'; 0 by the template 'total and deterministic' (their statements: YtfadckkebfgheaaTotals.lean).
  GIVEN WITH THE SEED: the statements are not yours to turn. If you find one false, say at which input.
  Laid BY PROGRAM, IN A SANDBOX (cutbox-rows.mjs): the forced cells as the released guide's own fill.sh prints them over the translation eb397df3c67cf0a8… (all of the seat's roots in one cut). By AI agents, Wed Nov 11 2026. No macro, syntax, notation, axiom, sorry.
-/
import Derived.Test.YtfadckkebfgheaaChecked
import GoSem.Claim
import GoSem.ClaimJoined
import GoSem.ClaimMapViews
import Derived.JoinedTies
import Derived.KernelRfl
namespace Go.Proofs.Ytfadckkebfgheaa
/- THE CELL 'sum', in the pinned program and in every row, IS THE sha256 OF THE DUMP (.gsa) THAT YtfadckkebfgheaaProg.lean LOADS. Nothing in Lean hashes anything: it is a label: what it is worth is what the hold of that sum in a sandbox is worth. -/
noncomputable def Try.pinned : Pinned := { name := "ytfadckkebfgheaa", sum := "eb397df3c67cf0a8a88940379314b0b0c7656d25ef8210ce9d26fe5864d8ba80", checked := Try.checked }
namespace Rows
def none {H : Type} : Left H := { results := [], args := [] }

/-- 'boatswainlaw10.ReadyPlays': WHATEVER THE INPUT: true; the input reads as it did. -/
def readyPlaysSpec : ChangeSpec := { name := "readyPlays", fn := fun _ => fun
  | [d1, d2, d3] => { results := [.lit (.bool true)], args := [d1, d2, d3] }
  | _ => none }
def readyPlaysRow : OpenClaim := { program := "ytfadckkebfgheaa", sum := "eb397df3c67cf0a8a88940379314b0b0c7656d25ef8210ce9d26fe5864d8ba80", func := "boatswain/boatswainlaw10.ReadyPlays", spec := "readyPlays", unfollowed := true, recurses := true, apart := false }
def ReadyPlaysSaid : Prop := readyPlaysRow.holds Try.pinned (OpenSpec.ofChange readyPlaysSpec)

/-- ITS FALSE NEIGHBOUR: 'it returns false'. Refute it at one input. -/
def readyPlaysWrong : ChangeSpec := { name := "readyPlays", fn := fun _ => fun
  | [d1, d2, d3] => { results := [.lit (.bool false)], args := [d1, d2, d3] }
  | _ => none }
def ReadyPlaysWrongFalsely : Prop := readyPlaysRow.holds Try.pinned (OpenSpec.ofChange readyPlaysWrong)

/-- 'boatswainlaw10.ReadyFalls': WHATEVER THE INPUT: true; the input reads as it did. -/
def readyFallsSpec : ChangeSpec := { name := "readyFalls", fn := fun _ => fun
  | [d1, d2] => { results := [.lit (.bool true)], args := [d1, d2] }
  | _ => none }
def readyFallsRow : OpenClaim := { program := "ytfadckkebfgheaa", sum := "eb397df3c67cf0a8a88940379314b0b0c7656d25ef8210ce9d26fe5864d8ba80", func := "boatswain/boatswainlaw10.ReadyFalls", spec := "readyFalls", unfollowed := true, recurses := true, apart := false }
def ReadyFallsSaid : Prop := readyFallsRow.holds Try.pinned (OpenSpec.ofChange readyFallsSpec)

/-- ITS FALSE NEIGHBOUR: 'it returns false'. Refute it at one input. -/
def readyFallsWrong : ChangeSpec := { name := "readyFalls", fn := fun _ => fun
  | [d1, d2] => { results := [.lit (.bool false)], args := [d1, d2] }
  | _ => none }
def ReadyFallsWrongFalsely : Prop := readyFallsRow.holds Try.pinned (OpenSpec.ofChange readyFallsWrong)

/-- 'boatswainlaw10.ReadyChanges': WHATEVER THE INPUT: true; the input reads as it did. -/
def readyChangesSpec : ChangeSpec := { name := "readyChanges", fn := fun _ => fun
  | [d1, d2, d3] => { results := [.lit (.bool true)], args := [d1, d2, d3] }
  | _ => none }
def readyChangesRow : OpenClaim := { program := "ytfadckkebfgheaa", sum := "eb397df3c67cf0a8a88940379314b0b0c7656d25ef8210ce9d26fe5864d8ba80", func := "boatswain/boatswainlaw10.ReadyChanges", spec := "readyChanges", unfollowed := true, recurses := true, apart := false }
def ReadyChangesSaid : Prop := readyChangesRow.holds Try.pinned (OpenSpec.ofChange readyChangesSpec)

/-- ITS FALSE NEIGHBOUR: 'it returns false'. Refute it at one input. -/
def readyChangesWrong : ChangeSpec := { name := "readyChanges", fn := fun _ => fun
  | [d1, d2, d3] => { results := [.lit (.bool false)], args := [d1, d2, d3] }
  | _ => none }
def ReadyChangesWrongFalsely : Prop := readyChangesRow.holds Try.pinned (OpenSpec.ofChange readyChangesWrong)

/-- 'boatswainlaw10.ReadyFull': WHATEVER THE INPUT: true; the input reads as it did. -/
def readyFullSpec : ChangeSpec := { name := "readyFull", fn := fun _ => fun
  | [d1, d2, d3] => { results := [.lit (.bool true)], args := [d1, d2, d3] }
  | _ => none }
def readyFullRow : OpenClaim := { program := "ytfadckkebfgheaa", sum := "eb397df3c67cf0a8a88940379314b0b0c7656d25ef8210ce9d26fe5864d8ba80", func := "boatswain/boatswainlaw10.ReadyFull", spec := "readyFull", unfollowed := true, recurses := true, apart := false }
def ReadyFullSaid : Prop := readyFullRow.holds Try.pinned (OpenSpec.ofChange readyFullSpec)

/-- ITS FALSE NEIGHBOUR: 'it returns false'. Refute it at one input. -/
def readyFullWrong : ChangeSpec := { name := "readyFull", fn := fun _ => fun
  | [d1, d2, d3] => { results := [.lit (.bool false)], args := [d1, d2, d3] }
  | _ => none }
def ReadyFullWrongFalsely : Prop := readyFullRow.holds Try.pinned (OpenSpec.ofChange readyFullWrong)

/-- 'boatswainlaw10.ReadyForks': WHATEVER THE INPUT: true; the input reads as it did. -/
def readyForksSpec : ChangeSpec := { name := "readyForks", fn := fun _ => fun
  | [d1, d2] => { results := [.lit (.bool true)], args := [d1, d2] }
  | _ => none }
def readyForksRow : OpenClaim := { program := "ytfadckkebfgheaa", sum := "eb397df3c67cf0a8a88940379314b0b0c7656d25ef8210ce9d26fe5864d8ba80", func := "boatswain/boatswainlaw10.ReadyForks", spec := "readyForks", unfollowed := true, recurses := true, apart := false }
def ReadyForksSaid : Prop := readyForksRow.holds Try.pinned (OpenSpec.ofChange readyForksSpec)

/-- ITS FALSE NEIGHBOUR: 'it returns false'. Refute it at one input. -/
def readyForksWrong : ChangeSpec := { name := "readyForks", fn := fun _ => fun
  | [d1, d2] => { results := [.lit (.bool false)], args := [d1, d2] }
  | _ => none }
def ReadyForksWrongFalsely : Prop := readyForksRow.holds Try.pinned (OpenSpec.ofChange readyForksWrong)

/-- 'boatswainlaw10.ReadyNone': WHATEVER THE INPUT: true; the input reads as it did. -/
def readyNoneSpec : ChangeSpec := { name := "readyNone", fn := fun _ => fun
  | [d1, d2, d3] => { results := [.lit (.bool true)], args := [d1, d2, d3] }
  | _ => none }
def readyNoneRow : OpenClaim := { program := "ytfadckkebfgheaa", sum := "eb397df3c67cf0a8a88940379314b0b0c7656d25ef8210ce9d26fe5864d8ba80", func := "boatswain/boatswainlaw10.ReadyNone", spec := "readyNone", unfollowed := true, recurses := true, apart := false }
def ReadyNoneSaid : Prop := readyNoneRow.holds Try.pinned (OpenSpec.ofChange readyNoneSpec)

/-- ITS FALSE NEIGHBOUR: 'it returns false'. Refute it at one input. -/
def readyNoneWrong : ChangeSpec := { name := "readyNone", fn := fun _ => fun
  | [d1, d2, d3] => { results := [.lit (.bool false)], args := [d1, d2, d3] }
  | _ => none }
def ReadyNoneWrongFalsely : Prop := readyNoneRow.holds Try.pinned (OpenSpec.ofChange readyNoneWrong)

/-- 'boatswainlaw10.ReadyPuts': WHATEVER THE INPUT: true; the input reads as it did. -/
def readyPutsSpec : ChangeSpec := { name := "readyPuts", fn := fun _ => fun
  | [d1, d2, d3] => { results := [.lit (.bool true)], args := [d1, d2, d3] }
  | _ => none }
def readyPutsRow : OpenClaim := { program := "ytfadckkebfgheaa", sum := "eb397df3c67cf0a8a88940379314b0b0c7656d25ef8210ce9d26fe5864d8ba80", func := "boatswain/boatswainlaw10.ReadyPuts", spec := "readyPuts", unfollowed := true, recurses := true, apart := false }
def ReadyPutsSaid : Prop := readyPutsRow.holds Try.pinned (OpenSpec.ofChange readyPutsSpec)

/-- ITS FALSE NEIGHBOUR: 'it returns false'. Refute it at one input. -/
def readyPutsWrong : ChangeSpec := { name := "readyPuts", fn := fun _ => fun
  | [d1, d2, d3] => { results := [.lit (.bool false)], args := [d1, d2, d3] }
  | _ => none }
def ReadyPutsWrongFalsely : Prop := readyPutsRow.holds Try.pinned (OpenSpec.ofChange readyPutsWrong)

/-- 'boatswaintop.TopTakes': WHATEVER THE INPUT: true; the input reads as it did. -/
def topTakesSpec : ChangeSpec := { name := "topTakes", fn := fun _ => fun
  | [d] => { results := [.lit (.bool true)], args := [d] }
  | _ => none }
def topTakesRow : OpenClaim := { program := "ytfadckkebfgheaa", sum := "eb397df3c67cf0a8a88940379314b0b0c7656d25ef8210ce9d26fe5864d8ba80", func := "boatswain/boatswaintop.TopTakes", spec := "topTakes", apart := false }
def TopTakesSaid : Prop := topTakesRow.holds Try.pinned (OpenSpec.ofChange topTakesSpec)

/-- ITS FALSE NEIGHBOUR: 'it returns false'. Refute it at one input. -/
def topTakesWrong : ChangeSpec := { name := "topTakes", fn := fun _ => fun
  | [d] => { results := [.lit (.bool false)], args := [d] }
  | _ => none }
def TopTakesWrongFalsely : Prop := topTakesRow.holds Try.pinned (OpenSpec.ofChange topTakesWrong)

/- THE SECOND FORM. 'bulk': how many values and letters a reading holds, each counted each time it is reached (what is shared counts as often as it is met; a slice's spare places count too). A statement '..UptoSaid' is the law's where the arguments, and the package variables that the reading takes, are together of bulk at most 1048576: NARROWER than '..Said'. Prove '..Said' where nothing that the law and all that it calls make is longer than what came in: it says more and counts as full. Else prove '..UptoSaid'. A law counts once. -/
mutual
def uptoBulk {H : Type} : DataW H → Nat
  | .lit (.string bytes) => bytes.length + 1
  | .lit _ => 1
  | .nil => 1
  | .ptr d => uptoBulk d + 1
  | .slice elems spare => uptoBulkAll elems + uptoBulkAll spare + 1
  | .agg parts => uptoBulkAll parts + 1
  | .iface _ d => uptoBulk d + 1
  | .map entries => uptoBulkEntries entries + 1
  | .held _ => 1
def uptoBulkAll {H : Type} : List (DataW H) → Nat
  | [] => 0
  | d :: r => uptoBulk d + uptoBulkAll r
def uptoBulkEntries {H : Type} : List (Lit × DataW H) → Nat
  | [] => 0
  | x :: r => uptoBulkEntry x + uptoBulkEntries r
def uptoBulkEntry {H : Type} : Lit × DataW H → Nat
  | (.string bytes, d) => bytes.length + uptoBulk d + 1
  | (_, d) => uptoBulk d + 1
 end
def uptoSmall : (H : Type) → List (DataW H) → Bool := fun _ ds => decide (uptoBulkAll ds ≤ 1048576)
def OpenSpec.upto (s : _root_.Go.ChangeSpec) : _root_.Go.OpenSpec := { _root_.Go.OpenSpec.ofChange s with cond := some uptoSmall }

/-- 'boatswainlaw10.ReadyPlays', WHERE WHAT IT READS IS OF BULK AT MOST 1048576: true; the input reads as it did. -/
def readyPlaysUptoRow : OpenClaim := { program := "ytfadckkebfgheaa", sum := "eb397df3c67cf0a8a88940379314b0b0c7656d25ef8210ce9d26fe5864d8ba80", func := "boatswain/boatswainlaw10.ReadyPlays", spec := "readyPlays", unfollowed := true, recurses := true, apart := false, narrowed := true }
def ReadyPlaysUptoSaid : Prop := readyPlaysUptoRow.holds Try.pinned (OpenSpec.upto readyPlaysSpec)

/-- 'boatswainlaw10.ReadyFalls', WHERE WHAT IT READS IS OF BULK AT MOST 1048576: true; the input reads as it did. -/
def readyFallsUptoRow : OpenClaim := { program := "ytfadckkebfgheaa", sum := "eb397df3c67cf0a8a88940379314b0b0c7656d25ef8210ce9d26fe5864d8ba80", func := "boatswain/boatswainlaw10.ReadyFalls", spec := "readyFalls", unfollowed := true, recurses := true, apart := false, narrowed := true }
def ReadyFallsUptoSaid : Prop := readyFallsUptoRow.holds Try.pinned (OpenSpec.upto readyFallsSpec)

/-- 'boatswainlaw10.ReadyChanges', WHERE WHAT IT READS IS OF BULK AT MOST 1048576: true; the input reads as it did. -/
def readyChangesUptoRow : OpenClaim := { program := "ytfadckkebfgheaa", sum := "eb397df3c67cf0a8a88940379314b0b0c7656d25ef8210ce9d26fe5864d8ba80", func := "boatswain/boatswainlaw10.ReadyChanges", spec := "readyChanges", unfollowed := true, recurses := true, apart := false, narrowed := true }
def ReadyChangesUptoSaid : Prop := readyChangesUptoRow.holds Try.pinned (OpenSpec.upto readyChangesSpec)

/-- 'boatswainlaw10.ReadyFull', WHERE WHAT IT READS IS OF BULK AT MOST 1048576: true; the input reads as it did. -/
def readyFullUptoRow : OpenClaim := { program := "ytfadckkebfgheaa", sum := "eb397df3c67cf0a8a88940379314b0b0c7656d25ef8210ce9d26fe5864d8ba80", func := "boatswain/boatswainlaw10.ReadyFull", spec := "readyFull", unfollowed := true, recurses := true, apart := false, narrowed := true }
def ReadyFullUptoSaid : Prop := readyFullUptoRow.holds Try.pinned (OpenSpec.upto readyFullSpec)

/-- 'boatswainlaw10.ReadyForks', WHERE WHAT IT READS IS OF BULK AT MOST 1048576: true; the input reads as it did. -/
def readyForksUptoRow : OpenClaim := { program := "ytfadckkebfgheaa", sum := "eb397df3c67cf0a8a88940379314b0b0c7656d25ef8210ce9d26fe5864d8ba80", func := "boatswain/boatswainlaw10.ReadyForks", spec := "readyForks", unfollowed := true, recurses := true, apart := false, narrowed := true }
def ReadyForksUptoSaid : Prop := readyForksUptoRow.holds Try.pinned (OpenSpec.upto readyForksSpec)

/-- 'boatswainlaw10.ReadyNone', WHERE WHAT IT READS IS OF BULK AT MOST 1048576: true; the input reads as it did. -/
def readyNoneUptoRow : OpenClaim := { program := "ytfadckkebfgheaa", sum := "eb397df3c67cf0a8a88940379314b0b0c7656d25ef8210ce9d26fe5864d8ba80", func := "boatswain/boatswainlaw10.ReadyNone", spec := "readyNone", unfollowed := true, recurses := true, apart := false, narrowed := true }
def ReadyNoneUptoSaid : Prop := readyNoneUptoRow.holds Try.pinned (OpenSpec.upto readyNoneSpec)

/-- 'boatswainlaw10.ReadyPuts', WHERE WHAT IT READS IS OF BULK AT MOST 1048576: true; the input reads as it did. -/
def readyPutsUptoRow : OpenClaim := { program := "ytfadckkebfgheaa", sum := "eb397df3c67cf0a8a88940379314b0b0c7656d25ef8210ce9d26fe5864d8ba80", func := "boatswain/boatswainlaw10.ReadyPuts", spec := "readyPuts", unfollowed := true, recurses := true, apart := false, narrowed := true }
def ReadyPutsUptoSaid : Prop := readyPutsUptoRow.holds Try.pinned (OpenSpec.upto readyPutsSpec)

/-- 'boatswaintop.TopTakes', WHERE WHAT IT READS IS OF BULK AT MOST 1048576: true; the input reads as it did. -/
def topTakesUptoRow : OpenClaim := { program := "ytfadckkebfgheaa", sum := "eb397df3c67cf0a8a88940379314b0b0c7656d25ef8210ce9d26fe5864d8ba80", func := "boatswain/boatswaintop.TopTakes", spec := "topTakes", apart := false, narrowed := true }
def TopTakesUptoSaid : Prop := topTakesUptoRow.holds Try.pinned (OpenSpec.upto topTakesSpec)

end Rows
end Go.Proofs.Ytfadckkebfgheaa
