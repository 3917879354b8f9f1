/-
  No cell of these rows narrows 'for every input' (looked for: loops, veiled, ifaces, maps, wideKeys, modest, calm, conditions, laid).
  DERIVED. THE GIVEN ROWS OF THIS SEAT. 5 by the template 'for every input the law returns true; each argument reads behind the call as it read before'; 0 by the template 'total and deterministic' (their statements: YthpbehpeojacmabTotals.lean).
  GIVEN WITH THE SEED: the statements are not yours to turn. If you find one false, say at which input.
  Laid BY PROGRAM, IN A SANDBOX (cutbox-rows.mjs): the forced cells as the released guide's own fill.sh prints them over the translation eac3de0ebbc8f692… (all of the seat's roots in one cut). By AI agents, Wed Nov 11 2026. No macro, syntax, notation, axiom, sorry.
-/
import Derived.Test.YthpbehpeojacmabChecked
import GoSem.Claim
import GoSem.ClaimJoined
import GoSem.ClaimMapViews
import Derived.JoinedTies
import Derived.KernelRfl
namespace Go.Proofs.Ythpbehpeojacmab
/- THE CELL 'sum', in the pinned program and in every row, IS THE sha256 OF THE DUMP (.gsa) THAT YthpbehpeojacmabProg.lean LOADS. Nothing in Lean hashes anything: it is a label: what it is worth is what the hold of that sum in a sandbox is worth. -/
noncomputable def Try.pinned : Pinned := { name := "ythpbehpeojacmab", sum := "eac3de0ebbc8f6925578eb55e6e505900ef79c50a1e5f83d580578cafa69de68", checked := Try.checked }
namespace Rows
def none {H : Type} : Left H := { results := [], args := [] }

/-- 'boatswainlaw04.WheelNone': WHATEVER THE INPUT: true; the input reads as it did. -/
def wheelNoneSpec : ChangeSpec := { name := "wheelNone", fn := fun _ => fun
  | [d1, d2] => { results := [.lit (.bool true)], args := [d1, d2] }
  | _ => none }
def wheelNoneRow : OpenClaim := { program := "ythpbehpeojacmab", sum := "eac3de0ebbc8f6925578eb55e6e505900ef79c50a1e5f83d580578cafa69de68", func := "boatswain/boatswainlaw04.WheelNone", spec := "wheelNone", inPlace := ["maps.clone"], recurses := true, apart := false }
def WheelNoneSaid : Prop := wheelNoneRow.holds Try.pinned (OpenSpec.ofChange wheelNoneSpec)

/-- ITS FALSE NEIGHBOUR: 'it returns false'. Refute it at one input. -/
def wheelNoneWrong : ChangeSpec := { name := "wheelNone", fn := fun _ => fun
  | [d1, d2] => { results := [.lit (.bool false)], args := [d1, d2] }
  | _ => none }
def WheelNoneWrongFalsely : Prop := wheelNoneRow.holds Try.pinned (OpenSpec.ofChange wheelNoneWrong)

/-- 'boatswainlaw04.WheelNext': WHATEVER THE INPUT: true; the input reads as it did. -/
def wheelNextSpec : ChangeSpec := { name := "wheelNext", fn := fun _ => fun
  | [d1, d2] => { results := [.lit (.bool true)], args := [d1, d2] }
  | _ => none }
def wheelNextRow : OpenClaim := { program := "ythpbehpeojacmab", sum := "eac3de0ebbc8f6925578eb55e6e505900ef79c50a1e5f83d580578cafa69de68", func := "boatswain/boatswainlaw04.WheelNext", spec := "wheelNext", recurses := true, apart := false }
def WheelNextSaid : Prop := wheelNextRow.holds Try.pinned (OpenSpec.ofChange wheelNextSpec)

/-- ITS FALSE NEIGHBOUR: 'it returns false'. Refute it at one input. -/
def wheelNextWrong : ChangeSpec := { name := "wheelNext", fn := fun _ => fun
  | [d1, d2] => { results := [.lit (.bool false)], args := [d1, d2] }
  | _ => none }
def WheelNextWrongFalsely : Prop := wheelNextRow.holds Try.pinned (OpenSpec.ofChange wheelNextWrong)

/-- 'boatswainlaw04.WheelOrder': WHATEVER THE INPUT: true; the input reads as it did. -/
def wheelOrderSpec : ChangeSpec := { name := "wheelOrder", fn := fun _ => fun
  | [d1, d2] => { results := [.lit (.bool true)], args := [d1, d2] }
  | _ => none }
def wheelOrderRow : OpenClaim := { program := "ythpbehpeojacmab", sum := "eac3de0ebbc8f6925578eb55e6e505900ef79c50a1e5f83d580578cafa69de68", func := "boatswain/boatswainlaw04.WheelOrder", spec := "wheelOrder", recurses := true, apart := false }
def WheelOrderSaid : Prop := wheelOrderRow.holds Try.pinned (OpenSpec.ofChange wheelOrderSpec)

/-- ITS FALSE NEIGHBOUR: 'it returns false'. Refute it at one input. -/
def wheelOrderWrong : ChangeSpec := { name := "wheelOrder", fn := fun _ => fun
  | [d1, d2] => { results := [.lit (.bool false)], args := [d1, d2] }
  | _ => none }
def WheelOrderWrongFalsely : Prop := wheelOrderRow.holds Try.pinned (OpenSpec.ofChange wheelOrderWrong)

/-- 'boatswaintop.TopDue': WHATEVER THE INPUT: true; the input reads as it did. -/
def topDueSpec : ChangeSpec := { name := "topDue", fn := fun _ => fun
  | [d1, d2] => { results := [.lit (.bool true)], args := [d1, d2] }
  | _ => none }
def topDueRow : OpenClaim := { program := "ythpbehpeojacmab", sum := "eac3de0ebbc8f6925578eb55e6e505900ef79c50a1e5f83d580578cafa69de68", func := "boatswain/boatswaintop.TopDue", spec := "topDue", recurses := true, apart := false }
def TopDueSaid : Prop := topDueRow.holds Try.pinned (OpenSpec.ofChange topDueSpec)

/-- ITS FALSE NEIGHBOUR: 'it returns false'. Refute it at one input. -/
def topDueWrong : ChangeSpec := { name := "topDue", fn := fun _ => fun
  | [d1, d2] => { results := [.lit (.bool false)], args := [d1, d2] }
  | _ => none }
def TopDueWrongFalsely : Prop := topDueRow.holds Try.pinned (OpenSpec.ofChange topDueWrong)

/-- 'boatswaintop.TopSorts': WHATEVER THE INPUT: true; the input reads as it did. -/
def topSortsSpec : ChangeSpec := { name := "topSorts", fn := fun _ => fun
  | [d] => { results := [.lit (.bool true)], args := [d] }
  | _ => none }
def topSortsRow : OpenClaim := { program := "ythpbehpeojacmab", sum := "eac3de0ebbc8f6925578eb55e6e505900ef79c50a1e5f83d580578cafa69de68", func := "boatswain/boatswaintop.TopSorts", spec := "topSorts", apart := false }
def TopSortsSaid : Prop := topSortsRow.holds Try.pinned (OpenSpec.ofChange topSortsSpec)

/-- ITS FALSE NEIGHBOUR: 'it returns false'. Refute it at one input. -/
def topSortsWrong : ChangeSpec := { name := "topSorts", fn := fun _ => fun
  | [d] => { results := [.lit (.bool false)], args := [d] }
  | _ => none }
def TopSortsWrongFalsely : Prop := topSortsRow.holds Try.pinned (OpenSpec.ofChange topSortsWrong)

/- THE SECOND FORM. 'bulk': how many values and letters a reading holds, each counted each time it is reached (what is shared counts as often as it is met; a slice's spare places count too). A statement '..UptoSaid' is the law's where the arguments, and the package variables that the reading takes, are together of bulk at most 1048576: NARROWER than '..Said'. Prove '..Said' where nothing that the law and all that it calls make is longer than what came in: it says more and counts as full. Else prove '..UptoSaid'. A law counts once. -/
mutual
def uptoBulk {H : Type} : DataW H → Nat
  | .lit (.string bytes) => bytes.length + 1
  | .lit _ => 1
  | .nil => 1
  | .ptr d => uptoBulk d + 1
  | .slice elems spare => uptoBulkAll elems + uptoBulkAll spare + 1
  | .agg parts => uptoBulkAll parts + 1
  | .iface _ d => uptoBulk d + 1
  | .map entries => uptoBulkEntries entries + 1
  | .held _ => 1
def uptoBulkAll {H : Type} : List (DataW H) → Nat
  | [] => 0
  | d :: r => uptoBulk d + uptoBulkAll r
def uptoBulkEntries {H : Type} : List (Lit × DataW H) → Nat
  | [] => 0
  | x :: r => uptoBulkEntry x + uptoBulkEntries r
def uptoBulkEntry {H : Type} : Lit × DataW H → Nat
  | (.string bytes, d) => bytes.length + uptoBulk d + 1
  | (_, d) => uptoBulk d + 1
 end
def uptoSmall : (H : Type) → List (DataW H) → Bool := fun _ ds => decide (uptoBulkAll ds ≤ 1048576)
def OpenSpec.upto (s : _root_.Go.ChangeSpec) : _root_.Go.OpenSpec := { _root_.Go.OpenSpec.ofChange s with cond := some uptoSmall }

/-- 'boatswainlaw04.WheelNone', WHERE WHAT IT READS IS OF BULK AT MOST 1048576: true; the input reads as it did. -/
def wheelNoneUptoRow : OpenClaim := { program := "ythpbehpeojacmab", sum := "eac3de0ebbc8f6925578eb55e6e505900ef79c50a1e5f83d580578cafa69de68", func := "boatswain/boatswainlaw04.WheelNone", spec := "wheelNone", inPlace := ["maps.clone"], recurses := true, apart := false, narrowed := true }
def WheelNoneUptoSaid : Prop := wheelNoneUptoRow.holds Try.pinned (OpenSpec.upto wheelNoneSpec)

/-- 'boatswainlaw04.WheelNext', WHERE WHAT IT READS IS OF BULK AT MOST 1048576: true; the input reads as it did. -/
def wheelNextUptoRow : OpenClaim := { program := "ythpbehpeojacmab", sum := "eac3de0ebbc8f6925578eb55e6e505900ef79c50a1e5f83d580578cafa69de68", func := "boatswain/boatswainlaw04.WheelNext", spec := "wheelNext", recurses := true, apart := false, narrowed := true }
def WheelNextUptoSaid : Prop := wheelNextUptoRow.holds Try.pinned (OpenSpec.upto wheelNextSpec)

/-- 'boatswainlaw04.WheelOrder', WHERE WHAT IT READS IS OF BULK AT MOST 1048576: true; the input reads as it did. -/
def wheelOrderUptoRow : OpenClaim := { program := "ythpbehpeojacmab", sum := "eac3de0ebbc8f6925578eb55e6e505900ef79c50a1e5f83d580578cafa69de68", func := "boatswain/boatswainlaw04.WheelOrder", spec := "wheelOrder", recurses := true, apart := false, narrowed := true }
def WheelOrderUptoSaid : Prop := wheelOrderUptoRow.holds Try.pinned (OpenSpec.upto wheelOrderSpec)

/-- 'boatswaintop.TopDue', WHERE WHAT IT READS IS OF BULK AT MOST 1048576: true; the input reads as it did. -/
def topDueUptoRow : OpenClaim := { program := "ythpbehpeojacmab", sum := "eac3de0ebbc8f6925578eb55e6e505900ef79c50a1e5f83d580578cafa69de68", func := "boatswain/boatswaintop.TopDue", spec := "topDue", recurses := true, apart := false, narrowed := true }
def TopDueUptoSaid : Prop := topDueUptoRow.holds Try.pinned (OpenSpec.upto topDueSpec)

/-- 'boatswaintop.TopSorts', WHERE WHAT IT READS IS OF BULK AT MOST 1048576: true; the input reads as it did. -/
def topSortsUptoRow : OpenClaim := { program := "ythpbehpeojacmab", sum := "eac3de0ebbc8f6925578eb55e6e505900ef79c50a1e5f83d580578cafa69de68", func := "boatswain/boatswaintop.TopSorts", spec := "topSorts", apart := false, narrowed := true }
def TopSortsUptoSaid : Prop := topSortsUptoRow.holds Try.pinned (OpenSpec.upto topSortsSpec)

end Rows
end Go.Proofs.Ythpbehpeojacmab
