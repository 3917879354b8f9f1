/-
  No cell of these rows narrows 'for every input' (looked for: loops, veiled, ifaces, maps, wideKeys, modest, calm, conditions, laid).
  DERIVED. THE GIVEN ROWS OF THIS SEAT. 6 by the template 'for every input the law returns true; each argument reads behind the call as it read before'; 0 by the template 'total and deterministic' (their statements: YtjhhhmeoahbagabTotals.lean).
  GIVEN WITH THE SEED: the statements are not yours to turn. If you find one false, say at which input.
  Laid BY PROGRAM, IN A SANDBOX (cutbox-rows.mjs): the forced cells as the released guide's own fill.sh prints them over the translation 69a0e2f931d3584c… (all of the seat's roots in one cut). By AI agents, Wed Nov 11 2026. No macro, syntax, notation, axiom, sorry.
-/
import Derived.Test.YtjhhhmeoahbagabChecked
import GoSem.Claim
import GoSem.ClaimJoined
import GoSem.ClaimMapViews
import Derived.JoinedTies
import Derived.KernelRfl
namespace Go.Proofs.Ytjhhhmeoahbagab
/- THE CELL 'sum', in the pinned program and in every row, IS THE sha256 OF THE DUMP (.gsa) THAT YtjhhhmeoahbagabProg.lean LOADS. Nothing in Lean hashes anything: it is a label: what it is worth is what the hold of that sum in a sandbox is worth. -/
noncomputable def Try.pinned : Pinned := { name := "ytjhhhmeoahbagab", sum := "69a0e2f931d3584c7d32041d0dc2dd57587b205862bd4f80ab194810951063d7", checked := Try.checked }
namespace Rows
def none {H : Type} : Left H := { results := [], args := [] }

/-- 'boatswainlaw01.NumLess': WHATEVER THE INPUT: true; the input reads as it did. -/
def numLessSpec : ChangeSpec := { name := "numLess", fn := fun _ => fun
  | [d] => { results := [.lit (.bool true)], args := [d] }
  | _ => none }
def numLessRow : OpenClaim := { program := "ytjhhhmeoahbagab", sum := "69a0e2f931d3584c7d32041d0dc2dd57587b205862bd4f80ab194810951063d7", func := "boatswain/boatswainlaw01.NumLess", spec := "numLess", apart := false }
def NumLessSaid : Prop := numLessRow.holds Try.pinned (OpenSpec.ofChange numLessSpec)

/-- ITS FALSE NEIGHBOUR: 'it returns false'. Refute it at one input. -/
def numLessWrong : ChangeSpec := { name := "numLess", fn := fun _ => fun
  | [d] => { results := [.lit (.bool false)], args := [d] }
  | _ => none }
def NumLessWrongFalsely : Prop := numLessRow.holds Try.pinned (OpenSpec.ofChange numLessWrong)

/-- 'boatswainlaw01.NumHighest': WHATEVER THE INPUT: true; the input reads as it did. -/
def numHighestSpec : ChangeSpec := { name := "numHighest", fn := fun _ => fun
  | [d] => { results := [.lit (.bool true)], args := [d] }
  | _ => none }
def numHighestRow : OpenClaim := { program := "ytjhhhmeoahbagab", sum := "69a0e2f931d3584c7d32041d0dc2dd57587b205862bd4f80ab194810951063d7", func := "boatswain/boatswainlaw01.NumHighest", spec := "numHighest", apart := false }
def NumHighestSaid : Prop := numHighestRow.holds Try.pinned (OpenSpec.ofChange numHighestSpec)

/-- ITS FALSE NEIGHBOUR: 'it returns false'. Refute it at one input. -/
def numHighestWrong : ChangeSpec := { name := "numHighest", fn := fun _ => fun
  | [d] => { results := [.lit (.bool false)], args := [d] }
  | _ => none }
def NumHighestWrongFalsely : Prop := numHighestRow.holds Try.pinned (OpenSpec.ofChange numHighestWrong)

/-- 'boatswainlaw01.NumSmall': WHATEVER THE INPUT: true; the input reads as it did. -/
def numSmallSpec : ChangeSpec := { name := "numSmall", fn := fun _ => fun
  | [d1, d2, d3] => { results := [.lit (.bool true)], args := [d1, d2, d3] }
  | _ => none }
def numSmallRow : OpenClaim := { program := "ytjhhhmeoahbagab", sum := "69a0e2f931d3584c7d32041d0dc2dd57587b205862bd4f80ab194810951063d7", func := "boatswain/boatswainlaw01.NumSmall", spec := "numSmall", apart := false }
def NumSmallSaid : Prop := numSmallRow.holds Try.pinned (OpenSpec.ofChange numSmallSpec)

/-- ITS FALSE NEIGHBOUR: 'it returns false'. Refute it at one input. -/
def numSmallWrong : ChangeSpec := { name := "numSmall", fn := fun _ => fun
  | [d1, d2, d3] => { results := [.lit (.bool false)], args := [d1, d2, d3] }
  | _ => none }
def NumSmallWrongFalsely : Prop := numSmallRow.holds Try.pinned (OpenSpec.ofChange numSmallWrong)

/-- 'boatswainlaw01.NumOrder': WHATEVER THE INPUT: true; the input reads as it did. -/
def numOrderSpec : ChangeSpec := { name := "numOrder", fn := fun _ => fun
  | [d1, d2, d3] => { results := [.lit (.bool true)], args := [d1, d2, d3] }
  | _ => none }
def numOrderRow : OpenClaim := { program := "ytjhhhmeoahbagab", sum := "69a0e2f931d3584c7d32041d0dc2dd57587b205862bd4f80ab194810951063d7", func := "boatswain/boatswainlaw01.NumOrder", spec := "numOrder", apart := false }
def NumOrderSaid : Prop := numOrderRow.holds Try.pinned (OpenSpec.ofChange numOrderSpec)

/-- ITS FALSE NEIGHBOUR: 'it returns false'. Refute it at one input. -/
def numOrderWrong : ChangeSpec := { name := "numOrder", fn := fun _ => fun
  | [d1, d2, d3] => { results := [.lit (.bool false)], args := [d1, d2, d3] }
  | _ => none }
def NumOrderWrongFalsely : Prop := numOrderRow.holds Try.pinned (OpenSpec.ofChange numOrderWrong)

/-- 'boatswainlaw02.BitqPlays': WHATEVER THE INPUT: true; the input reads as it did. -/
def bitqPlaysSpec : ChangeSpec := { name := "bitqPlays", fn := fun _ => fun
  | [d1, d2, d3] => { results := [.lit (.bool true)], args := [d1, d2, d3] }
  | _ => none }
def bitqPlaysRow : OpenClaim := { program := "ytjhhhmeoahbagab", sum := "69a0e2f931d3584c7d32041d0dc2dd57587b205862bd4f80ab194810951063d7", func := "boatswain/boatswainlaw02.BitqPlays", spec := "bitqPlays", unfollowed := true, recurses := true, apart := false }
def BitqPlaysSaid : Prop := bitqPlaysRow.holds Try.pinned (OpenSpec.ofChange bitqPlaysSpec)

/-- ITS FALSE NEIGHBOUR: 'it returns false'. Refute it at one input. -/
def bitqPlaysWrong : ChangeSpec := { name := "bitqPlays", fn := fun _ => fun
  | [d1, d2, d3] => { results := [.lit (.bool false)], args := [d1, d2, d3] }
  | _ => none }
def BitqPlaysWrongFalsely : Prop := bitqPlaysRow.holds Try.pinned (OpenSpec.ofChange bitqPlaysWrong)

/-- 'boatswainlaw02.BitqFalls': WHATEVER THE INPUT: true; the input reads as it did. -/
def bitqFallsSpec : ChangeSpec := { name := "bitqFalls", fn := fun _ => fun
  | [d1, d2] => { results := [.lit (.bool true)], args := [d1, d2] }
  | _ => none }
def bitqFallsRow : OpenClaim := { program := "ytjhhhmeoahbagab", sum := "69a0e2f931d3584c7d32041d0dc2dd57587b205862bd4f80ab194810951063d7", func := "boatswain/boatswainlaw02.BitqFalls", spec := "bitqFalls", apart := false }
def BitqFallsSaid : Prop := bitqFallsRow.holds Try.pinned (OpenSpec.ofChange bitqFallsSpec)

/-- ITS FALSE NEIGHBOUR: 'it returns false'. Refute it at one input. -/
def bitqFallsWrong : ChangeSpec := { name := "bitqFalls", fn := fun _ => fun
  | [d1, d2] => { results := [.lit (.bool false)], args := [d1, d2] }
  | _ => none }
def BitqFallsWrongFalsely : Prop := bitqFallsRow.holds Try.pinned (OpenSpec.ofChange bitqFallsWrong)

/- THE SECOND FORM. 'bulk': how many values and letters a reading holds, each counted each time it is reached (what is shared counts as often as it is met; a slice's spare places count too). A statement '..UptoSaid' is the law's where the arguments, and the package variables that the reading takes, are together of bulk at most 1048576: NARROWER than '..Said'. Prove '..Said' where nothing that the law and all that it calls make is longer than what came in: it says more and counts as full. Else prove '..UptoSaid'. A law counts once. -/
mutual
def uptoBulk {H : Type} : DataW H → Nat
  | .lit (.string bytes) => bytes.length + 1
  | .lit _ => 1
  | .nil => 1
  | .ptr d => uptoBulk d + 1
  | .slice elems spare => uptoBulkAll elems + uptoBulkAll spare + 1
  | .agg parts => uptoBulkAll parts + 1
  | .iface _ d => uptoBulk d + 1
  | .map entries => uptoBulkEntries entries + 1
  | .held _ => 1
def uptoBulkAll {H : Type} : List (DataW H) → Nat
  | [] => 0
  | d :: r => uptoBulk d + uptoBulkAll r
def uptoBulkEntries {H : Type} : List (Lit × DataW H) → Nat
  | [] => 0
  | x :: r => uptoBulkEntry x + uptoBulkEntries r
def uptoBulkEntry {H : Type} : Lit × DataW H → Nat
  | (.string bytes, d) => bytes.length + uptoBulk d + 1
  | (_, d) => uptoBulk d + 1
 end
def uptoSmall : (H : Type) → List (DataW H) → Bool := fun _ ds => decide (uptoBulkAll ds ≤ 1048576)
def OpenSpec.upto (s : _root_.Go.ChangeSpec) : _root_.Go.OpenSpec := { _root_.Go.OpenSpec.ofChange s with cond := some uptoSmall }

/-- 'boatswainlaw01.NumLess', WHERE WHAT IT READS IS OF BULK AT MOST 1048576: true; the input reads as it did. -/
def numLessUptoRow : OpenClaim := { program := "ytjhhhmeoahbagab", sum := "69a0e2f931d3584c7d32041d0dc2dd57587b205862bd4f80ab194810951063d7", func := "boatswain/boatswainlaw01.NumLess", spec := "numLess", apart := false, narrowed := true }
def NumLessUptoSaid : Prop := numLessUptoRow.holds Try.pinned (OpenSpec.upto numLessSpec)

/-- 'boatswainlaw01.NumHighest', WHERE WHAT IT READS IS OF BULK AT MOST 1048576: true; the input reads as it did. -/
def numHighestUptoRow : OpenClaim := { program := "ytjhhhmeoahbagab", sum := "69a0e2f931d3584c7d32041d0dc2dd57587b205862bd4f80ab194810951063d7", func := "boatswain/boatswainlaw01.NumHighest", spec := "numHighest", apart := false, narrowed := true }
def NumHighestUptoSaid : Prop := numHighestUptoRow.holds Try.pinned (OpenSpec.upto numHighestSpec)

/-- 'boatswainlaw01.NumSmall', WHERE WHAT IT READS IS OF BULK AT MOST 1048576: true; the input reads as it did. -/
def numSmallUptoRow : OpenClaim := { program := "ytjhhhmeoahbagab", sum := "69a0e2f931d3584c7d32041d0dc2dd57587b205862bd4f80ab194810951063d7", func := "boatswain/boatswainlaw01.NumSmall", spec := "numSmall", apart := false, narrowed := true }
def NumSmallUptoSaid : Prop := numSmallUptoRow.holds Try.pinned (OpenSpec.upto numSmallSpec)

/-- 'boatswainlaw01.NumOrder', WHERE WHAT IT READS IS OF BULK AT MOST 1048576: true; the input reads as it did. -/
def numOrderUptoRow : OpenClaim := { program := "ytjhhhmeoahbagab", sum := "69a0e2f931d3584c7d32041d0dc2dd57587b205862bd4f80ab194810951063d7", func := "boatswain/boatswainlaw01.NumOrder", spec := "numOrder", apart := false, narrowed := true }
def NumOrderUptoSaid : Prop := numOrderUptoRow.holds Try.pinned (OpenSpec.upto numOrderSpec)

/-- 'boatswainlaw02.BitqPlays', WHERE WHAT IT READS IS OF BULK AT MOST 1048576: true; the input reads as it did. -/
def bitqPlaysUptoRow : OpenClaim := { program := "ytjhhhmeoahbagab", sum := "69a0e2f931d3584c7d32041d0dc2dd57587b205862bd4f80ab194810951063d7", func := "boatswain/boatswainlaw02.BitqPlays", spec := "bitqPlays", unfollowed := true, recurses := true, apart := false, narrowed := true }
def BitqPlaysUptoSaid : Prop := bitqPlaysUptoRow.holds Try.pinned (OpenSpec.upto bitqPlaysSpec)

/-- 'boatswainlaw02.BitqFalls', WHERE WHAT IT READS IS OF BULK AT MOST 1048576: true; the input reads as it did. -/
def bitqFallsUptoRow : OpenClaim := { program := "ytjhhhmeoahbagab", sum := "69a0e2f931d3584c7d32041d0dc2dd57587b205862bd4f80ab194810951063d7", func := "boatswain/boatswainlaw02.BitqFalls", spec := "bitqFalls", apart := false, narrowed := true }
def BitqFallsUptoSaid : Prop := bitqFallsUptoRow.holds Try.pinned (OpenSpec.upto bitqFallsSpec)

end Rows
end Go.Proofs.Ytjhhhmeoahbagab
