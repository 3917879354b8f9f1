/-
  No cell of these rows narrows 'for every input' (looked for: loops, veiled, ifaces, maps, wideKeys, modest, calm, conditions, laid).
  DERIVED. THE GIVEN ROWS OF THIS SEAT. 11 by the template 'for every input the law returns true; each argument reads behind the call as it read before'; 0 by the template 'total and deterministic' (their statements: YtbhkgbhgofefjaaTotals.lean).
  GIVEN WITH THE SEED: the statements are not yours to turn. If you find one false, say at which input.
  Laid BY PROGRAM, IN A SANDBOX (cutbox-rows.mjs): the forced cells as the released guide's own fill.sh prints them over the translation 170e9811987583a3… (all of the seat's roots in one cut). By AI agents, Wed Nov 11 2026. No macro, syntax, notation, axiom, sorry.
-/
import Derived.Test.YtbhkgbhgofefjaaChecked
import GoSem.Claim
import GoSem.ClaimJoined
import GoSem.ClaimMapViews
import Derived.JoinedTies
import Derived.KernelRfl
namespace Go.Proofs.Ytbhkgbhgofefjaa
/- THE CELL 'sum', in the pinned program and in every row, IS THE sha256 OF THE DUMP (.gsa) THAT YtbhkgbhgofefjaaProg.lean LOADS. Nothing in Lean hashes anything: it is a label: what it is worth is what the hold of that sum in a sandbox is worth. -/
noncomputable def Try.pinned : Pinned := { name := "ytbhkgbhgofefjaa", sum := "170e9811987583a3f1e7ba1ad40d3aa8f65355376d43138015a458a66f84bb5a", checked := Try.checked }
namespace Rows
def none {H : Type} : Left H := { results := [], args := [] }

/-- 'boatswainlaw09.PimutexPlays': WHATEVER THE INPUT: true; the input reads as it did. -/
def pimutexPlaysSpec : ChangeSpec := { name := "pimutexPlays", fn := fun _ => fun
  | [d1, d2] => { results := [.lit (.bool true)], args := [d1, d2] }
  | _ => none }
def pimutexPlaysRow : OpenClaim := { program := "ytbhkgbhgofefjaa", sum := "170e9811987583a3f1e7ba1ad40d3aa8f65355376d43138015a458a66f84bb5a", func := "boatswain/boatswainlaw09.PimutexPlays", spec := "pimutexPlays", unfollowed := true, recurses := true, apart := false }
def PimutexPlaysSaid : Prop := pimutexPlaysRow.holds Try.pinned (OpenSpec.ofChange pimutexPlaysSpec)

/-- ITS FALSE NEIGHBOUR: 'it returns false'. Refute it at one input. -/
def pimutexPlaysWrong : ChangeSpec := { name := "pimutexPlays", fn := fun _ => fun
  | [d1, d2] => { results := [.lit (.bool false)], args := [d1, d2] }
  | _ => none }
def PimutexPlaysWrongFalsely : Prop := pimutexPlaysRow.holds Try.pinned (OpenSpec.ofChange pimutexPlaysWrong)

/-- 'boatswainlaw09.PimutexOne': WHATEVER THE INPUT: true; the input reads as it did. -/
def pimutexOneSpec : ChangeSpec := { name := "pimutexOne", fn := fun _ => fun
  | [d1, d2] => { results := [.lit (.bool true)], args := [d1, d2] }
  | _ => none }
def pimutexOneRow : OpenClaim := { program := "ytbhkgbhgofefjaa", sum := "170e9811987583a3f1e7ba1ad40d3aa8f65355376d43138015a458a66f84bb5a", func := "boatswain/boatswainlaw09.PimutexOne", spec := "pimutexOne", unfollowed := true, recurses := true, apart := false }
def PimutexOneSaid : Prop := pimutexOneRow.holds Try.pinned (OpenSpec.ofChange pimutexOneSpec)

/-- ITS FALSE NEIGHBOUR: 'it returns false'. Refute it at one input. -/
def pimutexOneWrong : ChangeSpec := { name := "pimutexOne", fn := fun _ => fun
  | [d1, d2] => { results := [.lit (.bool false)], args := [d1, d2] }
  | _ => none }
def PimutexOneWrongFalsely : Prop := pimutexOneRow.holds Try.pinned (OpenSpec.ofChange pimutexOneWrong)

/-- 'boatswainlaw09.PimutexKeys': WHATEVER THE INPUT: true; the input reads as it did. -/
def pimutexKeysSpec : ChangeSpec := { name := "pimutexKeys", fn := fun _ => fun
  | [d1, d2, d3] => { results := [.lit (.bool true)], args := [d1, d2, d3] }
  | _ => none }
def pimutexKeysRow : OpenClaim := { program := "ytbhkgbhgofefjaa", sum := "170e9811987583a3f1e7ba1ad40d3aa8f65355376d43138015a458a66f84bb5a", func := "boatswain/boatswainlaw09.PimutexKeys", spec := "pimutexKeys", unfollowed := true, recurses := true, apart := false }
def PimutexKeysSaid : Prop := pimutexKeysRow.holds Try.pinned (OpenSpec.ofChange pimutexKeysSpec)

/-- ITS FALSE NEIGHBOUR: 'it returns false'. Refute it at one input. -/
def pimutexKeysWrong : ChangeSpec := { name := "pimutexKeys", fn := fun _ => fun
  | [d1, d2, d3] => { results := [.lit (.bool false)], args := [d1, d2, d3] }
  | _ => none }
def PimutexKeysWrongFalsely : Prop := pimutexKeysRow.holds Try.pinned (OpenSpec.ofChange pimutexKeysWrong)

/-- 'boatswainlaw09.PimutexChain': WHATEVER THE INPUT: true; the input reads as it did. -/
def pimutexChainSpec : ChangeSpec := { name := "pimutexChain", fn := fun _ => fun
  | [d1, d2] => { results := [.lit (.bool true)], args := [d1, d2] }
  | _ => none }
def pimutexChainRow : OpenClaim := { program := "ytbhkgbhgofefjaa", sum := "170e9811987583a3f1e7ba1ad40d3aa8f65355376d43138015a458a66f84bb5a", func := "boatswain/boatswainlaw09.PimutexChain", spec := "pimutexChain", unfollowed := true, recurses := true, apart := false }
def PimutexChainSaid : Prop := pimutexChainRow.holds Try.pinned (OpenSpec.ofChange pimutexChainSpec)

/-- ITS FALSE NEIGHBOUR: 'it returns false'. Refute it at one input. -/
def pimutexChainWrong : ChangeSpec := { name := "pimutexChain", fn := fun _ => fun
  | [d1, d2] => { results := [.lit (.bool false)], args := [d1, d2] }
  | _ => none }
def PimutexChainWrongFalsely : Prop := pimutexChainRow.holds Try.pinned (OpenSpec.ofChange pimutexChainWrong)

/-- 'boatswainlaw09.PimutexNext': WHATEVER THE INPUT: true; the input reads as it did. -/
def pimutexNextSpec : ChangeSpec := { name := "pimutexNext", fn := fun _ => fun
  | [d1, d2, d3] => { results := [.lit (.bool true)], args := [d1, d2, d3] }
  | _ => none }
def pimutexNextRow : OpenClaim := { program := "ytbhkgbhgofefjaa", sum := "170e9811987583a3f1e7ba1ad40d3aa8f65355376d43138015a458a66f84bb5a", func := "boatswain/boatswainlaw09.PimutexNext", spec := "pimutexNext", unfollowed := true, recurses := true, apart := false }
def PimutexNextSaid : Prop := pimutexNextRow.holds Try.pinned (OpenSpec.ofChange pimutexNextSpec)

/-- ITS FALSE NEIGHBOUR: 'it returns false'. Refute it at one input. -/
def pimutexNextWrong : ChangeSpec := { name := "pimutexNext", fn := fun _ => fun
  | [d1, d2, d3] => { results := [.lit (.bool false)], args := [d1, d2, d3] }
  | _ => none }
def PimutexNextWrongFalsely : Prop := pimutexNextRow.holds Try.pinned (OpenSpec.ofChange pimutexNextWrong)

/-- 'boatswainlaw09.PimutexRefuses': WHATEVER THE INPUT: true; the input reads as it did. -/
def pimutexRefusesSpec : ChangeSpec := { name := "pimutexRefuses", fn := fun _ => fun
  | [d1, d2, d3] => { results := [.lit (.bool true)], args := [d1, d2, d3] }
  | _ => none }
def pimutexRefusesRow : OpenClaim := { program := "ytbhkgbhgofefjaa", sum := "170e9811987583a3f1e7ba1ad40d3aa8f65355376d43138015a458a66f84bb5a", func := "boatswain/boatswainlaw09.PimutexRefuses", spec := "pimutexRefuses", unfollowed := true, recurses := true, apart := false }
def PimutexRefusesSaid : Prop := pimutexRefusesRow.holds Try.pinned (OpenSpec.ofChange pimutexRefusesSpec)

/-- ITS FALSE NEIGHBOUR: 'it returns false'. Refute it at one input. -/
def pimutexRefusesWrong : ChangeSpec := { name := "pimutexRefuses", fn := fun _ => fun
  | [d1, d2, d3] => { results := [.lit (.bool false)], args := [d1, d2, d3] }
  | _ => none }
def PimutexRefusesWrongFalsely : Prop := pimutexRefusesRow.holds Try.pinned (OpenSpec.ofChange pimutexRefusesWrong)

/-- 'boatswainlaw09.PimutexForks': WHATEVER THE INPUT: true; the input reads as it did. -/
def pimutexForksSpec : ChangeSpec := { name := "pimutexForks", fn := fun _ => fun
  | [d1, d2] => { results := [.lit (.bool true)], args := [d1, d2] }
  | _ => none }
def pimutexForksRow : OpenClaim := { program := "ytbhkgbhgofefjaa", sum := "170e9811987583a3f1e7ba1ad40d3aa8f65355376d43138015a458a66f84bb5a", func := "boatswain/boatswainlaw09.PimutexForks", spec := "pimutexForks", unfollowed := true, recurses := true, apart := false }
def PimutexForksSaid : Prop := pimutexForksRow.holds Try.pinned (OpenSpec.ofChange pimutexForksSpec)

/-- ITS FALSE NEIGHBOUR: 'it returns false'. Refute it at one input. -/
def pimutexForksWrong : ChangeSpec := { name := "pimutexForks", fn := fun _ => fun
  | [d1, d2] => { results := [.lit (.bool false)], args := [d1, d2] }
  | _ => none }
def PimutexForksWrongFalsely : Prop := pimutexForksRow.holds Try.pinned (OpenSpec.ofChange pimutexForksWrong)

/-- 'boatswainlaw09.PimutexNone': WHATEVER THE INPUT: true; the input reads as it did. -/
def pimutexNoneSpec : ChangeSpec := { name := "pimutexNone", fn := fun _ => fun
  | [d1, d2, d3] => { results := [.lit (.bool true)], args := [d1, d2, d3] }
  | _ => none }
def pimutexNoneRow : OpenClaim := { program := "ytbhkgbhgofefjaa", sum := "170e9811987583a3f1e7ba1ad40d3aa8f65355376d43138015a458a66f84bb5a", func := "boatswain/boatswainlaw09.PimutexNone", spec := "pimutexNone", unfollowed := true, recurses := true, apart := false }
def PimutexNoneSaid : Prop := pimutexNoneRow.holds Try.pinned (OpenSpec.ofChange pimutexNoneSpec)

/-- ITS FALSE NEIGHBOUR: 'it returns false'. Refute it at one input. -/
def pimutexNoneWrong : ChangeSpec := { name := "pimutexNone", fn := fun _ => fun
  | [d1, d2, d3] => { results := [.lit (.bool false)], args := [d1, d2, d3] }
  | _ => none }
def PimutexNoneWrongFalsely : Prop := pimutexNoneRow.holds Try.pinned (OpenSpec.ofChange pimutexNoneWrong)

/-- 'boatswainlaw09.PimutexBack': WHATEVER THE INPUT: true; the input reads as it did. -/
def pimutexBackSpec : ChangeSpec := { name := "pimutexBack", fn := fun _ => fun
  | [d1, d2, d3] => { results := [.lit (.bool true)], args := [d1, d2, d3] }
  | _ => none }
def pimutexBackRow : OpenClaim := { program := "ytbhkgbhgofefjaa", sum := "170e9811987583a3f1e7ba1ad40d3aa8f65355376d43138015a458a66f84bb5a", func := "boatswain/boatswainlaw09.PimutexBack", spec := "pimutexBack", unfollowed := true, recurses := true, apart := false }
def PimutexBackSaid : Prop := pimutexBackRow.holds Try.pinned (OpenSpec.ofChange pimutexBackSpec)

/-- ITS FALSE NEIGHBOUR: 'it returns false'. Refute it at one input. -/
def pimutexBackWrong : ChangeSpec := { name := "pimutexBack", fn := fun _ => fun
  | [d1, d2, d3] => { results := [.lit (.bool false)], args := [d1, d2, d3] }
  | _ => none }
def PimutexBackWrongFalsely : Prop := pimutexBackRow.holds Try.pinned (OpenSpec.ofChange pimutexBackWrong)

/-- 'boatswainlaw09.PimutexMeet': WHATEVER THE INPUT: true; the input reads as it did. -/
def pimutexMeetSpec : ChangeSpec := { name := "pimutexMeet", fn := fun _ => fun
  | [d1, d2, d3] => { results := [.lit (.bool true)], args := [d1, d2, d3] }
  | _ => none }
def pimutexMeetRow : OpenClaim := { program := "ytbhkgbhgofefjaa", sum := "170e9811987583a3f1e7ba1ad40d3aa8f65355376d43138015a458a66f84bb5a", func := "boatswain/boatswainlaw09.PimutexMeet", spec := "pimutexMeet", unfollowed := true, recurses := true, apart := false }
def PimutexMeetSaid : Prop := pimutexMeetRow.holds Try.pinned (OpenSpec.ofChange pimutexMeetSpec)

/-- ITS FALSE NEIGHBOUR: 'it returns false'. Refute it at one input. -/
def pimutexMeetWrong : ChangeSpec := { name := "pimutexMeet", fn := fun _ => fun
  | [d1, d2, d3] => { results := [.lit (.bool false)], args := [d1, d2, d3] }
  | _ => none }
def PimutexMeetWrongFalsely : Prop := pimutexMeetRow.holds Try.pinned (OpenSpec.ofChange pimutexMeetWrong)

/-- 'boatswaintop.TopChain': WHATEVER THE INPUT: true; the input reads as it did. -/
def topChainSpec : ChangeSpec := { name := "topChain", fn := fun _ => fun
  | [d] => { results := [.lit (.bool true)], args := [d] }
  | _ => none }
def topChainRow : OpenClaim := { program := "ytbhkgbhgofefjaa", sum := "170e9811987583a3f1e7ba1ad40d3aa8f65355376d43138015a458a66f84bb5a", func := "boatswain/boatswaintop.TopChain", spec := "topChain", unfollowed := true, recurses := true, apart := false }
def TopChainSaid : Prop := topChainRow.holds Try.pinned (OpenSpec.ofChange topChainSpec)

/-- ITS FALSE NEIGHBOUR: 'it returns false'. Refute it at one input. -/
def topChainWrong : ChangeSpec := { name := "topChain", fn := fun _ => fun
  | [d] => { results := [.lit (.bool false)], args := [d] }
  | _ => none }
def TopChainWrongFalsely : Prop := topChainRow.holds Try.pinned (OpenSpec.ofChange topChainWrong)

/- THE SECOND FORM. 'bulk': how many values and letters a reading holds, each counted each time it is reached (what is shared counts as often as it is met; a slice's spare places count too). A statement '..UptoSaid' is the law's where the arguments, and the package variables that the reading takes, are together of bulk at most 1048576: NARROWER than '..Said'. Prove '..Said' where nothing that the law and all that it calls make is longer than what came in: it says more and counts as full. Else prove '..UptoSaid'. A law counts once. -/
mutual
def uptoBulk {H : Type} : DataW H → Nat
  | .lit (.string bytes) => bytes.length + 1
  | .lit _ => 1
  | .nil => 1
  | .ptr d => uptoBulk d + 1
  | .slice elems spare => uptoBulkAll elems + uptoBulkAll spare + 1
  | .agg parts => uptoBulkAll parts + 1
  | .iface _ d => uptoBulk d + 1
  | .map entries => uptoBulkEntries entries + 1
  | .held _ => 1
def uptoBulkAll {H : Type} : List (DataW H) → Nat
  | [] => 0
  | d :: r => uptoBulk d + uptoBulkAll r
def uptoBulkEntries {H : Type} : List (Lit × DataW H) → Nat
  | [] => 0
  | x :: r => uptoBulkEntry x + uptoBulkEntries r
def uptoBulkEntry {H : Type} : Lit × DataW H → Nat
  | (.string bytes, d) => bytes.length + uptoBulk d + 1
  | (_, d) => uptoBulk d + 1
 end
def uptoSmall : (H : Type) → List (DataW H) → Bool := fun _ ds => decide (uptoBulkAll ds ≤ 1048576)
def OpenSpec.upto (s : _root_.Go.ChangeSpec) : _root_.Go.OpenSpec := { _root_.Go.OpenSpec.ofChange s with cond := some uptoSmall }

/-- 'boatswainlaw09.PimutexPlays', WHERE WHAT IT READS IS OF BULK AT MOST 1048576: true; the input reads as it did. -/
def pimutexPlaysUptoRow : OpenClaim := { program := "ytbhkgbhgofefjaa", sum := "170e9811987583a3f1e7ba1ad40d3aa8f65355376d43138015a458a66f84bb5a", func := "boatswain/boatswainlaw09.PimutexPlays", spec := "pimutexPlays", unfollowed := true, recurses := true, apart := false, narrowed := true }
def PimutexPlaysUptoSaid : Prop := pimutexPlaysUptoRow.holds Try.pinned (OpenSpec.upto pimutexPlaysSpec)

/-- 'boatswainlaw09.PimutexOne', WHERE WHAT IT READS IS OF BULK AT MOST 1048576: true; the input reads as it did. -/
def pimutexOneUptoRow : OpenClaim := { program := "ytbhkgbhgofefjaa", sum := "170e9811987583a3f1e7ba1ad40d3aa8f65355376d43138015a458a66f84bb5a", func := "boatswain/boatswainlaw09.PimutexOne", spec := "pimutexOne", unfollowed := true, recurses := true, apart := false, narrowed := true }
def PimutexOneUptoSaid : Prop := pimutexOneUptoRow.holds Try.pinned (OpenSpec.upto pimutexOneSpec)

/-- 'boatswainlaw09.PimutexKeys', WHERE WHAT IT READS IS OF BULK AT MOST 1048576: true; the input reads as it did. -/
def pimutexKeysUptoRow : OpenClaim := { program := "ytbhkgbhgofefjaa", sum := "170e9811987583a3f1e7ba1ad40d3aa8f65355376d43138015a458a66f84bb5a", func := "boatswain/boatswainlaw09.PimutexKeys", spec := "pimutexKeys", unfollowed := true, recurses := true, apart := false, narrowed := true }
def PimutexKeysUptoSaid : Prop := pimutexKeysUptoRow.holds Try.pinned (OpenSpec.upto pimutexKeysSpec)

/-- 'boatswainlaw09.PimutexChain', WHERE WHAT IT READS IS OF BULK AT MOST 1048576: true; the input reads as it did. -/
def pimutexChainUptoRow : OpenClaim := { program := "ytbhkgbhgofefjaa", sum := "170e9811987583a3f1e7ba1ad40d3aa8f65355376d43138015a458a66f84bb5a", func := "boatswain/boatswainlaw09.PimutexChain", spec := "pimutexChain", unfollowed := true, recurses := true, apart := false, narrowed := true }
def PimutexChainUptoSaid : Prop := pimutexChainUptoRow.holds Try.pinned (OpenSpec.upto pimutexChainSpec)

/-- 'boatswainlaw09.PimutexNext', WHERE WHAT IT READS IS OF BULK AT MOST 1048576: true; the input reads as it did. -/
def pimutexNextUptoRow : OpenClaim := { program := "ytbhkgbhgofefjaa", sum := "170e9811987583a3f1e7ba1ad40d3aa8f65355376d43138015a458a66f84bb5a", func := "boatswain/boatswainlaw09.PimutexNext", spec := "pimutexNext", unfollowed := true, recurses := true, apart := false, narrowed := true }
def PimutexNextUptoSaid : Prop := pimutexNextUptoRow.holds Try.pinned (OpenSpec.upto pimutexNextSpec)

/-- 'boatswainlaw09.PimutexRefuses', WHERE WHAT IT READS IS OF BULK AT MOST 1048576: true; the input reads as it did. -/
def pimutexRefusesUptoRow : OpenClaim := { program := "ytbhkgbhgofefjaa", sum := "170e9811987583a3f1e7ba1ad40d3aa8f65355376d43138015a458a66f84bb5a", func := "boatswain/boatswainlaw09.PimutexRefuses", spec := "pimutexRefuses", unfollowed := true, recurses := true, apart := false, narrowed := true }
def PimutexRefusesUptoSaid : Prop := pimutexRefusesUptoRow.holds Try.pinned (OpenSpec.upto pimutexRefusesSpec)

/-- 'boatswainlaw09.PimutexForks', WHERE WHAT IT READS IS OF BULK AT MOST 1048576: true; the input reads as it did. -/
def pimutexForksUptoRow : OpenClaim := { program := "ytbhkgbhgofefjaa", sum := "170e9811987583a3f1e7ba1ad40d3aa8f65355376d43138015a458a66f84bb5a", func := "boatswain/boatswainlaw09.PimutexForks", spec := "pimutexForks", unfollowed := true, recurses := true, apart := false, narrowed := true }
def PimutexForksUptoSaid : Prop := pimutexForksUptoRow.holds Try.pinned (OpenSpec.upto pimutexForksSpec)

/-- 'boatswainlaw09.PimutexNone', WHERE WHAT IT READS IS OF BULK AT MOST 1048576: true; the input reads as it did. -/
def pimutexNoneUptoRow : OpenClaim := { program := "ytbhkgbhgofefjaa", sum := "170e9811987583a3f1e7ba1ad40d3aa8f65355376d43138015a458a66f84bb5a", func := "boatswain/boatswainlaw09.PimutexNone", spec := "pimutexNone", unfollowed := true, recurses := true, apart := false, narrowed := true }
def PimutexNoneUptoSaid : Prop := pimutexNoneUptoRow.holds Try.pinned (OpenSpec.upto pimutexNoneSpec)

/-- 'boatswainlaw09.PimutexBack', WHERE WHAT IT READS IS OF BULK AT MOST 1048576: true; the input reads as it did. -/
def pimutexBackUptoRow : OpenClaim := { program := "ytbhkgbhgofefjaa", sum := "170e9811987583a3f1e7ba1ad40d3aa8f65355376d43138015a458a66f84bb5a", func := "boatswain/boatswainlaw09.PimutexBack", spec := "pimutexBack", unfollowed := true, recurses := true, apart := false, narrowed := true }
def PimutexBackUptoSaid : Prop := pimutexBackUptoRow.holds Try.pinned (OpenSpec.upto pimutexBackSpec)

/-- 'boatswainlaw09.PimutexMeet', WHERE WHAT IT READS IS OF BULK AT MOST 1048576: true; the input reads as it did. -/
def pimutexMeetUptoRow : OpenClaim := { program := "ytbhkgbhgofefjaa", sum := "170e9811987583a3f1e7ba1ad40d3aa8f65355376d43138015a458a66f84bb5a", func := "boatswain/boatswainlaw09.PimutexMeet", spec := "pimutexMeet", unfollowed := true, recurses := true, apart := false, narrowed := true }
def PimutexMeetUptoSaid : Prop := pimutexMeetUptoRow.holds Try.pinned (OpenSpec.upto pimutexMeetSpec)

/-- 'boatswaintop.TopChain', WHERE WHAT IT READS IS OF BULK AT MOST 1048576: true; the input reads as it did. -/
def topChainUptoRow : OpenClaim := { program := "ytbhkgbhgofefjaa", sum := "170e9811987583a3f1e7ba1ad40d3aa8f65355376d43138015a458a66f84bb5a", func := "boatswain/boatswaintop.TopChain", spec := "topChain", unfollowed := true, recurses := true, apart := false, narrowed := true }
def TopChainUptoSaid : Prop := topChainUptoRow.holds Try.pinned (OpenSpec.upto topChainSpec)

end Rows
end Go.Proofs.Ytbhkgbhgofefjaa
