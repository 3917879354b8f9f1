/-
  cbs: which are due, and what Refill makes of them.
-/
import Derived.Test.YtblickncecpajaaC7
import Derived.LoopIn
import Derived.LoopNIn
import Derived.OrdersHeld
import Derived.OrdersIn
import Derived.OwnWalkIn
import Derived.RangeFuncBound
import Derived.RangeFuncBox
import Derived.RangeFuncCalls
import Derived.RangeFuncLeaves
import Derived.RangeFuncNested
import Derived.Shelf.Abstract
import Derived.Shelf.RegionOpen
import Derived.TacticsInMore
namespace Go.Proofs.Ytblickncecpajaa
open Go.RowKit Go.Lib
set_option linter.unusedVariables false

def dueB (now : Nat) (x : Srv) : Bool := x.l == 0 && decide (x.d ≤ now) && !(x.d == 0)
def refS (now : Nat) (x : Srv) : Srv := if dueB now x then fillS x now else x
/-- The first k of them are gone through. -/
def fillN (L : List Srv) (now k : Nat) : List Srv := (L.take k).map (refS now) ++ L.drop k
def dueN (L : List Srv) (now : Nat) : Nat → List Nat
  | 0 => []
  | k + 1 => dueN L now k ++ (if ((L[k]?).map (dueB now)).getD false then [k] else [])
theorem fillN_zero (L : List Srv) (now : Nat) : fillN L now 0 = L := by simp [fillN]
theorem fillN_len (L : List Srv) (now k : Nat) : (fillN L now k).length = L.length := by
  simp [fillN]
  omega
theorem fillN_all (L : List Srv) (now : Nat) : fillN L now L.length = L.map (refS now) := by simp [fillN]
theorem fillN_at {L : List Srv} {now k i : Nat} (h : k ≤ i) (hk : k ≤ L.length) : (fillN L now k)[i]? = L[i]? := by
  unfold fillN
  rw [List.getElem?_append_right (by simp; omega)]
  simp only [List.length_map, List.length_take, List.getElem?_drop]
  congr 1
  omega
theorem fillN_one {L : List Srv} {now k : Nat} {x : Srv} (hx : L[k]? = some x) : fillN L now (k + 1) = (fillN L now k).set k (refS now x) := by
  obtain ⟨hk, rfl⟩ := List.getElem?_eq_some_iff.1 hx
  unfold fillN
  rw [List.set_append_right _ _ (by simp; omega)]
  have : k - (List.map (refS now) (List.take k L)).length = 0 := by simp; omega
  rw [this, List.drop_eq_getElem_cons hk, List.set_cons_zero, List.take_succ_eq_append_getElem hk, List.map_append, List.append_assoc]
  rfl
theorem fillN_no {L : List Srv} {now k : Nat} {x : Srv} (hx : L[k]? = some x) (hd : dueB now x = false) : fillN L now (k + 1) = fillN L now k := by
  obtain ⟨hk, rfl⟩ := List.getElem?_eq_some_iff.1 hx
  rw [fillN_one hx, show refS now L[k] = L[k] from by simp [refS, hd]]
  refine List.ext_getElem? fun i => ?_
  by_cases q : k = i
  · subst q
    rw [List.getElem?_set_self (by rw [fillN_len]; exact hk), fillN_at (Nat.le_refl _) (by omega), List.getElem?_eq_getElem hk]
  · rw [List.getElem?_set_ne q]
theorem fillN_yes {L : List Srv} {now k : Nat} {x : Srv} (hx : L[k]? = some x) (hd : dueB now x = true) : fillN L now (k + 1) = (fillN L now k).set k (fillS x now) := by
  rw [fillN_one hx]
  simp [refS, hd]
theorem dueN_no {L : List Srv} {now k : Nat} {x : Srv} (hx : L[k]? = some x) (hd : dueB now x = false) : dueN L now (k + 1) = dueN L now k := by simp [dueN, hx, hd]
theorem dueN_yes {L : List Srv} {now k : Nat} {x : Srv} (hx : L[k]? = some x) (hd : dueB now x = true) : dueN L now (k + 1) = dueN L now k ++ [k] := by simp [dueN, hx, hd]
theorem dueN_len (L : List Srv) (now : Nat) : ∀ k, (dueN L now k).length ≤ k
  | 0 => Nat.le_refl _
  | k + 1 => by
    have := dueN_len L now k
    simp only [dueN, List.length_append]
    split <;> simp <;> omega
def intsN (l : List Nat) : List Value := l.map (fun (n : Nat) => Value.int .i64 (n : Int))
end Go.Proofs.Ytblickncecpajaa
