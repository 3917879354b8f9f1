/-
  prog: the spans as a map, a span's holds.
-/
import Derived.Test.YtnnpbbiiapipaaaRows
import Derived.WalkKit
import Derived.Below
import Derived.WalkSpells
import Derived.WalkLawsBesides
import Derived.StillTactics
import Derived.RegionTactic
import Derived.RowKit3
import Derived.Laws.MakeOwn
import Derived.OwnWalk
import Derived.Deep.QuietTactic
import Derived.BigQuiet
import Derived.Laws.OwnMore
import Derived.Maps.AppendAt
import Derived.Deep.AppendLies
import Derived.Deep.RegionHeld3
import Derived.Deep.DrawnRows
import Derived.Lib.SmallJoins
import Derived.OneCell
namespace Go.Proofs.Ytnnpbbiiapipaaa
open Go.RowKit Go.Lib
set_option linter.unusedVariables false

theorem veil {p : Prop} (h : p) : Hid p := h

def ent (k a b : Int) (n : Nat) : MapEntry := { key := .int .i64 k, val := .agg #[.int .i64 a, .int .i64 b], born := n }
/-- What the map of a program of so many instructions holds. -/
def spanRow (n : Int) : List MapEntry :=
  [ent 1 1 65536 0, ent 2 0 31 1, ent 3 0 31 2, ent 4 0 15 3, ent 5 1 65536 4, ent 6 0 0 5, ent 7 0 255 6, ent 8 0 (n - 1) 7, ent 9 0 0 8]

theorem find_no (k : Int) : ∀ (l : List MapEntry) (i : Nat), (∀ e ∈ l, ∃ x, e.key = .int .i64 x ∧ x ≠ k) → Instr.findNow (.int .i64) (.int .i64 k) l i = some none
  | [], _, _ => rfl
  | e :: l, i, h => by
    obtain ⟨x, h1, h2⟩ := h e (by simp)
    have hne : (k == x) = false := by simp; exact fun q => h2 q.symm
    simp [Instr.findNow, h1, Instr.sameNow, hne, find_no k l (i + 1) (fun e' he => h e' (by simp [he]))]

theorem run_put (w : World) (l : List MapEntry) (c : Nat) (k : Int) (v : Value) (h : ∀ e ∈ l, ∃ x, e.key = .int .i64 x ∧ x ≠ k) :
    (Instr.mapUpdate 69 (.map (some w.heap.size)) (.int .i64 k) v).run Try.prog (w.alloc (.map l.toArray c)) = .ok () (w.alloc (.map (l ++ [MapEntry.mk (.int .i64 k) v c]).toArray (c + 1))) := by
  have hf := find_no k l 0 h
  have hg : (w.alloc (.map l.toArray c)).heap[w.heap.size]? = some (.map l.toArray c) := heap_alloc_new w _
  have h1 := MapKept.run_checkKey (P := Try.prog) (w := w.alloc (.map l.toArray c)) (k := .int .i64 k) Try.underlying62 (by simp [MapKept.IsKey]) false 9999
  have h2 := MapKept.run_findKey (P := Try.prog) (w := w.alloc (.map l.toArray c)) Try.underlying62 hf
  have h3 : Array.setIfInBounds (w.heap.push (.map l.toArray c)) w.heap.size (.map (l ++ [MapEntry.mk (.int .i64 k) v c]).toArray (c + 1)) = w.heap.push (.map (l ++ [MapEntry.mk (.int .i64 k) v c]).toArray (c + 1)) := by
    apply Array.ext
    · simp
    · intro i h4 h5
      simp at h4 h5
      by_cases hi : i = w.heap.size
      · subst hi; simp
      · rw [Array.getElem_setIfInBounds_ne (by simpa using h4) (by omega), Array.getElem_push_lt (by omega), Array.getElem_push_lt (by omega)]
  simp [Instr.mapUpdate, run_underlying Try.underlying69, MapKept.run_getObj_map hg, h1, h2, MapKept.run_setObj_map _ hg, Result.andThen]
  show ({ w with heap := Array.setIfInBounds (w.heap.push (.map l.toArray c)) w.heap.size (.map (l ++ [MapEntry.mk (.int .i64 k) v c]).toArray (c + 1)) } : World) = _
  rw [h3]
  rfl

def spanW (w : World) (n : Int) (k : Nat) : World := w.alloc (.map ((spanRow n).take k).toArray k)
theorem put1 (w : World) (n : Int) : (Instr.mapUpdate 69 (.map (some w.heap.size)) (.int .i64 1) (.agg #[.int .i64 1, .int .i64 65536])).run Try.prog (spanW w n 0) = .ok () (spanW w n 1) :=
  run_put w ((spanRow n).take 0) 0 1 _ (by simp [spanRow, ent])
theorem put2 (w : World) (n : Int) : (Instr.mapUpdate 69 (.map (some w.heap.size)) (.int .i64 2) (.agg #[.int .i64 0, .int .i64 31])).run Try.prog (spanW w n 1) = .ok () (spanW w n 2) :=
  run_put w ((spanRow n).take 1) 1 2 _ (by simp [spanRow, ent])
theorem put3 (w : World) (n : Int) : (Instr.mapUpdate 69 (.map (some w.heap.size)) (.int .i64 3) (.agg #[.int .i64 0, .int .i64 31])).run Try.prog (spanW w n 2) = .ok () (spanW w n 3) :=
  run_put w ((spanRow n).take 2) 2 3 _ (by simp [spanRow, ent])
theorem put4 (w : World) (n : Int) : (Instr.mapUpdate 69 (.map (some w.heap.size)) (.int .i64 4) (.agg #[.int .i64 0, .int .i64 15])).run Try.prog (spanW w n 3) = .ok () (spanW w n 4) :=
  run_put w ((spanRow n).take 3) 3 4 _ (by simp [spanRow, ent])
theorem put5 (w : World) (n : Int) : (Instr.mapUpdate 69 (.map (some w.heap.size)) (.int .i64 5) (.agg #[.int .i64 1, .int .i64 65536])).run Try.prog (spanW w n 4) = .ok () (spanW w n 5) :=
  run_put w ((spanRow n).take 4) 4 5 _ (by simp [spanRow, ent])
theorem put6 (w : World) (n : Int) : (Instr.mapUpdate 69 (.map (some w.heap.size)) (.int .i64 6) (.agg #[.int .i64 0, .int .i64 0])).run Try.prog (spanW w n 5) = .ok () (spanW w n 6) :=
  run_put w ((spanRow n).take 5) 5 6 _ (by simp [spanRow, ent])
theorem put7 (w : World) (n : Int) : (Instr.mapUpdate 69 (.map (some w.heap.size)) (.int .i64 7) (.agg #[.int .i64 0, .int .i64 255])).run Try.prog (spanW w n 6) = .ok () (spanW w n 7) :=
  run_put w ((spanRow n).take 6) 6 7 _ (by simp [spanRow, ent])
theorem put8 (w : World) (n : Int) : (Instr.mapUpdate 69 (.map (some w.heap.size)) (.int .i64 8) (.agg #[.int .i64 0, .int .i64 (n - 1)])).run Try.prog (spanW w n 7) = .ok () (spanW w n 8) :=
  run_put w ((spanRow n).take 7) 7 8 _ (by simp [spanRow, ent])
theorem put9 (w : World) (n : Int) : (Instr.mapUpdate 69 (.map (some w.heap.size)) (.int .i64 9) (.agg #[.int .i64 0, .int .i64 0])).run Try.prog (spanW w n 8) = .ok () (spanW w n 9) :=
  run_put w ((spanRow n).take 8) 8 9 _ (by simp [spanRow, ent])

theorem spans_ok (w : World) (n : Int) (h1 : 1 ≤ n) (h2 : n ≤ 64) :
    Calls Try.prog 38 #[.int .i64 n] w fun e w' => e = .returned (.map (some w.heap.size)) ∧ w' = spanW w n 9 := by
  have hm : (Instr.makeMap 69 none).run Try.prog w = .ok (.map (some w.heap.size)) (spanW w n 0) := rfl
  have p1 := put1 w n
  have p2 := put2 w n
  have p3 := put3 w n
  have p4 := put4 w n
  have p5 := put5 w n
  have p6 := put6 w n
  have p7 := put7 w n
  have p8 := put8 w n
  have p9 := put9 w n
  go_enter Try.func38, Try.ntmps38
  go_wp2
  go_ret
  exact ⟨rfl, rfl⟩

def lo (op : Int) : Int := if op = 1 ∨ op = 5 then 1 else 0
def hi (n op : Int) : Int := if op = 1 ∨ op = 5 then 65536 else if op = 2 ∨ op = 3 then 31 else if op = 4 then 15 else if op = 7 then 255 else if op = 8 then n - 1 else 0
def known (op : Int) : Bool := decide (1 ≤ op ∧ op ≤ 9)
theorem look_span (w : World) (b : Nat) (n op : Int) (hb : w.heap[b]? = some (.map (spanRow n).toArray 9)) :
    (Instr.lookup 69 (.map (some b)) (.int .i64 op) true).run Try.prog w = .ok (.tuple #[.agg #[.int .i64 (lo op), .int .i64 (hi n op)], .bool (known op)]) w := by
  have h1 := MapKept.run_checkKey (P := Try.prog) (w := w) (k := .int .i64 op) Try.underlying62 (by simp [MapKept.IsKey]) false 9999
  have hz : (zeroValue 72).run Try.prog w = .ok (.agg #[.int .i64 0, .int .i64 0]) w := by kernel_rfl
  have he : (spanRow n).toArray.isEmpty = false := rfl
  have key : ∃ a, Instr.findNow (.int .i64) (.int .i64 op) (spanRow n) 0 = some a ∧ ((a = none ∧ known op = false ∧ lo op = 0 ∧ hi n op = 0) ∨ ∃ i, a = some (i, .agg #[.int .i64 (lo op), .int .i64 (hi n op)]) ∧ known op = true) := by
    by_cases hk : 1 ≤ op ∧ op ≤ 9
    · have : op = 1 ∨ op = 2 ∨ op = 3 ∨ op = 4 ∨ op = 5 ∨ op = 6 ∨ op = 7 ∨ op = 8 ∨ op = 9 := by omega
      rcases this with rfl | rfl | rfl | rfl | rfl | rfl | rfl | rfl | rfl <;> exact ⟨_, rfl, .inr ⟨_, rfl, rfl⟩⟩
    · refine ⟨none, find_no _ _ _ (fun e he => ?_), .inl ⟨rfl, by simp [known]; omega, by simp [lo]; omega, ?_⟩⟩
      · simp only [spanRow, List.mem_cons, List.not_mem_nil, or_false] at he
        rcases he with rfl | rfl | rfl | rfl | rfl | rfl | rfl | rfl | rfl <;> exact ⟨_, rfl, by omega⟩
      · unfold hi
        rw [if_neg (by omega), if_neg (by omega), if_neg (by omega), if_neg (by omega), if_neg (by omega)]
  obtain ⟨a, ha, hk⟩ := key
  have h2 := MapKept.run_findKey (P := Try.prog) (w := w) Try.underlying62 ha
  rcases hk with ⟨rfl, q1, q2, q3⟩ | ⟨i, rfl, q1⟩
  · simp [Instr.lookup, run_underlying Try.underlying69, MapKept.run_getObj_map hb, he, h1, h2, hz, q1, q2, q3, Result.andThen]
  · simp [Instr.lookup, run_underlying Try.underlying69, MapKept.run_getObj_map hb, he, h1, h2, q1, Result.andThen]

theorem holds_ok (a b x : Int) (w : World) : Calls Try.prog 39 #[.agg #[.int .i64 a, .int .i64 b], .int .i64 x] w fun e w' => e = .returned (.bool (decide (a ≤ x ∧ x ≤ b))) ∧ Below w.heap.size w w' := by
  by_cases h1 : a ≤ x
  · by_cases h2 : x ≤ b
    · go_enter Try.func39, Try.ntmps39
      go_wp2
      go_ret
      exact ⟨by simp [h1, h2], (Below.refl _ _).alloc (Nat.le_refl _) _⟩
    · go_enter Try.func39, Try.ntmps39
      go_wp2
      go_ret
      exact ⟨by simp [h2], (Below.refl _ _).alloc (Nat.le_refl _) _⟩
  · go_enter Try.func39, Try.ntmps39
    go_wp2
    go_ret
    exact ⟨by simp; omega, (Below.refl _ _).alloc (Nat.le_refl _) _⟩
end Go.Proofs.Ytnnpbbiiapipaaa
