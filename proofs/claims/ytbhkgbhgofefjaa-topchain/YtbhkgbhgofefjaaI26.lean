/- slices.Delete of one from a line: the row behind it. -/
import Derived.Test.YtbhkgbhgofefjaaI25
namespace Go.Proofs.Ytbhkgbhgofefjaa
open Go.RowKit Go.Lib Go.Shelf
set_option linter.unusedVariables false
theorem del_ok {w : World} {base g cap p : Nat} {l : List Nat} (h : w.ownsRow base 3 1 (.slice (some ⟨g, 0, none⟩) l.length cap) l.length (ints l)) (hp : p < l.length) :
    Calls Try.prog 51 #[.slice (some ⟨g, 0, none⟩) l.length cap, .int .i64 (p : Int), .int .i64 ((p : Int) + 1)] w fun e w' => e = .returned (.slice (some ⟨g, 0, none⟩) (l.eraseIdx p).length cap) ∧
      w'.ownsRow base 3 1 (.slice (some ⟨g, 0, none⟩) (l.eraseIdx p).length cap) (l.eraseIdx p).length (ints (l.eraseIdx p)) ∧ Fr (fun b => b = g) w w' ∧ w'.heap.size = w.heap.size := by
  have hfz := frozen_row h
  have hcell : ∀ (j x : Nat), l[j]? = some x → w.cell? ⟨g, j, none⟩ = some (.int .i64 (x : Int)) := by
    intro j x hx
    have hj := (List.getElem?_eq_some_iff.1 hx).1
    rw [h.cellAt j (by omega)]
    simp [ints, hx]
  have hown := h
  rcases h.2 with ⟨e, _⟩ | ⟨g', cap', cur, e, h0, hg, h1, h2, h4, h5⟩
  · simp at e
  simp at e
  obtain ⟨rfl, rfl⟩ := e
  have hH : Sort.Holds (fun (t : Nat) => Value.int .i64 (t : Int)) w g 0 l.toArray := by
    intro j hj
    have hj' : j < l.length := by simpa using hj
    refine ⟨?_, hfz _⟩
    rw [Nat.zero_add, getElem!_pos l.toArray j hj]
    exact hcell j _ (by simp [hj'])
  obtain ⟨i0, hi, hz0, hz1, hz2⟩ := info_parts infoInt
  have C := AnyE.slices_Delete laysD (fun (t : Nat) => Value.int .i64 (t : Int)) (fun _ => rfl) 0 (Try.zeroValue3) i0 hi hz1 g 0 cap p (p + 1) l.toArray w hH (by simpa using h1) (by simpa [maxLen] using h2) (by omega) (by simp; omega)
  have elen : (l.eraseIdx p).length = l.length - 1 := by rw [List.length_eraseIdx, if_pos hp]
  have ef : renD.f 45 = 51 := rfl
  rw [ef] at C
  refine Calls.mono (R := _) (by simpa using C) ?_
  rintro e w' ⟨rfl, q, rfl⟩
  have eD : l.take p ++ l.drop (p + 1) = l.eraseIdx p := (List.eraseIdx_eq_take_drop_succ l p).symm
  have hheap : ∀ b, (Sort.putRow (fun (t : Nat) => Value.int .i64 (t : Int)) (Sort.ahead w q) g 0 (l.take p ++ (l.drop (p + 1) ++ [0])).toArray).heap[b]? = if g = b then some (.cells (Sort.putCells (fun (t : Nat) => Value.int .i64 (t : Int)) 0 (l.take p ++ (l.drop (p + 1) ++ [0])).toArray cur) 3 (0, 0)) else w.heap[b]? := by
    intro b
    show (w.heap.modify g _)[b]? = _
    rw [Array.getElem?_modify]
    by_cases hb : g = b
    · subst hb
      rw [if_pos rfl, if_pos rfl, hg]
      rfl
    · rw [if_neg hb, if_neg hb]
  have hsz : (Sort.putRow (fun (t : Nat) => Value.int .i64 (t : Int)) (Sort.ahead w q) g 0 (l.take p ++ (l.drop (p + 1) ++ [0])).toArray).heap.size = w.heap.size := by
    show (w.heap.modify g _).size = _
    simp
  refine ⟨by rw [elen], ?_, ?_, hsz⟩
  · refine ⟨by simp [ints], .inr ⟨g, cap, Sort.putCells (fun (t : Nat) => Value.int .i64 (t : Int)) 0 (l.take p ++ (l.drop (p + 1) ++ [0])).toArray cur, rfl, h0, by rw [hheap, if_pos rfl], by omega, h2, by simp [Sort.putCells, h4], ?_⟩⟩
    apply List.ext_getElem?
    intro k
    rw [Nat.mul_one, List.getElem?_take]
    by_cases hk : k < (l.eraseIdx p).length
    · rw [if_pos hk]
      have hkc : k < cur.size := by rw [h4]; omega
      have hkD : k < (l.take p ++ (l.drop (p + 1) ++ [0])).length := by rw [← List.append_assoc, eD]; simp; omega
      simp only [Sort.putCells, Array.getElem?_toList, Array.getElem?_mapIdx, Array.getElem?_eq_getElem hkc, Option.map_some, ints, List.getElem?_map]
      rw [if_pos ⟨by omega, by simpa using hkD⟩, Nat.sub_zero, getElem!_pos _ k (by simpa using hkD)]
      have e1 : (l.take p ++ (l.drop (p + 1) ++ [0]))[k]? = (l.eraseIdx p)[k]? := by rw [← List.append_assoc, eD, List.getElem?_append_left hk]
      rw [← e1, List.getElem?_eq_getElem hkD]
      simp
    · rw [if_neg hk, eq_comm, List.getElem?_eq_none_iff]
      simp [ints]
      omega
  · exact ⟨rfl, rfl, rfl, by rw [hsz]; exact Nat.le_refl _, fun b _ hb => by rw [hheap, if_neg (fun q => hb q.symm)]⟩
end Go.Proofs.Ytbhkgbhgofefjaa
