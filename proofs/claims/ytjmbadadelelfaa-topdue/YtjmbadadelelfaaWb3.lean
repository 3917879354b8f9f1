/- What fetch has gone through, said by the times that it has met. -/
import Derived.Test.YtjmbadadelelfaaWb2
import Derived.Sort.OwnSorted
namespace Go.Proofs.Ytjmbadadelelfaa
open Go.RowKit
set_option linter.unusedVariables false
set_option linter.unusedSimpArgs false
/-- The slots' ends, and the map, behind some times. -/
def ffF (to : Nat) (fr : Int → Option (Nat × Nat)) (ls : List Nat) : Nat → Nat := fun s => if to < to / 64 * 64 + s ∧ (to / 64 * 64 + s) ∈ ls then ((fr ((to / 64 * 64 + s : Nat) : Int)).getD (0, 0)).1 else 0
def ffL (to : Nat) (fr : Int → Option (Nat × Nat)) (ls : List Nat) : Nat → Nat := fun s => if to < to / 64 * 64 + s ∧ (to / 64 * 64 + s) ∈ ls then ((fr ((to / 64 * 64 + s : Nat) : Int)).getD (0, 0)).2 else 0
def frL (fr : Int → Option (Nat × Nat)) (ls : List Nat) : Int → Option (Nat × Nat) := fun i => if i ∈ ls.map (fun (k : Nat) => (k : Int)) then none else fr i
def dueL (to nw : Nat) (S : List It) (ls : List Nat) : List It := many nw S (ls.filter (fun k => decide (k ≤ to)))
section
variable {to nw : Nat} {fr : Int → Option (Nat × Nat)} {ls : List Nat} {t : Nat} {S : List It}
theorem ffF_low (h : t ≤ to) : ffF to fr (ls ++ [t]) = ffF to fr ls := by
  funext s
  unfold ffF
  by_cases h1 : to < to / 64 * 64 + s
  · by_cases h2 : (to / 64 * 64 + s) ∈ ls
    · rw [if_pos ⟨h1, List.mem_append_left _ h2⟩, if_pos ⟨h1, h2⟩]
    · rw [if_neg (fun q => by rcases List.mem_append.1 q.2 with e | e; exact h2 e; simp at e; omega), if_neg (fun q => h2 q.2)]
  · rw [if_neg (fun q => h1 q.1), if_neg (fun q => h1 q.1)]
theorem ffL_low (h : t ≤ to) : ffL to fr (ls ++ [t]) = ffL to fr ls := by
  funext s
  unfold ffL
  by_cases h1 : to < to / 64 * 64 + s
  · by_cases h2 : (to / 64 * 64 + s) ∈ ls
    · rw [if_pos ⟨h1, List.mem_append_left _ h2⟩, if_pos ⟨h1, h2⟩]
    · rw [if_neg (fun q => by rcases List.mem_append.1 q.2 with e | e; exact h2 e; simp at e; omega), if_neg (fun q => h2 q.2)]
  · rw [if_neg (fun q => h1 q.1), if_neg (fun q => h1 q.1)]
theorem ffF_high (h : to < t) (h2 : t / 64 = to / 64) : ffF to fr (ls ++ [t]) = upd (ffF to fr ls) (t % 64) ((fr (t : Int)).getD (0, 0)).1 := by
  funext s
  by_cases e : s = t % 64
  · subst e
    rw [upd_same]
    unfold ffF
    rw [show to / 64 * 64 + t % 64 = t by omega, if_pos ⟨h, by simp⟩]
  · rw [upd_other _ _ _ _ e]
    unfold ffF
    by_cases h1 : to < to / 64 * 64 + s
    · by_cases h3 : (to / 64 * 64 + s) ∈ ls
      · rw [if_pos ⟨h1, List.mem_append_left _ h3⟩, if_pos ⟨h1, h3⟩]
      · rw [if_neg (fun q => by rcases List.mem_append.1 q.2 with e' | e'; exact h3 e'; simp at e'; omega), if_neg (fun q => h3 q.2)]
    · rw [if_neg (fun q => h1 q.1), if_neg (fun q => h1 q.1)]
theorem ffL_high (h : to < t) (h2 : t / 64 = to / 64) : ffL to fr (ls ++ [t]) = upd (ffL to fr ls) (t % 64) ((fr (t : Int)).getD (0, 0)).2 := by
  funext s
  by_cases e : s = t % 64
  · subst e
    rw [upd_same]
    unfold ffL
    rw [show to / 64 * 64 + t % 64 = t by omega, if_pos ⟨h, by simp⟩]
  · rw [upd_other _ _ _ _ e]
    unfold ffL
    by_cases h1 : to < to / 64 * 64 + s
    · by_cases h3 : (to / 64 * 64 + s) ∈ ls
      · rw [if_pos ⟨h1, List.mem_append_left _ h3⟩, if_pos ⟨h1, h3⟩]
      · rw [if_neg (fun q => by rcases List.mem_append.1 q.2 with e' | e'; exact h3 e'; simp at e'; omega), if_neg (fun q => h3 q.2)]
    · rw [if_neg (fun q => h1 q.1), if_neg (fun q => h1 q.1)]
theorem frL_more : frL fr (ls ++ [t]) = setF (frL fr ls) (t : Int) none := by
  funext i
  unfold frL setF
  by_cases e : i = (t : Int)
  · rw [if_pos (by simp [e]), if_pos e]
  · rw [if_neg (c := i = (t : Int)) e]
    by_cases h : i ∈ ls.map (fun (k : Nat) => (k : Int))
    · show _ = if i ∈ ls.map (fun (k : Nat) => (k : Int)) then none else fr i
      rw [if_pos (by rw [List.map_append]; exact List.mem_append_left _ h), if_pos h]
    · show _ = if i ∈ ls.map (fun (k : Nat) => (k : Int)) then none else fr i
      rw [if_neg (fun q => by rw [List.map_append] at q; rcases List.mem_append.1 q with q | q; exact h q; simp at q; exact e q), if_neg h]
theorem frL_at (h : t ∉ ls) : frL fr ls (t : Int) = fr (t : Int) := by
  unfold frL
  refine if_neg (fun q => h ?_)
  obtain ⟨k, hk, e⟩ := List.mem_map.1 q
  obtain rfl : k = t := by omega
  exact hk
theorem dueL_low (h : t ≤ to) : dueL to nw S (ls ++ [t]) = dueL to nw S ls ++ grp nw S t := by
  unfold dueL many
  rw [List.filter_append, List.flatMap_append]
  simp [h]
theorem dueL_high (h : to < t) : dueL to nw S (ls ++ [t]) = dueL to nw S ls := by
  unfold dueL many
  rw [List.filter_append, List.flatMap_append]
  have : ¬ t ≤ to := by omega
  simp [this]
end
/-- Rows of times. -/
def uv (ts : List Nat) : List Value := ts.map (fun (x : Nat) => Value.int .u64 (x : Int))
theorem infoU64 : (Try.prog.info? 30).map (fun i => (i.zero, i.size, i.bytes)) = some (some (.int .u64 0), 1, 8) := by kernel_rfl
def lsD (D : Nat → Nat) (j : Nat) : List Nat := (List.range j).map D
theorem lsD_succ (D : Nat → Nat) (j : Nat) : lsD D (j + 1) = lsD D j ++ [D j] := by unfold lsD; rw [List.range_succ, List.map_append]; rfl
theorem mem_lsD {D : Nat → Nat} {j v : Nat} : v ∈ lsD D j ↔ ∃ a, a < j ∧ D a = v := by
  unfold lsD
  rw [List.mem_map]
  simp
theorem rowU_of {W : World} {base r cap n : Nat} {ts : List Nat} (h : W.ownsRow base 30 1 (.slice (some ⟨r, 0, none⟩) n cap) n (uv ts)) : RowU W r cap n (fun j => ts.getD j 0) ∧ ts.length = n ∧ base ≤ r := by
  obtain ⟨h1, h2⟩ := h
  have hlen : ts.length = n := by simpa [uv] using h1
  rcases h2 with ⟨e, _⟩ | ⟨g, c', cur, e, hb, hg, hn, hc, hs, ht⟩
  · cases e
  · cases e
    refine ⟨⟨cur, hg, by omega, fun j hj => ?_⟩, hlen, hb⟩
    have this : (cur.toList.take (n * 1))[j]? = (uv ts)[j]? := by rw [ht]
    rw [List.getElem?_take_of_lt (by omega), Array.getElem?_toList] at this
    rw [this]
    unfold uv
    rw [List.getElem?_map, List.getElem?_eq_getElem (by omega)]
    simp [List.getD, List.getElem?_eq_getElem (show j < ts.length by omega)]
end Go.Proofs.Ytjmbadadelelfaa
