/-
  prog: what stands ahead of the first wrong place, closed by an Exit (ProgFirst).
-/
import Derived.Test.YtnnpbbiiapipaaaO11
namespace Go.Proofs.Ytnnpbbiiapipaaa
open Go.RowKit Go.Lib

def cutO (O : Nat → Int) (j : Nat) (i : Nat) : Int := if i < j then O i else 9
def cutR (R : Nat → Int) (j : Nat) (i : Nat) : Int := if i < j then R i else 0
theorem cut_right {m j : Nat} {O R : Nat → Int} (hj : j < m) (hm : m ≤ 63) (h8 : ∀ i, i < m → O i ≠ 8) (h : ∀ i, i < j → okI m (O i) (R i) = true) : Chk (j + 1) (cutO O j) (cutR R j) 0 0 := by
  refine .inr (.inr (.inr ⟨by omega, by omega, fun i hi => ?_, .inr (by simp [cutO]), rfl, rfl⟩))
  by_cases q : i < j
  · simp only [cutO, cutR, if_pos q]
    rw [okI_other (n' := m) (h8 i (by omega))]
    exact h i q
  · simp only [cutO, cutR, if_neg q]
    exact okI_exit _
/-- The cells of a program, up to a place. -/
def pcells (O R : Nat → Int) : Nat → List Value
  | 0 => []
  | k + 1 => pcells O R k ++ [.int .i64 (O k), .int .i64 (R k)]
theorem pcells_length (O R : Nat → Int) : ∀ k, (pcells O R k).length = k * 2
  | 0 => rfl
  | k + 1 => by simp [pcells, pcells_length O R k]; omega
theorem pcells_at (O R : Nat → Int) : ∀ (k i : Nat), i < k → (pcells O R k)[i * 2]? = some (.int .i64 (O i)) ∧ (pcells O R k)[i * 2 + 1]? = some (.int .i64 (R i))
  | k + 1, i, h => by
    by_cases q : i = k
    · subst q
      simp only [pcells]
      constructor
      · rw [List.getElem?_append_right (by rw [pcells_length]; omega), pcells_length]
        simp
      · rw [List.getElem?_append_right (by rw [pcells_length]; omega), pcells_length]
        simp
    · have := pcells_at O R k i (by omega)
      simp only [pcells]
      rw [List.getElem?_append_left (by rw [pcells_length]; omega), List.getElem?_append_left (by rw [pcells_length]; omega)]
      exact this
theorem pcells_congr {O R O' R' : Nat → Int} : ∀ k, (∀ i, i < k → O i = O' i ∧ R i = R' i) → pcells O R k = pcells O' R' k
  | 0, _ => rfl
  | k + 1, h => by
    simp only [pcells]
    rw [pcells_congr k (fun i hi => h i (by omega)), (h k (by omega)).1, (h k (by omega)).2]
theorem pcells_cells {w : World} {lb off len : Nat} {O R : Nat → Int} (hc : ∀ j, j < len → w.cell? ⟨lb, off + j * 2, none⟩ = some (.int .i64 (O j)) ∧ w.cell? ⟨lb, off + j * 2 + 1, none⟩ = some (.int .i64 (R j))) :
    ∀ jj u, (pcells O R len)[jj]? = some u → w.cell? ((⟨lb, off, none⟩ : Addr).add jj) = some u := by
  intro jj u hu
  have hadd : (⟨lb, off, none⟩ : Addr).add jj = ⟨lb, off + jj, none⟩ := by unfold Addr.add; split <;> simp_all
  rw [hadd]
  have hlt : jj < len * 2 := by
    have := (List.getElem?_eq_some_iff.1 hu).1
    rwa [pcells_length] at this
  obtain ⟨i, hi⟩ : ∃ i, jj = i * 2 ∨ jj = i * 2 + 1 := ⟨jj / 2, by omega⟩
  have hil : i < len := by omega
  obtain ⟨p1, p2⟩ := pcells_at O R len i hil
  obtain ⟨q1, q2⟩ := hc i hil
  rcases hi with rfl | rfl
  · rw [p1] at hu; cases hu; exact q1
  · rw [p2] at hu; cases hu; rw [← Nat.add_assoc]; exact q2
theorem pcells_one (O R : Nat → Int) (k : Nat) : ∀ u ∈ pcells O R k, u.oneCell' = true := by
  induction k with
  | zero => intro u hu; cases hu
  | succ k ih =>
    intro u hu
    simp only [pcells, List.mem_append, List.mem_cons, List.not_mem_nil, or_false] at hu
    rcases hu with hu | rfl | rfl
    · exact ih u hu
    · rfl
    · rfl
/-- A row that the law made, as a program. -/
theorem prg_row {w : World} {base : Nat} {v : Value} {k : Nat} {O R : Nat → Int} (h : w.ownsRow base 64 2 v (k + 1) (pcells O R (k + 1))) : ∃ a cap, v = .slice a (k + 1) cap ∧ Prg w a (k + 1) O R := by
  rcases h.2 with ⟨_, h0⟩ | ⟨g, cap, cur, rfl, _, hb, _, _, _, ht⟩
  · omega
  · refine ⟨_, cap, rfl, .inr ⟨g, 0, rfl, (Array.getElem?_eq_some_iff.1 hb).1, fun j hj => ?_⟩⟩
    obtain ⟨p1, p2⟩ := pcells_at O R (k + 1) j hj
    have hz : ∀ i u, i < (k + 1) * 2 → (pcells O R (k + 1))[i]? = some u → w.cell? ⟨g, 0 + i, none⟩ = some u := by
      intro i u hi hu
      rw [← ht, List.getElem?_take_of_lt hi] at hu
      unfold World.cell?
      simp only [hb]
      simpa using hu
    refine ⟨hz _ _ (by omega) p1, ?_⟩
    have := hz (j * 2 + 1) _ (by omega) p2
    rw [← Nat.add_assoc] at this
    exact this
end Go.Proofs.Ytnnpbbiiapipaaa
