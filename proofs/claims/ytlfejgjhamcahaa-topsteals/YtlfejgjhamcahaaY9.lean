/-
  What a set holds as one list in order, each id with its key: the heap's by deadlines, then the queue's by levels, falling; what becomes of it when one is put or taken out.
-/
import Derived.Test.YtlfejgjhamcahaaY8
import Derived.Test.YtlfejgjhamcahaaL1
namespace Go.Proofs.Ytlfejgjhamcahaa

def lvs (R : List (Nat × Nat)) (lv : Nat) : List En := (R.filter (fun it => it.2 == lv)).map (fun it => (it.1, Ke.fixK it.2))
/-- Those of the levels below k, falling. -/
def lev (R : List (Nat × Nat)) : Nat → List En
  | 0 => []
  | k + 1 => lvs R k ++ lev R k
def dl (L : List Ph.Item) : List En := L.map (fun x => (x.1, Ke.deadK x.2.1))
/-- All of a set, in order. -/
def all (R : List (Nat × Nat)) (L : List Ph.Item) : List En := dl L ++ lev R 256
theorem mem_lvs {R : List (Nat × Nat)} {lv : Nat} {y : En} : y ∈ lvs R lv ↔ (y.1, lv) ∈ R ∧ y.2 = Ke.fixK lv := by
  unfold lvs
  simp only [List.mem_map, List.mem_filter, beq_iff_eq]
  constructor
  · rintro ⟨it, ⟨h1, rfl⟩, rfl⟩; exact ⟨h1, rfl⟩
  · rintro ⟨h1, h2⟩
    exact ⟨(y.1, lv), ⟨h1, rfl⟩, by rw [← h2]⟩
theorem mem_lev {R : List (Nat × Nat)} {y : En} : ∀ {k : Nat}, y ∈ lev R k ↔ ∃ lv, lv < k ∧ (y.1, lv) ∈ R ∧ y.2 = Ke.fixK lv
  | 0 => by simp [lev]
  | k + 1 => by
    rw [lev, List.mem_append, mem_lvs, mem_lev]
    constructor
    · rintro (⟨a, b⟩ | ⟨lv, a, b⟩)
      · exact ⟨k, by omega, a, b⟩
      · exact ⟨lv, by omega, b⟩
    · rintro ⟨lv, a, b⟩
      rcases Nat.lt_or_ge lv k with q | q
      · exact .inr ⟨lv, q, b⟩
      · obtain rfl : lv = k := by omega
        exact .inl b
theorem mem_dl {L : List Ph.Item} {y : En} : y ∈ dl L ↔ ∃ d s, (y.1, d, s) ∈ L ∧ y.2 = Ke.deadK d := by
  unfold dl
  simp only [List.mem_map]
  constructor
  · rintro ⟨it, h, rfl⟩; exact ⟨it.2.1, it.2.2, h, rfl⟩
  · rintro ⟨d, s, h, e⟩; exact ⟨_, h, by rw [← e]⟩
theorem mem_all {R : List (Nat × Nat)} {L : List Ph.Item} {y : En} : y ∈ all R L ↔ (∃ d s, (y.1, d, s) ∈ L ∧ y.2 = Ke.deadK d) ∨ ∃ lv, lv < 256 ∧ (y.1, lv) ∈ R ∧ y.2 = Ke.fixK lv := by
  rw [all, List.mem_append, mem_dl, mem_lev]
theorem up_fd (l d : Int) : Ke.up (Ke.fixK l) (Ke.deadK d) = false := by simp [Ke.up, Ke.fixK, Ke.deadK]
theorem up_df (l d : Int) : Ke.up (Ke.deadK d) (Ke.fixK l) = true := by simp [Ke.up, Ke.fixK, Ke.deadK]
theorem up_ff (l k : Int) : Ke.up (Ke.fixK l) (Ke.fixK k) = decide (k < l) := by unfold Ke.up; rfl
theorem up_dd (l k : Int) : Ke.up (Ke.deadK l) (Ke.deadK k) = decide (l < k) := by unfold Ke.up; rfl

theorem lvs_app (R : List (Nat × Nat)) (id lv k : Nat) : lvs (R ++ [(id, lv)]) k = if lv = k then lvs R k ++ [(id, Ke.fixK lv)] else lvs R k := by
  unfold lvs
  rw [List.filter_append, List.map_append]
  by_cases h : lv = k
  · simp [h]
  · simp [h]
theorem lev_low (R : List (Nat × Nat)) (id lv : Nat) : ∀ k, k ≤ lv → lev (R ++ [(id, lv)]) k = lev R k
  | 0, _ => rfl
  | k + 1, h => by rw [lev, lev, lvs_app, if_neg (by omega), lev_low R id lv k (by omega)]
theorem put_lev (R : List (Nat × Nat)) (id lv : Nat) : ∀ k, lv < k → put (id, Ke.fixK lv) (lev R k) = lev (R ++ [(id, lv)]) k
  | 0, h => by omega
  | k + 1, h => by
    rw [lev, lev, lvs_app]
    have h1 : ∀ y ∈ lvs R k, Ke.up (Ke.fixK lv) y.2 = false := fun y hy => by
      rw [(mem_lvs.1 hy).2, up_ff]
      simp
      omega
    rw [put_skip _ _ _ h1]
    by_cases e : lv = k
    · subst e
      rw [if_pos rfl, lev_low R id lv lv (Nat.le_refl _), put_here _ _ (fun y hy => ?_)]
      · simp
      · obtain ⟨j, hj, _, e⟩ := mem_lev.1 hy
        rw [e, up_ff]
        simp
        omega
    · rw [if_neg e, put_lev R id lv k (by omega)]
theorem put_level (R : List (Nat × Nat)) (L : List Ph.Item) (id lv : Nat) (h : lv < 256) : put (id, Ke.fixK lv) (all R L) = all (R ++ [(id, lv)]) L := by
  unfold all
  rw [put_skip _ _ _ (fun y hy => ?_), put_lev R id lv 256 h]
  obtain ⟨d, s, _, e⟩ := mem_dl.1 hy
  rw [e]
  exact up_fd _ _
theorem put_dl (id d s : Nat) (B : List En) (hB : ∀ y ∈ B, Ke.up (Ke.deadK d) y.2 = true) : ∀ (L : List Ph.Item), (∀ y ∈ L, y.2.2 < s) → put (id, Ke.deadK d) (dl L ++ B) = dl (Ph.ins (id, d, s) L) ++ B
  | [], _ => by
    show put (id, Ke.deadK d) B = (id, Ke.deadK d) :: B
    exact put_here _ _ hB
  | x :: L, h => by
    have hx := h x (by simp)
    show put (id, Ke.deadK d) ((x.1, Ke.deadK x.2.1) :: (dl L ++ B)) = _
    simp only [put, Ph.ins]
    rw [up_dd]
    by_cases c : d < x.2.1
    · have c' : Ph.ah (id, d, s) x := .inl c
      rw [if_pos c', if_pos (by simpa using c)]
      rfl
    · have c' : ¬ Ph.ah (id, d, s) x := by
        unfold Ph.ah
        simp only
        omega
      rw [if_neg c', if_neg (by simpa using c), put_dl id d s B hB L (fun y hy => h y (by simp [hy]))]
      rfl
theorem put_dead (R : List (Nat × Nat)) (L : List Ph.Item) (id d s : Nat) (h : ∀ y ∈ L, y.2.2 < s) : put (id, Ke.deadK d) (all R L) = all R (Ph.ins (id, d, s) L) := by
  unfold all
  refine put_dl id d s _ (fun y hy => ?_) L h
  obtain ⟨j, hj, _, e⟩ := mem_lev.1 hy
  rw [e]
  exact up_df _ _

theorem cut_lvs (R : List (Nat × Nat)) (id lv : Nat) : cut id (lvs R lv) = lvs (R.filter (fun it => it.1 != id)) lv := by
  unfold cut lvs
  rw [List.filter_map, List.filter_filter, List.filter_filter]
  congr 1
  apply List.filter_congr
  intro a _
  exact Bool.and_comm _ _
theorem cut_lev (R : List (Nat × Nat)) (id : Nat) : ∀ k, cut id (lev R k) = lev (R.filter (fun it => it.1 != id)) k
  | 0 => rfl
  | k + 1 => by
    rw [lev, lev, ← cut_lev R id k, ← cut_lvs]
    exact List.filter_append ..
theorem cut_all (R : List (Nat × Nat)) (L : List Ph.Item) (id : Nat) : cut id (all R L) = all (R.filter (fun it => it.1 != id)) (Ph.out id L) := by
  unfold all
  rw [← cut_lev]
  have e : dl (Ph.out id L) = cut id (dl L) := by
    unfold dl cut Ph.out
    rw [List.filter_map]
    rfl
  rw [e]
  exact List.filter_append ..
theorem filter_miss {R : List (Nat × Nat)} {id : Nat} (h : ∀ it ∈ R, it.1 ≠ id) : R.filter (fun it => it.1 != id) = R := by
  rw [List.filter_eq_self]
  intro a ha
  simpa using h a ha
theorem filter_split {R1 R2 : List (Nat × Nat)} {id lv : Nat} (h : ((R1 ++ (id, lv) :: R2).map (·.1)).Nodup) : (R1 ++ (id, lv) :: R2).filter (fun it => it.1 != id) = R1 ++ R2 := by
  rw [List.map_append, List.map_cons, List.nodup_append] at h
  obtain ⟨_, h2, h3⟩ := h
  rw [List.nodup_cons] at h2
  rw [List.filter_append, List.filter_cons_of_neg (by simp), filter_miss, filter_miss]
  · intro it hit e
    exact h2.1 (List.mem_map.2 ⟨it, hit, e⟩)
  · intro it hit e
    exact h3 it.1 (List.mem_map.2 ⟨it, hit, rfl⟩) id (by simp) e
/-- The level that comes first. -/
theorem lev_first (R : List (Nat × Nat)) {y : En} {M : List En} : ∀ k, lev R k = y :: M → ∃ lv, lv < k ∧ (∃ rest, lvs R lv = y :: rest) ∧ ∀ j, lv < j → j < k → lvs R j = []
  | 0, h => by simp [lev] at h
  | k + 1, h => by
    rw [lev] at h
    cases hl : lvs R k with
    | nil =>
      rw [hl] at h
      obtain ⟨lv, h1, h2, h3⟩ := lev_first R k h
      refine ⟨lv, by omega, h2, fun j a b => ?_⟩
      rcases Nat.lt_or_ge j k with q | q
      · exact h3 j a q
      · obtain rfl : j = k := by omega
        exact hl
    | cons z rest =>
      rw [hl] at h
      injection h with h1 h2
      exact ⟨k, by omega, ⟨rest, by rw [hl, h1]⟩, fun j a b => by omega⟩
end Go.Proofs.Ytlfejgjhamcahaa
