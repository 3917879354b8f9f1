/-
  Alloc by the least free place; Len and Same of the document's; what both tables answer alike.
-/
import Derived.Test.YtfhnepoegdhjmaaDoorT9
namespace Go.Proofs.YtfhnepoegdhjmaaDoor
open Go.RowKit Go.Lib
attribute [local go_sem ↓] Go.wp_at_zero Go.wp_at_succ

theorem pl_nil {S : Nat → Nat} {fr : Bool} {n : Nat} : ∀ k, k ≤ n → pl S fr n k = [] → ∀ j, j < k → ¬ (S j == 0) = fr
  | 0, _, _, j, hj => by omega
  | k + 1, hk, h, j, hj => by
    by_cases hs : (S k == 0) = fr
    · rw [pl_yes (by omega) hs] at h; simp at h
    · rw [pl_no hs] at h
      by_cases e : j = k
      · subst e; exact hs
      · exact pl_nil k (by omega) h j (by omega)
theorem pl_first {S : Nat → Nat} {fr : Bool} {n : Nat} {x : Fin n} : ∀ k, k ≤ n → [x] <+: pl S fr n k → x.val < k ∧ (S x.val == 0) = fr ∧ ∀ j, j < x.val → ¬ (S j == 0) = fr
  | 0, _, h => by simp [pl] at h
  | k + 1, hk, h => by
    by_cases hs : (S k == 0) = fr
    · rw [pl_yes (by omega) hs] at h
      by_cases he : pl S fr n k = []
      · rw [he] at h
        simp at h
        subst h
        exact ⟨by simp, hs, fun j hj => pl_nil k (by omega) he j hj⟩
      · have h2 : [x] <+: pl S fr n k := by
          obtain ⟨y, l, e⟩ := List.exists_cons_of_ne_nil he
          rw [e] at h ⊢
          simp at h ⊢
          exact h
        obtain ⟨a, b, c⟩ := pl_first k (by omega) h2
        exact ⟨by omega, b, c⟩
    · rw [pl_no hs] at h
      obtain ⟨a, b, c⟩ := pl_first k (by omega) h
      exact ⟨by omega, b, c⟩

section
variable {w : World} {b g n : Nat} {G S : Nat → Nat}
theorem alloc_some (h : Rep w b g n G S) (hG : ∀ x, x < n → G x + 1 < 4294967296) (x : Nat) (hx : x < n) (hs : S x = 0) (hf : ∀ j, j < x → S j ≠ 0) :
    Calls Tryd.prog 24 #[.pointer (some ⟨b, 0, none⟩)] w fun e w' => e = .returned (.tuple #[.agg #[.int .i64 (x : Int), .int .u32 ((G x + 1 : Nat) : Int)], .int .i64 0]) ∧ Rep w' b g n (upd G x (G x + 1)) (upd S x 1) ∧ Fr (fun k => k = g) w w' := by
  refine (callsIn_wide.1 (alloc_in b g n G S w h hG)).mono ?_
  rintro e w' (⟨y, h1, he, hr, hfr⟩ | ⟨h1, _⟩)
  · obtain ⟨q1, q2, q3⟩ := pl_first n (Nat.le_refl _) h1
    have q2' : S y.val = 0 := by simpa using q2
    have : y.val = x := by
      rcases Nat.lt_trichotomy y.val x with q | q | q
      · exact absurd q2' (hf _ q)
      · exact q
      · exact absurd (q3 x q) (by simp [hs])
    rw [this] at he hr
    exact ⟨he, hr, hfr⟩
  · exact absurd (pl_nil n (Nat.le_refl _) h1 x hx) (by simp [hs])
theorem alloc_full (h : Rep w b g n G S) (hG : ∀ x, x < n → G x + 1 < 4294967296) (hf : ∀ j, j < n → S j ≠ 0) :
    Calls Tryd.prog 24 #[.pointer (some ⟨b, 0, none⟩)] w fun e w' => e = .returned (.tuple #[.agg #[.int .i64 0, .int .u32 0], .int .i64 4]) ∧ Below w.heap.size w w' := by
  refine (callsIn_wide.1 (alloc_in b g n G S w h hG)).mono ?_
  rintro e w' (⟨y, h1, he, hr, hfr⟩ | ⟨_, he, hb⟩)
  · obtain ⟨q1, q2, q3⟩ := pl_first n (Nat.le_refl _) h1
    exact absurd (by simpa using q2) (hf y.val y.isLt)
  · exact ⟨he, hb⟩
/-- Is there a free place? The least one, or none. -/
theorem free_or (S : Nat → Nat) (n : Nat) : (∃ x, x < n ∧ S x = 0 ∧ ∀ j, j < x → S j ≠ 0) ∨ ∀ j, j < n → S j ≠ 0 := by
  induction n with
  | zero => exact .inr (fun j hj => by omega)
  | succ n ih =>
    rcases ih with ⟨x, a, b, c⟩ | h
    · exact .inl ⟨x, by omega, b, c⟩
    · by_cases hs : S n = 0
      · exact .inl ⟨n, by omega, hs, h⟩
      · refine .inr (fun j hj => ?_)
        by_cases e : j = n
        · subst e; exact hs
        · exact h j (by omega)
end

section
variable {w : World} {rb sb gb n : Nat} {G S : Nat → Nat}
set_option maxHeartbeats 1000000 in
theorem rlen_ok (h : RefR w rb sb gb n G S) :
    Calls Tryd.prog 28 #[.pointer (some ⟨rb, 0, none⟩)] w fun e w' => e = .returned (.int .i64 ((pl S false n n).length : Int)) ∧ Below w.heap.size w w' := by
  have HL := veil (rlive_ok h)
  have hl := pl_len S false n n
  have hn := h.n2
  clear h
  go_enter Tryd.func28, Tryd.ntmps28
  go_wp2_with (go_at_call 30; refine (HL.out).mono ?_; rintro e w1 ⟨v, rfl, ho, hb⟩; obtain ⟨a0, c0, rfl⟩ := owns_slice ho; have HB := veil hb; clear hb ho)
  go_ret
  exact ⟨rfl, HB.out⟩
end

/-- A row of ids at a slice. -/
def Ids (w : World) (v : Value) (k : Nat) (xs : List Value) : Prop := xs.length = k * 2 ∧ ∃ a c, v = .slice a k c ∧ (k = 0 ∨ ∃ g, a = some ⟨g, 0, none⟩ ∧ g < w.heap.size ∧ ∀ j, j < k * 2 → w.cell? ⟨g, j, none⟩ = xs[j]?)
theorem ids_of {w : World} {base : Nat} {v : Value} {k : Nat} {xs : List Value} (h : w.ownsRow base 25 2 v k xs) : Ids w v k xs := by
  refine ⟨h.1, ?_⟩
  rcases h.2 with ⟨e, e0⟩ | ⟨g, cap, cur, e, _, hg, _⟩
  · exact ⟨none, 0, by rw [e, e0], .inl e0⟩
  · refine ⟨_, cap, e, .inr ⟨g, rfl, (Array.getElem?_eq_some_iff.1 hg).1, fun j hj => ?_⟩⟩
    subst e
    exact h.cellAt j (by omega)
theorem Ids.below {w w' : World} {v : Value} {k : Nat} {xs : List Value} (h : Ids w v k xs) (hb : Below w.heap.size w w') : Ids w' v k xs := by
  obtain ⟨hl, a, c, hv, h0 | ⟨g, ha, hg, hc⟩⟩ := h
  · exact ⟨hl, a, c, hv, .inl h0⟩
  · exact ⟨hl, a, c, hv, .inr ⟨g, ha, Nat.lt_of_lt_of_le hg hb.size, fun j hj => (hb.cell (p := ⟨g, j, none⟩) hg).trans (hc j hj)⟩⟩
theorem idCells_at (G : Nat → Nat) {n : Nat} : ∀ (l : List (Fin n)) (i : Nat) (hi : i < l.length), (idCells G l)[i * 2]? = some (.int .i64 ((l[i]).val : Int)) ∧ (idCells G l)[i * 2 + 1]? = some (.int .u32 (G (l[i]).val : Int))
  | [], i, hi => by simp at hi
  | y :: l, 0, _ => ⟨rfl, rfl⟩
  | y :: l, i + 1, hi => by
    have := idCells_at G l i (by simpa using hi)
    have e : idCells G (y :: l) = .int .i64 (y.val : Int) :: .int .u32 (G y.val : Int) :: idCells G l := rfl
    rw [e, show (i + 1) * 2 = i * 2 + 2 by omega]
    exact this

set_option maxHeartbeats 2000000 in
theorem same_ids (w : World) (G : Nat → Nat) (n : Nat) (l : List (Fin n)) (v1 v2 : Value) (hl : l.length ≤ 1024) (h1 : Ids w v1 l.length (idCells G l)) (h2 : Ids w v2 l.length (idCells G l)) :
    Calls Tryd.prog 29 #[v1, v2] w fun e w' => e = .returned (.bool true) ∧ ∃ q, w' = w.drewN q := by
  obtain ⟨_, a1, c1, rfl, k1⟩ := h1
  obtain ⟨_, a2, c2, rfl, k2⟩ := h2
  have K1 := veil k1
  have K2 := veil k2
  clear k1 k2
  generalize hk : l.length = k at *
  go_enter Tryd.func29, Tryd.ntmps29
  go_wp2
  go_loopw [5] (fun i wr => ∃ j q : Nat, j ≤ k ∧ i = .int .i64 j ∧ wr = w.drewN q) (fun i _ => k - (intOf i).toNat)
  case atStart => exact ⟨0, 0, by omega, rfl, rfl⟩
  case round =>
    obtain ⟨j, q, hj, rfl, rfl⟩ := hrel
    by_cases hjk : j < k
    · rcases K1.out with h0 | ⟨g1, rfl, hg1, d1⟩
      · omega
      rcases K2.out with h0 | ⟨g2, rfl, hg2, d2⟩
      · omega
      obtain ⟨z0, z1⟩ := idCells_at G l j (by omega)
      have y0 := (d1 (j * 2) (by omega)).trans z0
      have y1 := (d1 (j * 2 + 1) (by omega)).trans z1
      have x0 := (d2 (j * 2) (by omega)).trans z0
      have x1 := (d2 (j * 2 + 1) (by omega)).trans z1
      generalize (l[j]'(by omega)).val = p at *
      clear d1 d2 z0 z1
      go_wp2
      go_quiet (fail)
      go_wp2
      go_roundw
      case rel => exact ⟨j + 1, _, by omega, by go_num, rfl⟩
      case measure => simp [intOf]; omega
    · go_wp2
      go_ret
      exact ⟨rfl, _, rfl⟩
end Go.Proofs.YtfhnepoegdhjmaaDoor
