/-
  Min and Take over what a heap holds.
-/
import Derived.Test.YtbefehoegmmgpaaP23
namespace Go.Proofs.Ytbefehoegmmgpaa.Ph
open Go.RowKit

/-- id is the first of what m holds: nothing else is before it. -/
def First (n : Nat) (m : Nat → Option (Nat × Nat)) (id : Nat) : Prop :=
  id < n ∧ ∃ d s, m id = some (d, s) ∧ ∀ j d' s', j < n → m j = some (d', s') → d < d' ∨ (d = d' ∧ (s < s' ∨ (s = s' ∧ id ≤ j)))

section
variable {w : World} {b g n : Nat} {D S I : Nat → Nat} {T : Nat → Bool} {t : BT} {m : Nat → Option (Nat × Nat)}
theorem first_root (h : HeapAt w b g n D S I T t) (hm : ∀ i, i < n → m i = if T (i + 1) then some (D (i + 1), S (i + 1)) else none) (ht : t.spots ≠ []) : I t.root + 1 = t.root ∧ t.root ∈ t.spots ∧ First n m (I t.root) := by
  cases t with
  | nil => exact absurd rfl ht
  | node rt c y =>
    cases y with
    | node _ _ _ => have := h.wd; simp [BT.wide] at this
    | nil =>
      have hid := h.id rt (by simp [BT.spots])
      have hle := h.sp.le rt (by simp [BT.spots])
      refine ⟨hid, by simp [BT.spots, BT.root], ?_⟩
      show First n m (I rt)
      have hlt : I rt < n := by omega
      have hT : T (I rt + 1) = true := by rw [hid]; exact (h.th rt hle.2).2 (by simp [BT.spots])
      have hv := hm (I rt) hlt
      rw [hT, if_pos rfl] at hv
      refine ⟨hlt, _, _, hv, fun j d' s' hj hmj => ?_⟩
      rw [hm j hj] at hmj
      have hTj : T (j + 1) = true := by
        cases hh : T (j + 1) with
        | true => rfl
        | false => rw [hh] at hmj; exact absurd hmj (by simp)
      rw [hTj, if_pos rfl] at hmj
      injection hmj with hmj
      injection hmj with e1 e2
      have hjs := (h.th (j + 1) (by omega)).1 hTj
      rw [hid]
      simp only [BT.spots, List.append_nil, List.mem_cons] at hjs
      rcases hjs with e | hjs
      · rw [e] at e1 e2; omega
      · have hl := le_iff.1 (h.od.1 (j + 1) hjs)
        have hij := h.id (j + 1) (by simp [BT.spots, hjs])
        omega
theorem min_ok (h : Holds w b g n m t) (ht : t.spots ≠ []) :
    Calls Try.prog 66 #[.pointer (some ⟨b, 0, none⟩)] w fun e w' => ∃ id : Nat, First n m id ∧ e = .returned (.tuple #[.int .i64 (id : Int), .bool true]) ∧ ∃ q, w' = w.drewN q := by
  obtain ⟨D, S, I, T, h1, h2, h3, h4⟩ := h
  obtain ⟨k1, k2, k3⟩ := first_root h1 h3 ht
  obtain ⟨C, A, B, hR, _⟩ := h1.lk
  have hle := h1.sp.le _ k2
  refine (min_walk hR hle.1 hle.2).mono ?_
  rintro e w' ⟨he, hq⟩
  exact ⟨_, k3, he, hq⟩
theorem take_ok (h : Holds w b g n m t) (ht : t.spots ≠ []) :
    Calls Try.prog 55 #[.pointer (some ⟨b, 0, none⟩)] w fun e w' => ∃ id : Nat, First n m id ∧ e = .returned (.tuple #[.int .i64 (id : Int), .bool true]) ∧ ∃ t', ((id + 1) :: t'.spots).Perm t.spots ∧ Holds w' b g n (upd m id none) t' ∧ Only b g w w' := by
  obtain ⟨D, S, I, T, h1, h2, h3, h4⟩ := h
  obtain ⟨k1, k2, k3⟩ := first_root h1 h3 ht
  obtain ⟨C, A, B, hR, hrow, hB⟩ := h1.lk
  have hle := h1.sp.le _ k2
  have hcast : ((I t.root : Int) + 1) = ((I t.root + 1 : Nat) : Int) := by omega
  refine (take_walk hR hle.1 hle.2 h2 k1 (fun w' => ∃ t', ((I t.root + 1) :: t'.spots).Perm t.spots ∧ Holds w' b g n (upd m (I t.root) none) t' ∧ Only b g w w') (fun q => ?_)).mono ?_
  · have h1q : HeapAt (w.drewN q) b g n D S I T t := ⟨⟨C, A, B, hR.drewN q, hrow, hB⟩, h1.wd, h1.od, h1.sp, h1.th, h1.id⟩
    rw [hcast]
    refine (remove_any h1q h2 (I t.root + 1) (by rw [k1]; exact k2)).mono ?_
    rintro e w' ⟨he, t', p, hh, o⟩
    exact ⟨he, t', p, ⟨_, _, _, _, hh, h2, wiped_m h3, h4.cut⟩, ((Only.refl b g w).drewN q).trans o⟩
  · rintro e w' ⟨he, hh⟩
    exact ⟨_, k3, he, hh⟩
end
end Go.Proofs.Ytbefehoegmmgpaa.Ph
