/-
  The walks of the program's queue: what is refused, Pop and Top of an empty one, Remove, Level.
-/
import Derived.Test.YtbefehoegmmgpaaQ11
import Derived.Deep.RegionHeld3
import Derived.Lib.SmallJoins
namespace Go.Proofs.Ytbefehoegmmgpaa.Bq
open Go.RowKit

section
variable {w : World} {b g n : Nat} {R R1 R2 : List (Nat × Nat)} {id lv : Nat}
theorem IsQ.sl (h : IsQ w b g n R) : ∃ cp, w.cell? ⟨b, 516, none⟩ = some (.slice (some ⟨g, 0, none⟩) (n + 1) cp) := by
  obtain ⟨hn, F, L, m, c, A, B, V, T, hr, hv⟩ := h
  exact hr.sl
theorem may_no (h : IsQ w b g n R) (id : Int) (hi : id < 0 ∨ (n : Int) ≤ id) :
    Calls Try.prog 68 #[.pointer (some ⟨b, 0, none⟩), .int .i64 id] w fun e w' => e = .returned (.bool false) ∧ w' = w := by
  obtain ⟨cp, e0⟩ := h.sl
  have hn := h.len_le.2
  clear h
  by_cases h0 : id < 0
  · go_enter Try.func68, Try.ntmps68
    go_wp2
    go_ret
    exact ⟨rfl, rfl⟩
  · have h1 : ¬ id < (n : Int) := by omega
    have h2 : (n : Int) ≤ id := by omega
    clear hi
    go_enter Try.func68, Try.ntmps68
    go_wp2
    go_ret
    exact ⟨by simp, rfl⟩
theorem may_ok (h : IsQ w b g n R) (hi : id < n) :
    Calls Try.prog 68 #[.pointer (some ⟨b, 0, none⟩), .int .i64 id] w fun e w' => e = .returned (.bool true) ∧ w' = w := by
  obtain ⟨hn, F, L, m, c, A, B, V, T, hr, hv⟩ := h
  exact may_yes hr id hn hi
theorem push_range (h : IsQ w b g n R) (lv : Nat) (id : Int) (hi : id < 0 ∨ (n : Int) ≤ id) :
    Calls Try.prog 74 #[.pointer (some ⟨b, 0, none⟩), .int .u8 lv, .int .i64 id] w fun e w' => e = .returned (.int .i64 2) ∧ w' = w := by
  have HM := veil (may_no h id hi)
  clear h hi
  go_enter Try.func74, Try.ntmps74
  go_wp2_with (go_at_call 68; refine (HM.out).mono ?_; rintro e w' ⟨rfl, hw⟩; subst hw)
  go_ret
  exact ⟨rfl, rfl⟩
theorem remove_range (h : IsQ w b g n R) (id : Int) (hi : id < 0 ∨ (n : Int) ≤ id) :
    Calls Try.prog 50 #[.pointer (some ⟨b, 0, none⟩), .int .i64 id] w fun e w' => e = .returned (.int .i64 2) ∧ w' = w := by
  have HM := veil (may_no h id hi)
  clear h hi
  go_enter Try.func50, Try.ntmps50
  go_wp2_with (go_at_call 68; refine (HM.out).mono ?_; rintro e w' ⟨rfl, hw⟩; subst hw)
  go_ret
  exact ⟨rfl, rfl⟩
theorem level_range (h : IsQ w b g n R) (id : Int) (hi : id < 0 ∨ (n : Int) ≤ id) :
    Calls Try.prog 57 #[.pointer (some ⟨b, 0, none⟩), .int .i64 id] w fun e w' => e = .returned (.tuple #[.int .u8 0, .bool false]) ∧ w' = w := by
  have HM := veil (may_no h id hi)
  clear h hi
  go_enter Try.func57, Try.ntmps57
  go_wp2_with (go_at_call 68; refine (HM.out).mono ?_; rintro e w' ⟨rfl, hw⟩; subst hw)
  go_ret2
  exact ⟨rfl, rfl⟩
theorem IsQ.link (h : IsQ w b g n R) (hi : id < n) : ∃ (lv : Nat) (t : Bool), w.cell? ⟨g, (id + 1) * 4 + 2, none⟩ = some (.int .u8 lv) ∧ w.cell? ⟨g, (id + 1) * 4 + 3, none⟩ = some (.bool t) ∧ (t = true → (id, lv) ∈ R) ∧ (t = false → lv = 0 ∧ ∀ it ∈ R, it.1 ≠ id) ∧
    ∃ x y : Nat, w.cell? ⟨g, (id + 1) * 4, none⟩ = some (.int .i64 x) ∧ w.cell? ⟨g, (id + 1) * 4 + 1, none⟩ = some (.int .i64 y) := by
  obtain ⟨hn, F, L, m, c, A, B, V, T, hr, hv⟩ := h
  refine ⟨V (id + 1), T (id + 1), hr.lv (id + 1) (by omega), hr.lt (id + 1) (by omega), fun ht => ?_, fun ht => ?_, A (id + 1), B (id + 1), hr.la (id + 1) (by omega), hr.lb (id + 1) (by omega)⟩
  · obtain ⟨it, a, e⟩ := (hv.there (id + 1) (by omega)).1 ht
    have := hv.lev it a
    have e2 : it.1 = id := by omega
    rw [e2] at this
    rw [this, ← e2]
    exact a
  · refine ⟨hv.nolev (id + 1) (by omega) ht, fun it hit e => ?_⟩
    have := (hv.there (id + 1) (by omega)).2 ⟨it, hit, by omega⟩
    rw [ht] at this
    cases this
theorem push_known (h : IsQ w b g n (R1 ++ (id, lv) :: R2)) (l0 : Nat) :
    Calls Try.prog 74 #[.pointer (some ⟨b, 0, none⟩), .int .u8 l0, .int .i64 id] w fun e w' => e = .returned (.int .i64 5) ∧ w' = w := by
  have hi := (h.rng (id, lv) (by simp)).1
  have HM := veil (may_ok h hi)
  obtain ⟨l, t, _, e1, _, ht, _⟩ := h.link hi
  obtain ⟨cp, e0⟩ := h.sl
  have hn := h.len_le.2
  have tt : t = true := by
    cases t with
    | true => rfl
    | false => exact absurd rfl ((ht rfl).2 (id, lv) (by simp))
  subst tt
  clear h ht
  go_enter Try.func74, Try.ntmps74
  go_wp2_with (go_at_call 68; refine (HM.out).mono ?_; rintro e w' ⟨rfl, hw⟩; subst hw)
  go_ret
  exact ⟨rfl, rfl⟩
theorem remove_none (h : IsQ w b g n R) (hi : id < n) (hid : ∀ it ∈ R, it.1 ≠ id) :
    Calls Try.prog 50 #[.pointer (some ⟨b, 0, none⟩), .int .i64 id] w fun e w' => e = .returned (.int .i64 6) ∧ w' = w := by
  have HM := veil (may_ok h hi)
  obtain ⟨l, t, _, e1, ht, _, _⟩ := h.link hi
  obtain ⟨cp, e0⟩ := h.sl
  have hn := h.len_le.2
  have tt : t = false := by
    cases t with
    | false => rfl
    | true => exact absurd rfl (hid _ (ht rfl))
  subst tt
  clear h ht hid
  go_enter Try.func50, Try.ntmps50
  go_wp2_with (go_at_call 68; refine (HM.out).mono ?_; rintro e w' ⟨rfl, hw⟩; subst hw)
  go_ret
  exact ⟨rfl, rfl⟩
theorem remove_some (h : IsQ w b g n (R1 ++ (id, lv) :: R2)) :
    Calls Try.prog 50 #[.pointer (some ⟨b, 0, none⟩), .int .i64 id] w fun e w' => e = .returned (.int .i64 0) ∧ IsQ w' b g n (R1 ++ R2) ∧ Only b g w w' := by
  have hi := (h.rng (id, lv) (by simp)).1
  have HM := veil (may_ok h hi)
  have HU := veil (untie_any w b g n R1 R2 id lv h)
  obtain ⟨l, t, _, e1, _, ht, _⟩ := h.link hi
  obtain ⟨cp, e0⟩ := h.sl
  have hn := h.len_le.2
  have tt : t = true := by
    cases t with
    | true => rfl
    | false => exact absurd rfl ((ht rfl).2 (id, lv) (by simp))
  subst tt
  clear h ht
  go_enter Try.func50, Try.ntmps50
  go_wp2_with (first
    | (go_at_call 68; refine (HM.out).mono ?_; rintro e w' ⟨rfl, hw⟩; replace hw := hw.symm; subst hw)
    | (go_at_call 69; refine (HU.out).mono ?_; rintro e w' ⟨rfl, hq, ho⟩; have HQ := veil hq; have HO := veil ho; clear hq ho))
  go_ret
  exact ⟨rfl, HQ.out, HO.out⟩
theorem level_none (h : IsQ w b g n R) (hi : id < n) (hid : ∀ it ∈ R, it.1 ≠ id) :
    Calls Try.prog 57 #[.pointer (some ⟨b, 0, none⟩), .int .i64 id] w fun e w' => e = .returned (.tuple #[.int .u8 0, .bool false]) ∧ Below w.heap.size w w' := by
  have HM := veil (may_ok h hi)
  obtain ⟨l, t, e2, e1, ht, ht', x, y, e3, e4⟩ := h.link hi
  obtain ⟨cp, e0⟩ := h.sl
  have hn := h.len_le.2
  have tt : t = false := by
    cases t with
    | false => rfl
    | true => exact absurd rfl (hid _ (ht rfl))
  subst tt
  obtain ⟨rfl, _⟩ := ht' rfl
  clear h ht hid ht'
  go_enter Try.func57, Try.ntmps57
  go_wp2_with (go_at_call 68; refine (HM.out).mono ?_; rintro e w' ⟨rfl, hw⟩; replace hw := hw.symm; subst hw)
  go_quiet (fail)
  go_wp2
  go_ret2
  exact ⟨rfl, below_drewN ((Below.refl _ _).alloc (Nat.le_refl _) _) _⟩
theorem level_some (h : IsQ w b g n (R1 ++ (id, lv) :: R2)) :
    Calls Try.prog 57 #[.pointer (some ⟨b, 0, none⟩), .int .i64 id] w fun e w' => e = .returned (.tuple #[.int .u8 lv, .bool true]) ∧ Below w.heap.size w w' := by
  have hi := (h.rng (id, lv) (by simp)).1
  have HM := veil (may_ok h hi)
  obtain ⟨l, t, e2, e1, ht, ht', x, y, e3, e4⟩ := h.link hi
  obtain ⟨cp, e0⟩ := h.sl
  have hn := h.len_le.2
  have tt : t = true := by
    cases t with
    | true => rfl
    | false => exact absurd rfl ((ht' rfl).2 (id, lv) (by simp))
  subst tt
  have hl : l = lv := by
    have hm := ht rfl
    obtain ⟨hn, F, L, m, c, A, B, V, T, hr, hv⟩ := h
    have a1 := hv.lev _ hm
    have a2 := hv.lev (id, lv) (by simp)
    simp only at a1 a2
    omega
  subst hl
  clear h ht ht'
  go_enter Try.func57, Try.ntmps57
  go_wp2_with (go_at_call 68; refine (HM.out).mono ?_; rintro e w' ⟨rfl, hw⟩; replace hw := hw.symm; subst hw)
  go_quiet (fail)
  go_wp2
  go_ret2
  exact ⟨rfl, below_drewN ((Below.refl _ _).alloc (Nat.le_refl _) _) _⟩
end
end Go.Proofs.Ytbefehoegmmgpaa.Bq
