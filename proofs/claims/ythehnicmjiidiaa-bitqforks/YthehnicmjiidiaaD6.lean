/-
  The walks of the document's queue: Top, Pop, Remove; the program's: what is refused, Remove.
-/
import Derived.Test.YthehnicmjiidiaaD5
namespace Go.Proofs.Ythehnicmjiidiaa
open Go.RowKit Go.Lib

section
variable {w : World} {base rb n : Nat} {v : Value} {R R1 R2 : List (Nat × Nat)} {id lv : Nat}
theorem rtop_none (h : IsRef w base rb n v []) :
    Calls Try.prog 42 #[.pointer (some ⟨rb, 0, none⟩)] w fun e w' => e = .returned (.int .i64 (-1)) ∧ w' = w := by
  obtain ⟨a, cap, rfl, _⟩ := h.form
  exact top_empty w rb cap a h.c1
theorem rtop_some (h : IsRef w base rb n v (R1 ++ (id, lv) :: R2)) (hlo : ∀ it ∈ R1, it.2 < lv) (hhi : ∀ it ∈ R2, it.2 ≤ lv) :
    Calls Try.prog 42 #[.pointer (some ⟨rb, 0, none⟩)] w fun e w' => e = .returned (.int .i64 (R1.length : Int)) ∧ ∃ q, w' = w.drewN q := by
  obtain ⟨g, cap, rfl, h1, h2, h3, h4, h5⟩ := h.cells (by simp)
  have hL : (R1 ++ (id, lv) :: R2).length = R1.length + R2.length + 1 := by simp; omega
  refine (top_walk w rb g (R1 ++ (id, lv) :: R2).length cap (fun j => ((R1 ++ (id, lv) :: R2).getD j (0, 0)).2) (by omega) h.c1 h.len_le (fun j hj => by
      have e : (R1 ++ (id, lv) :: R2)[j]? = some ((R1 ++ (id, lv) :: R2).getD j (0, 0)) := by rw [List.getD, List.getElem?_eq_getElem hj]; rfl
      exact (h5 j _ e).2)).mono ?_
  rintro e w' ⟨⟨t, rfl, ht, hlt, hle⟩, q, hq⟩
  refine ⟨?_, q, hq⟩
  have hmid : ((R1 ++ (id, lv) :: R2).getD R1.length (0, 0)).2 = lv := by simp [List.getD]
  have : t = R1.length := by
    rcases Nat.lt_trichotomy t R1.length with q | q | q
    · have a1 := hle R1.length (by omega) (by omega)
      have a2 : ((R1 ++ (id, lv) :: R2).getD t (0, 0)).2 < lv := hlo _ (by rw [List.getD, List.getElem?_append_left q]; simp [q])
      simp only [hmid] at a1
      omega
    · exact q
    · have a1 := hlt R1.length q
      have a2 : ((R1 ++ (id, lv) :: R2).getD t (0, 0)).2 ≤ lv := by
        refine hhi _ ?_
        rw [List.getD, List.getElem?_append_right (by omega), show t - R1.length = (t - R1.length - 1) + 1 by omega, List.getElem?_cons_succ]
        have : t - R1.length - 1 < R2.length := by omega
        simp [this]
      simp only [hmid] at a1
      omega
  rw [this]
theorem rTop_none (h : IsRef w base rb n v []) :
    Calls Try.prog 28 #[.pointer (some ⟨rb, 0, none⟩)] w fun e w' => e = .returned (.tuple #[.int .u8 0, .int .i64 0, .bool false]) ∧ w' = w := by
  have HT := veil (rtop_none h)
  clear h
  go_enter Try.func28, Try.ntmps28
  go_wp2_with (go_at_call 42; refine (HT.out).mono ?_; rintro e w1 ⟨rfl, hw⟩; subst hw)
  go_ret3
  exact ⟨rfl, rfl⟩
set_option maxHeartbeats 1000000 in
theorem rTop_some (h : IsRef w base rb n v (R1 ++ (id, lv) :: R2)) (hlo : ∀ it ∈ R1, it.2 < lv) (hhi : ∀ it ∈ R2, it.2 ≤ lv) :
    Calls Try.prog 28 #[.pointer (some ⟨rb, 0, none⟩)] w fun e w' => e = .returned (.tuple #[.int .u8 lv, .int .i64 id, .bool true]) ∧ ∃ q, w' = w.drewN q := by
  have HT := veil (rtop_some h hlo hhi)
  obtain ⟨g, cap, rfl, h1, h2, h3, h4, h5⟩ := h.cells (by simp)
  have e1 := h.c1
  have hlen := h.len_le
  have hL : (R1 ++ (id, lv) :: R2).length = R1.length + R2.length + 1 := by simp; omega
  rw [hL] at e1 hlen h1
  obtain ⟨e2, e3⟩ := h5 R1.length (id, lv) (by simp)
  clear h h5 hL hlo hhi
  generalize R1.length = k at *
  generalize hLL : k + R2.length + 1 = L at *
  have b1 : (0 : Int) ≤ (k : Int) := by omega
  have b2 : (k : Int) < (L : Int) := by omega
  have b3 : k < L := by omega
  go_enter Try.func28, Try.ntmps28
  go_wp2_with (go_at_call 42; refine (HT.out).mono ?_; rintro e w1 ⟨rfl, q, hw⟩; subst hw)
  go_quiet (fail)
  go_wp2
  go_ret3
  exact ⟨rfl, _, World.drewN_drewN _ _ _⟩
theorem rPop_none (h : IsRef w base rb n v []) :
    Calls Try.prog 40 #[.pointer (some ⟨rb, 0, none⟩)] w fun e w' => e = .returned (.tuple #[.int .u8 0, .int .i64 0, .bool false]) ∧ w' = w := by
  have HT := veil (rTop_none h)
  clear h
  go_enter Try.func40, Try.ntmps40
  go_wp2_with (go_at_call 28; refine (HT.out).mono ?_; rintro e w1 ⟨rfl, hw⟩; subst hw)
  go_ret3
  exact ⟨rfl, rfl⟩
theorem IsRef.drewN (h : IsRef w base rb n v R) (q : Nat) : IsRef (w.drewN q) base rb n v R := h.frame (S := fun _ => False) ((Fr.refl _ _).drewN q) (fun q => q) (fun _ _ q => q)
theorem rPop_some (h : IsRef w base rb n v (R1 ++ (id, lv) :: R2)) (hlo : ∀ it ∈ R1, it.2 < lv) (hhi : ∀ it ∈ R2, it.2 ≤ lv) :
    Calls Try.prog 40 #[.pointer (some ⟨rb, 0, none⟩)] w fun e w' => e = .returned (.tuple #[.int .u8 lv, .int .i64 id, .bool true]) ∧ (∃ v', IsRef w' base rb n v' (R1 ++ R2)) ∧ Fr (fun k => k = rb) w w' := by
  have HT := veil (rTop_some h hlo hhi)
  have Ht := veil (fun q => rtop_some (h.drewN q) hlo hhi)
  have HO := veil (fun q => rout_ok (h.drewN q))
  have hlen : R1.length ≤ 1024 := by have := h.len_le; simp at this; omega
  clear h hlo hhi
  go_enter Try.func40, Try.ntmps40
  go_wp2_with (first
    | (go_at_call 28; refine (HT.out).mono ?_; rintro e w1 ⟨rfl, q1, hw⟩; subst hw)
    | (go_at_call 42; refine (Ht.out _).mono ?_; rintro e w1 ⟨rfl, q2, hw⟩; rw [World.drewN_drewN] at hw; subst hw)
    | (go_at_call 46; refine (HO.out _).mono ?_; rintro e w1 ⟨rfl, hv, hf⟩; have HV := veil hv; have HF := veil hf; clear hv hf))
  go_ret3
  exact ⟨rfl, HV.out, (Fr.refl _ _).drewN _ |>.trans HF.out⟩
theorem rRemove_range (h : IsRef w base rb n v R) (id : Int) (hi : id < 0 ∨ (n : Int) ≤ id) :
    Calls Try.prog 41 #[.pointer (some ⟨rb, 0, none⟩), .int .i64 id] w fun e w' => e = .returned (.int .i64 2) ∧ w' = w := by
  have e0 := h.c0
  clear h
  by_cases h0 : id < 0
  all_goals
    go_enter Try.func41, Try.ntmps41
    go_wp2
    go_ret
    exact ⟨rfl, rfl⟩
theorem rRemove_none (h : IsRef w base rb n v R) (hi : id < n) (hid : ∀ it ∈ R, it.1 ≠ id) :
    Calls Try.prog 41 #[.pointer (some ⟨rb, 0, none⟩), .int .i64 id] w fun e w' => e = .returned (.int .i64 6) ∧ w' = w := by
  have e0 := h.c0
  have hn := h.nle
  have HA := veil (rat_none h id (fun it hit q => hid it hit (by omega)))
  clear h hid
  go_enter Try.func41, Try.ntmps41
  go_wp2_with (go_at_call 43; refine (HA.out).mono ?_; rintro e w1 ⟨rfl, hw⟩; replace hw := hw.symm; subst hw)
  go_ret
  exact ⟨rfl, rfl⟩
theorem rRemove_some (h : IsRef w base rb n v (R1 ++ (id, lv) :: R2)) :
    Calls Try.prog 41 #[.pointer (some ⟨rb, 0, none⟩), .int .i64 id] w fun e w' => e = .returned (.int .i64 0) ∧ (∃ v', IsRef w' base rb n v' (R1 ++ R2)) ∧ Fr (fun k => k = rb) w w' := by
  have e0 := h.c0
  have hn := h.nle
  have hi := (h.rng (id, lv) (by simp)).1
  have HA := veil (rat_some h)
  have HO := veil (rout_ok h)
  have hlen : R1.length ≤ 1024 := by have := h.len_le; simp at this; omega
  clear h
  go_enter Try.func41, Try.ntmps41
  go_wp2_with (first
    | (go_at_call 43; refine (HA.out).mono ?_; rintro e w1 ⟨rfl, hw⟩; replace hw := hw.symm; subst hw)
    | (go_at_call 46; refine (HO.out).mono ?_; rintro e w1 ⟨rfl, hv, hf⟩; have HV := veil hv; have HF := veil hf; clear hv hf))
  go_ret
  exact ⟨rfl, HV.out, HF.out⟩
end
end Go.Proofs.Ythehnicmjiidiaa
