/-
  The walks of the document's heap: may, Insert, Change, Delete, Min, Take, Get, Len.
-/
import Derived.Test.YtiledmfnhahmiaaH7
namespace Go.Proofs.Ytiledmfnhahmiaa
open Go.RowKit Go.Lib

theorem it_split {n : Nat} {R : List Item} {id d s : Nat} (_hg : Good n R) (h : (id, d, s) ∈ R) : ∃ R1 R2, R = R1 ++ (id, d, s) :: R2 := List.append_of_mem h
section
variable {w : World} {base rb n : Nat} {v : Value} {R R1 R2 : List Item} {id d s : Nat}
theorem rmay_range (h : IsR w base rb n v R) (id : Int) (t : Bool) (hi : id < 0 ∨ (n : Int) ≤ id) :
    Calls Try.prog 44 #[.pointer (some ⟨rb, 0, none⟩), .int .i64 id, .bool t] w fun e w' => e = .returned (.int .i64 2) ∧ w' = w := by
  have e0 := h.c0
  clear h
  by_cases h0 : id < 0
  all_goals
    go_enter Try.func44, Try.ntmps44
    go_wp2
    go_ret
    exact ⟨rfl, rfl⟩
theorem rmay_some (h : IsR w base rb n v (R1 ++ (id, d, s) :: R2)) (t : Bool) :
    Calls Try.prog 44 #[.pointer (some ⟨rb, 0, none⟩), .int .i64 (id : Int), .bool t] w fun e w' => e = .returned (.int .i64 (if t then 0 else 5)) ∧ w' = w := by
  have e0 := h.c0
  have hk := h.good.rng (id, d, s) (by simp)
  have hn := h.nle
  have HA := veil (rat_some h)
  clear h
  cases t
  all_goals
    go_enter Try.func44, Try.ntmps44
    go_wp2_with (go_at_call 40; refine (HA.out).mono ?_; rintro e w1 ⟨rfl, hw⟩; replace hw := hw.symm; subst hw)
    go_ret
    exact ⟨rfl, rfl⟩
theorem rmay_none (h : IsR w base rb n v R) (t : Bool) (hi : id < n) (hid : ∀ it ∈ R, it.1 ≠ id) :
    Calls Try.prog 44 #[.pointer (some ⟨rb, 0, none⟩), .int .i64 (id : Int), .bool t] w fun e w' => e = .returned (.int .i64 (if t then 6 else 0)) ∧ w' = w := by
  have e0 := h.c0
  have hn := h.nle
  have HA := veil (rat_none h id (fun it hit q => hid it hit (by omega)))
  clear h hid
  cases t
  all_goals
    go_enter Try.func44, Try.ntmps44
    go_wp2_with (go_at_call 40; refine (HA.out).mono ?_; rintro e w1 ⟨rfl, hw⟩; replace hw := hw.symm; subst hw)
    go_ret
    exact ⟨rfl, rfl⟩
theorem rinsert_no (w : World) (rb : Nat) (id d s r : Int) (hr : ¬ r = 0) (hm : Calls Try.prog 44 #[.pointer (some ⟨rb, 0, none⟩), .int .i64 id, .bool false] w fun e w' => e = .returned (.int .i64 r) ∧ w' = w) :
    Calls Try.prog 36 #[.pointer (some ⟨rb, 0, none⟩), .int .i64 id, .int .u64 d, .int .u64 s] w fun e w' => e = .returned (.int .i64 r) ∧ w' = w := by
  have HM := veil hm
  clear hm
  go_enter Try.func36, Try.ntmps36
  go_wp2_with (go_at_call 44; refine (HM.out).mono ?_; rintro e w1 ⟨rfl, hw⟩; replace hw := hw.symm; subst hw)
  go_ret
  exact ⟨rfl, rfl⟩
theorem rdelete_no (w : World) (rb : Nat) (id r : Int) (hr : ¬ r = 0) (hm : Calls Try.prog 44 #[.pointer (some ⟨rb, 0, none⟩), .int .i64 id, .bool true] w fun e w' => e = .returned (.int .i64 r) ∧ w' = w) :
    Calls Try.prog 38 #[.pointer (some ⟨rb, 0, none⟩), .int .i64 id] w fun e w' => e = .returned (.int .i64 r) ∧ w' = w := by
  have HM := veil hm
  clear hm
  go_enter Try.func38, Try.ntmps38
  go_wp2_with (go_at_call 44; refine (HM.out).mono ?_; rintro e w1 ⟨rfl, hw⟩; replace hw := hw.symm; subst hw)
  go_ret
  exact ⟨rfl, rfl⟩
theorem rchange_no (w : World) (rb : Nat) (id d s r : Int) (hr : ¬ r = 0) (hm : Calls Try.prog 44 #[.pointer (some ⟨rb, 0, none⟩), .int .i64 id, .bool true] w fun e w' => e = .returned (.int .i64 r) ∧ w' = w) :
    Calls Try.prog 37 #[.pointer (some ⟨rb, 0, none⟩), .int .i64 id, .int .u64 d, .int .u64 s] w fun e w' => e = .returned (.int .i64 r) ∧ w' = w := by
  have HM := veil hm
  clear hm
  go_enter Try.func37, Try.ntmps37
  go_wp2_with (go_at_call 44; refine (HM.out).mono ?_; rintro e w1 ⟨rfl, hw⟩; replace hw := hw.symm; subst hw)
  go_ret
  exact ⟨rfl, rfl⟩
theorem rinsert_ok (h : IsR w base rb n v R) (hi : id < n) (hid : ∀ it ∈ R, it.1 ≠ id) :
    Calls Try.prog 36 #[.pointer (some ⟨rb, 0, none⟩), .int .i64 (id : Int), .int .u64 (d : Int), .int .u64 (s : Int)] w fun e w' => e = .returned (.int .i64 0) ∧ (∃ v', IsR w' base rb n v' (ins (id, d, s) R)) ∧ Fr (fun k => k = rb) w w' := by
  have HM := veil (rmay_none h false hi hid)
  have HP := veil (fun q => rput_ok (h.drewN q) (id, d, s) hi hid)
  clear h hid
  go_enter Try.func36, Try.ntmps36
  go_wp2_with (first
    | (go_at_call 44; refine (HM.out).mono ?_; rintro e w1 ⟨rfl, hw⟩; replace hw := hw.symm; subst hw)
    | (go_at_call 45; refine (HP.out 0).mono ?_; rintro e w1 ⟨rfl, hv, hf⟩; have HV := veil hv; have HF := veil hf; clear hv hf))
  go_ret
  exact ⟨rfl, HV.out, HF.out⟩
theorem rdelete_ok (h : IsR w base rb n v (R1 ++ (id, d, s) :: R2)) :
    Calls Try.prog 38 #[.pointer (some ⟨rb, 0, none⟩), .int .i64 (id : Int)] w fun e w' => e = .returned (.int .i64 0) ∧ (∃ v', IsR w' base rb n v' (R1 ++ R2)) ∧ Fr (fun k => k = rb) w w' := by
  have HM := veil (rmay_some h true)
  have HA := veil (rat_some h)
  have HO := veil (rout_ok h)
  have hlen : R1.length ≤ 1024 := by have := h.len_le; simp at this; omega
  clear h
  go_enter Try.func38, Try.ntmps38
  go_wp2_with (first
    | (go_at_call 44; refine (HM.out).mono ?_; rintro e w1 ⟨rfl, hw⟩; replace hw := hw.symm; subst hw)
    | (go_at_call 40; refine (HA.out).mono ?_; rintro e w1 ⟨rfl, hw⟩; replace hw := hw.symm; subst hw)
    | (go_at_call 46; refine (HO.out).mono ?_; rintro e w1 ⟨rfl, hv, hf⟩; have HV := veil hv; have HF := veil hf; clear hv hf))
  go_ret
  exact ⟨rfl, HV.out, HF.out⟩
theorem rchange_ok (h : IsR w base rb n v (R1 ++ (id, d, s) :: R2)) (d' s' : Nat) :
    Calls Try.prog 37 #[.pointer (some ⟨rb, 0, none⟩), .int .i64 (id : Int), .int .u64 (d' : Int), .int .u64 (s' : Int)] w fun e w' => e = .returned (.int .i64 0) ∧ (∃ v', IsR w' base rb n v' (ins (id, d', s') (R1 ++ R2))) ∧ Fr (fun k => k = rb) w w' := by
  have HM := veil (rmay_some h true)
  have HA := veil (rat_some h)
  have HO := veil (rout_ok h)
  have hi := h.good.rng (id, d, s) (by simp)
  have hno : ∀ it ∈ R1 ++ R2, it.1 ≠ id := by
    intro it hit
    rw [← out_split (x := (id, d, s)) h.good] at hit
    exact (mem_out.1 hit).2
  have HP : Hid (∀ w1, (∃ v', IsR w1 base rb n v' (R1 ++ R2)) → Calls Try.prog 45 #[.pointer (some ⟨rb, 0, none⟩), .agg #[.int .i64 (id : Int), .int .u64 (d' : Int), .int .u64 (s' : Int)]] w1 fun e w' => e = .returned (.tuple #[]) ∧ (∃ v', IsR w' base rb n v' (ins (id, d', s') (R1 ++ R2))) ∧ Fr (fun k => k = rb) w1 w') := by
    rintro w1 ⟨v', h1⟩
    exact rput_ok h1 (id, d', s') hi hno
  have hlen : R1.length ≤ 1024 := by have := h.len_le; simp at this; omega
  clear h hno
  go_enter Try.func37, Try.ntmps37
  go_wp2_with (first
    | (go_at_call 44; refine (HM.out).mono ?_; rintro e w1 ⟨rfl, hw⟩; replace hw := hw.symm; subst hw)
    | (go_at_call 40; refine (HA.out).mono ?_; rintro e w1 ⟨rfl, hw⟩; replace hw := hw.symm; subst hw)
    | (go_at_call 46; refine (HO.out).mono ?_; rintro e w1 ⟨rfl, hv, hf⟩; have HV := veil hv; have HF := veil hf; clear hv hf)
    | (go_at_call 45; refine (HP.out _ HV.out).mono ?_; rintro e w2 ⟨rfl, hv, hf⟩; have HV2 := veil hv; have HF2 := veil hf; clear hv hf))
  go_ret
  exact ⟨rfl, HV2.out, HF.out.trans HF2.out⟩
theorem rmin_none (h : IsR w base rb n v []) :
    Calls Try.prog 28 #[.pointer (some ⟨rb, 0, none⟩)] w fun e w' => e = .returned (.tuple #[.int .i64 0, .bool false]) ∧ w' = w := by
  obtain ⟨a, cap, rfl, _⟩ := h.form
  have e1 : w.cell? ⟨rb, 1, none⟩ = some (.slice a 0 cap) := h.c1
  clear h
  go_enter Try.func28, Try.ntmps28
  go_wp2
  go_ret2
  exact ⟨rfl, rfl⟩
theorem rmin_some {x : Item} (h : IsR w base rb n v (x :: R)) :
    Calls Try.prog 28 #[.pointer (some ⟨rb, 0, none⟩)] w fun e w' => e = .returned (.tuple #[.int .i64 (x.1 : Int), .bool true]) ∧ w' = w := by
  obtain ⟨g, cap, rfl, h1, h2, h3, h4, h5⟩ := h.cells (by simp)
  have e1 := h.c1
  have hlen := h.len_le
  have e2 : w.cell? ⟨g, 0, none⟩ = some (.int .i64 (x.1 : Int)) := (h5 0 x rfl).1
  rw [List.length_cons] at e1 hlen
  clear h h5
  generalize R.length = k at *
  have hk : ¬ ((k : Int) + 1) = 0 := by omega
  go_enter Try.func28, Try.ntmps28
  go_wp2
  go_ret2
  exact ⟨rfl, rfl⟩
theorem rtake_none (h : IsR w base rb n v []) :
    Calls Try.prog 39 #[.pointer (some ⟨rb, 0, none⟩)] w fun e w' => e = .returned (.tuple #[.int .i64 0, .bool false]) ∧ w' = w := by
  have HT := veil (rmin_none h)
  clear h
  go_enter Try.func39, Try.ntmps39
  go_wp2_with (go_at_call 28; refine (HT.out).mono ?_; rintro e w1 ⟨rfl, hw⟩; replace hw := hw.symm; subst hw)
  go_ret2
  exact ⟨rfl, rfl⟩
theorem rtake_some {x : Item} (h : IsR w base rb n v (x :: R)) :
    Calls Try.prog 39 #[.pointer (some ⟨rb, 0, none⟩)] w fun e w' => e = .returned (.tuple #[.int .i64 (x.1 : Int), .bool true]) ∧ (∃ v', IsR w' base rb n v' R) ∧ Fr (fun k => k = rb) w w' := by
  have HT := veil (rmin_some h)
  have HO := veil (rout_ok (R1 := []) h)
  clear h
  go_enter Try.func39, Try.ntmps39
  go_wp2_with (first
    | (go_at_call 28; refine (HT.out).mono ?_; rintro e w1 ⟨rfl, hw⟩; replace hw := hw.symm; subst hw)
    | (go_at_call 46; refine (HO.out).mono ?_; rintro e w1 ⟨rfl, hv, hf⟩; have HV := veil hv; have HF := veil hf; clear hv hf))
  go_ret2
  exact ⟨rfl, HV.out, HF.out⟩
theorem rlen_ok (h : IsR w base rb n v R) :
    Calls Try.prog 30 #[.pointer (some ⟨rb, 0, none⟩)] w fun e w' => e = .returned (.int .i64 (R.length : Int)) ∧ w' = w := by
  obtain ⟨a, cap, rfl, _⟩ := h.form
  have e1 := h.c1
  clear h
  go_enter Try.func30, Try.ntmps30
  go_wp2
  go_ret
  exact ⟨rfl, rfl⟩
theorem rget_none (h : IsR w base rb n v R) (id : Int) (hno : ∀ it ∈ R, ¬ (it.1 : Int) = id) :
    Calls Try.prog 29 #[.pointer (some ⟨rb, 0, none⟩), .int .i64 id] w fun e w' => e = .returned (.tuple #[.int .u64 0, .int .u64 0, .bool false]) ∧ w' = w := by
  have HA := veil (rat_none h id hno)
  clear h hno
  go_enter Try.func29, Try.ntmps29
  go_wp2_with (go_at_call 40; refine (HA.out).mono ?_; rintro e w1 ⟨rfl, hw⟩; replace hw := hw.symm; subst hw)
  go_ret3
  exact ⟨rfl, rfl⟩
theorem rget_some (h : IsR w base rb n v (R1 ++ (id, d, s) :: R2)) :
    Calls Try.prog 29 #[.pointer (some ⟨rb, 0, none⟩), .int .i64 (id : Int)] w fun e w' => e = .returned (.tuple #[.int .u64 (d : Int), .int .u64 (s : Int), .bool true]) ∧ ∃ q, w' = w.drewN q := by
  have HA := veil (rat_some h)
  obtain ⟨g, cap, rfl, h1, h2, h3, h4, h5⟩ := h.cells (by simp)
  have e1 := h.c1
  have hlen := h.len_le
  have hL : (R1 ++ (id, d, s) :: R2).length = R1.length + R2.length + 1 := by simp; omega
  rw [hL] at e1 hlen h1
  obtain ⟨_, e3, e4⟩ := h5 R1.length (id, d, s) (by simp)
  clear h h5 hL
  generalize R1.length = k at *
  generalize hLL : k + R2.length + 1 = L at *
  have b3 : k < L := by omega
  go_enter Try.func29, Try.ntmps29
  go_wp2_with (go_at_call 40; refine (HA.out).mono ?_; rintro e w1 ⟨rfl, hw⟩; replace hw := hw.symm; subst hw)
  go_quiet (fail)
  go_wp2
  go_ret3
  exact ⟨rfl, _, rfl⟩
end
end Go.Proofs.Ytiledmfnhahmiaa
