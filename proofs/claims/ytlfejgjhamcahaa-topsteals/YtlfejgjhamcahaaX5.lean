/-
  The walks of the document's set: Put, Change, Take.
-/
import Derived.Test.YtlfejgjhamcahaaX4
namespace Go.Proofs.Ytlfejgjhamcahaa.Dc
open Go.RowKit Go.Lib
attribute [local go_sem ↓] Go.wp_at_zero Go.wp_at_succ

@[go_sem high] theorem neqB (a b : Ke.K) (w : World) : (binOp .neq 25 (.agg #[.bool a.e, .int .u64 a.d, .int .u8 a.l]) (.agg #[.bool b.e, .int .u64 b.d, .int .u8 b.l])).run Try.prog w = .ok (.bool (!Ke.same a b)) w := by
  simp [binOp, go_sem]

section
variable {w : World} {base rb n most : Nat} {v : Value} {R R1 R2 : List En} {id : Nat} {k k' : Ke.K}
set_option maxHeartbeats 1000000 in
theorem rput_known (h : IsR w base rb n most v (R1 ++ (id, k') :: R2)) (k : Ke.K) (hr : Ke.rightK k = true) :
    Calls Try.prog 80 #[.pointer (some ⟨rb, 0, none⟩), .int .i64 (id : Int), .agg #[.bool k.e, .int .u64 k.d, .int .u8 k.l]] w fun e w' => e = .returned (.int .i64 5) ∧ Below w.heap.size w w' := by
  have hi := h.rng (id, k') (by simp)
  simp only at hi
  have hlen : R1.length ≤ 1024 := by have := h.len_le; simp at this; omega
  have HX := veil (boxed h k)
  have hA := Below.refl (w.heap.size + 1) (w.alloc (.cells #[.bool k.e, .int .u64 k.d, .int .u8 k.l] 25))
  have c0 := (boxed h k _ hA).1.c0
  have hlt := h.lt
  have y0 : ¬ rb = w.heap.size := by omega
  have hn := h.nle
  have HR := veil (fun W => Ke.rright_ok W k)
  rw [hr] at HR
  clear h hA
  go_enter Try.func80, Try.ntmps80
  go_wp2_with (first | (go_at_call 79; refine (HR.out _).mono ?_; rintro e w1 ⟨rfl, hb1⟩; have HB1 := veil (show Below (w.heap.size + 1) _ w1 by simpa using hb1); obtain ⟨hr1, ⟨k10, k11, k12⟩, _, hz1, hbw1⟩ := HX.out _ HB1.out; have HR1 := veil hr1; have d0 := hr1.c0; have d1 := hr1.c1; have d2 := hr1.c2; have HBW1 := veil hbw1; clear hb1 hr1 hbw1) | (go_at_call 87; refine (rat_some HR1.out).mono ?_; rintro e w2 ⟨rfl, hw⟩; subst hw))
  go_ret
  exact ⟨rfl, HBW1.out⟩
set_option maxHeartbeats 1000000 in
theorem rput_full (h : IsR w base rb n most v R) (k : Ke.K) (hr : Ke.rightK k = true) (hi : id < n) (hno : ∀ it ∈ R, it.1 ≠ id) (hf : R.length = most) :
    Calls Try.prog 80 #[.pointer (some ⟨rb, 0, none⟩), .int .i64 (id : Int), .agg #[.bool k.e, .int .u64 k.d, .int .u8 k.l]] w fun e w' => e = .returned (.int .i64 4) ∧ Below w.heap.size w w' := by
  have HNO : Hid (∀ it ∈ R, ¬ (it.1 : Int) = (id : Int)) := fun it hit q => hno it hit (by omega)
  obtain ⟨a, cap, rfl, _⟩ := h.form
  have HX := veil (boxed h k)
  have hA := Below.refl (w.heap.size + 1) (w.alloc (.cells #[.bool k.e, .int .u64 k.d, .int .u8 k.l] 25))
  have c0 := (boxed h k _ hA).1.c0
  have hlt := h.lt
  have y0 : ¬ rb = w.heap.size := by omega
  have hn := h.nle
  have HR := veil (fun W => Ke.rright_ok W k)
  rw [hr] at HR
  have hle : (most : Int) ≤ (R.length : Int) := by omega
  have HF := veil hf
  clear h hA hno hf
  go_enter Try.func80, Try.ntmps80
  go_wp2_with (first | (go_at_call 79; refine (HR.out _).mono ?_; rintro e w1 ⟨rfl, hb1⟩; have HB1 := veil (show Below (w.heap.size + 1) _ w1 by simpa using hb1); obtain ⟨hr1, ⟨k10, k11, k12⟩, _, hz1, hbw1⟩ := HX.out _ HB1.out; have HR1 := veil hr1; have d0 := hr1.c0; have d1 := hr1.c1; have d2 := hr1.c2; have HBW1 := veil hbw1; clear hb1 hr1 hbw1) | (go_at_call 87; refine (rat_none HR1.out (id : Int) HNO.out).mono ?_; rintro e w2 ⟨rfl, hw⟩; subst hw))
  go_quiet (fail)
  go_wp2
  go_ret
  exact ⟨rfl, below_drewN HBW1.out _⟩
set_option maxHeartbeats 1000000 in
theorem rput_new (h : IsR w base rb n most v R) (k : Ke.K) (hr : Ke.rightK k = true) (hi : id < n) (hno : ∀ it ∈ R, it.1 ≠ id) (hf : R.length < most) :
    Calls Try.prog 80 #[.pointer (some ⟨rb, 0, none⟩), .int .i64 (id : Int), .agg #[.bool k.e, .int .u64 k.d, .int .u8 k.l]] w fun e w' => e = .returned (.int .i64 0) ∧ (∃ v', IsR w' base rb n most v' (put (id, k) R)) ∧ Fr (fun k => k = rb) w w' := by
  have HNO : Hid (∀ it ∈ R, ¬ (it.1 : Int) = (id : Int)) := fun it hit q => hno it hit (by omega)
  have HNN := veil hno
  obtain ⟨a, cap, rfl, _⟩ := h.form
  have HX := veil (boxed h k)
  have hA := Below.refl (w.heap.size + 1) (w.alloc (.cells #[.bool k.e, .int .u64 k.d, .int .u8 k.l] 25))
  have c0 := (boxed h k _ hA).1.c0
  have hlt := h.lt
  have y0 : ¬ rb = w.heap.size := by omega
  have hn := h.nle
  have HR := veil (fun W => Ke.rright_ok W k)
  rw [hr] at HR
  have hle : ¬ (most : Int) ≤ (R.length : Int) := by omega
  have HP : Hid (∀ W, Below (w.heap.size + 1) (w.alloc (.cells #[.bool k.e, .int .u64 k.d, .int .u8 k.l] 25)) W → Calls Try.prog 98 #[.pointer (some ⟨rb, 0, none⟩), .agg #[.int .i64 (id : Int), .bool k.e, .int .u64 k.d, .int .u8 k.l]] W fun e w' => e = .returned (.tuple #[]) ∧ (∃ v', IsR w' base rb n most v' (put (id, k) R)) ∧ Fr (fun k => k = rb) W w') := fun W hW => rput_ok (HX.out W hW).1 (id, k) hi hno hf
  have HF := veil hf
  clear h hA hno hf
  go_enter Try.func80, Try.ntmps80
  go_wp2_with (first | (go_at_call 79; refine (HR.out _).mono ?_; rintro e w1 ⟨rfl, hb1⟩; have HB1 := veil (show Below (w.heap.size + 1) _ w1 by simpa using hb1); obtain ⟨hr1, ⟨k10, k11, k12⟩, _, hz1, hbw1⟩ := HX.out _ HB1.out; have HR1 := veil hr1; have d0 := hr1.c0; have d1 := hr1.c1; have d2 := hr1.c2; have HBW1 := veil hbw1; clear hb1 hr1 hbw1) | (go_at_call 87; refine (rat_none HR1.out (id : Int) HNO.out).mono ?_; rintro e w2 ⟨rfl, hw⟩; subst hw))
  go_quiet (fail)
  go_wp2_with (go_at_call 98; refine (HP.out _ (below_drewN HB1.out _)).mono ?_; rintro e w5 ⟨rfl, hv, hf⟩; have HV := veil hv; have HF5 := veil ((Fr.of_below' (below_drewN HBW1.out _)).trans hf); clear hv hf)
  go_ret
  exact ⟨rfl, HV.out, HF5.out⟩
set_option maxHeartbeats 1000000 in
theorem rchange_range (h : IsR w base rb n most v R) (id : Int) (k : Ke.K) (hb : id < 0 ∨ (n : Int) ≤ id ∨ Ke.rightK k = false) :
    Calls Try.prog 81 #[.pointer (some ⟨rb, 0, none⟩), .int .i64 id, .agg #[.bool k.e, .int .u64 k.d, .int .u8 k.l]] w fun e w' => e = .returned (.int .i64 2) ∧ Below w.heap.size w w' := by
  have HX := veil (boxed h k)
  have hA := Below.refl (w.heap.size + 1) (w.alloc (.cells #[.bool k.e, .int .u64 k.d, .int .u8 k.l] 25))
  have c0 := (boxed h k _ hA).1.c0
  obtain ⟨k0, k1, k2⟩ := (boxed h k _ hA).2.1
  have HA : Hid (Below w.heap.size w (w.alloc (.cells #[.bool k.e, .int .u64 k.d, .int .u8 k.l] 25))) := (Below.refl _ _).alloc (Nat.le_refl _) _
  have hlt := h.lt
  have y0 : ¬ rb = w.heap.size := by omega
  have HR := veil (fun W => Ke.rright_ok W k)
  clear h hA
  have hcs : id < 0 ∨ (¬ id < 0 ∧ (n : Int) ≤ id) ∨ (¬ id < 0 ∧ ¬ (n : Int) ≤ id ∧ Ke.rightK k = false) := by
    by_cases q1 : id < 0
    · exact .inl q1
    · by_cases q2 : (n : Int) ≤ id
      · exact .inr (.inl ⟨q1, q2⟩)
      · rcases hb with q | q | q
        · exact absurd q q1
        · exact absurd q q2
        · exact .inr (.inr ⟨q1, q2, q⟩)
  clear hb
  rcases hcs with h1 | ⟨h1, h2⟩ | ⟨h1, h2, h3⟩
  · go_enter Try.func81, Try.ntmps81
    go_wp2
    go_ret
    exact ⟨rfl, HA.out⟩
  · go_enter Try.func81, Try.ntmps81
    go_wp2
    go_ret
    exact ⟨rfl, HA.out⟩
  · rw [h3] at HR
    go_enter Try.func81, Try.ntmps81
    go_wp2_with (go_at_call 79; refine (HR.out _).mono ?_; rintro e w1 ⟨rfl, hb1⟩; have HB1 := veil (HA.out.trans (hb1.mono HA.out.size)); clear hb1)
    go_ret
    exact ⟨rfl, HB1.out⟩
set_option maxHeartbeats 1000000 in
theorem rchange_none (h : IsR w base rb n most v R) (k : Ke.K) (hr : Ke.rightK k = true) (hi : id < n) (hno : ∀ it ∈ R, it.1 ≠ id) :
    Calls Try.prog 81 #[.pointer (some ⟨rb, 0, none⟩), .int .i64 (id : Int), .agg #[.bool k.e, .int .u64 k.d, .int .u8 k.l]] w fun e w' => e = .returned (.int .i64 6) ∧ Below w.heap.size w w' := by
  have HNO : Hid (∀ it ∈ R, ¬ (it.1 : Int) = (id : Int)) := fun it hit q => hno it hit (by omega)
  have HX := veil (boxed h k)
  have hA := Below.refl (w.heap.size + 1) (w.alloc (.cells #[.bool k.e, .int .u64 k.d, .int .u8 k.l] 25))
  have c0 := (boxed h k _ hA).1.c0
  have hlt := h.lt
  have y0 : ¬ rb = w.heap.size := by omega
  have hn := h.nle
  have HR := veil (fun W => Ke.rright_ok W k)
  rw [hr] at HR
  clear h hA hno
  go_enter Try.func81, Try.ntmps81
  go_wp2_with (first | (go_at_call 79; refine (HR.out _).mono ?_; rintro e w1 ⟨rfl, hb1⟩; have HB1 := veil (show Below (w.heap.size + 1) _ w1 by simpa using hb1); obtain ⟨hr1, ⟨k10, k11, k12⟩, _, hz1, hbw1⟩ := HX.out _ HB1.out; have HR1 := veil hr1; have d0 := hr1.c0; have d1 := hr1.c1; have d2 := hr1.c2; have HBW1 := veil hbw1; clear hb1 hr1 hbw1) | (go_at_call 87; refine (rat_none HR1.out (id : Int) HNO.out).mono ?_; rintro e w2 ⟨rfl, hw⟩; subst hw))
  go_ret
  exact ⟨rfl, HBW1.out⟩
set_option maxHeartbeats 2000000 in
theorem rchange_some (h : IsR w base rb n most v (R1 ++ (id, k') :: R2)) (k : Ke.K) (hr : Ke.rightK k = true) :
    Calls Try.prog 81 #[.pointer (some ⟨rb, 0, none⟩), .int .i64 (id : Int), .agg #[.bool k.e, .int .u64 k.d, .int .u8 k.l]] w fun e w' => e = .returned (.int .i64 0) ∧ (∃ v', IsR w' base rb n most v' (if k' = k then R1 ++ (id, k') :: R2 else put (id, k) (R1 ++ R2))) ∧ Fr (fun k => k = rb) w w' := by
  have hi := h.rng (id, k') (by simp)
  simp only at hi
  have hlen : R1.length ≤ 1024 := by have := h.len_le; simp at this; omega
  have hno : ∀ it ∈ R1 ++ R2, it.1 ≠ id := by
    intro it hit e
    have hnd := h.nd
    rw [List.map_append, List.map_cons, List.nodup_append] at hnd
    obtain ⟨_, q2, q3⟩ := hnd
    rw [List.nodup_cons] at q2
    rcases List.mem_append.1 hit with q | q
    · exact q3 it.1 (List.mem_map.2 ⟨it, q, rfl⟩) id (by simp) e
    · exact q2.1 (List.mem_map.2 ⟨it, q, e⟩)
  have hml : (R1 ++ R2).length < most := by have := h.len; simp at this ⊢; omega
  obtain ⟨g, cap, rfl, h1, h2, h3, h4, h5⟩ := h.cells (by simp)
  have hLL : (R1 ++ (id, k') :: R2).length = R1.length + R2.length + 1 := by simp; omega
  have HX := veil (boxed h k)
  have hA := Below.refl (w.heap.size + 1) (w.alloc (.cells #[.bool k.e, .int .u64 k.d, .int .u8 k.l] 25))
  have c0 := (boxed h k _ hA).1.c0
  have hlt := h.lt
  have y0 : ¬ rb = w.heap.size := by omega
  have hn := h.nle
  have HR := veil (fun W => Ke.rright_ok W k)
  rw [hr] at HR
  have HC : Hid (∀ W, Below (w.heap.size + 1) (w.alloc (.cells #[.bool k.e, .int .u64 k.d, .int .u8 k.l] 25)) W → W.cell? ⟨g, R1.length * 4 + 1, none⟩ = some (.bool k'.e) ∧ W.cell? ⟨g, R1.length * 4 + 2, none⟩ = some (.int .u64 k'.d) ∧ W.cell? ⟨g, R1.length * 4 + 3, none⟩ = some (.int .u8 k'.l)) := fun W hW => by
    obtain ⟨_, z1, z2, z3⟩ := h5 R1.length (id, k') (by simp)
    have hbw := (HX.out W hW).2.2.2.2
    exact ⟨(hbw.cell (p := ⟨g, R1.length * 4 + 1, none⟩) h3).trans z1, (hbw.cell (p := ⟨g, R1.length * 4 + 2, none⟩) h3).trans z2, (hbw.cell (p := ⟨g, R1.length * 4 + 3, none⟩) h3).trans z3⟩
  have HNO := veil hno
  have HML := veil hml
  clear h hA hno hml h5
  by_cases hkk : k' = k
  · rw [if_pos hkk]
    have hsm : Ke.same k' k = true := by rw [Ke.same_eq]; exact decide_eq_true hkk
    have HKK := veil hkk
    clear hkk
    go_enter Try.func81, Try.ntmps81
    go_wp2_with (first | (go_at_call 79; refine (HR.out _).mono ?_; rintro e w1 ⟨rfl, hb1⟩; have HB1 := veil (show Below (w.heap.size + 1) _ w1 by simpa using hb1); obtain ⟨hr1, ⟨k10, k11, k12⟩, _, hz1, hbw1⟩ := HX.out _ HB1.out; have HR1 := veil hr1; have d0 := hr1.c0; have d1 := hr1.c1; have d2 := hr1.c2; have HBW1 := veil hbw1; clear hb1 hr1 hbw1) | (go_at_call 87; refine (rat_some HR1.out).mono ?_; rintro e w2 ⟨rfl, hw⟩; replace hw := hw.symm; subst hw))
    obtain ⟨z1, z2, z3⟩ := HC.out _ HB1.out
    rw [hLL] at d2
    have HL1 : Hid (True) := trivial
    have b3 : R1.length < R1.length + R2.length + 1 := by omega
    have b4 : (R1.length : Int) < ((R1.length + R2.length + 1 : Nat) : Int) := by omega
    generalize hLX : R1.length + R2.length + 1 = LX at *
    go_region_held3 (fun w' => w'.cell? ⟨rb, 2, none⟩ = some (.slice (some ⟨g, 0, none⟩) LX cap) ∧ w'.cell? ⟨g, R1.length * 4 + 1, none⟩ = some (.bool k'.e) ∧ w'.cell? ⟨g, R1.length * 4 + 2, none⟩ = some (.int .u64 k'.d) ∧ w'.cell? ⟨g, R1.length * 4 + 3, none⟩ = some (.int .u8 k'.l) ∧ w'.cell? ⟨w.heap.size, 0, none⟩ = some (.bool k.e) ∧ w'.cell? ⟨w.heap.size, 1, none⟩ = some (.int .u64 k.d) ∧ w'.cell? ⟨w.heap.size, 2, none⟩ = some (.int .u8 k.l))
      (first | exact ⟨d2, z1, z2, z3, k10, k11, k12⟩ | go_keep)
      (fail)
    go_wp2
    go_ret
    exact ⟨rfl, ⟨_, (HX.out _ HB1.out.drew).1⟩, Fr.of_below' HBW1.out.drew⟩
  · rw [if_neg hkk]
    have hsm : Ke.same k' k = false := by rw [Ke.same_eq]; exact decide_eq_false hkk
    have HKK := veil hkk
    clear hkk
    go_enter Try.func81, Try.ntmps81
    go_wp2_with (first | (go_at_call 79; refine (HR.out _).mono ?_; rintro e w1 ⟨rfl, hb1⟩; have HB1 := veil (show Below (w.heap.size + 1) _ w1 by simpa using hb1); obtain ⟨hr1, ⟨k10, k11, k12⟩, _, hz1, hbw1⟩ := HX.out _ HB1.out; have HR1 := veil hr1; have d0 := hr1.c0; have d1 := hr1.c1; have d2 := hr1.c2; have HBW1 := veil hbw1; clear hb1 hr1 hbw1) | (go_at_call 87; refine (rat_some HR1.out).mono ?_; rintro e w2 ⟨rfl, hw⟩; replace hw := hw.symm; subst hw))
    obtain ⟨z1, z2, z3⟩ := HC.out _ HB1.out
    rw [hLL] at d2
    have HL1 : Hid (True) := trivial
    have b3 : R1.length < R1.length + R2.length + 1 := by omega
    have b4 : (R1.length : Int) < ((R1.length + R2.length + 1 : Nat) : Int) := by omega
    generalize hLX : R1.length + R2.length + 1 = LX at *
    have HOU := veil (rout_ok (HX.out _ HB1.out.drew).1)
    go_region_held3 (fun w' => w'.cell? ⟨rb, 2, none⟩ = some (.slice (some ⟨g, 0, none⟩) LX cap) ∧ w'.cell? ⟨g, R1.length * 4 + 1, none⟩ = some (.bool k'.e) ∧ w'.cell? ⟨g, R1.length * 4 + 2, none⟩ = some (.int .u64 k'.d) ∧ w'.cell? ⟨g, R1.length * 4 + 3, none⟩ = some (.int .u8 k'.l) ∧ w'.cell? ⟨w.heap.size, 0, none⟩ = some (.bool k.e) ∧ w'.cell? ⟨w.heap.size, 1, none⟩ = some (.int .u64 k.d) ∧ w'.cell? ⟨w.heap.size, 2, none⟩ = some (.int .u8 k.l))
      (first | exact ⟨d2, z1, z2, z3, k10, k11, k12⟩ | go_keep)
      (fail)
    go_wp2_with (first
      | (go_at_call 94; refine (HOU.out).mono ?_; rintro e w5 ⟨rfl, ⟨v5, hv5⟩, hf5⟩; have HV5 := veil hv5; have HF5 := veil hf5; have m0 := (hf5.cell (a := ⟨w.heap.size, 0, none⟩) hz1 (fun q => y0 q.symm)).trans k10; have m1 := (hf5.cell (a := ⟨w.heap.size, 1, none⟩) hz1 (fun q => y0 q.symm)).trans k11; have m2 := (hf5.cell (a := ⟨w.heap.size, 2, none⟩) hz1 (fun q => y0 q.symm)).trans k12; clear hv5 hf5)
      | (go_at_call 98; refine (rput_ok HV5.out (id, k) hi HNO.out HML.out).mono ?_; rintro e w6 ⟨rfl, hv6, hf6⟩; have HV6 := veil hv6; have HF6 := veil (((Fr.of_below' HBW1.out.drew).trans HF5.out).trans hf6); clear hv6 hf6))
    go_ret
    exact ⟨rfl, HV6.out, HF6.out⟩
set_option maxHeartbeats 1000000 in
theorem rtake_none (h : IsR w base rb n most v []) :
    Calls Try.prog 82 #[.pointer (some ⟨rb, 0, none⟩)] w fun e w' => e = .returned (.tuple #[.int .i64 0, .agg #[.bool false, .int .u64 0, .int .u8 0], .bool false]) ∧ Below w.heap.size w w' := by
  have HX := veil (boxed h ⟨false, 0, 0⟩)
  clear h
  go_enter Try.func82, Try.ntmps82
  go_wp2_with (go_at_call 63; refine (rtop_none (HX.out _ (Below.refl _ _)).1).mono ?_; rintro e w1 ⟨rfl, hb1⟩; have HB1 := veil (show Below (w.heap.size + 1) _ w1 by simpa using hb1); obtain ⟨_, _, _, hz1, hbw1⟩ := HX.out _ HB1.out; have HBW1 := veil hbw1; obtain ⟨_, ⟨k0, k1, k2⟩, fz, _, _⟩ := HX.out _ (HB1.out.alloc hz1 (.cells #[.bool false, .int .u64 0, .int .u8 0] 25)); have f0 := fz 0; have f1 := fz 1; have f2 := fz 2; have y0 : ¬ w1.heap.size = w.heap.size := (by omega); have y1 : ¬ w.heap.size = w1.heap.size := (by omega); clear hb1 hbw1 fz)
  go_region_held3 (fun w' => w'.cell? ⟨w1.heap.size, 0, none⟩ = some (.bool false) ∧ w'.cell? ⟨w1.heap.size, 1, none⟩ = some (.int .u64 0) ∧ w'.cell? ⟨w1.heap.size, 2, none⟩ = some (.int .u8 0))
    (first | go_keep | exact ⟨by simp [go_sem], by simp [go_sem], by simp [go_sem]⟩)
    (fail)
  go_wp2
  refine bodyPost_ret (v := .tuple #[.int .i64 0, .agg #[.bool false, .int .u64 0, .int .u8 0], .bool false]) ?_ rfl ?_
  · simp [results, Try.f82, go_sem, k0, k1, k2]
  · refine ⟨rfl, ?_⟩
    first
      | exact ((((HBW1.out.alloc (Nat.le_trans (Nat.le_succ _) hz1) _).setCell (p := ⟨w.heap.size, 0, none⟩) (Nat.le_refl _) _).setCell (p := ⟨w.heap.size, 1, none⟩) (Nat.le_refl _) _).setCell (p := ⟨w.heap.size, 2, none⟩) (Nat.le_refl _) _).drew
      | exact ((((HBW1.out.setCell (p := ⟨w.heap.size, 0, none⟩) (Nat.le_refl _) _).setCell (p := ⟨w.heap.size, 1, none⟩) (Nat.le_refl _) _).setCell (p := ⟨w.heap.size, 2, none⟩) (Nat.le_refl _) _).alloc (by simpa using Nat.le_trans (Nat.le_succ _) hz1) _).drew
set_option maxHeartbeats 1000000 in
theorem rtake_some {x : En} (h : IsR w base rb n most v (x :: R)) :
    Calls Try.prog 82 #[.pointer (some ⟨rb, 0, none⟩)] w fun e w' => e = .returned (.tuple #[.int .i64 (x.1 : Int), .agg #[.bool x.2.e, .int .u64 x.2.d, .int .u8 x.2.l], .bool true]) ∧ (∃ v', IsR w' base rb n most v' R) ∧ Fr (fun k => k = rb) w w' := by
  have HX := veil (boxed h ⟨false, 0, 0⟩)
  have hlt := h.lt
  have yrb : ¬ w.heap.size = rb := by omega
  clear h
  go_enter Try.func82, Try.ntmps82
  go_wp2_with (first
    | (go_at_call 63; refine (rtop_some (HX.out _ (Below.refl _ _)).1).mono ?_; rintro e w1 ⟨rfl, hb1⟩; have HB1 := veil (show Below (w.heap.size + 1) _ w1 by simpa using hb1); obtain ⟨_, _, _, hz1, hbw1⟩ := HX.out _ HB1.out; have HBW1 := veil hbw1; have HB2 := veil (HB1.out.alloc hz1 (.cells #[.bool x.2.e, .int .u64 x.2.d, .int .u8 x.2.l] 25)); have y0 : ¬ w1.heap.size = w.heap.size := (by omega); have y1 : ¬ w.heap.size = w1.heap.size := (by omega); have y2 : ¬ w1.heap.size = rb := (by omega); clear hb1 hbw1)
    | (go_at_call 94; refine (rout_new (R1 := []) (HX.out _ HB2.out).1).mono ?_; rintro e w2 ⟨rfl, ⟨v2, hv2, hvn⟩, hf2⟩; have HV2 := veil hv2; have HVN : Hid (v2.ownBlock ≠ some w.heap.size) := (fun q => by have := hvn _ q; have := (HX.out _ HB2.out).2.2.2.1; omega); have HF2 := veil ((Fr.of_below' (HX.out _ HB2.out).2.2.2.2).trans hf2); have hsz2 := hf2.size; have k0 := (hf2.cell (a := ⟨w.heap.size, 0, none⟩) (HX.out _ HB2.out).2.2.2.1 yrb).trans (HX.out _ HB2.out).2.1.1; have k1 := (hf2.cell (a := ⟨w.heap.size, 1, none⟩) (HX.out _ HB2.out).2.2.2.1 yrb).trans (HX.out _ HB2.out).2.1.2.1; have k2 := (hf2.cell (a := ⟨w.heap.size, 2, none⟩) (HX.out _ HB2.out).2.2.2.1 yrb).trans (HX.out _ HB2.out).2.1.2.2; have f0 := (hf2.frozen (a := ⟨w.heap.size, 0, none⟩) (HX.out _ HB2.out).2.2.2.1 yrb).trans ((HX.out _ HB2.out).2.2.1 0); have f1 := (hf2.frozen (a := ⟨w.heap.size, 1, none⟩) (HX.out _ HB2.out).2.2.2.1 yrb).trans ((HX.out _ HB2.out).2.2.1 1); have f2 := (hf2.frozen (a := ⟨w.heap.size, 2, none⟩) (HX.out _ HB2.out).2.2.2.1 yrb).trans ((HX.out _ HB2.out).2.2.1 2); have l0 := (hf2.cell (a := ⟨w1.heap.size, 0, none⟩) (by simp) y2).trans (cell_fresh _ _ _ _); have l1 := (hf2.cell (a := ⟨w1.heap.size, 1, none⟩) (by simp) y2).trans (cell_fresh _ _ _ _); have l2 := (hf2.cell (a := ⟨w1.heap.size, 2, none⟩) (by simp) y2).trans (cell_fresh _ _ _ _); clear hv2 hf2 hvn))
  have HE : Hid (∀ (a b c : Value), (∃ v', IsR ((((w2.setCell ⟨w.heap.size, 0, none⟩ a).setCell ⟨w.heap.size, 1, none⟩ b).setCell ⟨w.heap.size, 2, none⟩ c).drew) base rb n most v' R) ∧ Fr (fun k => k = rb) w ((((w2.setCell ⟨w.heap.size, 0, none⟩ a).setCell ⟨w.heap.size, 1, none⟩ b).setCell ⟨w.heap.size, 2, none⟩ c).drew)) := fun a b c => by
    have F1 : Fr (fun k => k = w.heap.size) w2 ((((w2.setCell ⟨w.heap.size, 0, none⟩ a).setCell ⟨w.heap.size, 1, none⟩ b).setCell ⟨w.heap.size, 2, none⟩ c).drewN 1) := (Fr.setCell (a := ⟨w.heap.size, 2, none⟩) (Fr.setCell (a := ⟨w.heap.size, 1, none⟩) (Fr.setCell (S := fun k => k = w.heap.size) (a := ⟨w.heap.size, 0, none⟩) (Fr.refl _ _) rfl a) rfl b) rfl c).drewN 1
    have F0 : Fr (fun k => k = rb ∨ w.heap.size ≤ k) w w2 := HF2.out.wide (fun k _ q => .inl q)
    refine ⟨⟨v2, HV2.out.frame F1 (fun q => yrb q.symm) (fun k hk q => ?_)⟩, ?_⟩
    · rw [q] at hk
      exact HVN.out hk
    · exact (F0.trans (F1.wide (fun k _ q => .inr (by omega)))).wide (fun k hk q => q.elim (fun z => z) (fun h => by omega))
  go_region_held3 (fun w' => w'.cell? ⟨w1.heap.size, 0, none⟩ = some (.bool x.2.e) ∧ w'.cell? ⟨w1.heap.size, 1, none⟩ = some (.int .u64 x.2.d) ∧ w'.cell? ⟨w1.heap.size, 2, none⟩ = some (.int .u8 x.2.l))
    (first | go_keep)
    (fail)
  go_wp2
  refine bodyPost_ret (v := .tuple #[.int .i64 (x.1 : Int), .agg #[.bool x.2.e, .int .u64 x.2.d, .int .u8 x.2.l], .bool true]) ?_ rfl ?_
  · simp [results, Try.f82, go_sem, k0, k1, k2]
  · exact ⟨rfl, (HE.out _ _ _).1, (HE.out _ _ _).2⟩
end
end Go.Proofs.Ytlfejgjhamcahaa.Dc
