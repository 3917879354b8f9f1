/-
  The walks of the document's set: Top, Key, Len, Remove, Take.
-/
import Derived.Test.YtlfejgjhamcahaaX3
namespace Go.Proofs.Ytlfejgjhamcahaa.Dc
open Go.RowKit Go.Lib
attribute [local go_sem ↓] Go.wp_at_zero Go.wp_at_succ

section
variable {w : World} {base rb n most : Nat} {v : Value} {R R1 R2 : List En} {id : Nat} {k : Ke.K}
theorem rlen_ok (h : IsR w base rb n most v R) :
    Calls Try.prog 45 #[.pointer (some ⟨rb, 0, none⟩)] w fun e w' => e = .returned (.int .i64 (R.length : Int)) ∧ w' = w := by
  obtain ⟨a, cap, rfl, _⟩ := h.form
  have e1 := h.c2
  clear h
  go_enter Try.func45, Try.ntmps45
  go_wp2
  go_ret
  exact ⟨rfl, rfl⟩
theorem rremove_range (h : IsR w base rb n most v R) (id : Int) (hi : id < 0 ∨ (n : Int) ≤ id) :
    Calls Try.prog 73 #[.pointer (some ⟨rb, 0, none⟩), .int .i64 id] w fun e w' => e = .returned (.int .i64 2) ∧ w' = w := by
  have e0 := h.c0
  clear h
  by_cases h0 : id < 0
  all_goals
    go_enter Try.func73, Try.ntmps73
    go_wp2
    go_ret
    exact ⟨rfl, rfl⟩
theorem rremove_none (h : IsR w base rb n most v R) (hi : id < n) (hid : ∀ it ∈ R, it.1 ≠ id) :
    Calls Try.prog 73 #[.pointer (some ⟨rb, 0, none⟩), .int .i64 (id : Int)] w fun e w' => e = .returned (.int .i64 6) ∧ w' = w := by
  have e0 := h.c0
  have hn := h.nle
  have HA := veil (rat_none h id (fun it hit q => hid it hit (by omega)))
  clear h hid
  go_enter Try.func73, Try.ntmps73
  go_wp2_with (go_at_call 87; refine (HA.out).mono ?_; rintro e w1 ⟨rfl, hw⟩; replace hw := hw.symm; subst hw)
  go_ret
  exact ⟨rfl, rfl⟩
theorem rremove_ok (h : IsR w base rb n most v (R1 ++ (id, k) :: R2)) :
    Calls Try.prog 73 #[.pointer (some ⟨rb, 0, none⟩), .int .i64 (id : Int)] w fun e w' => e = .returned (.int .i64 0) ∧ (∃ v', IsR w' base rb n most v' (R1 ++ R2)) ∧ Fr (fun k => k = rb) w w' := by
  have e0 := h.c0
  have hk := h.rng (id, k) (by simp)
  have hn := h.nle
  have HA := veil (rat_some h)
  have HO := veil (rout_ok h)
  have hlen : R1.length ≤ 1024 := by have := h.len_le; simp at this; omega
  clear h
  go_enter Try.func73, Try.ntmps73
  go_wp2_with (first
    | (go_at_call 87; refine (HA.out).mono ?_; rintro e w1 ⟨rfl, hw⟩; replace hw := hw.symm; subst hw)
    | (go_at_call 94; refine (HO.out).mono ?_; rintro e w1 ⟨rfl, hv, hf⟩; have HV := veil hv; have HF := veil hf; clear hv hf))
  go_ret
  exact ⟨rfl, HV.out, HF.out⟩
theorem rtop_none (h : IsR w base rb n most v []) :
    Calls Try.prog 63 #[.pointer (some ⟨rb, 0, none⟩)] w fun e w' => e = .returned (.tuple #[.int .i64 0, .agg #[.bool false, .int .u64 0, .int .u8 0], .bool false]) ∧ Below w.heap.size w w' := by
  obtain ⟨a, cap, rfl, _⟩ := h.form
  have hlt := h.lt
  have y0 : ¬ rb = w.heap.size := by omega
  have e1 : w.cell? ⟨rb, 2, none⟩ = some (.slice a 0 cap) := h.c2
  clear h
  go_enter Try.func63, Try.ntmps63
  go_wp2
  refine bodyPost_ret (v := .tuple #[.int .i64 0, .agg #[.bool false, .int .u64 0, .int .u8 0], .bool false]) ?_ rfl ?_
  · simp [results, Try.f63, go_sem]
  · exact ⟨rfl, (Below.refl _ _).alloc (Nat.le_refl _) _⟩
theorem rtop_some {x : En} (h : IsR w base rb n most v (x :: R)) :
    Calls Try.prog 63 #[.pointer (some ⟨rb, 0, none⟩)] w fun e w' => e = .returned (.tuple #[.int .i64 (x.1 : Int), .agg #[.bool x.2.e, .int .u64 x.2.d, .int .u8 x.2.l], .bool true]) ∧ Below w.heap.size w w' := by
  obtain ⟨g, cap, rfl, h1, h2, h3, h4, h5⟩ := h.cells (by simp)
  have e1 := h.c2
  have hlt := h.lt
  have y0 : ¬ rb = w.heap.size := by omega
  have y1 : ¬ g = w.heap.size := by omega
  have hlen := h.len_le
  obtain ⟨z0, z1, z2, z3⟩ := h5 0 x rfl
  rw [List.length_cons] at e1 hlen
  clear h h5
  generalize R.length = m at *
  have hk : ¬ ((m : Int) + 1) = 0 := by omega
  simp only [Nat.zero_mul, Nat.zero_add] at z0 z1 z2 z3
  have q2 : (w.alloc (.cells #[.bool false, .int .u64 0, .int .u8 0] 25)).drew.cell? ⟨rb, 2, none⟩ = some (.slice (some ⟨g, 0, none⟩) (m + 1) cap) := (World.cell?_alloc_lt _ _ _ hlt).trans e1
  have p0 : (w.alloc (.cells #[.bool false, .int .u64 0, .int .u8 0] 25)).drew.cell? ⟨g, 0, none⟩ = some (.int .i64 (x.1 : Int)) := (World.cell?_alloc_lt _ _ _ h3).trans z0
  have p1 : (w.alloc (.cells #[.bool false, .int .u64 0, .int .u8 0] 25)).drew.cell? ⟨g, 1, none⟩ = some (.bool x.2.e) := (World.cell?_alloc_lt _ _ _ h3).trans z1
  have p2 : (w.alloc (.cells #[.bool false, .int .u64 0, .int .u8 0] 25)).drew.cell? ⟨g, 2, none⟩ = some (.int .u64 x.2.d) := (World.cell?_alloc_lt _ _ _ h3).trans z2
  have p3 : (w.alloc (.cells #[.bool false, .int .u64 0, .int .u8 0] 25)).drew.cell? ⟨g, 3, none⟩ = some (.int .u8 x.2.l) := (World.cell?_alloc_lt _ _ _ h3).trans z3
  go_enter Try.func63, Try.ntmps63
  go_wp2
  go_region_held3 (fun w' => w'.cell? ⟨rb, 2, none⟩ = some (.slice (some ⟨g, 0, none⟩) (m + 1) cap) ∧ w'.cell? ⟨g, 0, none⟩ = some (.int .i64 (x.1 : Int)) ∧ w'.cell? ⟨g, 1, none⟩ = some (.bool x.2.e) ∧ w'.cell? ⟨g, 2, none⟩ = some (.int .u64 x.2.d) ∧ w'.cell? ⟨g, 3, none⟩ = some (.int .u8 x.2.l))
    (first | exact ⟨q2, p0, p1, p2, p3⟩ | go_keep)
    (fail)
  go_wp2
  trace_state
  refine bodyPost_ret (v := .tuple #[.int .i64 (x.1 : Int), .agg #[.bool x.2.e, .int .u64 x.2.d, .int .u8 x.2.l], .bool true]) ?_ rfl ?_
  · simp [results, Try.f63, go_sem]
  · refine ⟨rfl, ?_⟩
    first
      | exact ((Below.refl _ _).alloc (Nat.le_refl _) _).drew
      | exact ((((Below.refl _ _).alloc (Nat.le_refl _) _).setCell (p := ⟨w.heap.size, 0, none⟩) (Nat.le_refl _) _).setCell (p := ⟨w.heap.size, 1, none⟩) (Nat.le_refl _) _).setCell (p := ⟨w.heap.size, 2, none⟩) (Nat.le_refl _) _
theorem rkey_none (h : IsR w base rb n most v R) (id : Int) (hno : ∀ it ∈ R, ¬ (it.1 : Int) = id) :
    Calls Try.prog 64 #[.pointer (some ⟨rb, 0, none⟩), .int .i64 id] w fun e w' => e = .returned (.tuple #[.agg #[.bool false, .int .u64 0, .int .u8 0], .bool false]) ∧ Below w.heap.size w w' := by
  have HA := veil (rat_none (h.below ((Below.refl _ _).alloc (Nat.le_refl _) (.cells #[.bool false, .int .u64 0, .int .u8 0] 25))) id hno)
  clear h hno
  go_enter Try.func64, Try.ntmps64
  go_wp2_with (go_at_call 87; refine (HA.out).mono ?_; rintro e w1 ⟨rfl, hw⟩; subst hw)
  refine bodyPost_ret (v := .tuple #[.agg #[.bool false, .int .u64 0, .int .u8 0], .bool false]) ?_ rfl ?_
  · simp [results, Try.f64, go_sem]
  · exact ⟨rfl, (by first | exact (Below.refl _ _).alloc (Nat.le_refl _) _ | exact ((Below.refl _ _).alloc (Nat.le_refl _) _).drew)⟩
set_option maxHeartbeats 1000000 in
theorem rkey_some (h : IsR w base rb n most v (R1 ++ (id, k) :: R2)) :
    Calls Try.prog 64 #[.pointer (some ⟨rb, 0, none⟩), .int .i64 (id : Int)] w fun e w' => e = .returned (.tuple #[.agg #[.bool k.e, .int .u64 k.d, .int .u8 k.l], .bool true]) ∧ Below w.heap.size w w' := by
  have hb := (Below.refl w.heap.size w).alloc (Nat.le_refl _) (.cells #[.bool false, .int .u64 0, .int .u8 0] 25)
  have HA := veil (rat_some (h.below hb))
  obtain ⟨g, cap, rfl, h1, h2, h3, h4, h5⟩ := h.cells (by simp)
  have e1 := h.c2
  have hlt := h.lt
  have hlen := h.len_le
  have hL : (R1 ++ (id, k) :: R2).length = R1.length + R2.length + 1 := by simp; omega
  rw [hL] at e1 hlen h1
  obtain ⟨_, z1, z2, z3⟩ := h5 R1.length (id, k) (by simp)
  simp only at z1 z2 z3
  have q2 := (hb.cell (p := ⟨rb, 2, none⟩) hlt).trans e1
  have p1 := (hb.cell (p := ⟨g, R1.length * 4 + 1, none⟩) h3).trans z1
  have p2 := (hb.cell (p := ⟨g, R1.length * 4 + 2, none⟩) h3).trans z2
  have p3 := (hb.cell (p := ⟨g, R1.length * 4 + 3, none⟩) h3).trans z3
  have y0 : ¬ rb = w.heap.size := by omega
  have y1 : ¬ g = w.heap.size := by omega
  clear h h5 hL z1 z2 z3 hb
  generalize R1.length = m at *
  generalize hLL : m + R2.length + 1 = L at *
  have b3 : m < L := by omega
  have b4 : (m : Int) < (L : Int) := by omega
  go_enter Try.func64, Try.ntmps64
  go_wp2_with (go_at_call 87; refine (HA.out).mono ?_; rintro e w1 ⟨rfl, hw⟩; subst hw)
  refine bodyPost_ret (v := .tuple #[.agg #[.bool k.e, .int .u64 k.d, .int .u8 k.l], .bool true]) ?_ rfl ?_
  · simp [results, Try.f64, go_sem]
  · refine ⟨rfl, ?_⟩
    first
      | exact (Below.refl _ _).alloc (Nat.le_refl _) _
      | exact ((Below.refl _ _).alloc (Nat.le_refl _) _).drew
      | exact ((((Below.refl _ _).alloc (Nat.le_refl _) _).setCell (p := ⟨w.heap.size, 0, none⟩) (Nat.le_refl _) _).setCell (p := ⟨w.heap.size, 1, none⟩) (Nat.le_refl _) _).setCell (p := ⟨w.heap.size, 2, none⟩) (Nat.le_refl _) _
/-- What is asked while a key lies in a box of its own. -/
theorem boxed (h : IsR w base rb n most v R) (k : Ke.K) : ∀ W, Below (w.heap.size + 1) (w.alloc (.cells #[.bool k.e, .int .u64 k.d, .int .u8 k.l] 25)) W → IsR W base rb n most v R ∧ (W.cell? ⟨w.heap.size, 0, none⟩ = some (.bool k.e) ∧ W.cell? ⟨w.heap.size, 1, none⟩ = some (.int .u64 k.d) ∧ W.cell? ⟨w.heap.size, 2, none⟩ = some (.int .u8 k.l)) ∧ (∀ o, W.frozen? ⟨w.heap.size, o, none⟩ = false) ∧ w.heap.size + 1 ≤ W.heap.size ∧ Below w.heap.size w W := fun W hW => by
  have hA := (Below.refl w.heap.size w).alloc (Nat.le_refl _) (.cells #[.bool k.e, .int .u64 k.d, .int .u8 k.l] 25)
  have hz : (w.alloc (.cells #[.bool k.e, .int .u64 k.d, .int .u8 k.l] 25)).heap.size = w.heap.size + 1 := by simp
  refine ⟨(h.below hA).below (by rw [hz]; exact hW), ⟨?_, ?_, ?_⟩, fun o => ?_, by rw [← hz]; exact hW.size, hA.trans (hW.mono (by omega))⟩
  · rw [hW.cell (p := ⟨w.heap.size, 0, none⟩) (by simp), cell_fresh]; rfl
  · rw [hW.cell (p := ⟨w.heap.size, 1, none⟩) (by simp), cell_fresh]; rfl
  · rw [hW.cell (p := ⟨w.heap.size, 2, none⟩) (by simp), cell_fresh]; rfl
  · rw [World.frozen?_of_block (a := ⟨w.heap.size, o, none⟩) (hW.block w.heap.size (by omega))]
    unfold World.frozen?
    simp only [(MapKept.heap_alloc w (.cells #[.bool k.e, .int .u64 k.d, .int .u8 k.l] 25)).1]
    rfl
set_option maxHeartbeats 1000000 in
theorem rput_range (h : IsR w base rb n most v R) (id : Int) (k : Ke.K) (hb : id < 0 ∨ (n : Int) ≤ id ∨ Ke.rightK k = false) :
    Calls Try.prog 80 #[.pointer (some ⟨rb, 0, none⟩), .int .i64 id, .agg #[.bool k.e, .int .u64 k.d, .int .u8 k.l]] w fun e w' => e = .returned (.int .i64 2) ∧ Below w.heap.size w w' := by
  have HX := veil (boxed h k)
  have hA := Below.refl (w.heap.size + 1) (w.alloc (.cells #[.bool k.e, .int .u64 k.d, .int .u8 k.l] 25))
  have c0 := (boxed h k _ hA).1.c0
  obtain ⟨k0, k1, k2⟩ := (boxed h k _ hA).2.1
  have HA : Hid (Below w.heap.size w (w.alloc (.cells #[.bool k.e, .int .u64 k.d, .int .u8 k.l] 25))) := (Below.refl _ _).alloc (Nat.le_refl _) _
  have hlt := h.lt
  have y0 : ¬ rb = w.heap.size := by omega
  have HR := veil (fun W => Ke.rright_ok W k)
  clear h hA
  have hcs : id < 0 ∨ (¬ id < 0 ∧ (n : Int) ≤ id) ∨ (¬ id < 0 ∧ ¬ (n : Int) ≤ id ∧ Ke.rightK k = false) := by
    by_cases q1 : id < 0
    · exact .inl q1
    · by_cases q2 : (n : Int) ≤ id
      · exact .inr (.inl ⟨q1, q2⟩)
      · rcases hb with q | q | q
        · exact absurd q q1
        · exact absurd q q2
        · exact .inr (.inr ⟨q1, q2, q⟩)
  clear hb
  rcases hcs with h1 | ⟨h1, h2⟩ | ⟨h1, h2, h3⟩
  · go_enter Try.func80, Try.ntmps80
    go_wp2
    go_ret
    exact ⟨rfl, HA.out⟩
  · go_enter Try.func80, Try.ntmps80
    go_wp2
    go_ret
    exact ⟨rfl, HA.out⟩
  · rw [h3] at HR
    go_enter Try.func80, Try.ntmps80
    go_wp2_with (go_at_call 79; refine (HR.out _).mono ?_; rintro e w1 ⟨rfl, hb1⟩; have HB1 := veil (HA.out.trans (hb1.mono HA.out.size)); clear hb1)
    go_ret
    exact ⟨rfl, HB1.out⟩
end
end Go.Proofs.Ytlfejgjhamcahaa.Dc
