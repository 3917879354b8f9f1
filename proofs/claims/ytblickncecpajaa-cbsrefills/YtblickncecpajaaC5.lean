/- The program's walks: Wake, Charge. -/
import Derived.Test.YtblickncecpajaaC4
namespace Go.Proofs.Ytblickncecpajaa
open Go.RowKit Go.Lib
set_option linter.unusedVariables false
theorem addN_lt (a b : Nat) : addN a b < 18446744073709551616 := by unfold addN; split <;> omega
theorem fill_ok {x : Srv} (h : x.ok) (now : Nat) : (fillS x now).ok := ⟨h.1, h.2.1, h.2.2.1, Nat.le_refl _, addN_lt _ _⟩
theorem set_self {xs : List Value} {k : Nat} {u : Value} (h : xs[k]? = some u) : xs.set k u = xs := by
  apply List.ext_getElem?
  intro i
  rw [List.getElem?_set]
  have hk := (List.getElem?_eq_some_iff.1 h).1
  by_cases q : k = i
  · subst q; rw [if_pos rfl, if_pos hk, h]
  · simp [q]
theorem natBeq (n : Nat) : ((n : Int) == 0) = (n == 0) := by rw [Bool.eq_iff_iff]; simp
theorem fr_put {S : Nat → Prop} {w w1 : World} (hb : Below w.heap.size w w1) (g k0 k1 k2 k3 : Nat) (u0 u1 u2 u3 : Value) (hS : S g) : Fr S w ((((w1.setCell ⟨g, k0, none⟩ u0).setCell ⟨g, k1, none⟩ u1).setCell ⟨g, k2, none⟩ u2).setCell ⟨g, k3, none⟩ u3) :=
  ((((Fr.of_below' hb).setCell (a := ⟨g, k0, none⟩) hS _).setCell (a := ⟨g, k1, none⟩) hS _).setCell (a := ⟨g, k2, none⟩) hS _).setCell (a := ⟨g, k3, none⟩) hS _
section
variable {w : World} {base s P : Nat} {v : Value} {L : List Srv}
theorem Pep.one {g cap : Nat} (h : Pep w base s P (.slice (some ⟨g, 0, none⟩) L.length cap) L) {k : Nat} {x : Srv} (hx : L[k]? = some x) :
    w.cell? ⟨s, 1, none⟩ = some (.slice (some ⟨g, 0, none⟩) L.length cap) ∧ w.cell? ⟨g, k * 4, none⟩ = some (.int .u64 (x.b : Int)) ∧ w.cell? ⟨g, k * 4 + 1, none⟩ = some (.int .u64 (x.p : Int)) ∧ w.cell? ⟨g, k * 4 + 2, none⟩ = some (.int .u64 (x.l : Int)) ∧ w.cell? ⟨g, k * 4 + 3, none⟩ = some (.int .u64 (x.d : Int)) ∧
    w.frozen? ⟨g, k * 4, none⟩ = false ∧ w.frozen? ⟨g, k * 4 + 1, none⟩ = false ∧ w.frozen? ⟨g, k * 4 + 2, none⟩ = false ∧ w.frozen? ⟨g, k * 4 + 3, none⟩ = false := by
  have hk : k < L.length := (List.getElem?_eq_some_iff.1 hx).1
  obtain ⟨g', cap', e, _, _, _, _, hf, hc⟩ := h.cells (by omega)
  simp at e
  obtain ⟨rfl, rfl⟩ := e
  obtain ⟨y0, y1, y2, y3⟩ := hc k x hx
  exact ⟨h.c1, y0, y1, y2, y3, hf _, hf _, hf _, hf _⟩
theorem wake_range (h : Pep w base s P v L) (i : Int) (now : Nat) (hi : ¬ (0 ≤ i ∧ i < (L.length : Int))) : Calls Try.prog 15 #[.pointer (some ⟨s, 0, none⟩), .int .i64 i, .int .u64 (now : Int)] w fun e w' => e = .returned (.int .i64 2) ∧ w' = w := by
  have HH := veil (has_ok h i)
  rw [decide_eq_false hi] at HH
  clear h hi
  go_enter Try.func15, Try.ntmps15
  go_wp2_with (go_at_call 37; refine (HH.out).mono ?_; rintro e w1 ⟨rfl, hw⟩; subst hw)
  go_ret
  exact ⟨rfl, rfl⟩
theorem wake_not (h : Pep w base s P v L) (k now : Nat) (x : Srv) (hx : L[k]? = some x) (hd : ¬ x.d ≤ now) : Calls Try.prog 15 #[.pointer (some ⟨s, 0, none⟩), .int .i64 (k : Int), .int .u64 (now : Int)] w fun e w' => e = .returned (.int .i64 0) ∧ Below w.heap.size w w' := by
  have hk : k < L.length := (List.getElem?_eq_some_iff.1 hx).1
  have HH := veil (has_ok h k)
  rw [decide_eq_true (by omega)] at HH
  have HO := veil (fun w => over_ok w x now)
  simp only [decide_eq_false hd] at HO
  obtain ⟨g, cap, rfl, hc1, hc2, hg, hgs, hfz, hc⟩ := h.cells (by omega)
  obtain ⟨y0, y1, y2, y3⟩ := hc k x hx
  have c1 := h.c1
  clear h hc hd
  go_enter Try.func15, Try.ntmps15
  go_wp2_with (first
    | (go_at_call 37; refine (HH.out).mono ?_; rintro e w1 ⟨rfl, hw⟩; replace hw := hw.symm; subst hw)
    | (go_at_call 38; refine (HO.out _).mono ?_; rintro e w1 ⟨rfl, c, rfl⟩))
  go_ret
  exact ⟨rfl, (Below.refl _ _).alloc (Nat.le_refl _) _⟩
theorem wake_yes (h : Pep w base s P v L) (k now : Nat) (x : Srv) (hx : L[k]? = some x) (hd : x.d ≤ now) (hn : now < 18446744073709551616) : Calls Try.prog 15 #[.pointer (some ⟨s, 0, none⟩), .int .i64 (k : Int), .int .u64 (now : Int)] w fun e w' => e = .returned (.int .i64 0) ∧ Pep w' base s P v (L.set k (fillS x now)) ∧ Fr (fun k => some k = v.ownBlock) w w' := by
  have hk : k < L.length := (List.getElem?_eq_some_iff.1 hx).1
  have HH := veil (has_ok h k)
  rw [decide_eq_true (by omega)] at HH
  have HO := veil (fun w => over_ok w x now)
  simp only [decide_eq_true hd] at HO
  have hok := h.f.all x (List.mem_of_getElem? hx)
  have HF := veil (fun w => filled_ok w x now hok hn)
  have HE : Hid (∀ w1, Below w.heap.size w w1 → Pep w1 base s P v L) := fun w1 hb => h.below hb
  have HX := veil (fill_ok hok now)
  obtain ⟨g, cap, hv, hc1, hc2, hg, hgs, hfz, hc⟩ := h.cells (by omega)
  subst hv
  obtain ⟨y0, y1, y2, y3⟩ := hc k x hx
  have c1 := h.c1
  have f0 := hfz (k * 4)
  have f1 := hfz (k * 4 + 1)
  have f2 := hfz (k * 4 + 2)
  have f3 := hfz (k * 4 + 3)
  have hs := h.lt
  clear h hc hd hok hfz
  go_enter Try.func15, Try.ntmps15
  go_wp2_with (first
    | (go_at_call 37; refine (HH.out).mono ?_; rintro e w1 ⟨rfl, hw⟩; replace hw := hw.symm; subst hw)
    | (go_at_call 38; refine (HO.out _).mono ?_; rintro e w1 ⟨rfl, c, rfl⟩))
  refine wp_region_held_drew (S := (fun w' => w'.cell? ⟨s, 1, none⟩ = some (.slice (some ⟨g, 0, none⟩) L.length cap))) (by kernel_rfl) ?_ (fun hHeld => ?_)
  · simp [go_sem, c1, hs]
  refine wpAnyH_take (i := 0) (v := ?_) rfl (by kernel_rfl) (by kernel_rfl) (by kernel_rfl) (fun _ _ _ h => h) (Or.inl ⟨by rfl, ?v0⟩) (by assumption) ?_
  case v0 => (intro w hSw; (try dsimp only at hSw); go_simp; try with_reducible rfl)
  try simp only [Act.put, List.setIfInBounds_toArray, List.set_cons_zero, List.set_cons_succ, List.getElem_toArray, List.getElem_cons_zero]
  refine wpAnyH_take (i := 1) (v := ?_) rfl (by kernel_rfl) (by kernel_rfl) (by kernel_rfl) (fun _ _ _ h => h) (Or.inl ⟨by rfl, ?v1⟩) (by assumption) ?_
  case v1 => (intro w hSw; (try dsimp only at hSw); go_simp; try with_reducible rfl)
  try simp only [Act.put, List.setIfInBounds_toArray, List.set_cons_zero, List.set_cons_succ, List.getElem_toArray, List.getElem_cons_succ, List.getElem_cons_zero]
  refine wpAnyH_take (i := 2) (v := ?_) rfl (by kernel_rfl) (by kernel_rfl) (by kernel_rfl) (fun _ _ _ h => h) (Or.inl ⟨by rfl, ?v2⟩) (by assumption) ?_
  case v2 => (intro w hSw; (try dsimp only at hSw); go_simp; try with_reducible rfl)
  try simp only [Act.put, List.setIfInBounds_toArray, List.set_cons_zero, List.set_cons_succ, List.getElem_toArray, List.getElem_cons_succ, List.getElem_cons_zero]
  refine wpAnyH_take (i := 3) (v := ?_) rfl (by kernel_rfl) (by kernel_rfl) (by kernel_rfl) (fun _ _ _ h => h) (Or.inl ⟨by rfl, ?v3⟩) (by assumption) ?_
  case v3 => (intro w hSw; (try dsimp only at hSw); go_simp; try with_reducible rfl)
  try simp only [Act.put, List.setIfInBounds_toArray, List.set_cons_zero, List.set_cons_succ, List.getElem_toArray, List.getElem_cons_succ, List.getElem_cons_zero]
  refine wpAnyH_take (i := 4) (v := ?_) rfl (by kernel_rfl) (by kernel_rfl) (by kernel_rfl) (fun _ _ _ h => h) (Or.inl ⟨by rfl, ?v4⟩) (by assumption) ?_
  case v4 => (intro w hSw; (try dsimp only at hSw); go_simp; try with_reducible rfl)
  try simp only [Act.put, List.setIfInBounds_toArray, List.set_cons_zero, List.set_cons_succ, List.getElem_toArray, List.getElem_cons_succ, List.getElem_cons_zero]
  refine wpAnyH_take (i := 5) (v := ?_) rfl (by kernel_rfl) (by kernel_rfl) (by kernel_rfl) (fun _ _ _ h => h) (Or.inl ⟨by rfl, ?v5⟩) (by assumption) ?_
  case v5 => (intro w hSw; (try dsimp only at hSw); go_simp; try with_reducible rfl)
  try simp only [Act.put, List.setIfInBounds_toArray, List.set_cons_zero, List.set_cons_succ, List.getElem_toArray, List.getElem_cons_succ, List.getElem_cons_zero]
  refine wpAnyH_take (i := 6) (v := ?_) rfl (by kernel_rfl) (by kernel_rfl) (by kernel_rfl) (fun _ _ _ h => h) (Or.inl ⟨by rfl, ?v6⟩) (by assumption) ?_
  case v6 => (intro w hSw; (try dsimp only at hSw); go_simp; try with_reducible rfl)
  try simp only [Act.put, List.setIfInBounds_toArray, List.set_cons_zero, List.set_cons_succ, List.getElem_toArray, List.getElem_cons_succ, List.getElem_cons_zero]
  refine wpAnyH_take (i := 7) (v := ?_) rfl (by kernel_rfl) (by kernel_rfl) (by kernel_rfl) (fun _ _ _ h => h) (Or.inl ⟨by rfl, ?v7⟩) (by assumption) ?_
  case v7 => (intro w hSw; (try dsimp only at hSw); go_simp; try with_reducible rfl)
  try simp only [Act.put, List.setIfInBounds_toArray, List.set_cons_zero, List.set_cons_succ, List.getElem_toArray, List.getElem_cons_succ, List.getElem_cons_zero]
  refine wpAnyH_take (i := 8) (v := ?_) rfl (by kernel_rfl) (by kernel_rfl) (by kernel_rfl) (fun _ _ _ h => h) (Or.inl ⟨by rfl, ?v8⟩) (by assumption) ?_
  case v8 => (intro w hSw; (try dsimp only at hSw); go_simp; try with_reducible rfl)
  try simp only [Act.put, List.setIfInBounds_toArray, List.set_cons_zero, List.set_cons_succ, List.getElem_toArray, List.getElem_cons_succ, List.getElem_cons_zero]
  refine wpAnyH_take (i := 9) (v := ?_) rfl (by kernel_rfl) (by kernel_rfl) (by kernel_rfl) (fun _ _ _ h => h) (Or.inl ⟨by rfl, ?v9⟩) (by assumption) ?_
  case v9 => (intro w hSw; (try dsimp only at hSw); go_simp; try with_reducible rfl)
  try simp only [Act.put, List.setIfInBounds_toArray, List.set_cons_zero, List.set_cons_succ, List.getElem_toArray, List.getElem_cons_succ, List.getElem_cons_zero]
  refine wpAnyH_take (i := 10) (v := ?_) rfl (by kernel_rfl) (by kernel_rfl) (by kernel_rfl) (fun _ _ _ h => h) (Or.inl ⟨by rfl, ?v10⟩) (by assumption) ?_
  case v10 => (intro w hSw; (try dsimp only at hSw); go_simp; try with_reducible rfl)
  try simp only [Act.put, List.setIfInBounds_toArray, List.set_cons_zero, List.set_cons_succ, List.getElem_toArray, List.getElem_cons_succ, List.getElem_cons_zero]
  refine wpAnyH_take (i := 12) (v := ?_) rfl (by kernel_rfl) (by kernel_rfl) (by kernel_rfl) (fun _ _ _ h => h) (Or.inl ⟨by rfl, ?v12⟩) (by assumption) ?_
  case v12 => (intro w hSw; (try dsimp only at hSw); go_simp; try with_reducible rfl)
  try simp only [Act.put, List.setIfInBounds_toArray, List.set_cons_zero, List.set_cons_succ, List.getElem_toArray, List.getElem_cons_succ, List.getElem_cons_zero]
  refine wpAnyH_ready (rs := [11]) (by kernel_rfl) (by simp) ?_
  refine AllReadyH.cons rfl (fun K hK => ?_) AllReadyH.nil
  go_simp
  refine hK.out _ _ ?_ (fun hHeld => ?_)
  · go_keep
  clear hK K
  try simp only [Act.put, List.setIfInBounds_toArray, List.set_cons_zero, List.set_cons_succ, List.getElem_toArray, List.getElem_cons_succ, List.getElem_cons_zero]
  refine wpAnyH_ready (rs := [13]) (by kernel_rfl) (by simp) ?_
  refine AllReadyH.cons rfl (fun K hK => ?_) AllReadyH.nil
  go_simp
  refine (HF.out _).mono ?_
  rintro e w1 ⟨rfl, c', c2, hw⟩
  have hb : Below w.heap.size w w1 := by rw [hw]; exact (((((Below.refl _ _).alloc (Nat.le_refl _) _).drew).alloc (by simp) _).alloc (by simp; omega) _).drew
  clear hw
  have HP1 := veil (HE.out _ hb)
  have HB := veil hb
  obtain ⟨z1, y0', y1', y2', y3', f0', f1', f2', f3'⟩ := HP1.out.one hx
  clear hb
  go_wp2_with fail
  refine hK.out _ _ ?_ (fun hHeld => ?_)
  · exact z1
  clear hK K
  try simp only [Act.put, List.setIfInBounds_toArray, List.set_cons_zero, List.set_cons_succ, List.getElem_toArray, List.getElem_cons_succ, List.getElem_cons_zero]
  refine wpAnyH_take (i := 14) (v := ?_) rfl (by kernel_rfl) (by kernel_rfl) (by kernel_rfl) (fun _ _ _ h => h) (Or.inl ⟨by rfl, ?v14⟩) (by assumption) ?_
  case v14 => (intro w hSw; (try dsimp only at hSw); go_simp; try with_reducible rfl)
  try simp only [Act.put, List.setIfInBounds_toArray, List.set_cons_zero, List.set_cons_succ, List.getElem_toArray, List.getElem_cons_succ, List.getElem_cons_zero]
  refine wpAnyH_ready (rs := [15]) (by kernel_rfl) (by simp) ?_
  refine AllReadyH.cons rfl (fun K hK => ?_) AllReadyH.nil
  go_simp
  refine hK.out _ _ ?_ (fun hHeld => ?_)
  · go_keep
  clear hK K
  try simp only [Act.put, List.setIfInBounds_toArray, List.set_cons_zero, List.set_cons_succ, List.getElem_toArray, List.getElem_cons_succ, List.getElem_cons_zero]
  refine wpAnyH_done (by kernel_rfl) ?_ _
  go_wp2
  go_ret
  exact ⟨rfl, HP1.out.put rfl hk _ HX.out, fr_put HB.out g _ _ _ _ _ _ _ _ rfl⟩
theorem charge_range (h : Pep w base s P v L) (i : Int) (hi : ¬ (0 ≤ i ∧ i < (L.length : Int))) : Calls Try.prog 17 #[.pointer (some ⟨s, 0, none⟩), .int .i64 i] w fun e w' => e = .returned (.tuple #[.bool false, .int .i64 2]) ∧ w' = w := by
  have HH := veil (has_ok h i)
  rw [decide_eq_false hi] at HH
  clear h hi
  go_enter Try.func17, Try.ntmps17
  go_wp2_with (go_at_call 37; refine (HH.out).mono ?_; rintro e w1 ⟨rfl, hw⟩; subst hw)
  go_ret2
  exact ⟨rfl, rfl⟩
theorem charge_none (h : Pep w base s P v L) (k : Nat) (x : Srv) (hx : L[k]? = some x) (hl : x.l = 0) : Calls Try.prog 17 #[.pointer (some ⟨s, 0, none⟩), .int .i64 (k : Int)] w fun e w' => e = .returned (.tuple #[.bool false, .int .i64 6]) ∧ w' = w := by
  have hk : k < L.length := (List.getElem?_eq_some_iff.1 hx).1
  have HH := veil (has_ok h k)
  rw [decide_eq_true (by omega)] at HH
  obtain ⟨g, cap, rfl, hc1, hc2, hg, hgs, hfz, hc⟩ := h.cells (by omega)
  obtain ⟨c1, y0, y1, y2, y3, f0, f1, f2, f3⟩ := h.one hx
  rw [hl] at y2
  clear h hc hfz
  go_enter Try.func17, Try.ntmps17
  go_wp2_with (first
    | (go_at_call 37; refine (HH.out).mono ?_; rintro e w1 ⟨rfl, hw⟩; replace hw := hw.symm; subst hw))
  go_ret2
  exact ⟨rfl, rfl⟩
/-- One tick less. -/
def tickS (x : Srv) : Srv := ⟨x.b, x.p, x.l - 1, x.d⟩
theorem tick_ok {x : Srv} (h : x.ok) : (tickS x).ok := ⟨h.1, h.2.1, h.2.2.1, Nat.le_trans (Nat.sub_le _ _) h.2.2.2.1, h.2.2.2.2⟩
theorem Pep.tick (h : Pep w base s P v L) {g cap k : Nat} (hv : v = .slice (some ⟨g, 0, none⟩) L.length cap) {x : Srv} (hx : L[k]? = some x) (hxl : 1 ≤ x.l) :
    Pep (w.setCell ⟨g, k * 4 + 2, none⟩ (.int .u64 ((x.l - 1 : Nat) : Int))) base s P v (L.set k (tickS x)) := by
  have hne := h.ne
  have hk : k < L.length := (List.getElem?_eq_some_iff.1 hx).1
  have hok := h.f.all x (List.mem_of_getElem? hx)
  subst hv
  have hgs : ¬ s = g := fun q => hne (by rw [q]; rfl)
  have h1 := ownsRow_set h.own (k * 4 + 2) (by omega) (.int .u64 ((x.l - 1 : Nat) : Int))
  have e : (pcells L).set (k * 4 + 2) (.int .u64 ((x.l - 1 : Nat) : Int)) = pcells (L.set k (tickS x)) := by
    rw [pcells_set L k (tickS x) hk]
    obtain ⟨a0, a1, a2, a3⟩ := pcells_at L k x hx
    have b0 : (pcells L).set (k * 4) (.int .u64 (x.b : Int)) = pcells L := by rw [set_self a0]
    have b1 : (pcells L).set (k * 4 + 1) (.int .u64 (x.p : Int)) = pcells L := by rw [set_self a1]
    have b3 : ((pcells L).set (k * 4 + 2) (.int .u64 ((x.l - 1 : Nat) : Int))).set (k * 4 + 3) (.int .u64 (x.d : Int)) = (pcells L).set (k * 4 + 2) (.int .u64 ((x.l - 1 : Nat) : Int)) := by
      rw [set_self (by rw [List.getElem?_set_ne (by omega)]; exact a3)]
    show _ = ((((pcells L).set (k * 4) (.int .u64 (x.b : Int))).set (k * 4 + 1) (.int .u64 (x.p : Int))).set (k * 4 + 2) (.int .u64 ((x.l - 1 : Nat) : Int))).set (k * 4 + 3) (.int .u64 (x.d : Int))
    rw [b0, b1, b3]
  rw [e] at h1
  refine ⟨?_, by simpa using h1, by simpa using h.bs, ⟨h.f.p1, h.f.p2, ?_, by simpa using h.f.len⟩⟩
  · rw [Below.heap_setCell _ _ _ _ hgs]
    exact h.blk
  · intro y hy
    rcases List.mem_or_eq_of_mem_set hy with q | q
    · exact h.f.all y q
    · rw [q]; exact tick_ok hok
theorem charge_ok (h : Pep w base s P v L) (k : Nat) (x : Srv) (hx : L[k]? = some x) (hl : 1 ≤ x.l) : Calls Try.prog 17 #[.pointer (some ⟨s, 0, none⟩), .int .i64 (k : Int)] w fun e w' => e = .returned (.tuple #[.bool (x.l - 1 == 0), .int .i64 0]) ∧ Pep w' base s P v (L.set k (tickS x)) ∧ Fr (fun k => some k = v.ownBlock) w w' := by
  have hk : k < L.length := (List.getElem?_eq_some_iff.1 hx).1
  have HH := veil (has_ok h k)
  rw [decide_eq_true (by omega)] at HH
  have HP := veil h
  obtain ⟨g, cap, rfl, hc1, hc2, hg, hgs, hfz, hc⟩ := h.cells (by omega)
  obtain ⟨c1, y0, y1, y2, y3, f0, f1, f2, f3⟩ := h.one hx
  have hok := h.f.all x (List.mem_of_getElem? hx)
  have n1 : ¬ (x.l : Int) = 0 := by omega
  have n3 : ¬ x.l = 0 := by omega
  have n2 : (x.l : Int) - 1 = ((x.l - 1 : Nat) : Int) := by omega
  have n4 : x.l < 18446744073709551616 := by have := hok.2.2.2.1; have := hok.2.1; have := hok.le; omega
  have n5 : ((x.l - 1 : Nat) : Int) % 18446744073709551616 = ((x.l - 1 : Nat) : Int) := by omega
  clear h hc hfz hok
  go_enter Try.func17, Try.ntmps17
  go_wp2_with (first
    | (go_at_call 37; refine (HH.out).mono ?_; rintro e w1 ⟨rfl, hw⟩; replace hw := hw.symm; subst hw))
  go_ret2
  exact ⟨by simp [natBeq], HP.out.tick rfl hx hl, (Fr.refl (fun k => some k = some g) _).setCell (a := ⟨g, k * 4 + 2, none⟩) rfl _⟩
end
end Go.Proofs.Ytblickncecpajaa
