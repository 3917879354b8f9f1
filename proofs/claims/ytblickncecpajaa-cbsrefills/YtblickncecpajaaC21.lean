/-
  The document's servers: Sum, Charge, fill, Wake.
-/
import Derived.Test.YtblickncecpajaaC20
import Derived.OrdersHeld
namespace Go.Proofs.Ytblickncecpajaa
open Go.RowKit Go.Lib
set_option linter.unusedVariables false
section
variable {w : World} {base s P : Nat} {v : Value} {L : List Srv}
theorem rcharge_range (h : Rep w base s P v L) (i : Int) (hi : inL L i = false) : Calls Try.prog 45 #[.pointer (some ⟨s, 0, none⟩), .int .i64 i] w fun e w' => e = .returned (.tuple #[.bool false, .int .i64 2]) ∧ w' = w := by
  have HH := veil (rhas_ok h i)
  rw [hi] at HH
  clear h hi
  go_enter Try.func45, Try.ntmps45
  go_wp2_with (go_at_call 48; refine (HH.out).mono ?_; rintro e w1 ⟨rfl, hw⟩; replace hw := hw.symm; subst hw)
  go_ret2
  exact ⟨rfl, rfl⟩
theorem rcharge_none (h : Rep w base s P v L) (k : Nat) (x : Srv) (hx : L[k]? = some x) (hl : x.l = 0) : Calls Try.prog 45 #[.pointer (some ⟨s, 0, none⟩), .int .i64 (k : Int)] w fun e w' => e = .returned (.tuple #[.bool false, .int .i64 6]) ∧ w' = w := by
  have hk : k < L.length := (List.getElem?_eq_some_iff.1 hx).1
  have hk' : (k : Int) < (L.length : Int) := by omega
  have HH := veil (rhas_ok h k)
  rw [(atL_some hx).2] at HH
  obtain ⟨g, cap, rfl, hc1, hc2, hg, hgs, hfz, hc⟩ := h.cells (by omega)
  obtain ⟨c1, y0, y1, y2, y3, y4, _⟩ := h.one hx
  rw [hl] at y2
  clear h hc hfz
  go_enter Try.func45, Try.ntmps45
  go_wp2_with (go_at_call 48; refine (HH.out).mono ?_; rintro e w1 ⟨rfl, hw⟩; replace hw := hw.symm; subst hw)
  go_ret2
  exact ⟨rfl, rfl⟩
theorem Rep.tick (h : Rep w base s P v L) {g cap k : Nat} (hv : v = .slice (some ⟨g, 0, none⟩) L.length cap) {x : Srv} (hx : L[k]? = some x) :
    Rep (w.setCell ⟨g, k * 5 + 2, none⟩ (.int .u64 ((x.l - 1 : Nat) : Int))) base s P v (L.set k (tickS x)) := by
  have hne := h.ne
  have hk : k < L.length := (List.getElem?_eq_some_iff.1 hx).1
  have hok := h.f.all x (List.mem_of_getElem? hx)
  subst hv
  have hgs : ¬ s = g := fun q => hne (by rw [q]; rfl)
  have h1 := ownsRow_set h.own (k * 5 + 2) (by omega) (.int .u64 ((x.l - 1 : Nat) : Int))
  have e : (rcells L).set (k * 5 + 2) (.int .u64 ((x.l - 1 : Nat) : Int)) = rcells (L.set k (tickS x)) := by
    rw [rcells_set L k (tickS x) hk]
    obtain ⟨a0, a1, a2, a3, a4⟩ := rcells_at L k x hx
    have b0 : (rcells L).set (k * 5) (.int .u64 (x.b : Int)) = rcells L := by rw [set_self a0]
    have b1 : (rcells L).set (k * 5 + 1) (.int .u64 (x.p : Int)) = rcells L := by rw [set_self a1]
    have b3 : ((rcells L).set (k * 5 + 2) (.int .u64 ((x.l - 1 : Nat) : Int))).set (k * 5 + 3) (.int .u64 (x.d : Int)) = (rcells L).set (k * 5 + 2) (.int .u64 ((x.l - 1 : Nat) : Int)) := by
      rw [set_self (by rw [List.getElem?_set_ne (by omega)]; exact a3)]
    have b4 : ((rcells L).set (k * 5 + 2) (.int .u64 ((x.l - 1 : Nat) : Int))).set (k * 5 + 4) (.bool (x.d == 0)) = (rcells L).set (k * 5 + 2) (.int .u64 ((x.l - 1 : Nat) : Int)) := by
      rw [set_self (by rw [List.getElem?_set_ne (by omega)]; exact a4)]
    show _ = (((((rcells L).set (k * 5) (.int .u64 (x.b : Int))).set (k * 5 + 1) (.int .u64 (x.p : Int))).set (k * 5 + 2) (.int .u64 ((x.l - 1 : Nat) : Int))).set (k * 5 + 3) (.int .u64 (x.d : Int))).set (k * 5 + 4) (.bool (x.d == 0))
    rw [b0, b1, b3, b4]
  rw [e] at h1
  refine ⟨?_, by simpa using h1, by simpa using h.bs, ⟨h.f.p1, h.f.p2, ?_, by simpa using h.f.len⟩⟩
  · rw [Below.heap_setCell _ _ _ _ hgs]
    exact h.blk
  · intro y hy
    rcases List.mem_or_eq_of_mem_set hy with q | q
    · exact h.f.all y q
    · rw [q]; exact tick_ok hok
theorem rcharge_ok (h : Rep w base s P v L) (k : Nat) (x : Srv) (hx : L[k]? = some x) (hl : 1 ≤ x.l) : Calls Try.prog 45 #[.pointer (some ⟨s, 0, none⟩), .int .i64 (k : Int)] w fun e w' => e = .returned (.tuple #[.bool (x.l - 1 == 0), .int .i64 0]) ∧ Rep w' base s P v (L.set k (tickS x)) ∧ Fr (fun k => some k = v.ownBlock) w w' := by
  have hk : k < L.length := (List.getElem?_eq_some_iff.1 hx).1
  have hk' : (k : Int) < (L.length : Int) := by omega
  have HH := veil (rhas_ok h k)
  rw [(atL_some hx).2] at HH
  have HP := veil h
  obtain ⟨g, cap, rfl, hc1, hc2, hg, hgs, hfz, hc⟩ := h.cells (by omega)
  obtain ⟨c1, y0, y1, y2, y3, y4, _⟩ := h.one hx
  have f2 := hfz (k * 5 + 2)
  have hok := h.f.all x (List.mem_of_getElem? hx)
  have n1 : ¬ (x.l : Int) = 0 := by omega
  have n3 : ¬ x.l = 0 := by omega
  have n2 : (x.l : Int) - 1 = ((x.l - 1 : Nat) : Int) := by omega
  have n4 : x.l < 18446744073709551616 := by have := hok.2.2.2.1; have := hok.2.1; have := hok.le; omega
  have n5 : ((x.l - 1 : Nat) : Int) % 18446744073709551616 = ((x.l - 1 : Nat) : Int) := by omega
  have n6 : ¬ s = g := fun q => hgs q.symm
  clear h hc hfz hok
  go_enter Try.func45, Try.ntmps45
  go_wp2_with (go_at_call 48; refine (HH.out).mono ?_; rintro e w1 ⟨rfl, hw⟩; replace hw := hw.symm; subst hw)
  go_ret2
  exact ⟨by simp [natBeq], HP.out.tick rfl hx, (Fr.refl (fun k => some k = some g) _).setCell (a := ⟨g, k * 5 + 2, none⟩) rfl _⟩
theorem fill_wake {x : Srv} (h : x.ok) (now : Nat) : ((fillS x now).d == 0) = false := by
  have h1 : 1 ≤ x.p := Nat.le_trans h.1 h.2.1
  have : addN now x.p ≠ 0 := by unfold addN; split <;> omega
  simpa [fillS] using this
set_option maxHeartbeats 1000000 in
theorem rfill_ok (h : Rep w base s P v L) (k now : Nat) (x : Srv) (hx : L[k]? = some x) (hn : now < 18446744073709551616) : Calls Try.prog 52 #[.pointer (some ⟨s, 0, none⟩), .int .i64 (k : Int), .int .u64 (now : Int)] w fun e w' => (∃ u, e = .returned u) ∧ Rep w' base s P v (L.set k (fillS x now)) ∧ Fr (fun k => some k = v.ownBlock) w w' := by
  have hk : k < L.length := (List.getElem?_eq_some_iff.1 hx).1
  have hk' : (k : Int) < (L.length : Int) := by omega
  have hok := h.f.all x (List.mem_of_getElem? hx)
  have HA := veil (fun w => radd_ok now x.p w hn (by have := hok.le; omega))
  have HW := veil (fill_wake hok now)
  have HX := veil (fill_ok hok now)
  obtain ⟨g, cap, rfl, hc1, hc2, hg, hgs, hfz, hc⟩ := h.cells (by omega)
  obtain ⟨c1, y0, y1, y2, y3, y4, _⟩ := h.one hx
  have hs := h.lt
  have hR1 := h.below ((Below.refl _ w).alloc (Nat.le_refl _) (.cells #[.int .u64 (x.b : Int), .int .u64 (x.p : Int), .int .u64 (x.l : Int), .int .u64 (x.d : Int), .bool (x.d == 0)] 82))
  have HB1 := veil ((Below.refl w.heap.size w).alloc (Nat.le_refl _) (.cells #[.int .u64 (x.b : Int), .int .u64 (x.p : Int), .int .u64 (x.l : Int), .int .u64 (x.d : Int), .bool (x.d == 0)] 82))
  obtain ⟨d1, z0, z1, z2, z3, z4, hfz1⟩ := hR1.one hx
  have e0 : (w.alloc (.cells #[.int .u64 (x.b : Int), .int .u64 (x.p : Int), .int .u64 (x.l : Int), .int .u64 (x.d : Int), .bool (x.d == 0)] 82)).cell? ⟨w.heap.size, 0, none⟩ = some (.int .u64 (x.b : Int)) := by unfold World.cell?; simp only [(MapKept.heap_alloc w _).1]; rfl
  have e1 : (w.alloc (.cells #[.int .u64 (x.b : Int), .int .u64 (x.p : Int), .int .u64 (x.l : Int), .int .u64 (x.d : Int), .bool (x.d == 0)] 82)).cell? ⟨w.heap.size, 1, none⟩ = some (.int .u64 (x.p : Int)) := by unfold World.cell?; simp only [(MapKept.heap_alloc w _).1]; rfl
  have f0 := hfz1 (k * 5)
  have f1 := hfz1 (k * 5 + 1)
  have f2 := hfz1 (k * 5 + 2)
  have f3 := hfz1 (k * 5 + 3)
  have f4 := hfz1 (k * 5 + 4)
  have n3 : ¬ w.heap.size = g := by omega
  have n4 : ¬ s = g := fun q => hgs q.symm
  have HKS : Hid (∀ (W : World) (u0 u1 u2 u3 u4 : Value), (W.cell? ⟨s, 1, none⟩ = some (.slice (some ⟨g, 0, none⟩) L.length cap) ∧ W.cell? ⟨w.heap.size, 0, none⟩ = some (.int .u64 (x.b : Int)) ∧ W.cell? ⟨w.heap.size, 1, none⟩ = some (.int .u64 (x.p : Int))) →
      ((((((W.setCell ⟨g, k * 5, none⟩ u0).setCell ⟨g, k * 5 + 1, none⟩ u1).setCell ⟨g, k * 5 + 2, none⟩ u2).setCell ⟨g, k * 5 + 3, none⟩ u3).setCell ⟨g, k * 5 + 4, none⟩ u4).drew.cell? ⟨s, 1, none⟩ = some (.slice (some ⟨g, 0, none⟩) L.length cap) ∧ (((((W.setCell ⟨g, k * 5, none⟩ u0).setCell ⟨g, k * 5 + 1, none⟩ u1).setCell ⟨g, k * 5 + 2, none⟩ u2).setCell ⟨g, k * 5 + 3, none⟩ u3).setCell ⟨g, k * 5 + 4, none⟩ u4).drew.cell? ⟨w.heap.size, 0, none⟩ = some (.int .u64 (x.b : Int)) ∧ (((((W.setCell ⟨g, k * 5, none⟩ u0).setCell ⟨g, k * 5 + 1, none⟩ u1).setCell ⟨g, k * 5 + 2, none⟩ u2).setCell ⟨g, k * 5 + 3, none⟩ u3).setCell ⟨g, k * 5 + 4, none⟩ u4).drew.cell? ⟨w.heap.size, 1, none⟩ = some (.int .u64 (x.p : Int)))) := by
    intro W u0 u1 u2 u3 u4 ⟨h1, h2, h3⟩
    refine ⟨?_, ?_, ?_⟩ <;> simp [go_sem, h1, h2, h3]
  have HR1 := veil hR1
  clear h hc hok hfz hfz1 hR1
  go_enter Try.func52, Try.ntmps52
  go_wp2
  clear c1 y0 y1 y2 y3 y4
  generalize w.alloc (.cells #[.int .u64 (x.b : Int), .int .u64 (x.p : Int), .int .u64 (x.l : Int), .int .u64 (x.d : Int), .bool (x.d == 0)] 82) = W1 at HR1 HB1 d1 z0 z1 z2 z3 z4 e0 e1 f0 f1 f2 f3 f4 ⊢
  refine wp_region_held_drew (S := (fun w' => w'.cell? ⟨s, 1, none⟩ = some (.slice (some ⟨g, 0, none⟩) L.length cap) ∧ w'.cell? ⟨w.heap.size, 0, none⟩ = some (.int .u64 (x.b : Int)) ∧ w'.cell? ⟨w.heap.size, 1, none⟩ = some (.int .u64 (x.p : Int)))) (by kernel_rfl) ?_ (fun hHeld => ?_)
  · exact ⟨d1, e0, e1⟩
  refine wpAnyH_take (i := 0) (v := ?_) rfl (by kernel_rfl) (by kernel_rfl) (by kernel_rfl) (fun _ _ _ h => h) (Or.inl ⟨by rfl, ?v0⟩) (by assumption) ?_
  case v0 => (intro w hSw; (try dsimp only at hSw); go_simp; try with_reducible rfl)
  try simp only [Act.put, List.setIfInBounds_toArray, List.set_cons_zero, List.set_cons_succ, List.getElem_toArray, List.getElem_cons_zero]
  refine wpAnyH_take (i := 1) (v := ?_) rfl (by kernel_rfl) (by kernel_rfl) (by kernel_rfl) (fun _ _ _ h => h) (Or.inl ⟨by rfl, ?v1⟩) (by assumption) ?_
  case v1 => (intro w hSw; (try dsimp only at hSw); go_simp; try with_reducible rfl)
  try simp only [Act.put, List.setIfInBounds_toArray, List.set_cons_zero, List.set_cons_succ, List.getElem_toArray, List.getElem_cons_succ, List.getElem_cons_zero]
  refine wpAnyH_take (i := 2) (v := ?_) rfl (by kernel_rfl) (by kernel_rfl) (by kernel_rfl) (fun _ _ _ h => h) (Or.inl ⟨by rfl, ?v2⟩) (by assumption) ?_
  case v2 => (intro w hSw; (try dsimp only at hSw); go_simp; try with_reducible rfl)
  try simp only [Act.put, List.setIfInBounds_toArray, List.set_cons_zero, List.set_cons_succ, List.getElem_toArray, List.getElem_cons_succ, List.getElem_cons_zero]
  refine wpAnyH_take (i := 3) (v := ?_) rfl (by kernel_rfl) (by kernel_rfl) (by kernel_rfl) (fun _ _ _ h => h) (Or.inl ⟨by rfl, ?v3⟩) (by assumption) ?_
  case v3 => (intro w hSw; (try dsimp only at hSw); go_simp; try with_reducible rfl)
  try simp only [Act.put, List.setIfInBounds_toArray, List.set_cons_zero, List.set_cons_succ, List.getElem_toArray, List.getElem_cons_succ, List.getElem_cons_zero]
  refine wpAnyH_take (i := 4) (v := ?_) rfl (by kernel_rfl) (by kernel_rfl) (by kernel_rfl) (fun _ _ _ h => h) (Or.inl ⟨by rfl, ?v4⟩) (by assumption) ?_
  case v4 => (intro w hSw; (try dsimp only at hSw); go_simp; try with_reducible rfl)
  try simp only [Act.put, List.setIfInBounds_toArray, List.set_cons_zero, List.set_cons_succ, List.getElem_toArray, List.getElem_cons_succ, List.getElem_cons_zero]
  refine wpAnyH_take (i := 5) (v := ?_) rfl (by kernel_rfl) (by kernel_rfl) (by kernel_rfl) (fun _ _ _ h => h) (Or.inl ⟨by rfl, ?v5⟩) (by assumption) ?_
  case v5 => (intro w hSw; (try dsimp only at hSw); go_simp; try with_reducible rfl)
  try simp only [Act.put, List.setIfInBounds_toArray, List.set_cons_zero, List.set_cons_succ, List.getElem_toArray, List.getElem_cons_succ, List.getElem_cons_zero]
  refine wpAnyH_take (i := 6) (v := ?_) rfl (by kernel_rfl) (by kernel_rfl) (by kernel_rfl) (fun _ _ _ h => h) (Or.inl ⟨by rfl, ?v6⟩) (by assumption) ?_
  case v6 => (intro w hSw; (try dsimp only at hSw); go_simp; try with_reducible rfl)
  try simp only [Act.put, List.setIfInBounds_toArray, List.set_cons_zero, List.set_cons_succ, List.getElem_toArray, List.getElem_cons_succ, List.getElem_cons_zero]
  refine wpAnyH_take (i := 7) (v := ?_) rfl (by kernel_rfl) (by kernel_rfl) (by kernel_rfl) (fun _ _ _ h => h) (Or.inl ⟨by rfl, ?v7⟩) (by assumption) ?_
  case v7 => (intro w hSw; (try dsimp only at hSw); go_simp; try with_reducible rfl)
  try simp only [Act.put, List.setIfInBounds_toArray, List.set_cons_zero, List.set_cons_succ, List.getElem_toArray, List.getElem_cons_succ, List.getElem_cons_zero]
  refine wpAnyH_take (i := 8) (v := ?_) rfl (by kernel_rfl) (by kernel_rfl) (by kernel_rfl) (fun _ _ _ h => h) (Or.inl ⟨by rfl, ?v8⟩) (by assumption) ?_
  case v8 => (intro w hSw; (try dsimp only at hSw); go_simp; try with_reducible rfl)
  try simp only [Act.put, List.setIfInBounds_toArray, List.set_cons_zero, List.set_cons_succ, List.getElem_toArray, List.getElem_cons_succ, List.getElem_cons_zero]
  refine wpAnyH_take (i := 9) (v := ?_) rfl (by kernel_rfl) (by kernel_rfl) (by kernel_rfl) (fun _ _ _ h => h) (Or.inl ⟨by rfl, ?v9⟩) (by assumption) ?_
  case v9 => (intro w hSw; (try dsimp only at hSw); go_simp; try with_reducible rfl)
  try simp only [Act.put, List.setIfInBounds_toArray, List.set_cons_zero, List.set_cons_succ, List.getElem_toArray, List.getElem_cons_succ, List.getElem_cons_zero]
  refine wpAnyH_take (i := 10) (v := ?_) rfl (by kernel_rfl) (by kernel_rfl) (by kernel_rfl) (fun _ _ _ h => h) (Or.inl ⟨by rfl, ?v10⟩) (by assumption) ?_
  case v10 => (intro w hSw; (try dsimp only at hSw); go_simp; try with_reducible rfl)
  try simp only [Act.put, List.setIfInBounds_toArray, List.set_cons_zero, List.set_cons_succ, List.getElem_toArray, List.getElem_cons_succ, List.getElem_cons_zero]
  refine wpAnyH_take (i := 11) (v := ?_) rfl (by kernel_rfl) (by kernel_rfl) (by kernel_rfl) (fun _ _ _ h => h) (Or.inl ⟨by rfl, ?v11⟩) (by assumption) ?_
  case v11 => (intro w hSw; (try dsimp only at hSw); go_simp; try with_reducible rfl)
  try simp only [Act.put, List.setIfInBounds_toArray, List.set_cons_zero, List.set_cons_succ, List.getElem_toArray, List.getElem_cons_succ, List.getElem_cons_zero]
  refine wpAnyH_take (i := 12) (v := ?_) rfl (by kernel_rfl) (by kernel_rfl) (by kernel_rfl) (fun _ _ _ h => h) (Or.inl ⟨by rfl, ?v12⟩) (by assumption) ?_
  case v12 => (intro w hSw; (try dsimp only at hSw); go_simp; try with_reducible rfl)
  try simp only [Act.put, List.setIfInBounds_toArray, List.set_cons_zero, List.set_cons_succ, List.getElem_toArray, List.getElem_cons_succ, List.getElem_cons_zero]
  refine wpAnyH_take (i := 13) (v := ?_) rfl (by kernel_rfl) (by kernel_rfl) (by kernel_rfl) (fun _ _ _ h => h) (Or.inl ⟨by rfl, ?v13⟩) (by assumption) ?_
  case v13 => (intro w hSw; (try dsimp only at hSw); go_simp; try with_reducible rfl)
  try simp only [Act.put, List.setIfInBounds_toArray, List.set_cons_zero, List.set_cons_succ, List.getElem_toArray, List.getElem_cons_succ, List.getElem_cons_zero]
  refine wpAnyH_ready (rs := [14]) (by kernel_rfl) (by simp) ?_
  refine AllReadyH.cons rfl (fun K hK => ?_) AllReadyH.nil
  go_simp
  go_at_call 53
  refine (HA.out _).mono ?_
  rintro e w1 ⟨rfl, hw⟩
  replace hw := hw.symm
  subst hw
  refine hK.out _ _ ?_ (fun hHeld => ?_)
  · exact hHeld
  clear hK K
  try simp only [Act.put, List.setIfInBounds_toArray, List.set_cons_zero, List.set_cons_succ, List.getElem_toArray, List.getElem_cons_succ, List.getElem_cons_zero]
  refine wpAnyH_take (i := 15) (v := ?_) rfl (by kernel_rfl) (by kernel_rfl) (by kernel_rfl) (fun _ _ _ h => h) (Or.inl ⟨by rfl, ?v15⟩) (by assumption) ?_
  case v15 => (intro w hSw; (try dsimp only at hSw); go_simp; try with_reducible rfl)
  try simp only [Act.put, List.setIfInBounds_toArray, List.set_cons_zero, List.set_cons_succ, List.getElem_toArray, List.getElem_cons_succ, List.getElem_cons_zero]
  refine wpAnyH_take (i := 16) (v := ?_) rfl (by kernel_rfl) (by kernel_rfl) (by kernel_rfl) (fun _ _ _ h => h) (Or.inl ⟨by rfl, ?v16⟩) (by assumption) ?_
  case v16 => (intro w hSw; (try dsimp only at hSw); go_simp; try with_reducible rfl)
  try simp only [Act.put, List.setIfInBounds_toArray, List.set_cons_zero, List.set_cons_succ, List.getElem_toArray, List.getElem_cons_succ, List.getElem_cons_zero]
  refine wpAnyH_ready (rs := [17]) (by kernel_rfl) (by simp) ?_
  refine AllReadyH.cons rfl (fun K hK => ?_) AllReadyH.nil
  go_simp
  refine hK.out _ _ ?_ (fun hHeld => ?_)
  · exact HKS.out W1 _ _ _ _ _ hHeld
  clear hK K
  try simp only [Act.put, List.setIfInBounds_toArray, List.set_cons_zero, List.set_cons_succ, List.getElem_toArray, List.getElem_cons_succ, List.getElem_cons_zero]
  refine wpAnyH_done (by kernel_rfl) ?_ _
  skip
  go_wp2
  have hz := HR1.out.put rfl hk (fillS x now) HX.out
  rw [HW.out] at hz
  have hf := (((((Fr.of_below' (S := fun k => some k = some g) HB1.out).setCell (a := ⟨g, k * 5, none⟩) rfl (.int .u64 (x.b : Int))).setCell (a := ⟨g, k * 5 + 1, none⟩) rfl (.int .u64 (x.p : Int))).setCell (a := ⟨g, k * 5 + 2, none⟩) rfl (.int .u64 (x.b : Int))).setCell (a := ⟨g, k * 5 + 3, none⟩) rfl (.int .u64 (addN now x.p : Int))).setCell (a := ⟨g, k * 5 + 4, none⟩) rfl (.bool false)
  go_end0
  exact ⟨⟨_, rfl⟩, hz.like rfl, hf.os, hf.tape, hf.output, hf.size, hf.block⟩
end
end Go.Proofs.Ytblickncecpajaa
