/-
  The walk of the document's Fork.
-/
import Derived.Test.YtfhnepoegdhjmaaDoorT16
namespace Go.Proofs.YtfhnepoegdhjmaaDoor
open Go.RowKit Go.Lib
set_option linter.unusedVariables false
attribute [local go_sem ↓] Go.wp_at_zero Go.wp_at_succ

def stRow (S : Nat → Nat) (n : Nat) : List Value := (List.range n).map fun x => .int .i64 (S x : Int)
def gnRow (G : Nat → Nat) (n : Nat) : List Value := (List.range n).map fun x => .int .u32 (G x : Int)
theorem stRow_len (S : Nat → Nat) (n : Nat) : (stRow S n).length = n * 1 := by simp [stRow]
theorem gnRow_len (G : Nat → Nat) (n : Nat) : (gnRow G n).length = n * 1 := by simp [gnRow]
theorem stRow_at (S : Nat → Nat) (n x : Nat) (h : x < n) : (stRow S n)[x]? = some (.int .i64 (S x : Int)) := by simp [stRow, h]
theorem gnRow_at (G : Nat → Nat) (n x : Nat) (h : x < n) : (gnRow G n)[x]? = some (.int .u32 (G x : Int)) := by simp [gnRow, h]
theorem stRow_one (S : Nat → Nat) (n : Nat) : ∀ u ∈ stRow S n, u.oneCell' = true := by
  intro u hu
  obtain ⟨x, _, rfl⟩ := List.mem_map.1 hu
  rfl
theorem gnRow_one (G : Nat → Nat) (n : Nat) : ∀ u ∈ gnRow G n, u.oneCell' = true := by
  intro u hu
  obtain ⟨x, _, rfl⟩ := List.mem_map.1 hu
  rfl
theorem add0 (g j : Nat) : (⟨g, 0, none⟩ : Addr).add j = ⟨g, j, none⟩ := by unfold Addr.add; split <;> simp_all

theorem own_kept {w w' : World} {base : Nat} {e : TypeId} {size : Nat} {v : Value} {n : Nat} {xs : List Value} {row : Option Nat} (h : w.ownsRow base e size v n xs) (hg : w.grownBy w' row) (hn : ∀ k, v.ownBlock = some k → some k ≠ row) : w'.ownsRow base e size v n xs := by
  refine ⟨h.1, ?_⟩
  rcases h.2 with hn' | ⟨g, cap, cur, rfl, hb, hgg, rest⟩
  · exact .inl hn'
  · refine .inr ⟨g, cap, cur, rfl, hb, ?_, rest⟩
    rw [hg.block g (Array.getElem?_eq_some_iff.1 hgg).1 (hn g rfl)]
    exact hgg
theorem own_ne {w : World} {b1 b2 : Nat} {e1 e2 : TypeId} {s1 s2 : Nat} {v1 v2 : Value} {n1 n2 : Nat} {xs1 xs2 : List Value} (h1 : w.ownsRow b1 e1 s1 v1 n1 xs1) (h2 : w.ownsRow b2 e2 s2 v2 n2 xs2) (he : e1 ≠ e2) : ∀ k, v1.ownBlock = some k → some k ≠ v2.ownBlock := by
  intro k hk hk2
  rcases h1.2 with ⟨rfl, _⟩ | ⟨g, cap, cur, rfl, _, hg, _⟩
  · simp [Value.ownBlock] at hk
  · rcases h2.2 with ⟨rfl, _⟩ | ⟨g', cap', cur', rfl, _, hg', _⟩
    · simp [Value.ownBlock] at hk2
    · simp only [Value.ownBlock, Option.some.injEq] at hk hk2
      subst hk
      rw [← hk2, hg] at hg'
      simp at hg'
      exact he hg'.2

set_option maxHeartbeats 4000000 in
set_option maxRecDepth 100000 in
theorem rfork_ok {w : World} {rb sb gb n : Nat} {G S : Nat → Nat} (h : RefR w rb sb gb n G S) :
    Calls Tryd.prog 22 #[.pointer (some ⟨rb, 0, none⟩)] w fun e w' => ∃ rb' sb' gb', e = .returned (.pointer (some ⟨rb', 0, none⟩)) ∧ w.heap.size ≤ rb' ∧ w.heap.size ≤ sb' ∧ w.heap.size ≤ gb' ∧ RefR w' rb' sb' gb' n G S ∧ Below w.heap.size w w' := by
  obtain ⟨cp, e0⟩ := h.c0
  obtain ⟨cq, e1⟩ := h.c1
  obtain ⟨i0, hi, hz0, hz1, hz2⟩ := info_parts infoState
  obtain ⟨j0, hj, hy0, hy1, hy2⟩ := info_parts infoGen
  have HU1 := veil Tryd.underlying71
  have HU2 := veil Tryd.underlying72
  have hrb := h.lt_r
  have hn2 := h.n2
  have hn1 := h.n1
  have yr : ¬ rb = w.heap.size := by omega
  have HN1 : Hid (∀ w', Below w.heap.size w w' → ∀ j u, (stRow S n)[j]? = some u → w'.cell? ((⟨sb, 0, none⟩ : Addr).add j) = some u) := by
    intro w' hb j u hu
    have hj : j < (stRow S n).length := (List.getElem?_eq_some_iff.1 hu).1
    rw [stRow_len] at hj
    rw [add0, hb.cell (p := ⟨sb, j, none⟩) h.lt_s, h.st j (by omega), ← hu, stRow_at S n j (by omega)]
  have HN2 : Hid (∀ w', Below w.heap.size w w' → ∀ j u, (gnRow G n)[j]? = some u → w'.cell? ((⟨gb, 0, none⟩ : Addr).add j) = some u) := by
    intro w' hb j u hu
    have hj : j < (gnRow G n).length := (List.getElem?_eq_some_iff.1 hu).1
    rw [gnRow_len] at hj
    rw [add0, hb.cell (p := ⟨gb, j, none⟩) h.lt_g, h.gn j (by omega), ← hu, gnRow_at G n j (by omega)]
  have HE : Hid (∀ (w2 : World) (v1 v2 : Value), w2.ownsRow w.heap.size 33 1 v1 n (stRow S n) → w2.ownsRow w.heap.size 23 1 v2 n (gnRow G n) → Below w.heap.size w w2 →
      (∃ sb' gb', w.heap.size ≤ sb' ∧ w.heap.size ≤ gb' ∧ RefR (w2.alloc (.cells #[v1, v2] 74)) w2.heap.size sb' gb' n G S) ∧ Below w.heap.size w (w2.alloc (.cells #[v1, v2] 74))) := by
    intro w2 v1 v2 o1 o2 hb
    refine ⟨?_, hb.alloc hb.size _⟩
    have hne := own_ne o1 o2 (by decide)
    rcases o1.2 with ⟨_, e0⟩ | ⟨s', cap, cur, rfl, _, hs, _⟩
    · omega
    rcases o2.2 with ⟨_, e0⟩ | ⟨g', cap', cur', rfl, _, hg, _⟩
    · omega
    have l1 := (o1.lt s' rfl)
    have l2 := (o2.lt g' rfl)
    have hd : s' ≠ g' := fun e => hne s' rfl (by rw [e]; rfl)
    refine ⟨s', g', l1.1, l2.1, h.n1, h.n2, by omega, by omega, hd, ⟨cap, by rw [cell_new]; rfl⟩, ⟨cap', by rw [cell_new]; rfl⟩, fun x hx => ?_, fun x hx => ?_, fun o => ?_, fun o => ?_⟩
    · rw [World.cell?_alloc_lt _ _ _ (by simpa using l1.2), o1.cellAt x (by omega)]
      exact stRow_at S n x hx
    · rw [World.cell?_alloc_lt _ _ _ (by simpa using l2.2), o2.cellAt x (by omega)]
      exact gnRow_at G n x hx
    · rw [World.frozen?_of_block (Below.heap_alloc _ _ _ (by simpa using l1.2))]; exact o1.frozenAt o
    · rw [World.frozen?_of_block (Below.heap_alloc _ _ _ (by simpa using l2.2))]; exact o2.frozenAt o
  have HLA : Hid ((w.alloc (.cells #[] 33)).ownsRow w.heap.size 33 1 (.slice (some ⟨w.heap.size, 0, none⟩) 0 0) 0 []) := World.ownsRow_lit (base := w.heap.size) (e := 33) (size := 1) w #[] 0 (Nat.le_refl _) (by simp [maxLen]) rfl
  have HMA : Hid ((w.alloc (.cells #[] 23)).ownsRow w.heap.size 23 1 (.slice (some ⟨w.heap.size, 0, none⟩) 0 0) 0 []) := World.ownsRow_lit (base := w.heap.size) (e := 23) (size := 1) w #[] 0 (Nat.le_refl _) (by simp [maxLen]) rfl
  have HLB : Hid (((w.alloc (.cells #[] 33)).alloc (.cells #[] 23)).ownsRow w.heap.size 33 1 (.slice (some ⟨w.heap.size, 0, none⟩) 0 0) 0 []) := HLA.out.alloc _
  have HMB : Hid (((w.alloc (.cells #[] 33)).alloc (.cells #[] 23)).ownsRow w.heap.size 23 1 (.slice (some ⟨w.heap.size + 1, 0, none⟩) 0 0) 0 []) := by
    have := World.ownsRow_lit (base := w.heap.size) (e := 23) (size := 1) (w.alloc (.cells #[] 33)) #[] 0 (by simp) (by simp [maxLen]) rfl
    unfold Hid
    simpa using this
  have HMC : Hid (((w.alloc (.cells #[] 23)).alloc (.cells #[] 33)).ownsRow w.heap.size 23 1 (.slice (some ⟨w.heap.size, 0, none⟩) 0 0) 0 []) := HMA.out.alloc _
  have HLC : Hid (((w.alloc (.cells #[] 23)).alloc (.cells #[] 33)).ownsRow w.heap.size 33 1 (.slice (some ⟨w.heap.size + 1, 0, none⟩) 0 0) 0 []) := by
    have := World.ownsRow_lit (base := w.heap.size) (e := 33) (size := 1) (w.alloc (.cells #[] 23)) #[] 0 (by simp) (by simp [maxLen]) rfl
    unfold Hid
    simpa using this
  clear h
  go_enter Tryd.func22, Tryd.ntmps22
  go_wp2
  refine wp_region_held_drew (S := (fun w' => w'.cell? ⟨rb, 0, none⟩ = some (.slice (some ⟨sb, 0, none⟩) n cp) ∧ w'.cell? ⟨rb, 1, none⟩ = some (.slice (some ⟨gb, 0, none⟩) n cq))) (by kernel_rfl) ⟨e0, e1⟩ (fun hHeld => ?_)
  refine wpAnyH_take (i := 1) (v := ?_) rfl (by kernel_rfl) (by kernel_rfl) (by kernel_rfl) (fun _ _ _ h => h) (Or.inl ⟨by rfl, ?v1⟩) (by assumption) ?_
  case v1 => (intro w hSw; (try dsimp only at hSw); go_simp; try with_reducible rfl)
  try simp only [Act.put, List.setIfInBounds_toArray, List.set_cons_zero, List.set_cons_succ, List.getElem_toArray, List.getElem_cons_succ, List.getElem_cons_zero]
  refine wpAnyH_take (i := 2) (v := ?_) rfl (by kernel_rfl) (by kernel_rfl) (by kernel_rfl) (fun _ _ _ h => h) (Or.inl ⟨by rfl, ?v2⟩) (by assumption) ?_
  case v2 => (intro w hSw; (try dsimp only at hSw); go_simp; try with_reducible rfl)
  try simp only [Act.put, List.setIfInBounds_toArray, List.set_cons_zero, List.set_cons_succ, List.getElem_toArray, List.getElem_cons_succ, List.getElem_cons_zero]
  refine wpAnyH_take (i := 3) (v := ?_) rfl (by kernel_rfl) (by kernel_rfl) (by kernel_rfl) (fun _ _ _ h => h) (Or.inl ⟨by rfl, ?v3⟩) (by assumption) ?_
  case v3 => (intro w hSw; (try dsimp only at hSw); go_simp; try with_reducible rfl)
  try simp only [Act.put, List.setIfInBounds_toArray, List.set_cons_zero, List.set_cons_succ, List.getElem_toArray, List.getElem_cons_succ, List.getElem_cons_zero]
  refine wpAnyH_take (i := 4) (v := ?_) rfl (by kernel_rfl) (by kernel_rfl) (by kernel_rfl) (fun _ _ _ h => h) (Or.inl ⟨by rfl, ?v4⟩) (by assumption) ?_
  case v4 => (intro w hSw; (try dsimp only at hSw); go_simp; try with_reducible rfl)
  try simp only [Act.put, List.setIfInBounds_toArray, List.set_cons_zero, List.set_cons_succ, List.getElem_toArray, List.getElem_cons_succ, List.getElem_cons_zero]
  refine wpAnyH_take (i := 7) (v := ?_) rfl (by kernel_rfl) (by kernel_rfl) (by kernel_rfl) (fun _ _ _ h => h) (Or.inl ⟨by rfl, ?v7⟩) (by assumption) ?_
  case v7 => (intro w hSw; (try dsimp only at hSw); go_simp; try with_reducible rfl)
  try simp only [Act.put, List.setIfInBounds_toArray, List.set_cons_zero, List.set_cons_succ, List.getElem_toArray, List.getElem_cons_succ, List.getElem_cons_zero]
  refine wpAnyH_take (i := 8) (v := ?_) rfl (by kernel_rfl) (by kernel_rfl) (by kernel_rfl) (fun _ _ _ h => h) (Or.inl ⟨by rfl, ?v8⟩) (by assumption) ?_
  case v8 => (intro w hSw; (try dsimp only at hSw); go_simp; try with_reducible rfl)
  try simp only [Act.put, List.setIfInBounds_toArray, List.set_cons_zero, List.set_cons_succ, List.getElem_toArray, List.getElem_cons_succ, List.getElem_cons_zero]
  refine wpAnyH_take (i := 9) (v := ?_) rfl (by kernel_rfl) (by kernel_rfl) (by kernel_rfl) (fun _ _ _ h => h) (Or.inl ⟨by rfl, ?v9⟩) (by assumption) ?_
  case v9 => (intro w hSw; (try dsimp only at hSw); go_simp; try with_reducible rfl)
  try simp only [Act.put, List.setIfInBounds_toArray, List.set_cons_zero, List.set_cons_succ, List.getElem_toArray, List.getElem_cons_succ, List.getElem_cons_zero]
  refine wpAnyH_take (i := 10) (v := ?_) rfl (by kernel_rfl) (by kernel_rfl) (by kernel_rfl) (fun _ _ _ h => h) (Or.inl ⟨by rfl, ?v10⟩) (by assumption) ?_
  case v10 => (intro w hSw; (try dsimp only at hSw); go_simp; try with_reducible rfl)
  try simp only [Act.put, List.setIfInBounds_toArray, List.set_cons_zero, List.set_cons_succ, List.getElem_toArray, List.getElem_cons_succ, List.getElem_cons_zero]
  refine wpAnyH_ready (rs := [0, 6]) (by kernel_rfl) (by simp) ?_
  refine AllReadyH.cons rfl (fun K hK => ?_) (AllReadyH.cons rfl (fun K hK => ?_) AllReadyH.nil)
  · skip
    go_simp
    refine hK.out _ _ ?_ (fun hHeld => ?_)
    · first | exact hHeld | exact ⟨(((Below.refl w.heap.size w).alloc (Nat.le_refl _) _).cell (p := ⟨rb, 0, none⟩) hrb).trans e0, (((Below.refl w.heap.size w).alloc (Nat.le_refl _) _).cell (p := ⟨rb, 1, none⟩) hrb).trans e1⟩ | exact ⟨((((Below.refl w.heap.size w).alloc (Nat.le_refl _) _).alloc (by simp) _).cell (p := ⟨rb, 0, none⟩) hrb).trans e0, ((((Below.refl w.heap.size w).alloc (Nat.le_refl _) _).alloc (by simp) _).cell (p := ⟨rb, 1, none⟩) hrb).trans e1⟩
    clear hK K
    try simp only [Act.put, List.setIfInBounds_toArray, List.set_cons_zero, List.set_cons_succ, List.getElem_toArray, List.getElem_cons_succ, List.getElem_cons_zero]
    refine wpAnyH_ready (rs := [5, 6]) (by kernel_rfl) (by simp) ?_
    refine AllReadyH.cons rfl (fun K hK => ?_) (AllReadyH.cons rfl (fun K hK => ?_) AllReadyH.nil)
    · skip
      refine step_append_any _ (by rfl) _ _ _ (by rfl) w.heap.size 33 i0 (.int .i64 0) 1 8 HU1.out hi hz0 hz1 hz2 rfl (by omega) _ 0 [] (by rfl) (by exact HLA.out) ⟨sb, 0, none⟩ n cp (stRow S n) (by rfl) (stRow_len S n) (HN1.out _ (by exact ((Below.refl w.heap.size w).alloc (Nat.le_refl _) _).drew)) (stRow_one S n) (by unfold maxLen; omega) (by omega) (by simp <;> omega) ?_
      intro v1 w1 ho1 hg1'
      rw [Nat.zero_add, List.nil_append] at ho1
      have hg1 : (w.alloc (.cells #[] 33)).grownBy w1 (some w.heap.size) := ⟨hg1'.os, hg1'.tape, hg1'.output, hg1'.size, hg1'.block⟩
      clear hg1'
      have hB1 : Below w.heap.size w w1 := ((Below.refl w.heap.size w).alloc (Nat.le_refl _) _).grown hg1 (by simp) (fun k hk => by simp at hk; omega)
      refine hK.out _ _ ?_ (fun hHeld => ?_)
      · exact ⟨(hB1.cell (p := ⟨rb, 0, none⟩) hrb).trans e0, (hB1.cell (p := ⟨rb, 1, none⟩) hrb).trans e1⟩
      clear hK K
      try simp only [Act.put, List.setIfInBounds_toArray, List.set_cons_zero, List.set_cons_succ, List.getElem_toArray, List.getElem_cons_succ, List.getElem_cons_zero]
      refine wpAnyH_ready (rs := [6]) (by kernel_rfl) (by simp) ?_
      refine AllReadyH.cons rfl (fun K hK => ?_) AllReadyH.nil
      go_simp
      refine hK.out _ _ ?_ (fun hHeld => ?_)
      · exact ⟨((hB1.alloc hB1.size (.cells #[] 23)).cell (p := ⟨rb, 0, none⟩) hrb).trans e0, ((hB1.alloc hB1.size (.cells #[] 23)).cell (p := ⟨rb, 1, none⟩) hrb).trans e1⟩
      clear hK K
      try simp only [Act.put, List.setIfInBounds_toArray, List.set_cons_zero, List.set_cons_succ, List.getElem_toArray, List.getElem_cons_succ, List.getElem_cons_zero]
      refine wpAnyH_ready (rs := [11]) (by kernel_rfl) (by simp) ?_
      refine AllReadyH.cons rfl (fun K hK => ?_) AllReadyH.nil
      refine step_append_any _ (by rfl) _ _ _ (by rfl) w.heap.size 23 j0 (.int .u32 0) 1 4 HU2.out hj hy0 hy1 hy2 rfl (by omega) _ 0 [] (by rfl) (by exact (World.ownsRow_lit (base := w.heap.size) (e := 23) (size := 1) w1 #[] 0 hB1.size (by simp [maxLen]) rfl)) ⟨gb, 0, none⟩ n cq (gnRow G n) (by rfl) (gnRow_len G n) (HN2.out _ (by exact (hB1.alloc hB1.size (.cells #[] 23)))) (gnRow_one G n) (by unfold maxLen; omega) (by omega) (by have := hB1.size; simp; omega) ?_
      intro v2 w2 ho2 hg2'
      rw [Nat.zero_add, List.nil_append] at ho2
      have hg2 : (w1.alloc (.cells #[] 23)).grownBy w2 (some w1.heap.size) := ⟨hg2'.os, hg2'.tape, hg2'.output, hg2'.size, hg2'.block⟩
      clear hg2'
      have hB2 : Below w.heap.size w w2 := (hB1.alloc hB1.size _).grown hg2 (by have := hB1.size; simp; omega) (fun k hk => by cases hk; exact hB1.size)
      have ho12 := own_kept (ho1.alloc (.cells #[] 23)) hg2 (own_ne (ho1.alloc (.cells #[] 23)) (World.ownsRow_lit (base := w.heap.size) (e := 23) (size := 1) w1 #[] 0 hB1.size (by simp [maxLen]) rfl) (by decide))
      refine hK.out _ _ ?_ (fun hHeld => ?_)
      · exact ⟨(hB2.cell (p := ⟨rb, 0, none⟩) hrb).trans e0, (hB2.cell (p := ⟨rb, 1, none⟩) hrb).trans e1⟩
      obtain ⟨a1, d1, rfl⟩ := owns_slice ho1
      obtain ⟨a2, d2, rfl⟩ := owns_slice ho2
      have HX := veil (HE.out w2 _ _ ho12 ho2 hB2)
      clear hK K
      try simp only [Act.put, List.setIfInBounds_toArray, List.set_cons_zero, List.set_cons_succ, List.getElem_toArray, List.getElem_cons_succ, List.getElem_cons_zero]
      refine wpAnyH_take (i := 12) (v := ?_) rfl (by kernel_rfl) (by kernel_rfl) (by kernel_rfl) (fun _ _ _ h => h) (Or.inl ⟨by rfl, ?v12⟩) (by assumption) ?_
      case v12 => (intro w hSw; (try dsimp only at hSw); go_simp; try with_reducible rfl)
      try simp only [Act.put, List.setIfInBounds_toArray, List.set_cons_zero, List.set_cons_succ, List.getElem_toArray, List.getElem_cons_succ, List.getElem_cons_zero]
      refine wpAnyH_ready (rs := [13]) (by kernel_rfl) (by simp) ?_
      refine AllReadyH.cons rfl (fun K hK => ?_) AllReadyH.nil
      go_simp
      refine hK.out _ _ ?_ (fun hHeld => ?_)
      · exact ⟨(HX.out.2.cell (p := ⟨rb, 0, none⟩) hrb).trans e0, (HX.out.2.cell (p := ⟨rb, 1, none⟩) hrb).trans e1⟩
      clear hK K
      try simp only [Act.put, List.setIfInBounds_toArray, List.set_cons_zero, List.set_cons_succ, List.getElem_toArray, List.getElem_cons_succ, List.getElem_cons_zero]
      refine wpAnyH_take (i := 14) (v := ?_) rfl (by kernel_rfl) (by kernel_rfl) (by kernel_rfl) (fun _ _ _ h => h) (Or.inl ⟨by rfl, ?v14⟩) (by assumption) ?_
      case v14 => (intro w hSw; (try dsimp only at hSw); go_simp; try with_reducible rfl)
      try simp only [Act.put, List.setIfInBounds_toArray, List.set_cons_zero, List.set_cons_succ, List.getElem_toArray, List.getElem_cons_succ, List.getElem_cons_zero]
      refine wpAnyH_done (by kernel_rfl) ?_ _
      go_wp2
      go_ret
      obtain ⟨sb', gb', q1, q2, q3⟩ := HX.out.1
      exact ⟨_, sb', gb', rfl, hB2.size, q1, q2, q3, HX.out.2⟩
    · skip
      go_simp
      refine hK.out _ _ ?_ (fun hHeld => ?_)
      · first | exact hHeld | exact ⟨(((Below.refl w.heap.size w).alloc (Nat.le_refl _) _).cell (p := ⟨rb, 0, none⟩) hrb).trans e0, (((Below.refl w.heap.size w).alloc (Nat.le_refl _) _).cell (p := ⟨rb, 1, none⟩) hrb).trans e1⟩ | exact ⟨((((Below.refl w.heap.size w).alloc (Nat.le_refl _) _).alloc (by simp) _).cell (p := ⟨rb, 0, none⟩) hrb).trans e0, ((((Below.refl w.heap.size w).alloc (Nat.le_refl _) _).alloc (by simp) _).cell (p := ⟨rb, 1, none⟩) hrb).trans e1⟩
      clear hK K
      try simp only [Act.put, List.setIfInBounds_toArray, List.set_cons_zero, List.set_cons_succ, List.getElem_toArray, List.getElem_cons_succ, List.getElem_cons_zero]
      refine wpAnyH_ready (rs := [5]) (by kernel_rfl) (by simp) ?_
      refine AllReadyH.cons rfl (fun K hK => ?_) AllReadyH.nil
      refine step_append_any _ (by rfl) _ _ _ (by rfl) w.heap.size 33 i0 (.int .i64 0) 1 8 HU1.out hi hz0 hz1 hz2 rfl (by omega) _ 0 [] (by rfl) (by exact HLB.out) ⟨sb, 0, none⟩ n cp (stRow S n) (by rfl) (stRow_len S n) (HN1.out _ (by exact (((Below.refl w.heap.size w).alloc (Nat.le_refl _) _).alloc (by simp) _).drew)) (stRow_one S n) (by unfold maxLen; omega) (by omega) (by simp <;> omega) ?_
      intro v1 w1 ho1 hg1'
      rw [Nat.zero_add, List.nil_append] at ho1
      have hg1 : ((w.alloc (.cells #[] 33)).alloc (.cells #[] 23)).grownBy w1 (some w.heap.size) := ⟨hg1'.os, hg1'.tape, hg1'.output, hg1'.size, hg1'.block⟩
      clear hg1'
      have hB1 : Below w.heap.size w w1 := (((Below.refl w.heap.size w).alloc (Nat.le_refl _) _).alloc (by simp) _).grown hg1 (by simp; omega) (fun k hk => by simp at hk; omega)
      have hL2 := own_kept HMB.out hg1 (own_ne HMB.out HLB.out (by decide))
      refine hK.out _ _ ?_ (fun hHeld => ?_)
      · exact ⟨(hB1.cell (p := ⟨rb, 0, none⟩) hrb).trans e0, (hB1.cell (p := ⟨rb, 1, none⟩) hrb).trans e1⟩
      clear hK K
      try simp only [Act.put, List.setIfInBounds_toArray, List.set_cons_zero, List.set_cons_succ, List.getElem_toArray, List.getElem_cons_succ, List.getElem_cons_zero]
      refine wpAnyH_ready (rs := [11]) (by kernel_rfl) (by simp) ?_
      refine AllReadyH.cons rfl (fun K hK => ?_) AllReadyH.nil
      refine step_append_any _ (by rfl) _ _ _ (by rfl) w.heap.size 23 j0 (.int .u32 0) 1 4 HU2.out hj hy0 hy1 hy2 rfl (by omega) _ 0 [] (by rfl) (by exact hL2) ⟨gb, 0, none⟩ n cq (gnRow G n) (by rfl) (gnRow_len G n) (HN2.out _ (by exact hB1)) (gnRow_one G n) (by unfold maxLen; omega) (by omega) (by have := hB1.size; simp; omega) ?_
      intro v2 w2 ho2 hg2'
      rw [Nat.zero_add, List.nil_append] at ho2
      have hg2 : (w1).grownBy w2 (some (w.heap.size + 1)) := ⟨hg2'.os, hg2'.tape, hg2'.output, hg2'.size, hg2'.block⟩
      clear hg2'
      have hB2 : Below w.heap.size w w2 := hB1.grown hg2 hB1.size (fun k hk => by cases hk; omega)
      have ho12 := own_kept ho1 hg2 (own_ne ho1 hL2 (by decide))
      refine hK.out _ _ ?_ (fun hHeld => ?_)
      · exact ⟨(hB2.cell (p := ⟨rb, 0, none⟩) hrb).trans e0, (hB2.cell (p := ⟨rb, 1, none⟩) hrb).trans e1⟩
      obtain ⟨a1, d1, rfl⟩ := owns_slice ho1
      obtain ⟨a2, d2, rfl⟩ := owns_slice ho2
      have HX := veil (HE.out w2 _ _ ho12 ho2 hB2)
      clear hK K
      try simp only [Act.put, List.setIfInBounds_toArray, List.set_cons_zero, List.set_cons_succ, List.getElem_toArray, List.getElem_cons_succ, List.getElem_cons_zero]
      refine wpAnyH_take (i := 12) (v := ?_) rfl (by kernel_rfl) (by kernel_rfl) (by kernel_rfl) (fun _ _ _ h => h) (Or.inl ⟨by rfl, ?v12⟩) (by assumption) ?_
      case v12 => (intro w hSw; (try dsimp only at hSw); go_simp; try with_reducible rfl)
      try simp only [Act.put, List.setIfInBounds_toArray, List.set_cons_zero, List.set_cons_succ, List.getElem_toArray, List.getElem_cons_succ, List.getElem_cons_zero]
      refine wpAnyH_ready (rs := [13]) (by kernel_rfl) (by simp) ?_
      refine AllReadyH.cons rfl (fun K hK => ?_) AllReadyH.nil
      go_simp
      refine hK.out _ _ ?_ (fun hHeld => ?_)
      · exact ⟨(HX.out.2.cell (p := ⟨rb, 0, none⟩) hrb).trans e0, (HX.out.2.cell (p := ⟨rb, 1, none⟩) hrb).trans e1⟩
      clear hK K
      try simp only [Act.put, List.setIfInBounds_toArray, List.set_cons_zero, List.set_cons_succ, List.getElem_toArray, List.getElem_cons_succ, List.getElem_cons_zero]
      refine wpAnyH_take (i := 14) (v := ?_) rfl (by kernel_rfl) (by kernel_rfl) (by kernel_rfl) (fun _ _ _ h => h) (Or.inl ⟨by rfl, ?v14⟩) (by assumption) ?_
      case v14 => (intro w hSw; (try dsimp only at hSw); go_simp; try with_reducible rfl)
      try simp only [Act.put, List.setIfInBounds_toArray, List.set_cons_zero, List.set_cons_succ, List.getElem_toArray, List.getElem_cons_succ, List.getElem_cons_zero]
      refine wpAnyH_done (by kernel_rfl) ?_ _
      go_wp2
      go_ret
      obtain ⟨sb', gb', q1, q2, q3⟩ := HX.out.1
      exact ⟨_, sb', gb', rfl, hB2.size, q1, q2, q3, HX.out.2⟩
  · skip
    go_simp
    refine hK.out _ _ ?_ (fun hHeld => ?_)
    · first | exact hHeld | exact ⟨(((Below.refl w.heap.size w).alloc (Nat.le_refl _) _).cell (p := ⟨rb, 0, none⟩) hrb).trans e0, (((Below.refl w.heap.size w).alloc (Nat.le_refl _) _).cell (p := ⟨rb, 1, none⟩) hrb).trans e1⟩ | exact ⟨((((Below.refl w.heap.size w).alloc (Nat.le_refl _) _).alloc (by simp) _).cell (p := ⟨rb, 0, none⟩) hrb).trans e0, ((((Below.refl w.heap.size w).alloc (Nat.le_refl _) _).alloc (by simp) _).cell (p := ⟨rb, 1, none⟩) hrb).trans e1⟩
    clear hK K
    try simp only [Act.put, List.setIfInBounds_toArray, List.set_cons_zero, List.set_cons_succ, List.getElem_toArray, List.getElem_cons_succ, List.getElem_cons_zero]
    refine wpAnyH_ready (rs := [0]) (by kernel_rfl) (by simp) ?_
    refine AllReadyH.cons rfl (fun K hK => ?_) AllReadyH.nil
    go_simp
    refine hK.out _ _ ?_ (fun hHeld => ?_)
    · first | exact hHeld | exact ⟨(((Below.refl w.heap.size w).alloc (Nat.le_refl _) _).cell (p := ⟨rb, 0, none⟩) hrb).trans e0, (((Below.refl w.heap.size w).alloc (Nat.le_refl _) _).cell (p := ⟨rb, 1, none⟩) hrb).trans e1⟩ | exact ⟨((((Below.refl w.heap.size w).alloc (Nat.le_refl _) _).alloc (by simp) _).cell (p := ⟨rb, 0, none⟩) hrb).trans e0, ((((Below.refl w.heap.size w).alloc (Nat.le_refl _) _).alloc (by simp) _).cell (p := ⟨rb, 1, none⟩) hrb).trans e1⟩
    clear hK K
    try simp only [Act.put, List.setIfInBounds_toArray, List.set_cons_zero, List.set_cons_succ, List.getElem_toArray, List.getElem_cons_succ, List.getElem_cons_zero]
    refine wpAnyH_ready (rs := [5]) (by kernel_rfl) (by simp) ?_
    refine AllReadyH.cons rfl (fun K hK => ?_) AllReadyH.nil
    refine step_append_any _ (by rfl) _ _ _ (by rfl) w.heap.size 33 i0 (.int .i64 0) 1 8 HU1.out hi hz0 hz1 hz2 rfl (by omega) _ 0 [] (by rfl) (by exact HLC.out) ⟨sb, 0, none⟩ n cp (stRow S n) (by rfl) (stRow_len S n) (HN1.out _ (by exact (((Below.refl w.heap.size w).alloc (Nat.le_refl _) _).alloc (by simp) _).drew)) (stRow_one S n) (by unfold maxLen; omega) (by omega) (by simp <;> omega) ?_
    intro v1 w1 ho1 hg1'
    rw [Nat.zero_add, List.nil_append] at ho1
    have hg1 : ((w.alloc (.cells #[] 23)).alloc (.cells #[] 33)).grownBy w1 (some (w.heap.size + 1)) := ⟨hg1'.os, hg1'.tape, hg1'.output, hg1'.size, hg1'.block⟩
    clear hg1'
    have hB1 : Below w.heap.size w w1 := (((Below.refl w.heap.size w).alloc (Nat.le_refl _) _).alloc (by simp) _).grown hg1 (by simp; omega) (fun k hk => by simp at hk; omega)
    have hL2 := own_kept HMC.out hg1 (own_ne HMC.out HLC.out (by decide))
    refine hK.out _ _ ?_ (fun hHeld => ?_)
    · exact ⟨(hB1.cell (p := ⟨rb, 0, none⟩) hrb).trans e0, (hB1.cell (p := ⟨rb, 1, none⟩) hrb).trans e1⟩
    clear hK K
    try simp only [Act.put, List.setIfInBounds_toArray, List.set_cons_zero, List.set_cons_succ, List.getElem_toArray, List.getElem_cons_succ, List.getElem_cons_zero]
    refine wpAnyH_ready (rs := [11]) (by kernel_rfl) (by simp) ?_
    refine AllReadyH.cons rfl (fun K hK => ?_) AllReadyH.nil
    refine step_append_any _ (by rfl) _ _ _ (by rfl) w.heap.size 23 j0 (.int .u32 0) 1 4 HU2.out hj hy0 hy1 hy2 rfl (by omega) _ 0 [] (by rfl) (by exact hL2) ⟨gb, 0, none⟩ n cq (gnRow G n) (by rfl) (gnRow_len G n) (HN2.out _ (by exact hB1)) (gnRow_one G n) (by unfold maxLen; omega) (by omega) (by have := hB1.size; simp; omega) ?_
    intro v2 w2 ho2 hg2'
    rw [Nat.zero_add, List.nil_append] at ho2
    have hg2 : (w1).grownBy w2 (some w.heap.size) := ⟨hg2'.os, hg2'.tape, hg2'.output, hg2'.size, hg2'.block⟩
    clear hg2'
    have hB2 : Below w.heap.size w w2 := hB1.grown hg2 hB1.size (fun k hk => by cases hk; omega)
    have ho12 := own_kept ho1 hg2 (own_ne ho1 hL2 (by decide))
    refine hK.out _ _ ?_ (fun hHeld => ?_)
    · exact ⟨(hB2.cell (p := ⟨rb, 0, none⟩) hrb).trans e0, (hB2.cell (p := ⟨rb, 1, none⟩) hrb).trans e1⟩
    obtain ⟨a1, d1, rfl⟩ := owns_slice ho1
    obtain ⟨a2, d2, rfl⟩ := owns_slice ho2
    have HX := veil (HE.out w2 _ _ ho12 ho2 hB2)
    clear hK K
    try simp only [Act.put, List.setIfInBounds_toArray, List.set_cons_zero, List.set_cons_succ, List.getElem_toArray, List.getElem_cons_succ, List.getElem_cons_zero]
    refine wpAnyH_take (i := 12) (v := ?_) rfl (by kernel_rfl) (by kernel_rfl) (by kernel_rfl) (fun _ _ _ h => h) (Or.inl ⟨by rfl, ?v12⟩) (by assumption) ?_
    case v12 => (intro w hSw; (try dsimp only at hSw); go_simp; try with_reducible rfl)
    try simp only [Act.put, List.setIfInBounds_toArray, List.set_cons_zero, List.set_cons_succ, List.getElem_toArray, List.getElem_cons_succ, List.getElem_cons_zero]
    refine wpAnyH_ready (rs := [13]) (by kernel_rfl) (by simp) ?_
    refine AllReadyH.cons rfl (fun K hK => ?_) AllReadyH.nil
    go_simp
    refine hK.out _ _ ?_ (fun hHeld => ?_)
    · exact ⟨(HX.out.2.cell (p := ⟨rb, 0, none⟩) hrb).trans e0, (HX.out.2.cell (p := ⟨rb, 1, none⟩) hrb).trans e1⟩
    clear hK K
    try simp only [Act.put, List.setIfInBounds_toArray, List.set_cons_zero, List.set_cons_succ, List.getElem_toArray, List.getElem_cons_succ, List.getElem_cons_zero]
    refine wpAnyH_take (i := 14) (v := ?_) rfl (by kernel_rfl) (by kernel_rfl) (by kernel_rfl) (fun _ _ _ h => h) (Or.inl ⟨by rfl, ?v14⟩) (by assumption) ?_
    case v14 => (intro w hSw; (try dsimp only at hSw); go_simp; try with_reducible rfl)
    try simp only [Act.put, List.setIfInBounds_toArray, List.set_cons_zero, List.set_cons_succ, List.getElem_toArray, List.getElem_cons_succ, List.getElem_cons_zero]
    refine wpAnyH_done (by kernel_rfl) ?_ _
    go_wp2
    go_ret
    obtain ⟨sb', gb', q1, q2, q3⟩ := HX.out.1
    exact ⟨_, sb', gb', rfl, hB2.size, q1, q2, q3, HX.out.2⟩
end Go.Proofs.YtfhnepoegdhjmaaDoor
