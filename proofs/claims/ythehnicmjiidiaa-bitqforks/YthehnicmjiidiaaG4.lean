/-
  The walk of the program's Fork.
-/
import Derived.Test.YthehnicmjiidiaaG3
namespace Go.Proofs.Ythehnicmjiidiaa
open Go.RowKit Go.Lib

/-- The cells of a queue's block. -/
def queueRow (F L : Nat → Nat) (M : Nat → Int) (s : Value) (c : Nat) : List Value :=
  (List.range 256).map (fun i => Value.int .i64 (F i)) ++ ((List.range 256).map (fun i => Value.int .i64 (L i)) ++ [.int .u64 (M 0), .int .u64 (M 1), .int .u64 (M 2), .int .u64 (M 3), s, .int .i64 c])
section
variable {F L : Nat → Nat} {M : Nat → Int} {s : Value} {c : Nat}
theorem queueRow_len : (queueRow F L M s c).length = 518 := by unfold queueRow; simp
theorem queueRow_F (i : Nat) (h : i < 256) : (queueRow F L M s c)[i]? = some (.int .i64 (F i)) := by
  unfold queueRow
  rw [List.getElem?_append_left (by simpa using h)]
  simp [h]
theorem queueRow_L (i : Nat) (h : i < 256) : (queueRow F L M s c)[256 + i]? = some (.int .i64 (L i)) := by
  unfold queueRow
  rw [List.getElem?_append_right (by simp), List.getElem?_append_left (by simp; omega)]
  simp [h]
theorem queueRow_hi (i : Nat) : (queueRow F L M s c)[512 + i]? = ([.int .u64 (M 0), .int .u64 (M 1), .int .u64 (M 2), .int .u64 (M 3), s, .int .i64 c] : List Value)[i]? := by
  unfold queueRow
  rw [List.getElem?_append_right (by simp; omega), List.getElem?_append_right (by simp; omega)]
  simp only [List.length_map, List.length_range]
  rw [show 512 + i - 256 - 256 = i by omega]
theorem queueRow_one (hs : s.oneCell' = true) : ∀ v ∈ queueRow F L M s c, v.oneCell' = true := by
  intro v hv
  unfold queueRow at hv
  rw [List.mem_append, List.mem_append] at hv
  rcases hv with q | q | q
  · obtain ⟨i, _, rfl⟩ := List.mem_map.1 q; rfl
  · obtain ⟨i, _, rfl⟩ := List.mem_map.1 q; rfl
  · simp at q
    rcases q with rfl | rfl | rfl | rfl | rfl | rfl <;> first | rfl | exact hs
end
theorem queue_range {w : World} {b g n cp : Nat} {F L : Nat → Nat} {M : Nat → Int} {c : Nat} {A B V : Nat → Nat} {T : Nat → Bool} (h : Rep w b g n F L M c A B V T) (hs : w.cell? ⟨b, 516, none⟩ = some (.slice (some ⟨g, 0, none⟩) (n + 1) cp)) :
    w.rangeAt b 0 (queueRow F L M (.slice (some ⟨g, 0, none⟩) (n + 1) cp) c) := by
  intro j v hv
  have hj : j < 518 := by have := (List.getElem?_eq_some_iff.1 hv).1; rwa [queueRow_len] at this
  rw [Nat.zero_add, ← hv]
  by_cases h1 : j < 256
  · rw [queueRow_F j h1]; exact h.fst j h1
  · by_cases h2 : j < 512
    · obtain ⟨i, rfl⟩ : ∃ i, j = 256 + i := ⟨j - 256, by omega⟩
      rw [queueRow_L i (by omega)]; exact h.lst i (by omega)
    · obtain ⟨i, rfl⟩ : ∃ i, j = 512 + i := ⟨j - 512, by omega⟩
      rw [queueRow_hi]
      have : i = 0 ∨ i = 1 ∨ i = 2 ∨ i = 3 ∨ i = 4 ∨ i = 5 := by omega
      rcases this with rfl | rfl | rfl | rfl | rfl | rfl
      · exact h.msk 0 (by omega)
      · exact h.msk 1 (by omega)
      · exact h.msk 2 (by omega)
      · exact h.msk 3 (by omega)
      · exact hs
      · exact h.cn
theorem infoQueue : (Try.prog.info? 57).map (·.size) = some 518 := by kernel_rfl

theorem setCells_fr (b : Nat) : ∀ (vs : List Value) (o : Nat) (w : World), Fr (fun k => k = b) w (w.setCells b o vs) ∧ (w.setCells b o vs).heap.size = w.heap.size
  | [], _, w => ⟨Fr.refl _ _, rfl⟩
  | v :: r, o, w => by
    obtain ⟨h1, h2⟩ := setCells_fr b r (o + 1) (w.setCell ⟨b, o, none⟩ v)
    exact ⟨(Fr.setCell (S := fun k => k = b) (a := ⟨b, o, none⟩) (Fr.refl _ _) rfl v).trans h1, h2.trans (by simp)⟩
theorem zero_there (w : World) : (w.alloc (.cells zeroCells 57)).there w.heap.size 0 518 := by
  intro j hj
  rw [Nat.zero_add, cell_new]
  refine ⟨?_, frozen_new _ _ _ _⟩
  rw [Array.getElem?_eq_getElem (by rw [zero_size]; exact hj)]
  rfl
/-- A world whose new block bears the cells of a queue's. -/
theorem copy_world (w : World) (xs : List Value) (hl : xs.length = 518) : ∃ W1, (w.alloc (.cells zeroCells 57)).setCells w.heap.size 0 xs.toArray.toList = W1 ∧ W1.heap.size = w.heap.size + 1 ∧ Below w.heap.size w W1 ∧ (∀ j, j < 518 → W1.cell? ⟨w.heap.size, j, none⟩ = xs[j]?) ∧ ∀ j, W1.frozen? ⟨w.heap.size, j, none⟩ = false := by
  refine ⟨_, rfl, ?_, ?_, fun j hj => ?_, fun j => ?_⟩
  · rw [(setCells_fr _ _ _ _).2]; simp
  · have := (setCells_fr w.heap.size xs.toArray.toList 0 (w.alloc (.cells zeroCells 57))).1
    exact ((Below.refl _ _).alloc (Nat.le_refl _) _).trans (this.below (by simp) (fun k q => by omega))
  · have hin := World.rangeAt_setCells_same (w.alloc (.cells zeroCells 57)) w.heap.size 0 xs (by rw [hl]; exact zero_there w)
    have := hin j (xs[j]'(by omega)) (List.getElem?_eq_getElem _)
    rw [Nat.zero_add] at this
    rw [List.getElem?_eq_getElem (by omega)]
    exact this
  · rw [World.frozen?_setCells]
    exact frozen_new _ _ _ _

set_option maxHeartbeats 4000000 in
set_option maxRecDepth 100000 in
theorem fork_ok (w : World) (b g n : Nat) (R : List (Nat × Nat)) (h : IsQ w b g n R) :
    Calls Try.prog 23 #[.pointer (some ⟨b, 0, none⟩)] w fun e w' => ∃ b' g', e = .returned (.pointer (some ⟨b', 0, none⟩)) ∧ w.heap.size ≤ b' ∧ w.heap.size ≤ g' ∧ IsQ w' b' g' n R ∧ Below w.heap.size w w' := by
  obtain ⟨hn, F, L, m, c, A, B, V, T, hr, hv⟩ := h
  obtain ⟨cp, esl⟩ := hr.sl
  have hbb := hr.lt_b
  have hgg := hr.lt_g
  have HRange := veil (queue_range hr esl)
  have hone := queueRow_one (F := F) (L := L) (M := fun i => (m i : Int)) (s := .slice (some ⟨g, 0, none⟩) (n + 1) cp) (c := c) rfl
  have hql := queueRow_len (F := F) (L := L) (M := fun i => (m i : Int)) (s := .slice (some ⟨g, 0, none⟩) (n + 1) cp) (c := c)
  have HX := veil (copy_world w (queueRow F L (fun i => (m i : Int)) (.slice (some ⟨g, 0, none⟩) (n + 1) cp) c) hql)
  have HCl : Hid (∀ W1, W1.heap.size = w.heap.size + 1 → Below w.heap.size w W1 → Calls Try.prog 38 #[.slice (some ⟨g, 0, none⟩) (n + 1) cp] W1 fun e w' => ∃ g' cap', e = .returned (.slice (some ⟨g', 0, none⟩) (n + 1) cap') ∧ W1.heap.size ≤ g' ∧ w'.ownsRow W1.heap.size 64 4 (.slice (some ⟨g', 0, none⟩) (n + 1) cap') (n + 1) (linkRow A B V T (n + 1)) ∧ Below W1.heap.size W1 w') := by
    intro W1 hs hb
    refine clone_ok W1 g n cp (linkRow A B V T (n + 1)) hn (linkRow_len _ _ _ _ _) ?_ (linkRow_one _ _ _ _ _) (by omega)
    have hr1 := hr.below hb hbb hgg
    exact linkRow_cells hr1
  have HE : Hid (∀ W1 W2 g' cap', W1.heap.size = w.heap.size + 1 → Below w.heap.size w W1 → (∀ j, j < 518 → W1.cell? ⟨w.heap.size, j, none⟩ = (queueRow F L (fun i => (m i : Int)) (.slice (some ⟨g, 0, none⟩) (n + 1) cp) c)[j]?) → (∀ j, W1.frozen? ⟨w.heap.size, j, none⟩ = false) →
      W1.heap.size ≤ g' → W2.ownsRow W1.heap.size 64 4 (.slice (some ⟨g', 0, none⟩) (n + 1) cap') (n + 1) (linkRow A B V T (n + 1)) → Below W1.heap.size W1 W2 →
      W2.cell? ⟨w.heap.size, 516, none⟩ = some (.slice (some ⟨g, 0, none⟩) (n + 1) cp) ∧ W2.frozen? ⟨w.heap.size, 516, none⟩ = false ∧ IsQ (W2.setCell ⟨w.heap.size, 516, none⟩ (.slice (some ⟨g', 0, none⟩) (n + 1) cap')) w.heap.size g' n R ∧ Below w.heap.size w (W2.setCell ⟨w.heap.size, 516, none⟩ (.slice (some ⟨g', 0, none⟩) (n + 1) cap'))) := by
    intro W1 W2 g' cap' hs hb hcell hfr hg' hown hb2
    have c2 : ∀ j, j < 518 → W2.cell? ⟨w.heap.size, j, none⟩ = (queueRow F L (fun i => (m i : Int)) (.slice (some ⟨g, 0, none⟩) (n + 1) cp) c)[j]? := fun j hj => (hb2.cell (p := ⟨w.heap.size, j, none⟩) (by simp; omega)).trans (hcell j hj)
    have f2 : ∀ j, W2.frozen? ⟨w.heap.size, j, none⟩ = false := fun j => (World.frozen?_of_block (a := ⟨w.heap.size, j, none⟩) (hb2.block w.heap.size (by omega))).trans (hfr j)
    have h516 : W2.cell? ⟨w.heap.size, 516, none⟩ = some (.slice (some ⟨g, 0, none⟩) (n + 1) cp) := by rw [c2 516 (by omega), show 516 = 512 + 4 from rfl, queueRow_hi]; rfl
    have hne : w.heap.size ≠ g' := by omega
    have lk : ∀ j, j < (n + 1) * 4 → (W2.setCell ⟨w.heap.size, 516, none⟩ (.slice (some ⟨g', 0, none⟩) (n + 1) cap')).cell? ⟨g', j, none⟩ = (linkRow A B V T (n + 1))[j]? := fun j hj => by
      rw [set_other _ _ _ _ _ _ (by omega)]
      exact hown.cellAt j hj
    refine ⟨h516, f2 516, ⟨hn, F, L, m, c, A, B, V, T, ⟨hne, fun i hi => ?_, fun i hi => ?_, fun i hi => ?_, ⟨cap', ?_⟩, ?_, fun s hs' => ?_, fun s hs' => ?_, fun s hs' => ?_, fun s hs' => ?_, fun o => ?_, fun o => ?_⟩, hv⟩, ?_⟩
    · rw [set_other _ _ _ _ _ _ (by omega), c2 i (by omega), queueRow_F i hi]
    · rw [set_other _ _ _ _ _ _ (by omega), c2 (256 + i) (by omega), queueRow_L i hi]
    · rw [set_other _ _ _ _ _ _ (by omega), c2 (512 + i) (by omega), queueRow_hi]
      have : i = 0 ∨ i = 1 ∨ i = 2 ∨ i = 3 := by omega
      rcases this with rfl | rfl | rfl | rfl <;> rfl
    · exact set_same _ _ _ _ h516
    · rw [set_other _ _ _ _ _ _ (by omega), c2 517 (by omega), show 517 = 512 + 5 from rfl, queueRow_hi]; rfl
    · rw [lk _ (by omega)]; exact (linkRow_at A B V T s (n + 1) (by omega)).1
    · rw [lk _ (by omega)]; exact (linkRow_at A B V T s (n + 1) (by omega)).2.1
    · rw [lk _ (by omega)]; exact (linkRow_at A B V T s (n + 1) (by omega)).2.2.1
    · rw [lk _ (by omega)]; exact (linkRow_at A B V T s (n + 1) (by omega)).2.2.2
    · rw [World.frozen?_setCell]; exact f2 o
    · rw [World.frozen?_setCell]; exact hown.frozenAt o
    · exact (hb.trans (hb2.mono (by omega))).setCell (p := ⟨w.heap.size, 516, none⟩) (Nat.le_refl _) _
  have HZ := zeroQ
  have HI := veil infoQueue
  have HU := veil Try.underlying57
  have hst : (storeCells ⟨w.heap.size, 0, none⟩ (queueRow F L (fun i => (m i : Int)) (.slice (some ⟨g, 0, none⟩) (n + 1) cp) c)).run Try.prog (w.alloc (.cells zeroCells 57)) = .ok () ((w.alloc (.cells zeroCells 57)).setCells w.heap.size 0 (queueRow F L (fun i => (m i : Int)) (.slice (some ⟨g, 0, none⟩) (n + 1) cp) c)) := by
    have := run_storeCells_cells (P := Try.prog) w.heap.size 0 (queueRow F L (fun i => (m i : Int)) (.slice (some ⟨g, 0, none⟩) (n + 1) cp) c) 0 (w.alloc (.cells zeroCells 57)) (fun j hj => by rw [hql] at hj; have := (zero_there w j hj).1; rw [Nat.zero_add] at this; rw [Nat.zero_add]; exact this) (fun j hj => by rw [hql] at hj; have := (zero_there w j hj).2; rw [Nat.zero_add] at this; rw [Nat.zero_add]; exact this) hone
    simpa using this
  obtain ⟨W1, hW1, hs1, hb1, hc1, hf1⟩ := HX.out
  rw [List.toList_toArray] at hW1
  rw [hW1] at hst
  have esl1 := (hb1.cell (p := ⟨b, 516, none⟩) hbb).trans esl
  have HC1 := veil hc1
  have HF1 := veil hf1
  have HB1 := veil hb1
  have HS1 := veil hs1
  have HQL := veil hql
  clear hr hv hone hql esl hs1 hb1 hc1 hf1 hW1 HX
  generalize queueRow F L (fun i => (m i : Int)) (.slice (some ⟨g, 0, none⟩) (n + 1) cp) c = row at *
  go_enter Try.func23, Try.ntmps23
  go_wp2_with (first
    | (refine wpList_load_mid rfl 57 _ rfl b 0 (by rfl) row _ HRange.out HU.out rfl (by rw [HQL.out]; exact HI.out) ?_)
    | (go_at_call 38; refine (HCl.out _ HS1.out HB1.out).mono ?_; rintro e W2 ⟨g', cap', rfl, hg', hown, hb2⟩; obtain ⟨x1, x2, x3⟩ := HE.out _ _ _ _ HS1.out HB1.out HC1.out HF1.out hg' hown hb2; have HX3 := veil x3; have hg2 : w.heap.size ≤ g' := (by rw [HS1.out] at hg'; omega); clear hown hb2 x3))
  go_ret
  exact ⟨_, g', rfl, Nat.le_refl _, hg2, HX3.out.1, HX3.out.2⟩
end Go.Proofs.Ythehnicmjiidiaa
