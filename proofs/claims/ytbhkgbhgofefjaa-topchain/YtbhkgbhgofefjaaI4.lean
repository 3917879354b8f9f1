/- New: what it makes. -/
import Derived.Test.YtbhkgbhgofefjaaI3
import Derived.OwnWalk
import Derived.Laws.MakeOwn
namespace Go.Proofs.Ytbhkgbhgofefjaa
open Go.RowKit Go.Lib
set_option linter.unusedVariables false
def thZero : Value := .agg #[.bool false, .int .u64 0, .int .u8 0, .int .i64 0]
def lkZero : Value := .agg #[.int .i64 0, .slice none 0 0]
def thMade (n : Nat) : Array Value := madeCells thZero.cells (n * 4)
def lkMade (n : Nat) : Array Value := madeCells lkZero.cells (n * 2)
theorem infoTh : (Try.prog.info? 75).map (fun i => (i.zero, i.size, i.bytes)) = some (some thZero, 4, 32) := by kernel_rfl
theorem infoLk : (Try.prog.info? 68).map (fun i => (i.zero, i.size, i.bytes)) = some (some lkZero, 2, 32) := by kernel_rfl
theorem fixed_mk (w : World) (l : Int) : Calls Try.prog 32 #[.int .u8 l] w fun e w' => e = .returned (.agg #[.bool false, .int .u64 0, .int .u8 l]) ∧ ∃ c, w' = w.alloc (.cells c 36) := by
  go_enter Try.func32, Try.ntmps32
  go_wp2
  simp [bodyPost, results, Try.results32, go_sem]
  exact ⟨_, rfl⟩
def thj (n j : Nat) : List Th := List.replicate j ⟨fixK 0, -1⟩ ++ List.replicate (n - j) ⟨fixK 0, 0⟩
def lkj (n j : Nat) : List (Int × Value) := List.replicate j (-1, .slice none 0 0) ++ List.replicate (n - j) (0, .slice none 0 0)
theorem rep_set {α : Type} (a b : α) (n j : Nat) (h : j < n) : (List.replicate j a ++ List.replicate (n - j) b).set j a = List.replicate (j + 1) a ++ List.replicate (n - (j + 1)) b := by
  rw [List.set_append_right _ _ (by simp), List.length_replicate, Nat.sub_self, show n - j = (n - (j + 1)) + 1 by omega, List.replicate_succ, List.set_cons_zero, List.replicate_succ', List.append_assoc]
  rfl
theorem thj_set (n j : Nat) (h : j < n) : (thj n j).set j ⟨fixK 0, -1⟩ = thj n (j + 1) := rep_set _ _ n j h
theorem lkj_set (n j : Nat) (h : j < n) : (lkj n j).set j (-1, .slice none 0 0) = lkj n (j + 1) := rep_set _ _ n j h
theorem thj_len (n j : Nat) (h : j ≤ n) : (thj n j).length = n := by simp [thj]; omega
theorem lkj_len (n j : Nat) (h : j ≤ n) : (lkj n j).length = n := by simp [lkj]; omega
theorem thj_end (n : Nat) : thj n n = List.replicate n ⟨fixK 0, -1⟩ := by simp [thj]
theorem lkj_end (n : Nat) : lkj n n = List.replicate n (-1, .slice none 0 0) := by simp [lkj]
theorem made_at (z : Array Value) (N k : Nat) (h : k < N) : (madeCells z N).toList[k]? = some (z[k % z.size]!) := by
  simp [madeCells, h]
theorem made_no (z : Array Value) (N k : Nat) (h : ¬ k < N) : (madeCells z N).toList[k]? = none := by
  rw [List.getElem?_eq_none_iff]
  simp [madeCells]
  omega
theorem made_th (n : Nat) : (madeCells thZero.cells (n * 4)).toList = tcells (thj n 0) := by
  apply List.ext_getElem?
  intro i
  by_cases h : i < n * 4
  · rw [made_at _ _ _ h]
    obtain ⟨q, r, rfl, hr⟩ : ∃ q r, i = q * 4 + r ∧ r < 4 := ⟨i / 4, i % 4, by omega, by omega⟩
    have hq : q < n := by omega
    have hx : (thj n 0)[q]? = some ⟨fixK 0, 0⟩ := by simp [thj, hq]
    obtain ⟨y0, y1, y2, y3⟩ := tcells_at _ q _ hx
    have e : thZero.cells.size = 4 := rfl
    rw [e, show (q * 4 + r) % 4 = r by omega]
    rcases (by omega : r = 0 ∨ r = 1 ∨ r = 2 ∨ r = 3) with rfl | rfl | rfl | rfl
    · exact y0.symm
    · exact y1.symm
    · exact y2.symm
    · exact y3.symm
  · rw [made_no _ _ _ h, eq_comm, List.getElem?_eq_none_iff, tcells_length, thj_len n 0 (by omega)]
    omega
theorem lcells_length : ∀ Z, (lcells Z).length = Z.length * 2
  | [] => rfl
  | z :: Z => by rw [lcells_cons]; simp [lcells_length Z]; omega
theorem made_lk (n : Nat) : (madeCells lkZero.cells (n * 2)).toList = lcells (lkj n 0) := by
  apply List.ext_getElem?
  intro i
  by_cases h : i < n * 2
  · rw [made_at _ _ _ h]
    obtain ⟨q, r, rfl, hr⟩ : ∃ q r, i = q * 2 + r ∧ r < 2 := ⟨i / 2, i % 2, by omega, by omega⟩
    have hq : q < n := by omega
    have hx : (lkj n 0)[q]? = some (0, .slice none 0 0) := by simp [lkj, hq]
    obtain ⟨y0, y1⟩ := lcells_at _ q _ hx
    have e : lkZero.cells.size = 2 := rfl
    rw [e, show (q * 2 + r) % 2 = r by omega]
    rcases (by omega : r = 0 ∨ r = 1) with rfl | rfl
    · exact y0.symm
    · exact y1.symm
  · rw [made_no _ _ _ h, eq_comm, List.getElem?_eq_none_iff, lcells_length, lkj_len n 0 (by omega)]
    omega
theorem owns_made (w : World) (base g n size : Nat) (e : TypeId) (z : Array Value) (hb : base ≤ w.heap.size) (hg : base ≤ g) (h : w.heap[g]? = some (.cells (madeCells z (n * size)) e (0, 0))) (hn : n ≤ maxLen) :
    w.ownsRow base e size (.slice (some ⟨g, 0, none⟩) n n) n (madeCells z (n * size)).toList :=
  ⟨by simp [size_madeCells], .inr ⟨g, n, _, rfl, hg, h, Nat.le_refl _, hn, by simp [size_madeCells], by rw [List.take_of_length_le]; simp [size_madeCells]⟩⟩
/-- What New has made so far. -/
structure NewAt (w wr : World) (s gt gl n m : Nat) (T : List Th) (Z : List (Int × Value)) : Prop where
  blk : wr.heap[s]? = some (.cells #[.slice (some ⟨gt, 0, none⟩) n n, .slice (some ⟨gl, 0, none⟩) m m] 72 (0, 0))
  lo : w.heap.size ≤ s
  tho : wr.ownsRow w.heap.size 75 4 (.slice (some ⟨gt, 0, none⟩) n n) n (tcells T)
  lko : wr.ownsRow w.heap.size 68 2 (.slice (some ⟨gl, 0, none⟩) m m) m (lcells Z)
  tl : T.length = n
  zl : Z.length = m
  be : Below w.heap.size w wr
section
variable {w wr wr' : World} {s gt gl n m : Nat} {T : List Th} {Z : List (Int × Value)}
theorem heap_new (w : World) (o : Obj) : (w.alloc o).heap[w.heap.size]? = some o := by
  show (w.heap.push o)[w.heap.size]? = some o
  simp
theorem new_a (w : World) (n m : Nat) (hn : n ≤ maxLen) (hm : m ≤ maxLen) : NewAt w (((w.alloc (.cells (thMade n) 75)).alloc (.cells (lkMade m) 68)).alloc (.cells #[.slice (some ⟨w.heap.size, 0, none⟩) n n, .slice (some ⟨w.heap.size + 1, 0, none⟩) m m] 72)) (w.heap.size + 1 + 1) w.heap.size (w.heap.size + 1) n m (thj n 0) (lkj m 0) := by
  have e1 : (w.alloc (.cells (thMade n) 75)).heap.size = w.heap.size + 1 := by simp
  have e2 : ((w.alloc (.cells (thMade n) 75)).alloc (.cells (lkMade m) 68)).heap.size = w.heap.size + 1 + 1 := by simp
  refine ⟨?_, by omega, ?_, ?_, thj_len _ _ (by omega), lkj_len _ _ (by omega), (((Below.refl _ _).alloc (Nat.le_refl _) _).alloc (by omega) _).alloc (by omega) _⟩
  · rw [← e2]; exact heap_new _ _
  · rw [← made_th]
    refine owns_made _ _ _ _ _ _ _ (by simp; omega) (Nat.le_refl _) ?_ hn
    rw [Below.heap_alloc _ _ _ (by omega), Below.heap_alloc _ _ _ (by omega)]
    exact heap_new _ _
  · rw [← made_lk]
    refine owns_made _ _ _ _ _ _ _ (by simp; omega) (by omega) ?_ hm
    rw [Below.heap_alloc _ _ _ (by omega), ← e1]
    exact heap_new _ _
theorem new_b (w : World) (n m : Nat) (hn : n ≤ maxLen) (hm : m ≤ maxLen) : NewAt w (((w.alloc (.cells (lkMade m) 68)).alloc (.cells (thMade n) 75)).alloc (.cells #[.slice (some ⟨w.heap.size + 1, 0, none⟩) n n, .slice (some ⟨w.heap.size, 0, none⟩) m m] 72)) (w.heap.size + 1 + 1) (w.heap.size + 1) w.heap.size n m (thj n 0) (lkj m 0) := by
  have e1 : (w.alloc (.cells (lkMade m) 68)).heap.size = w.heap.size + 1 := by simp
  have e2 : ((w.alloc (.cells (lkMade m) 68)).alloc (.cells (thMade n) 75)).heap.size = w.heap.size + 1 + 1 := by simp
  refine ⟨?_, by omega, ?_, ?_, thj_len _ _ (by omega), lkj_len _ _ (by omega), (((Below.refl _ _).alloc (Nat.le_refl _) _).alloc (by omega) _).alloc (by omega) _⟩
  · rw [← e2]; exact heap_new _ _
  · rw [← made_th]
    refine owns_made _ _ _ _ _ _ _ (by simp; omega) (by omega) ?_ hn
    rw [Below.heap_alloc _ _ _ (by omega), ← e1]
    exact heap_new _ _
  · rw [← made_lk]
    refine owns_made _ _ _ _ _ _ _ (by simp; omega) (Nat.le_refl _) ?_ hm
    rw [Below.heap_alloc _ _ _ (by omega), Below.heap_alloc _ _ _ (by omega)]
    exact heap_new _ _
theorem NewAt.drew (h : NewAt w wr s gt gl n m T Z) : NewAt w wr.drew s gt gl n m T Z := ⟨h.blk, h.lo, h.tho.drew, h.lko.drew, h.tl, h.zl, h.be.drew⟩
theorem NewAt.lts (h : NewAt w wr s gt gl n m T Z) : s < wr.heap.size ∧ gt < wr.heap.size ∧ gl < wr.heap.size ∧ w.heap.size ≤ gt ∧ w.heap.size ≤ gl ∧ gt ≠ s ∧ gl ≠ s ∧ gt ≠ gl := by
  obtain ⟨a1, a2, ca, a3⟩ := ownsRow_blk h.tho (k := gt) rfl
  obtain ⟨b1, b2, cb, b3⟩ := ownsRow_blk h.lko (k := gl) rfl
  have h0 := h.blk
  refine ⟨(Array.getElem?_eq_some_iff.1 h0).1, a2, b2, a1, b1, fun q => ?_, fun q => ?_, fun q => ?_⟩
  · rw [q, h0] at a3; simp at a3
  · rw [q, h0] at b3; simp at b3
  · rw [q, b3] at a3; simp at a3
theorem NewAt.on (h : NewAt w wr s gt gl n m T Z) (hb : Below wr.heap.size wr wr') : NewAt w wr' s gt gl n m T Z := by
  obtain ⟨l1, l2, l3, _⟩ := h.lts
  refine ⟨(hb.block s l1).trans h.blk, h.lo, ownsRow_far h.tho ?_, ownsRow_far h.lko ?_, h.tl, h.zl, h.be.trans (hb.mono h.be.size)⟩
  · intro k hk
    simp [Value.ownBlock] at hk
    subst hk
    exact hb.block _ l2
  · intro k hk
    simp [Value.ownBlock] at hk
    subst hk
    exact hb.block _ l3
theorem NewAt.c0 (h : NewAt w wr s gt gl n m T Z) : wr.cell? ⟨s, 0, none⟩ = some (.slice (some ⟨gt, 0, none⟩) n n) := by unfold World.cell?; simp [h.blk]
theorem NewAt.c1 (h : NewAt w wr s gt gl n m T Z) : wr.cell? ⟨s, 1, none⟩ = some (.slice (some ⟨gl, 0, none⟩) m m) := by unfold World.cell?; simp [h.blk]
theorem NewAt.putT (h : NewAt w wr s gt gl n m T Z) (j : Nat) (hj : j < n) (x : Th) : NewAt w ((((wr.setCell ⟨gt, j * 4, none⟩ (.bool x.k.e)).setCell ⟨gt, j * 4 + 1, none⟩ (.int .u64 x.k.d)).setCell ⟨gt, j * 4 + 2, none⟩ (.int .u8 x.k.l)).setCell ⟨gt, j * 4 + 3, none⟩ (.int .i64 x.u)) s gt gl n m (T.set j x) Z := by
  obtain ⟨l1, l2, l3, l4, l5, l6, l7, l8⟩ := h.lts
  have h1 := ownsRow_set (ownsRow_set (ownsRow_set (ownsRow_set h.tho (j * 4) (by omega) (.bool x.k.e)) (j * 4 + 1) (by omega) (.int .u64 x.k.d)) (j * 4 + 2) (by omega) (.int .u8 x.k.l)) (j * 4 + 3) (by omega) (.int .i64 x.u)
  rw [← tcells_set T j x (by rw [h.tl]; exact hj)] at h1
  refine ⟨?_, h.lo, h1, ownsRow_far h.lko ?_, by simpa using h.tl, h.zl, (((h.be.setCell (p := ⟨gt, j * 4, none⟩) l4 _).setCell (p := ⟨gt, j * 4 + 1, none⟩) l4 _).setCell (p := ⟨gt, j * 4 + 2, none⟩) l4 _).setCell (p := ⟨gt, j * 4 + 3, none⟩) l4 _⟩
  · rw [Below.heap_setCell _ _ _ _ (Ne.symm l6), Below.heap_setCell _ _ _ _ (Ne.symm l6), Below.heap_setCell _ _ _ _ (Ne.symm l6), Below.heap_setCell _ _ _ _ (Ne.symm l6)]
    exact h.blk
  · intro k hk
    simp [Value.ownBlock] at hk
    subst hk
    rw [Below.heap_setCell _ _ _ _ (Ne.symm l8), Below.heap_setCell _ _ _ _ (Ne.symm l8), Below.heap_setCell _ _ _ _ (Ne.symm l8), Below.heap_setCell _ _ _ _ (Ne.symm l8)]
theorem NewAt.putL (h : NewAt w wr s gt gl n m T Z) (j : Nat) (hj : j < m) (z : Int × Value) : NewAt w ((wr.setCell ⟨gl, j * 2, none⟩ (.int .i64 z.1)).setCell ⟨gl, j * 2 + 1, none⟩ z.2) s gt gl n m T (Z.set j z) := by
  obtain ⟨l1, l2, l3, l4, l5, l6, l7, l8⟩ := h.lts
  have h1 := ownsRow_set (ownsRow_set h.lko (j * 2) (by omega) (.int .i64 z.1)) (j * 2 + 1) (by omega) z.2
  rw [← lcells_set Z j z (by rw [h.zl]; exact hj)] at h1
  refine ⟨?_, h.lo, ownsRow_far h.tho ?_, h1, h.tl, by simpa using h.zl, (h.be.setCell (p := ⟨gl, j * 2, none⟩) l5 _).setCell (p := ⟨gl, j * 2 + 1, none⟩) l5 _⟩
  · rw [Below.heap_setCell _ _ _ _ (Ne.symm l7), Below.heap_setCell _ _ _ _ (Ne.symm l7)]
    exact h.blk
  · intro k hk
    simp [Value.ownBlock] at hk
    subst hk
    rw [Below.heap_setCell _ _ _ _ l8, Below.heap_setCell _ _ _ _ l8]
theorem NewAt.fz (h : NewAt w wr s gt gl n m T Z) : (∀ k, wr.frozen? ⟨gt, k, none⟩ = false) ∧ ∀ k, wr.frozen? ⟨gl, k, none⟩ = false := ⟨frozen_row h.tho, frozen_row h.lko⟩
theorem NewAt.tcell (h : NewAt w wr s gt gl n m T Z) (j : Nat) (hj : j < n) : ∃ u0 u1 u2 u3, wr.cell? ⟨gt, j * 4, none⟩ = some u0 ∧ wr.cell? ⟨gt, j * 4 + 1, none⟩ = some u1 ∧ wr.cell? ⟨gt, j * 4 + 2, none⟩ = some u2 ∧ wr.cell? ⟨gt, j * 4 + 3, none⟩ = some u3 := by
  have e : T[j]? = some _ := List.getElem?_eq_getElem (by rw [h.tl]; exact hj)
  obtain ⟨y0, y1, y2, y3⟩ := tcells_at T j _ e
  exact ⟨_, _, _, _, (h.tho.cellAt (j * 4) (by omega)).trans y0, (h.tho.cellAt (j * 4 + 1) (by omega)).trans y1, (h.tho.cellAt (j * 4 + 2) (by omega)).trans y2, (h.tho.cellAt (j * 4 + 3) (by omega)).trans y3⟩
theorem NewAt.lcell (h : NewAt w wr s gt gl n m T Z) (j : Nat) (hj : j < m) : ∃ u0 u1, wr.cell? ⟨gl, j * 2, none⟩ = some u0 ∧ wr.cell? ⟨gl, j * 2 + 1, none⟩ = some u1 := by
  have e : Z[j]? = some _ := List.getElem?_eq_getElem (by rw [h.zl]; exact hj)
  obtain ⟨y0, y1⟩ := lcells_at Z j _ e
  exact ⟨_, _, (h.lko.cellAt (j * 2) (by omega)).trans y0, (h.lko.cellAt (j * 2 + 1) (by omega)).trans y1⟩
theorem NewAt.tcell' (h : NewAt w wr s gt gl n m T Z) (j : Nat) (hj : j < n) : ∃ u0 u1 u2 u3, ∀ o, (wr.alloc o).cell? ⟨gt, j * 4, none⟩ = some u0 ∧ (wr.alloc o).cell? ⟨gt, j * 4 + 1, none⟩ = some u1 ∧ (wr.alloc o).cell? ⟨gt, j * 4 + 2, none⟩ = some u2 ∧ (wr.alloc o).cell? ⟨gt, j * 4 + 3, none⟩ = some u3 := by
  obtain ⟨u0, u1, u2, u3, y0, y1, y2, y3⟩ := h.tcell j hj
  have l2 := h.lts.2.1
  refine ⟨u0, u1, u2, u3, fun o => ?_⟩
  have hb : Below wr.heap.size wr (wr.alloc o) := (Below.refl _ _).alloc (Nat.le_refl _) o
  exact ⟨(hb.cell (p := ⟨gt, j * 4, none⟩) l2).trans y0, (hb.cell (p := ⟨gt, j * 4 + 1, none⟩) l2).trans y1, (hb.cell (p := ⟨gt, j * 4 + 2, none⟩) l2).trans y2, (hb.cell (p := ⟨gt, j * 4 + 3, none⟩) l2).trans y3⟩
end
set_option maxHeartbeats 2000000 in
theorem gnew_ok (n m : Nat) (w : World) (h1 : 1 ≤ n) (h2 : n ≤ 1024) (h3 : m ≤ 32) :
    Calls Try.prog 31 #[.int .i64 n, .int .i64 m] w fun e w' => ∃ s gt gl, e = .returned (.pointer (some ⟨s, 0, none⟩)) ∧ NewAt w w' s gt gl n m (thj n n) (lkj m m) := by
  obtain ⟨i0, hi0, hz0, hz1, hz2⟩ := info_parts infoTh
  obtain ⟨j0, hj0, hy0, hy1, hy2⟩ := info_parts infoLk
  have hmk : ∀ w, (Instr.makeSlice 69 (.int .i64 (n : Int)) (.int .i64 (n : Int))).run Try.prog w = .ok (.slice (some ⟨w.heap.size, 0, none⟩) n n) (w.alloc (.cells (thMade n) 75)) := by
    intro w
    have := run_make w 69 75 i0 thZero Try.underlying69 hi0 hz0 .i64 .i64 (n : Int) (n : Int) (by omega) (by omega) (by rw [hz2]; omega) (by omega)
    rw [hz1, show (n : Int).toNat = n by omega] at this
    exact this
  have hml : ∀ w, (Instr.makeSlice 70 (.int .i64 (m : Int)) (.int .i64 (m : Int))).run Try.prog w = .ok (.slice (some ⟨w.heap.size, 0, none⟩) m m) (w.alloc (.cells (lkMade m) 68)) := by
    intro w
    have := run_make w 70 68 j0 lkZero Try.underlying70 hj0 hy0 .i64 .i64 (m : Int) (m : Int) (by omega) (by omega) (by rw [hy2]; omega) (by omega)
    rw [hy1, show (m : Int).toNat = m by omega] at this
    exact this
  have e1 : ¬ (n : Int) < 1 := by omega
  have e2 : ¬ (1024 : Int) < (n : Int) := by omega
  have e3 : ¬ (m : Int) < 0 := by omega
  have e4 : ¬ (32 : Int) < (m : Int) := by omega
  have hnm : n ≤ maxLen ∧ m ≤ maxLen := ⟨by simp [maxLen]; omega, by simp [maxLen]; omega⟩
  have HSA := veil (new_a w n m hnm.1 hnm.2)
  have HSB := veil (new_b w n m hnm.1 hnm.2)
  have HF := veil (fun w => fixed_mk w 0)
  clear hi0 hz0 hz1 hz2 hj0 hy0 hy1 hy2 hnm
  go_enter Try.func31, Try.ntmps31
  go_wp2
  go_region_held3 (fun w' => True) (simp [go_sem]) (first | fail)
  all_goals go_wp2
  · replace HSA := HSA
    clear HSB
    go_loopw [33] (fun i wr => ∃ (j : Nat), j ≤ n ∧ i = .int .i64 j ∧ NewAt w wr (w.heap.size + 1 + 1) (w.heap.size) (w.heap.size + 1) n m (thj n j) (lkj m 0)) (fun i _ => n - (intOf i).toNat)
    case atStart => exact ⟨0, by omega, rfl, HSA.out.drew⟩
    case round =>
      obtain ⟨j, hj, rfl, hB⟩ := hrel
      by_cases hjl : j < n
      · have hjl' : (j : Int) < (n : Int) := by omega
        have c0 := hB.c0
        have ca : ∀ o, (wr.alloc o).cell? ⟨w.heap.size + 1 + 1, 0, none⟩ = some (.slice (some ⟨w.heap.size, 0, none⟩) n n) := fun o => (hB.on ((Below.refl _ _).alloc (Nat.le_refl _) o)).c0
        have cr : wr.drew.cell? ⟨w.heap.size + 1 + 1, 0, none⟩ = some (.slice (some ⟨w.heap.size, 0, none⟩) n n) := hB.drew.c0
        have cd : ∀ o, (wr.alloc o).drew.cell? ⟨w.heap.size + 1 + 1, 0, none⟩ = some (.slice (some ⟨w.heap.size, 0, none⟩) n n) := fun o => (hB.on ((Below.refl _ _).alloc (Nat.le_refl _) o)).drew.c0
        have cs : ∀ o, (((((wr.alloc o).setCell ⟨w.heap.size, j * 4, none⟩ (.bool false)).setCell ⟨w.heap.size, j * 4 + 1, none⟩ (.int .u64 0)).setCell ⟨w.heap.size, j * 4 + 2, none⟩ (.int .u8 0)).setCell ⟨w.heap.size, j * 4 + 3, none⟩ (.int .i64 (-1))).drew.cell? ⟨w.heap.size + 1 + 1, 0, none⟩ = some (.slice (some ⟨w.heap.size, 0, none⟩) n n) := fun o => ((hB.on ((Below.refl _ _).alloc (Nat.le_refl _) o)).putT j hjl ⟨fixK 0, -1⟩).drew.c0
        have fz : ∀ o k, (wr.alloc o).frozen? ⟨w.heap.size, k, none⟩ = false := fun o k => (hB.on ((Below.refl _ _).alloc (Nat.le_refl _) o)).fz.1 k
        obtain ⟨u0, u1, u2, u3, hu⟩ := hB.tcell' j hjl
        have z0 := fun o => (hu o).1
        have z1 := fun o => (hu o).2.1
        have z2 := fun o => (hu o).2.2.1
        have z3 := fun o => (hu o).2.2.2
        have HB := veil hB
        clear hB hu
        go_wp2
        go_region_held3 (fun w' => w'.cell? ⟨w.heap.size + 1 + 1, 0, none⟩ = some (.slice (some ⟨w.heap.size, 0, none⟩) n n))
          (first | with_reducible exact c0 | with_reducible exact cr | with_reducible exact ca _ | with_reducible exact cd _ | with_reducible exact cs _)
          (first | (go_at_call 32; refine (HF.out _).mono ?_; rintro e w1 ⟨rfl, c, rfl⟩))
        all_goals go_wp2
        all_goals go_roundw
        case rel =>
          refine ⟨j + 1, by omega, by go_num, ?_⟩
          rw [← thj_set n j hjl]
          exact ((HB.out.on ((Below.refl _ _).alloc (Nat.le_refl _) _)).putT j hjl ⟨fixK 0, -1⟩).drew
        case measure => simp [intOf]; omega
      · have hjl' : ¬ (j : Int) < (n : Int) := by omega
        obtain rfl : j = n := by omega
        have c1 := hB.c1
        have HB := veil hB
        clear hB
        go_wp2
        go_loopw [50] (fun i wr => ∃ (k : Nat), k ≤ m ∧ i = .int .i64 k ∧ NewAt w wr (w.heap.size + 1 + 1) (w.heap.size) (w.heap.size + 1) j m (thj j j) (lkj m k)) (fun i _ => m - (intOf i).toNat)
        case atStart => exact ⟨0, by omega, rfl, HB.out⟩
        case round =>
          obtain ⟨k, hk, rfl, hB⟩ := hrel
          by_cases hkl : k < m
          · have hkl' : (k : Int) < (m : Int) := by omega
            have c1 := hB.c1
            have fz := hB.fz.2
            obtain ⟨u0, u1, z0, z1⟩ := hB.lcell k hkl
            have HB := veil hB
            clear hB
            go_wp2
            go_roundw
            case rel =>
              refine ⟨k + 1, by omega, by go_num, ?_⟩
              rw [← lkj_set m k hkl]
              exact HB.out.putL k hkl (-1, .slice none 0 0)
            case measure => simp [intOf]; omega
          · have hkl' : ¬ (k : Int) < (m : Int) := by omega
            obtain rfl : k = m := by omega
            have HB := veil hB
            clear hB
            go_wp2
            go_ret
            exact ⟨_, rfl, _, _, HB.out⟩
  · replace HSA := HSB
    go_loopw [33] (fun i wr => ∃ (j : Nat), j ≤ n ∧ i = .int .i64 j ∧ NewAt w wr (w.heap.size + 1 + 1) (w.heap.size + 1) (w.heap.size) n m (thj n j) (lkj m 0)) (fun i _ => n - (intOf i).toNat)
    case atStart => exact ⟨0, by omega, rfl, HSA.out.drew⟩
    case round =>
      obtain ⟨j, hj, rfl, hB⟩ := hrel
      by_cases hjl : j < n
      · have hjl' : (j : Int) < (n : Int) := by omega
        have c0 := hB.c0
        have ca : ∀ o, (wr.alloc o).cell? ⟨w.heap.size + 1 + 1, 0, none⟩ = some (.slice (some ⟨w.heap.size + 1, 0, none⟩) n n) := fun o => (hB.on ((Below.refl _ _).alloc (Nat.le_refl _) o)).c0
        have cr : wr.drew.cell? ⟨w.heap.size + 1 + 1, 0, none⟩ = some (.slice (some ⟨w.heap.size + 1, 0, none⟩) n n) := hB.drew.c0
        have cd : ∀ o, (wr.alloc o).drew.cell? ⟨w.heap.size + 1 + 1, 0, none⟩ = some (.slice (some ⟨w.heap.size + 1, 0, none⟩) n n) := fun o => (hB.on ((Below.refl _ _).alloc (Nat.le_refl _) o)).drew.c0
        have cs : ∀ o, (((((wr.alloc o).setCell ⟨w.heap.size + 1, j * 4, none⟩ (.bool false)).setCell ⟨w.heap.size + 1, j * 4 + 1, none⟩ (.int .u64 0)).setCell ⟨w.heap.size + 1, j * 4 + 2, none⟩ (.int .u8 0)).setCell ⟨w.heap.size + 1, j * 4 + 3, none⟩ (.int .i64 (-1))).drew.cell? ⟨w.heap.size + 1 + 1, 0, none⟩ = some (.slice (some ⟨w.heap.size + 1, 0, none⟩) n n) := fun o => ((hB.on ((Below.refl _ _).alloc (Nat.le_refl _) o)).putT j hjl ⟨fixK 0, -1⟩).drew.c0
        have fz : ∀ o k, (wr.alloc o).frozen? ⟨w.heap.size + 1, k, none⟩ = false := fun o k => (hB.on ((Below.refl _ _).alloc (Nat.le_refl _) o)).fz.1 k
        obtain ⟨u0, u1, u2, u3, hu⟩ := hB.tcell' j hjl
        have z0 := fun o => (hu o).1
        have z1 := fun o => (hu o).2.1
        have z2 := fun o => (hu o).2.2.1
        have z3 := fun o => (hu o).2.2.2
        have HB := veil hB
        clear hB hu
        go_wp2
        go_region_held3 (fun w' => w'.cell? ⟨w.heap.size + 1 + 1, 0, none⟩ = some (.slice (some ⟨w.heap.size + 1, 0, none⟩) n n))
          (first | with_reducible exact c0 | with_reducible exact cr | with_reducible exact ca _ | with_reducible exact cd _ | with_reducible exact cs _)
          (first | (go_at_call 32; refine (HF.out _).mono ?_; rintro e w1 ⟨rfl, c, rfl⟩))
        all_goals go_wp2
        all_goals go_roundw
        case rel =>
          refine ⟨j + 1, by omega, by go_num, ?_⟩
          rw [← thj_set n j hjl]
          exact ((HB.out.on ((Below.refl _ _).alloc (Nat.le_refl _) _)).putT j hjl ⟨fixK 0, -1⟩).drew
        case measure => simp [intOf]; omega
      · have hjl' : ¬ (j : Int) < (n : Int) := by omega
        obtain rfl : j = n := by omega
        have c1 := hB.c1
        have HB := veil hB
        clear hB
        go_wp2
        go_loopw [50] (fun i wr => ∃ (k : Nat), k ≤ m ∧ i = .int .i64 k ∧ NewAt w wr (w.heap.size + 1 + 1) (w.heap.size + 1) (w.heap.size) j m (thj j j) (lkj m k)) (fun i _ => m - (intOf i).toNat)
        case atStart => exact ⟨0, by omega, rfl, HB.out⟩
        case round =>
          obtain ⟨k, hk, rfl, hB⟩ := hrel
          by_cases hkl : k < m
          · have hkl' : (k : Int) < (m : Int) := by omega
            have c1 := hB.c1
            have fz := hB.fz.2
            obtain ⟨u0, u1, z0, z1⟩ := hB.lcell k hkl
            have HB := veil hB
            clear hB
            go_wp2
            go_roundw
            case rel =>
              refine ⟨k + 1, by omega, by go_num, ?_⟩
              rw [← lkj_set m k hkl]
              exact HB.out.putL k hkl (-1, .slice none 0 0)
            case measure => simp [intOf]; omega
          · have hkl' : ¬ (k : Int) < (m : Int) := by omega
            obtain rfl : k = m := by omega
            have HB := veil hB
            clear hB
            go_wp2
            go_ret
            exact ⟨_, rfl, _, _, HB.out⟩
end Go.Proofs.Ytbhkgbhgofefjaa
