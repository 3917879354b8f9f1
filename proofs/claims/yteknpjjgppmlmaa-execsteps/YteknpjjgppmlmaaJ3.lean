/-
  exec: the document's Step walked.
-/
import Derived.Test.YteknpjjgppmlmaaJ2
namespace Go.Proofs.Yteknpjjgppmlmaa
open Go.RowKit Go.Lib
set_option linter.unusedVariables false

theorem rstep_no (w : World) (a : Option Addr) (len cap : Nat) (hlen : len < 9223372036854775808) (O R : Nat → Int) (hp : Prg w a len O R) (pl left : Int) (hl : ¬ 0 < left) (hn : ¬ (Rt len O R ∧ 0 ≤ pl ∧ pl < len)) :
    Calls Try.prog 12 #[.slice a len cap, .agg #[.int .i64 pl, .int .i64 left]] w fun e w' => e = .returned (.tuple #[.agg #[.int .i64 9, .int .i64 0], .agg #[.int .i64 pl, .int .i64 left], .bool false]) ∧ Below w.heap.size w w' := by
  obtain ⟨x, y, hxy⟩ := chk_total len O R
  have HC := veil (fun w1 (hb : Below w.heap.size w w1) => rcheck_known w1 a len cap hlen O R (hp.below hb) x y hxy)
  have hcase : (x = 0 ∧ pl < 0) ∨ (x = 0 ∧ ¬ pl < 0 ∧ (len : Int) ≤ pl) ∨ x ≠ 0 := by
    by_cases hx : x = 0
    · have hn' : ¬ (0 ≤ pl ∧ pl < len) := fun q => hn ⟨⟨y, hx ▸ hxy⟩, q⟩
      by_cases h0 : pl < 0
      · exact .inl ⟨hx, h0⟩
      · exact .inr (.inl ⟨hx, h0, by omega⟩)
    · exact .inr (.inr hx)
  clear hn hxy hp
  rcases hcase with ⟨rfl, h0⟩ | ⟨rfl, h0, h1⟩ | hx
  case' inr.inr => have hx' : (x != 0) = true := by simpa using hx
  all_goals
    go_enter Try.func12, Try.ntmps12
    go_wp2_with (go_at_call 19; refine (HC.out _ ((((Below.refl _ _).alloc (Nat.le_refl _) _).alloc (by simp) _).alloc (by simp; omega) _)).mono ?_; rintro e w1 ⟨rfl, hb⟩; obtain ⟨b1, b2, b3, hb2⟩ := three_cells _ _ _ _ _ _ _ _ _ _ _ hb; obtain ⟨c0, c1, f0, f1⟩ := two_cells b1; obtain ⟨c2, c3, f2, f3⟩ := two_cells b2; obtain ⟨c4, c5, f4, f5⟩ := two_cells b3; have HB := veil hb2; clear hb hb2 HC b1 b2 b3)
    go_region
    go_wp2
    refine bodyPost_ret (v := .tuple #[.agg #[.int .i64 9, .int .i64 0], .agg #[.int .i64 pl, .int .i64 left], .bool false]) ?_ rfl ⟨rfl, ?_⟩
    · simp [results, Try.f12, go_sem, c2, c3, c4, c5]
    · exact ((((HB.out.setCell (p := ⟨w.heap.size + 1, 0, none⟩) (by simp) _).setCell (p := ⟨w.heap.size + 1, 1, none⟩) (by simp) _).setCell (p := ⟨w.heap.size + 1 + 1, 0, none⟩) (by simp; omega) _).setCell (p := ⟨w.heap.size + 1 + 1, 1, none⟩) (by simp; omega) _).drew
set_option maxHeartbeats 2000000 in
theorem rstep_yes (w : World) (a : Option Addr) (len cap : Nat) (O R : Nat → Int) (hp : Prg w a len O R) (j : Nat) (left : Int) (hl : ¬ 0 < left) (hr : Rt len O R) (hj : j < len) :
    Calls Try.prog 12 #[.slice a len cap, .agg #[.int .i64 (j : Int), .int .i64 left]] w fun e w' => e = .returned (.tuple #[.agg #[.int .i64 (O j), .int .i64 (R j)], .agg #[.int .i64 (nxI (O j) (R j) j), .int .i64 (lfI (O j) (R j) left)], .bool false]) ∧ Below w.heap.size w w' := by
  have h64 := hr.at
  obtain ⟨y, hy⟩ := hr
  have HC := veil (fun w1 (hb : Below w.heap.size w w1) => rcheck_known w1 a len cap (by omega) O R (hp.below hb) 0 y hy)
  have HP : Hid (∀ w1, Below w.heap.size w w1 → ∃ lb off, a = some ⟨lb, off, none⟩ ∧ lb < w.heap.size ∧ w1.cell? ⟨lb, off + j * 2, none⟩ = some (.int .i64 (O j)) ∧ w1.cell? ⟨lb, off + j * 2 + 1, none⟩ = some (.int .i64 (R j))) := by
    intro w1 hb
    rcases hp with h0 | ⟨lb, off, rfl, hlb, hc⟩
    · omega
    · exact ⟨lb, off, rfl, hlb, (hb.cell (p := ⟨lb, off + j * 2, none⟩) hlb).trans (hc j hj).1, (hb.cell (p := ⟨lb, off + j * 2 + 1, none⟩) hlb).trans (hc j hj).2⟩
  have hj' : ¬ (len : Int) ≤ (j : Int) := by omega
  have hj2 : (j : Int) < (len : Int) := by omega
  have hj0 : ¬ (j : Int) < 0 := by omega
  clear hp hy
  generalize O j = op at *
  generalize R j = arg at *
  have hcs : op = 9 ∨ op = 8 ∨ op = 1 ∨ ((op == 9) = false ∧ (op == 8) = false ∧ (op == 1) = false) := by
    by_cases h9 : op = 9
    · exact .inl h9
    · by_cases h8 : op = 8
      · exact .inr (.inl h8)
      · by_cases h1 : op = 1
        · exact .inr (.inr (.inl h1))
        · exact .inr (.inr (.inr ⟨by simpa using h9, by simpa using h8, by simpa using h1⟩))
  rcases hcs with rfl | rfl | rfl | ⟨h9, h8, h1⟩
  case' inl => have e1 : nxI 9 arg j = j := rfl; have e2 : lfI 9 arg left = left := rfl
  case' inr.inl => have e1 : nxI 8 arg j = arg := rfl; have e2 : lfI 8 arg left = left := rfl
  case' inr.inr.inl => have e1 : nxI 1 arg j = j + 1 := rfl; have e2 : lfI 1 arg left = arg := rfl
  case' inr.inr.inr => have e1 : nxI op arg j = j + 1 := (by simp at h9 h8; simp [nxI, h9, h8]); have e2 : lfI op arg left = left := (by simp at h1; simp [lfI, h1])
  all_goals
    rw [e1, e2]
    clear e1 e2
    go_enter Try.func12, Try.ntmps12
    go_wp2_with (go_at_call 19; refine (HC.out _ ((((Below.refl _ _).alloc (Nat.le_refl _) _).alloc (by simp) _).alloc (by simp; omega) _)).mono ?_; rintro e w1 ⟨rfl, hb⟩; obtain ⟨b1, b2, b3, hb2⟩ := three_cells _ _ _ _ _ _ _ _ _ _ _ hb; obtain ⟨c0, c1, f0, f1⟩ := two_cells b1; obtain ⟨c2, c3, f2, f3⟩ := two_cells b2; obtain ⟨c4, c5, f4, f5⟩ := two_cells b3; obtain ⟨lb, off, rfl, hlb, p0, p1⟩ := HP.out _ hb2; have q0 : ¬ lb = w.heap.size + 1 := (by omega); have HB := veil hb2; clear hb hb2 HC HP b1 b2 b3)
  · have hs : w.heap.size + 3 ≤ w1.heap.size := by have := World.block_lt_of_cell? w1 _ c4; simp at this; omega
    have H6 : Six (w1.alloc (.cells #[.int .i64 op, .int .i64 arg] 28)) w.heap.size (.int .i64 (j : Int)) (.int .i64 left) (.int .i64 0) (.int .i64 0) (.int .i64 0) (.int .i64 0) := Six.below ⟨⟨c0, c1, c2, c3, c4, c5⟩, f2, f3, f4, f5⟩ ((Below.refl _ _).alloc (Nat.le_refl _) _)
    obtain ⟨e0, e1, _, _⟩ := two_cells (MapKept.heap_alloc w1 (.cells #[.int .i64 op, .int .i64 arg] 28)).1
    have HB1 : Hid (Below w.heap.size w (w1.alloc (.cells #[.int .i64 op, .int .i64 arg] 28))) := HB.out.alloc HB.out.size _
    clear c0 c1 c2 c3 c4 c5 f0 f1 f2 f3 f4 f5 p0 p1 HB
    generalize w1.alloc (.cells #[.int .i64 op, .int .i64 arg] 28) = W at H6 e0 e1 HB1 ⊢
    generalize w1.heap.size = nb at e0 e1 hs ⊢
    obtain ⟨⟨c0, c1, c2, c3, c4, c5⟩, f2, f3, f4, f5⟩ := H6
    have n0 : ¬ nb = w.heap.size := by omega
    have n1 : ¬ nb = w.heap.size + 1 := by omega
    have n2 : ¬ nb = w.heap.size + 1 + 1 := by omega
    have n3 : ¬ w.heap.size + 1 = nb := by omega
    have n4 : ¬ w.heap.size + 1 + 1 = nb := by omega
    go_region
    go_wp2
    refine bodyPost_ret (v := .tuple #[.agg #[.int .i64 op, .int .i64 arg], .agg #[.int .i64 ((j : Int) + 1), .int .i64 left], .bool false]) ?_ rfl ⟨rfl, ?_⟩
    · simp [results, Try.f12, go_sem, c2, c3, c4, c5]
    · exact ((((HB1.out.setCell (p := ⟨w.heap.size + 1, 0, none⟩) (by simp) _).setCell (p := ⟨w.heap.size + 1, 1, none⟩) (by simp) _).setCell (p := ⟨w.heap.size + 1 + 1, 0, none⟩) (by simp; omega) _).setCell (p := ⟨w.heap.size + 1 + 1, 1, none⟩) (by simp; omega) _).drew
  · have hs : w.heap.size + 3 ≤ w1.heap.size := by have := World.block_lt_of_cell? w1 _ c4; simp at this; omega
    have H6 : Six (w1.alloc (.cells #[.int .i64 1, .int .i64 arg] 28)) w.heap.size (.int .i64 (j : Int)) (.int .i64 left) (.int .i64 0) (.int .i64 0) (.int .i64 0) (.int .i64 0) := Six.below ⟨⟨c0, c1, c2, c3, c4, c5⟩, f2, f3, f4, f5⟩ ((Below.refl _ _).alloc (Nat.le_refl _) _)
    obtain ⟨e0, e1, _, _⟩ := two_cells (MapKept.heap_alloc w1 (.cells #[.int .i64 1, .int .i64 arg] 28)).1
    have HB1 : Hid (Below w.heap.size w (w1.alloc (.cells #[.int .i64 1, .int .i64 arg] 28))) := HB.out.alloc HB.out.size _
    clear c0 c1 c2 c3 c4 c5 f0 f1 f2 f3 f4 f5 p0 p1 HB
    generalize w1.alloc (.cells #[.int .i64 1, .int .i64 arg] 28) = W at H6 e0 e1 HB1 ⊢
    generalize w1.heap.size = nb at e0 e1 hs ⊢
    obtain ⟨⟨c0, c1, c2, c3, c4, c5⟩, f2, f3, f4, f5⟩ := H6
    have n0 : ¬ nb = w.heap.size := by omega
    have n1 : ¬ nb = w.heap.size + 1 := by omega
    have n2 : ¬ nb = w.heap.size + 1 + 1 := by omega
    have n3 : ¬ w.heap.size + 1 = nb := by omega
    have n4 : ¬ w.heap.size + 1 + 1 = nb := by omega
    go_region
    go_wp2
    refine bodyPost_ret (v := .tuple #[.agg #[.int .i64 1, .int .i64 arg], .agg #[.int .i64 ((j : Int) + 1), .int .i64 arg], .bool false]) ?_ rfl ⟨rfl, ?_⟩
    · simp [results, Try.f12, go_sem, c2, c3, c4, c5]
    · exact ((((HB1.out.setCell (p := ⟨w.heap.size + 1, 0, none⟩) (by simp) _).setCell (p := ⟨w.heap.size + 1, 1, none⟩) (by simp) _).setCell (p := ⟨w.heap.size + 1 + 1, 0, none⟩) (by simp; omega) _).setCell (p := ⟨w.heap.size + 1 + 1, 1, none⟩) (by simp; omega) _).drew
  · have hs : w.heap.size + 3 ≤ w1.heap.size := by have := World.block_lt_of_cell? w1 _ c4; simp at this; omega
    have H6 : Six (w1.alloc (.cells #[.int .i64 8, .int .i64 arg] 28)) w.heap.size (.int .i64 (j : Int)) (.int .i64 left) (.int .i64 0) (.int .i64 0) (.int .i64 0) (.int .i64 0) := Six.below ⟨⟨c0, c1, c2, c3, c4, c5⟩, f2, f3, f4, f5⟩ ((Below.refl _ _).alloc (Nat.le_refl _) _)
    obtain ⟨e0, e1, _, _⟩ := two_cells (MapKept.heap_alloc w1 (.cells #[.int .i64 8, .int .i64 arg] 28)).1
    have HB1 : Hid (Below w.heap.size w (w1.alloc (.cells #[.int .i64 8, .int .i64 arg] 28))) := HB.out.alloc HB.out.size _
    clear c0 c1 c2 c3 c4 c5 f0 f1 f2 f3 f4 f5 p0 p1 HB
    generalize w1.alloc (.cells #[.int .i64 8, .int .i64 arg] 28) = W at H6 e0 e1 HB1 ⊢
    generalize w1.heap.size = nb at e0 e1 hs ⊢
    obtain ⟨⟨c0, c1, c2, c3, c4, c5⟩, f2, f3, f4, f5⟩ := H6
    have n0 : ¬ nb = w.heap.size := by omega
    have n1 : ¬ nb = w.heap.size + 1 := by omega
    have n2 : ¬ nb = w.heap.size + 1 + 1 := by omega
    have n3 : ¬ w.heap.size + 1 = nb := by omega
    have n4 : ¬ w.heap.size + 1 + 1 = nb := by omega
    go_region
    go_wp2
    refine bodyPost_ret (v := .tuple #[.agg #[.int .i64 8, .int .i64 arg], .agg #[.int .i64 arg, .int .i64 left], .bool false]) ?_ rfl ⟨rfl, ?_⟩
    · simp [results, Try.f12, go_sem, c2, c3, c4, c5]
    · exact ((((HB1.out.setCell (p := ⟨w.heap.size + 1, 0, none⟩) (by simp) _).setCell (p := ⟨w.heap.size + 1, 1, none⟩) (by simp) _).setCell (p := ⟨w.heap.size + 1 + 1, 0, none⟩) (by simp; omega) _).setCell (p := ⟨w.heap.size + 1 + 1, 1, none⟩) (by simp; omega) _).drew
  · have hs : w.heap.size + 3 ≤ w1.heap.size := by have := World.block_lt_of_cell? w1 _ c4; simp at this; omega
    have H6 : Six (w1.alloc (.cells #[.int .i64 9, .int .i64 arg] 28)) w.heap.size (.int .i64 (j : Int)) (.int .i64 left) (.int .i64 0) (.int .i64 0) (.int .i64 0) (.int .i64 0) := Six.below ⟨⟨c0, c1, c2, c3, c4, c5⟩, f2, f3, f4, f5⟩ ((Below.refl _ _).alloc (Nat.le_refl _) _)
    obtain ⟨e0, e1, _, _⟩ := two_cells (MapKept.heap_alloc w1 (.cells #[.int .i64 9, .int .i64 arg] 28)).1
    have HB1 : Hid (Below w.heap.size w (w1.alloc (.cells #[.int .i64 9, .int .i64 arg] 28))) := HB.out.alloc HB.out.size _
    clear c0 c1 c2 c3 c4 c5 f0 f1 f2 f3 f4 f5 p0 p1 HB
    generalize w1.alloc (.cells #[.int .i64 9, .int .i64 arg] 28) = W at H6 e0 e1 HB1 ⊢
    generalize w1.heap.size = nb at e0 e1 hs ⊢
    obtain ⟨⟨c0, c1, c2, c3, c4, c5⟩, f2, f3, f4, f5⟩ := H6
    have n0 : ¬ nb = w.heap.size := by omega
    have n1 : ¬ nb = w.heap.size + 1 := by omega
    have n2 : ¬ nb = w.heap.size + 1 + 1 := by omega
    have n3 : ¬ w.heap.size + 1 = nb := by omega
    have n4 : ¬ w.heap.size + 1 + 1 = nb := by omega
    go_region
    go_wp2
    refine bodyPost_ret (v := .tuple #[.agg #[.int .i64 9, .int .i64 arg], .agg #[.int .i64 (j : Int), .int .i64 left], .bool false]) ?_ rfl ⟨rfl, ?_⟩
    · simp [results, Try.f12, go_sem, c2, c3, c4, c5]
    · exact ((((HB1.out.setCell (p := ⟨w.heap.size + 1, 0, none⟩) (by simp) _).setCell (p := ⟨w.heap.size + 1, 1, none⟩) (by simp) _).setCell (p := ⟨w.heap.size + 1 + 1, 0, none⟩) (by simp; omega) _).setCell (p := ⟨w.heap.size + 1 + 1, 1, none⟩) (by simp; omega) _).drew
end Go.Proofs.Yteknpjjgppmlmaa
