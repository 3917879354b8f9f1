/- PimutexNone's walk. -/
import Derived.Test.YtbhkgbhgofefjaaI35
namespace Go.Proofs.Ytbhkgbhgofefjaa
open Go.RowKit Go.Lib Go.Shelf
set_option linter.unusedVariables false
/-- A deed in a block of its own. -/
def DB (W : World) (b : Nat) (x : Dp) : Prop := W.heap[b]? = some (.cells #[.int .i64 x.k, .int .i64 x.p, .int .i64 x.i, .bool x.e, .int .u64 x.d, .int .u8 x.l] 38 (0, 0))
theorem DB.lt {W : World} {b : Nat} {x : Dp} (h : DB W b x) : b < W.heap.size := (Array.getElem?_eq_some_iff.1 h).1
theorem DB.below {W W' : World} {b : Nat} {x : Dp} (h : DB W b x) (hb : Below W.heap.size W W') : DB W' b x := (hb.block b h.lt).trans h
theorem DB.fr {W W' : World} {b : Nat} {x : Dp} {S : Nat → Prop} (h : DB W b x) (hf : Fr S W W') (hn : ¬ S b) : DB W' b x := (hf.block b h.lt hn).trans h
theorem DB.cells {W : World} {b : Nat} {x : Dp} (h : DB W b x) : W.cell? ⟨b, 0, none⟩ = some (.int .i64 x.k) ∧ W.cell? ⟨b, 1, none⟩ = some (.int .i64 x.p) ∧ W.cell? ⟨b, 2, none⟩ = some (.int .i64 x.i) ∧ W.cell? ⟨b, 3, none⟩ = some (.bool x.e) ∧ W.cell? ⟨b, 4, none⟩ = some (.int .u64 x.d) ∧ W.cell? ⟨b, 5, none⟩ = some (.int .u8 x.l) := by
  refine ⟨?_, ?_, ?_, ?_, ?_, ?_⟩ <;> (unfold World.cell?; rw [show W.heap[b]? = _ from h]; rfl)
set_option maxHeartbeats 4000000 in
set_option maxRecDepth 20000 in
theorem none_walk (x : Dp) (a b : Int) (w : World) :
    Calls Try.prog 10 #[.agg #[.int .i64 x.k, .int .i64 x.p, .int .i64 x.i, .bool x.e, .int .u64 x.d, .int .u8 x.l], .int .i64 a, .int .i64 b] w fun e w' => e = .returned (.bool true) ∧ Below w.heap.size w w' := by
  have HD0 : Hid (DB (w.alloc (.cells #[.int .i64 x.k, .int .i64 x.p, .int .i64 x.i, .bool x.e, .int .u64 x.d, .int .u8 x.l] 38)) w.heap.size x) := World.alloc_heap_new w _
  have HB0 : Hid (Below w.heap.size w (w.alloc (.cells #[.int .i64 x.k, .int .i64 x.p, .int .i64 x.i, .bool x.e, .int .u64 x.d, .int .u8 x.l] 38))) := (Below.refl _ _).alloc (Nat.le_refl _) _
  have HNo : Hid (∀ W, (a < 1 ∨ 1024 < a ∨ b < 0 ∨ 32 < b) → Calls Try.prog 31 #[.int .i64 a, .int .i64 b] W fun e w' => e = .returned (.pointer none) ∧ Below W.heap.size W w') := fun W h => (gnew_not a b W h).mono (fun e w' q => ⟨q.1, by rw [q.2]; exact Below.refl _ _⟩)
  have HYes : Hid (∀ W, ¬ (a < 1 ∨ 1024 < a ∨ b < 0 ∨ 32 < b) → Calls Try.prog 31 #[.int .i64 a, .int .i64 b] W fun e w' => ∃ s : Nat, e = .returned (.pointer (some ⟨s, 0, none⟩)) ∧ Below W.heap.size W w') := fun W h => by
    obtain ⟨A, rfl⟩ := Int.eq_ofNat_of_zero_le (show 0 ≤ a by omega)
    obtain ⟨B, rfl⟩ := Int.eq_ofNat_of_zero_le (show 0 ≤ b by omega)
    exact (pnew_ok A B W (by omega) (by omega) (by omega)).mono (fun e w' ⟨s, O, q, _, hb⟩ => ⟨s, q, hb⟩)
  rcases (by omega : a < 1 ∨ (¬ a < 1 ∧ 1024 < a) ∨ (¬ a < 1 ∧ ¬ 1024 < a ∧ b < 0) ∨ (¬ a < 1 ∧ ¬ 1024 < a ∧ ¬ b < 0 ∧ 32 < b) ∨ (¬ a < 1 ∧ ¬ 1024 < a ∧ ¬ b < 0 ∧ ¬ 32 < b)) with h1 | ⟨h1, h2⟩ | ⟨h1, h2, h3⟩ | ⟨h1, h2, h3, h4⟩ | ⟨h1, h2, h3, h4⟩
  all_goals
    go_enter Try.func10, Try.ntmps10
    go_wp2_with (first
      | (go_at_call 28; refine (nil_lock _ _ _).mono ?_; rintro e w1 ⟨rfl, hw⟩; replace hw := hw.symm; subst hw)
      | (go_at_call 26; refine (nil_unlock _ _ _).mono ?_; rintro e w1 ⟨rfl, hw⟩; replace hw := hw.symm; subst hw)
      | (go_at_call 15; refine (live_ok _).mono ?_; rintro e w1 ⟨rfl, hb⟩; have HD1 := veil (HD0.out.below hb); have HB1 := veil (HB0.out.trans (hb.mono HB0.out.size)); obtain ⟨x0, x1, x2, x3, x4, x5⟩ := HD1.out.cells; clear hb)
      | (go_at_call 21; refine (nil_base _ ⟨x.e, x.d, x.l⟩ _).mono ?_; rintro e w2 ⟨rfl, hb⟩; have HD2 := veil (HD1.out.below hb); have HB2 := veil (HB1.out.trans (hb.mono HB1.out.size)); obtain ⟨y0, y1, y2, y3, y4, y5⟩ := HD2.out.cells; clear hb)
      | (go_at_call 24; refine (nil_key _ _).mono ?_; rintro e w3 ⟨rfl, hb⟩; have HD3 := veil (HD2.out.below hb); have HB3 := veil (HB2.out.trans (hb.mono HB2.out.size)); obtain ⟨z0, z1, z2, z3, z4, z5⟩ := HD3.out.cells; clear hb)
      | (go_at_call 18; refine (nil_owner _ _).mono ?_; rintro e w1 ⟨rfl, hw⟩; replace hw := hw.symm; subst hw)
      | (go_at_call 20; refine (nil_waits _ _).mono ?_; rintro e w1 ⟨rfl, hw⟩; replace hw := hw.symm; subst hw)
      | (go_at_call 19; refine (nil_waiters _ _).mono ?_; rintro e w1 ⟨rfl, hw⟩; replace hw := hw.symm; subst hw)
      | (go_at_call 17; refine (nil_held _ _).mono ?_; rintro e w4 ⟨rfl, hb⟩; have HB4 := veil (HB3.out.trans (hb.mono HB3.out.size)); clear hb)
      | (go_at_call 27; refine (nil_fork _).mono ?_; rintro e w1 ⟨rfl, hw⟩; replace hw := hw.symm; subst hw)
      | (go_at_call 31; refine (HNo.out _ (by omega)).mono ?_; rintro e w5 ⟨rfl, hb⟩; have HB5 := veil (HB4.out.trans (hb.mono HB4.out.size)); clear hb)
      | (go_at_call 31; refine (HYes.out _ (by omega)).mono ?_; rintro e w5 ⟨s, rfl, hb⟩; have HB5 := veil (HB4.out.trans (hb.mono HB4.out.size)); clear hb))
  all_goals (try go_ret)
  all_goals first
    | exact ⟨rfl, HB5.out⟩
    | exact ⟨by show Ending.returned (.bool (!decide (a < 1) && !decide (1024 < a) && !decide (b < 0) && !decide (32 < b))) = _; simp [h1, h2, h3, h4], HB5.out⟩
end Go.Proofs.Ytbhkgbhgofefjaa
