/-
  Boxes that lie; the walk of ProcsNone.
-/
import Derived.Test.YtlfejgjhamcahaaZ23
namespace Go.Proofs.Ytlfejgjhamcahaa
open Go.RowKit Go.Lib
set_option linter.unusedVariables false
attribute [local go_sem ↓] Go.wp_at_zero Go.wp_at_succ

/-- Boxes that lie, each with its cells. -/
def Bs (w : World) (l : List (Nat × Array Value × TypeId)) : Prop := ∀ x ∈ l, w.heap[x.1]? = some (.cells x.2.1 x.2.2 (0, 0))
section
variable {w w' : World} {l : List (Nat × Array Value × TypeId)}
theorem Bs.nil (w : World) : Bs w [] := fun x hx => (by cases hx)
theorem Bs.below (h : Bs w l) (hb : Below w.heap.size w w') : Bs w' l := fun x hx => (hb.block _ (Array.getElem?_eq_some_iff.1 (h x hx)).1).trans (h x hx)
theorem Bs.fr {S : Nat → Prop} (h : Bs w l) (hf : Fr S w w') (hn : ∀ x ∈ l, ¬ S x.1) : Bs w' l := fun x hx => (hf.block _ (Array.getElem?_eq_some_iff.1 (h x hx)).1 (hn x hx)).trans (h x hx)
theorem Bs.push (h : Bs w l) (cs : Array Value) (t : TypeId) : Bs (w.alloc (.cells cs t)) ((w.heap.size, cs, t) :: l) := fun x hx => by
  rcases List.mem_cons.1 hx with rfl | hx
  · exact World.alloc_heap_new w _
  · exact (Below.heap_alloc _ _ _ (Array.getElem?_eq_some_iff.1 (h x hx)).1).trans (h x hx)
theorem Bs.cell (h : Bs w l) {b : Nat} {cs : Array Value} {t : TypeId} (hm : (b, cs, t) ∈ l) (j : Nat) : w.cell? ⟨b, j, none⟩ = cs[j]? := (blk_cell (h _ hm) j).1
theorem Bs.lt (h : Bs w l) {b : Nat} {cs : Array Value} {t : TypeId} (hm : (b, cs, t) ∈ l) : b < w.heap.size := (Array.getElem?_eq_some_iff.1 (h _ hm)).1
end
set_option maxHeartbeats 8000000 in
set_option maxRecDepth 20000 in
theorem none_walk (x : Dp) (a b c : Int) (w : World) :
    Calls Try.prog 9 #[.agg #[.int .i64 x.k, .int .i64 x.p, .int .i64 x.i, .bool x.e, .int .u64 x.d, .int .u8 x.l, .int .u64 x.r], .agg #[.int .i64 a, .int .i64 b, .int .i64 c]] w fun e w' => e = .returned (.bool true) ∧ Below w.heap.size w w' := by
  have HS0 : Hid (Bs ((w.alloc (.cells #[.int .i64 x.k, .int .i64 x.p, .int .i64 x.i, .bool x.e, .int .u64 x.d, .int .u8 x.l, .int .u64 x.r] 27)).alloc (.cells #[.int .i64 a, .int .i64 b, .int .i64 c] 51)) [(w.heap.size + 1, #[.int .i64 a, .int .i64 b, .int .i64 c], 51), (w.heap.size, #[.int .i64 x.k, .int .i64 x.p, .int .i64 x.i, .bool x.e, .int .u64 x.d, .int .u8 x.l, .int .u64 x.r], 27)]) := by
    have := ((Bs.nil w).push #[.int .i64 x.k, .int .i64 x.p, .int .i64 x.i, .bool x.e, .int .u64 x.d, .int .u8 x.l, .int .u64 x.r] 27).push #[.int .i64 a, .int .i64 b, .int .i64 c] 51
    have hz : (w.alloc (.cells #[.int .i64 x.k, .int .i64 x.p, .int .i64 x.i, .bool x.e, .int .u64 x.d, .int .u8 x.l, .int .u64 x.r] 27)).heap.size = w.heap.size + 1 := by simp
    rw [hz] at this
    exact this
  have HL0 : Hid (Below w.heap.size w ((w.alloc (.cells #[.int .i64 x.k, .int .i64 x.p, .int .i64 x.i, .bool x.e, .int .u64 x.d, .int .u8 x.l, .int .u64 x.r] 27)).alloc (.cells #[.int .i64 a, .int .i64 b, .int .i64 c] 51))) := ((Below.refl _ _).alloc (Nat.le_refl _) _).alloc (by simp) _
  go_enter Try.func9, Try.ntmps9
  go_wp2_with (first
    | (go_at_call 17; refine (pbest_no _ none x.p x.r (fun W _ => phasN W x.p)).mono ?_; rintro e w1 ⟨rfl, hb1⟩; have HS1 := veil ((HS0.out.below hb1).push #[.bool false, .int .u64 0, .int .u8 0] 25); have HL1 := veil ((HL0.out.trans (hb1.mono HL0.out.size)).alloc (HL0.out.trans (hb1.mono HL0.out.size)).size (.cells #[.bool false, .int .u64 0, .int .u8 0] 25)); have x1 : (w1.alloc (.cells #[.bool false, .int .u64 0, .int .u8 0] 25)).cell? ⟨w.heap.size, 1, none⟩ = some (.int .i64 x.p) := HS1.out.cell (cs := #[.int .i64 x.k, .int .i64 x.p, .int .i64 x.i, .bool x.e, .int .u64 x.d, .int .u8 x.l, .int .u64 x.r]) (t := 27) (by simp) 1; have x6 : (w1.alloc (.cells #[.bool false, .int .u64 0, .int .u8 0] 25)).cell? ⟨w.heap.size, 6, none⟩ = some (.int .u64 x.r) := HS1.out.cell (cs := #[.int .i64 x.k, .int .i64 x.p, .int .i64 x.i, .bool x.e, .int .u64 x.d, .int .u8 x.l, .int .u64 x.r]) (t := 27) (by simp) 6; clear hb1)
    | (go_at_call 25; refine (ptake_no _ none x.p x.r (fun W hW => pbest_no _ none x.p x.r (fun W _ => phasN W x.p))).mono ?_; rintro e w2 ⟨rfl, hb2⟩; have HS2 := veil ((HS1.out.below hb2).push #[.bool false, .int .u64 0, .int .u8 0] 25); have HL2 := veil ((HL1.out.trans (hb2.mono HL1.out.size)).alloc (HL1.out.trans (hb2.mono HL1.out.size)).size (.cells #[.bool false, .int .u64 0, .int .u8 0] 25)); have x12 : (w2.alloc (.cells #[.bool false, .int .u64 0, .int .u8 0] 25)).cell? ⟨w.heap.size, 2, none⟩ = some (.int .i64 x.i) := HS2.out.cell (cs := #[.int .i64 x.k, .int .i64 x.p, .int .i64 x.i, .bool x.e, .int .u64 x.d, .int .u8 x.l, .int .u64 x.r]) (t := 27) (by simp) 2; clear hb2)
    | (go_at_call 23; refine (pwhereN _ x.i).mono ?_; rintro e w3 ⟨rfl, hw⟩; replace hw := hw.symm; subst hw; have HS3 : Hid (Bs ((w2.alloc (.cells #[.bool false, .int .u64 0, .int .u8 0] 25)).alloc (.cells #[.bool false, .int .u64 0, .int .u8 0] 25)) ((w2.heap.size + 1, #[.bool false, .int .u64 0, .int .u8 0], 25) :: (w2.heap.size, #[.bool false, .int .u64 0, .int .u8 0], 25) :: (w1.heap.size, #[.bool false, .int .u64 0, .int .u8 0], 25) :: [(w.heap.size + 1, #[.int .i64 a, .int .i64 b, .int .i64 c], 51), (w.heap.size, #[.int .i64 x.k, .int .i64 x.p, .int .i64 x.i, .bool x.e, .int .u64 x.d, .int .u8 x.l, .int .u64 x.r], 27)])) := (by have := HS2.out.push #[.bool false, .int .u64 0, .int .u8 0] 25; have hz : (w2.alloc (.cells #[.bool false, .int .u64 0, .int .u8 0] 25)).heap.size = w2.heap.size + 1 := (by simp); rw [hz] at this; exact this); have HL3 := veil (HL2.out.alloc HL2.out.size (.cells #[.bool false, .int .u64 0, .int .u8 0] 25)); have m0 : ((w2.alloc (.cells #[.bool false, .int .u64 0, .int .u8 0] 25)).alloc (.cells #[.bool false, .int .u64 0, .int .u8 0] 25)).cell? ⟨w.heap.size + 1, 0, none⟩ = some (.int .i64 a) := HS3.out.cell (cs := #[.int .i64 a, .int .i64 b, .int .i64 c]) (t := 51) (by simp) 0; have m1 : ((w2.alloc (.cells #[.bool false, .int .u64 0, .int .u8 0] 25)).alloc (.cells #[.bool false, .int .u64 0, .int .u8 0] 25)).cell? ⟨w.heap.size + 1, 1, none⟩ = some (.int .i64 b) := HS3.out.cell (cs := #[.int .i64 a, .int .i64 b, .int .i64 c]) (t := 51) (by simp) 1; have m2 : ((w2.alloc (.cells #[.bool false, .int .u64 0, .int .u8 0] 25)).alloc (.cells #[.bool false, .int .u64 0, .int .u8 0] 25)).cell? ⟨w.heap.size + 1, 2, none⟩ = some (.int .i64 c) := HS3.out.cell (cs := #[.int .i64 a, .int .i64 b, .int .i64 c]) (t := 51) (by simp) 2))
  all_goals
    have HX : Hid (∀ W, Bs W ((w2.heap.size + 1, #[.bool false, .int .u64 0, .int .u8 0], 25) :: (w2.heap.size, #[.bool false, .int .u64 0, .int .u8 0], 25) :: (w1.heap.size, #[.bool false, .int .u64 0, .int .u8 0], 25) :: [(w.heap.size + 1, #[.int .i64 a, .int .i64 b, .int .i64 c], 51), (w.heap.size, #[.int .i64 x.k, .int .i64 x.p, .int .i64 x.i, .bool x.e, .int .u64 x.d, .int .u8 x.l, .int .u64 x.r], 27)]) → W.cell? ⟨w.heap.size, 1, none⟩ = some (.int .i64 x.p) ∧ W.cell? ⟨w.heap.size, 2, none⟩ = some (.int .i64 x.i) ∧ W.cell? ⟨w.heap.size, 3, none⟩ = some (.bool x.e) ∧ W.cell? ⟨w.heap.size, 4, none⟩ = some (.int .u64 x.d) ∧ W.cell? ⟨w.heap.size, 5, none⟩ = some (.int .u8 x.l) ∧ W.cell? ⟨w.heap.size, 6, none⟩ = some (.int .u64 x.r)) := fun W h =>
      ⟨h.cell (cs := #[.int .i64 x.k, .int .i64 x.p, .int .i64 x.i, .bool x.e, .int .u64 x.d, .int .u8 x.l, .int .u64 x.r]) (t := 27) (by simp) 1, h.cell (cs := #[.int .i64 x.k, .int .i64 x.p, .int .i64 x.i, .bool x.e, .int .u64 x.d, .int .u8 x.l, .int .u64 x.r]) (t := 27) (by simp) 2, h.cell (cs := #[.int .i64 x.k, .int .i64 x.p, .int .i64 x.i, .bool x.e, .int .u64 x.d, .int .u8 x.l, .int .u64 x.r]) (t := 27) (by simp) 3, h.cell (cs := #[.int .i64 x.k, .int .i64 x.p, .int .i64 x.i, .bool x.e, .int .u64 x.d, .int .u8 x.l, .int .u64 x.r]) (t := 27) (by simp) 4, h.cell (cs := #[.int .i64 x.k, .int .i64 x.p, .int .i64 x.i, .bool x.e, .int .u64 x.d, .int .u8 x.l, .int .u64 x.r]) (t := 27) (by simp) 5, h.cell (cs := #[.int .i64 x.k, .int .i64 x.p, .int .i64 x.i, .bool x.e, .int .u64 x.d, .int .u8 x.l, .int .u64 x.r]) (t := 27) (by simp) 6⟩
    have HY : Hid (∀ W, Bs W ((w2.heap.size + 1, #[.bool false, .int .u64 0, .int .u8 0], 25) :: (w2.heap.size, #[.bool false, .int .u64 0, .int .u8 0], 25) :: (w1.heap.size, #[.bool false, .int .u64 0, .int .u8 0], 25) :: [(w.heap.size + 1, #[.int .i64 a, .int .i64 b, .int .i64 c], 51), (w.heap.size, #[.int .i64 x.k, .int .i64 x.p, .int .i64 x.i, .bool x.e, .int .u64 x.d, .int .u8 x.l, .int .u64 x.r], 27)]) → W.cell? ⟨w1.heap.size, 0, none⟩ = some (.bool false) ∧ W.cell? ⟨w1.heap.size, 1, none⟩ = some (.int .u64 0) ∧ W.cell? ⟨w1.heap.size, 2, none⟩ = some (.int .u8 0) ∧ W.cell? ⟨w2.heap.size, 0, none⟩ = some (.bool false) ∧ W.cell? ⟨w2.heap.size, 1, none⟩ = some (.int .u64 0) ∧ W.cell? ⟨w2.heap.size, 2, none⟩ = some (.int .u8 0) ∧ W.cell? ⟨w2.heap.size + 1, 0, none⟩ = some (.bool false) ∧ W.cell? ⟨w2.heap.size + 1, 1, none⟩ = some (.int .u64 0) ∧ W.cell? ⟨w2.heap.size + 1, 2, none⟩ = some (.int .u8 0) ∧ W.cell? ⟨w.heap.size + 1, 0, none⟩ = some (.int .i64 a) ∧ W.cell? ⟨w.heap.size + 1, 1, none⟩ = some (.int .i64 b) ∧ W.cell? ⟨w.heap.size + 1, 2, none⟩ = some (.int .i64 c)) := fun W h =>
      ⟨h.cell (cs := #[.bool false, .int .u64 0, .int .u8 0]) (t := 25) (by simp) 0, h.cell (cs := #[.bool false, .int .u64 0, .int .u8 0]) (t := 25) (by simp) 1, h.cell (cs := #[.bool false, .int .u64 0, .int .u8 0]) (t := 25) (by simp) 2, h.cell (cs := #[.bool false, .int .u64 0, .int .u8 0]) (t := 25) (by simp) 0, h.cell (cs := #[.bool false, .int .u64 0, .int .u8 0]) (t := 25) (by simp) 1, h.cell (cs := #[.bool false, .int .u64 0, .int .u8 0]) (t := 25) (by simp) 2, h.cell (cs := #[.bool false, .int .u64 0, .int .u8 0]) (t := 25) (by simp) 0, h.cell (cs := #[.bool false, .int .u64 0, .int .u8 0]) (t := 25) (by simp) 1, h.cell (cs := #[.bool false, .int .u64 0, .int .u8 0]) (t := 25) (by simp) 2, h.cell (cs := #[.int .i64 a, .int .i64 b, .int .i64 c]) (t := 51) (by simp) 0, h.cell (cs := #[.int .i64 a, .int .i64 b, .int .i64 c]) (t := 51) (by simp) 1, h.cell (cs := #[.int .i64 a, .int .i64 b, .int .i64 c]) (t := 51) (by simp) 2⟩
    clear HS0 HS1 HS2 HL0 HL1 HL2 x1 x6 x12
    by_cases hbad : 1 ≤ a ∧ a ≤ 64 ∧ 1 ≤ b ∧ b ≤ 1024 ∧ 1 ≤ c ∧ c ≤ 256
    · first
        | (exfalso; omega)
        | (obtain ⟨A, rfl⟩ := Int.eq_ofNat_of_zero_le (show 0 ≤ a by omega)
           obtain ⟨B, rfl⟩ := Int.eq_ofNat_of_zero_le (show 0 ≤ b by omega)
           obtain ⟨C, rfl⟩ := Int.eq_ofNat_of_zero_le (show 0 ≤ c by omega)
           have HNew := veil (fun W => pnew_pq A B C W (by omega) (by omega) (by omega))
           go_wp2_with (first
             | (go_at_call 15; refine (live_procs _).mono ?_; rintro e w5 ⟨rfl, hb5⟩; have HS5 := veil (HS3.out.below hb5); have HL5 := veil (HL3.out.trans (hb5.mono HL3.out.size)); obtain ⟨y1, y2, y3, y4, y5, y6⟩ := HX.out _ HS5.out; clear hb5)
             | (go_at_call 26; refine (pputN _ _ _ ⟨x.e, x.d, x.l⟩).mono ?_; rintro e w6 ⟨rfl, hb6⟩; have HS6 := veil (HS5.out.below hb6); have HL6 := veil (HL5.out.trans (hb6.mono HL5.out.size)); obtain ⟨z1, z2, z3, z4, z5, z6⟩ := HX.out _ HS6.out; clear hb6)
             | (go_at_call 29; refine (pchangeN _ _ ⟨x.e, x.d, x.l⟩).mono ?_; rintro e w7 ⟨rfl, hb7⟩; have HS7 := veil (HS6.out.below hb7); have HL7 := veil (HL6.out.trans (hb7.mono HL6.out.size)); obtain ⟨v1, v2, v3, v4, v5, v6⟩ := HX.out _ HS7.out; obtain ⟨g0, g1, g2, g3, g4, g5, g6, g7, g8, n0, n1, n2⟩ := HY.out _ HS7.out; clear hb7)
             | (go_at_call 30; refine (premoveN _ _).mono ?_; rintro e w8 ⟨rfl, hw⟩; replace hw := hw.symm; subst hw)
             | (go_at_call 19; refine (plistN _ _).mono ?_; rintro e w8 ⟨rfl, hw⟩; replace hw := hw.symm; subst hw)
             | (go_at_call 24; refine (plenN _).mono ?_; rintro e w8 ⟨rfl, hw⟩; replace hw := hw.symm; subst hw)
             | (go_at_call 27; refine (pforkN _).mono ?_; rintro e w8 ⟨rfl, hw⟩; replace hw := hw.symm; subst hw)
             | (go_at_call 31; refine (HNew.out _).mono ?_; rintro e w9 ⟨O, rfl, _, _, hb9⟩; have HB9 := veil (HL7.out.trans (hb9.mono HL7.out.size)); clear hb9))
           go_ret
           exact ⟨by simp, HB9.out⟩)
    · have HNew := veil (fun W => pnew_no a b c W hbad)
      go_wp2_with (first
      | (go_at_call 15; refine (live_procs _).mono ?_; rintro e w5 ⟨rfl, hb5⟩; have HS5 := veil (HS3.out.below hb5); have HL5 := veil (HL3.out.trans (hb5.mono HL3.out.size)); obtain ⟨y1, y2, y3, y4, y5, y6⟩ := HX.out _ HS5.out; clear hb5)
      | (go_at_call 26; refine (pputN _ _ _ ⟨x.e, x.d, x.l⟩).mono ?_; rintro e w6 ⟨rfl, hb6⟩; have HS6 := veil (HS5.out.below hb6); have HL6 := veil (HL5.out.trans (hb6.mono HL5.out.size)); obtain ⟨z1, z2, z3, z4, z5, z6⟩ := HX.out _ HS6.out; clear hb6)
      | (go_at_call 29; refine (pchangeN _ _ ⟨x.e, x.d, x.l⟩).mono ?_; rintro e w7 ⟨rfl, hb7⟩; have HS7 := veil (HS6.out.below hb7); have HL7 := veil (HL6.out.trans (hb7.mono HL6.out.size)); obtain ⟨v1, v2, v3, v4, v5, v6⟩ := HX.out _ HS7.out; obtain ⟨g0, g1, g2, g3, g4, g5, g6, g7, g8, n0, n1, n2⟩ := HY.out _ HS7.out; clear hb7)
      | (go_at_call 30; refine (premoveN _ _).mono ?_; rintro e w8 ⟨rfl, hw⟩; replace hw := hw.symm; subst hw)
      | (go_at_call 19; refine (plistN _ _).mono ?_; rintro e w8 ⟨rfl, hw⟩; replace hw := hw.symm; subst hw)
      | (go_at_call 24; refine (plenN _).mono ?_; rintro e w8 ⟨rfl, hw⟩; replace hw := hw.symm; subst hw)
      | (go_at_call 27; refine (pforkN _).mono ?_; rintro e w8 ⟨rfl, hw⟩; replace hw := hw.symm; subst hw)
      | (go_at_call 31; refine (HNew.out _).mono ?_; rintro e w9 ⟨rfl, hw⟩; replace hw := hw.symm; subst hw))
      go_ret
      exact ⟨by simp; try omega, HL7.out⟩
end Go.Proofs.Ytlfejgjhamcahaa
