/-
  What comes in: a deed; the walk of ReadyNone.
-/
import Derived.Test.YtbefehoegmmgpaaY6
import Derived.ProofKit
import Derived.OpenShut
import Derived.RowKit3
import Derived.Laws.IdiomArrays
import Derived.WideShapes
import Derived.ChangeOld
import Derived.Deep.Strs
import Derived.Deep.Slices
namespace Go.Proofs.Ytbefehoegmmgpaa
open Go.RowKit Go.Lib Go.Deep Go.ChangeShapes Go.WideShapes Go.ChangeAt

/-- A deed. -/
structure Dq where
  k : Int
  i : Int
  e : Bool
  d : Int
  l : Int
def Dq.ok (x : Dq) : Prop := (Lit.int .u64 x.d).wf = true ∧ (Lit.int .u8 x.l).wf = true
section
variable {H : Type} {enc : TypeId × Value → H} {w : World} {base : Nat} {spare : Nat → Bool} {held : Bool}
theorem cellsDeed : Try.prog.cellsOf 41 = 5 := by kernel_rfl
theorem cellsI : Try.prog.cellsOf 3 = 1 := by kernel_rfl
theorem deed_cells {fuel : Nat} {c0 c1 c2 c3 c4 : Value} {x : DataW H × List MemPlace} (h : DataW.trod enc Try.prog w base spare held fuel 41 [c0, c1, c2, c3, c4] = some x) :
    ∃ d : Dq, d.ok ∧ c0 = .int .i64 d.k ∧ c1 = .int .i64 d.i ∧ c2 = .bool d.e ∧ c3 = .int .u64 d.d ∧ c4 = .int .u8 d.l := by
  obtain ⟨xs, n, _, _, _, hl, hf⟩ := DataW.trod_struct Try.underlying41 h
  match xs, hl with
  | [y0, y1, y2], _ =>
    obtain ⟨z0, e0, _, w0⟩ := DataW.trod_int Try.underlying3 (by simpa [cellsI] using hf 0 _ rfl)
    obtain ⟨z1, e1, _, w1⟩ := DataW.trod_int Try.underlying3 (by simpa [cellsI] using hf 1 _ rfl)
    obtain ⟨e, d, l, rfl, rfl, rfl, w2, w3⟩ := Ke.key_cells (c0 := c2) (c1 := c3) (c2 := c4) (by simpa [Ke.cellsKey] using hf 2 _ rfl)
    simp at e0 e1
    exact ⟨⟨z0, z1, e, d, l⟩, ⟨w2, w3⟩, e0, e1, rfl, rfl, rfl⟩
set_option maxRecDepth 100000 in
theorem open_deed {r : Reach} {b0 : Nat} {v : Value} {d : DataW H} {p : List MemPlace} (hv : Value.okWide Try.prog w r b0 41 v) (h : DataW.Trod enc Try.prog w base spare held 41 v d p) :
    ∃ x : Dq, v = .agg #[.int .i64 x.k, .int .i64 x.i, .bool x.e, .int .u64 x.d, .int .u8 x.l] ∧ x.ok := by
  obtain ⟨cs, rfl, hsz⟩ := okWide_struct Try.underlying41 hv
  rw [cellsDeed] at hsz
  obtain ⟨l⟩ := cs
  match l, hsz with
  | [c0, c1, c2, c3, c4], _ =>
    obtain ⟨fuel, hf⟩ := h
    obtain ⟨x, hx, rfl, rfl, rfl, rfl, rfl⟩ := deed_cells (c0 := c0) (c1 := c1) (c2 := c2) (c3 := c3) (c4 := c4) (by simpa [Value.cells] using hf)
    exact ⟨x, rfl, hx⟩
end
theorem zbox {w W : World} (h : Below (w.heap.size + 1) (w.alloc (.cells #[.bool false, .int .u64 0, .int .u8 0] 34)) W) : W.cell? ⟨w.heap.size, 0, none⟩ = some (.bool false) ∧ W.cell? ⟨w.heap.size, 1, none⟩ = some (.int .u64 0) ∧ W.cell? ⟨w.heap.size, 2, none⟩ = some (.int .u8 0) := by
  refine ⟨?_, ?_, ?_⟩
  · rw [h.cell (p := ⟨w.heap.size, 0, none⟩) (by simp), Ph.cell_new]; rfl
  · rw [h.cell (p := ⟨w.heap.size, 1, none⟩) (by simp), Ph.cell_new]; rfl
  · rw [h.cell (p := ⟨w.heap.size, 2, none⟩) (by simp), Ph.cell_new]; rfl
theorem znext {w w' : World} (hb : Below (w.alloc (.cells #[.bool false, .int .u64 0, .int .u8 0] 34)).heap.size (w.alloc (.cells #[.bool false, .int .u64 0, .int .u8 0] 34)) w') : Below (w.heap.size + 1) (w.alloc (.cells #[.bool false, .int .u64 0, .int .u8 0] 34)) w' ∧ w.heap.size + 1 ≤ w'.heap.size := by
  have hz : (w.alloc (.cells #[.bool false, .int .u64 0, .int .u8 0] 34)).heap.size = w.heap.size + 1 := by simp
  exact ⟨by rw [← hz]; exact hb, by rw [← hz]; exact hb.size⟩
set_option maxHeartbeats 4000000 in
theorem none_walk (x : Dq) (n most : Int) (hn : -9223372036854775808 ≤ n ∧ n ≤ 9223372036854775807) (hm : -9223372036854775808 ≤ most ∧ most ≤ 9223372036854775807) (w : World) :
    Calls Try.prog 8 #[.agg #[.int .i64 x.k, .int .i64 x.i, .bool x.e, .int .u64 x.d, .int .u8 x.l], .int .i64 n, .int .i64 most] w fun e w' => e = .returned (.bool true) ∧ Below w.heap.size w w' := by
  have hA := (Below.refl w.heap.size w).alloc (Nat.le_refl _) (.cells #[.int .i64 x.k, .int .i64 x.i, .bool x.e, .int .u64 x.d, .int .u8 x.l] 41)
  have hz : (w.alloc (.cells #[.int .i64 x.k, .int .i64 x.i, .bool x.e, .int .u64 x.d, .int .u8 x.l] 41)).heap.size = w.heap.size + 1 := by simp
  have HA := veil hA
  have HZ := veil hz
  have HX : Hid (∀ W, Below (w.heap.size + 1) (w.alloc (.cells #[.int .i64 x.k, .int .i64 x.i, .bool x.e, .int .u64 x.d, .int .u8 x.l] 41)) W → (W.cell? ⟨w.heap.size, 1, none⟩ = some (.int .i64 x.i) ∧ W.cell? ⟨w.heap.size, 2, none⟩ = some (.bool x.e) ∧ W.cell? ⟨w.heap.size, 3, none⟩ = some (.int .u64 x.d) ∧ W.cell? ⟨w.heap.size, 4, none⟩ = some (.int .u8 x.l)) ∧ w.heap.size + 1 ≤ W.heap.size) := fun W hW => by
    refine ⟨⟨?_, ?_, ?_, ?_⟩, by rw [← hz]; exact hW.size⟩
    · rw [hW.cell (p := ⟨w.heap.size, 1, none⟩) (by simp), Ph.cell_new]; rfl
    · rw [hW.cell (p := ⟨w.heap.size, 2, none⟩) (by simp), Ph.cell_new]; rfl
    · rw [hW.cell (p := ⟨w.heap.size, 3, none⟩) (by simp), Ph.cell_new]; rfl
    · rw [hW.cell (p := ⟨w.heap.size, 4, none⟩) (by simp), Ph.cell_new]; rfl
  clear hA hz
  go_enter Try.func8, Try.ntmps8
  go_wp2_with (first
    | (go_at_call 15; refine (take_nil _).mono ?_; rintro e w1 ⟨rfl, hb1⟩; have HB1 := veil (show Below (w.heap.size + 1) _ w1 by rw [← HZ.out]; exact hb1); have hz1 := (HX.out _ HB1.out).2; clear hb1)
    | (go_at_call 24; refine (top_nil _).mono ?_; rintro e w2 ⟨rfl, hb2⟩; obtain ⟨hb2', hz2⟩ := znext hb2; have HK2 := veil hb2'; have HB2 := veil (show Below (w.heap.size + 1) (w.alloc (.cells #[.int .i64 x.k, .int .i64 x.i, .bool x.e, .int .u64 x.d, .int .u8 x.l] 41)) w2 from (HB1.out.alloc hz1 (.cells #[.bool false, .int .u64 0, .int .u8 0] 34)).trans (hb2'.mono (by omega))); have d21 := (HX.out _ (HB2.out.alloc (by omega) (.cells #[.bool false, .int .u64 0, .int .u8 0] 34))).1.1; clear hb2 hb2')
    | (go_at_call 18; refine (key_nil _ _).mono ?_; rintro e w3 ⟨rfl, hb3⟩; obtain ⟨hb3', hz3⟩ := znext hb3; have HJ3 := veil hb3'; have HK3 := veil (show Below (w1.heap.size + 1) (w1.alloc (.cells #[.bool false, .int .u64 0, .int .u8 0] 34)) w3 from (HK2.out.alloc (by omega) (.cells #[.bool false, .int .u64 0, .int .u8 0] 34)).trans (hb3'.mono (by omega))); have HB3 := veil (show Below (w.heap.size + 1) (w.alloc (.cells #[.int .i64 x.k, .int .i64 x.i, .bool x.e, .int .u64 x.d, .int .u8 x.l] 41)) w3 from (HB2.out.alloc (by omega) (.cells #[.bool false, .int .u64 0, .int .u8 0] 34)).trans (hb3'.mono (by omega))); have HALL : Hid (∀ W, Below (w3.heap.size + 2) ((w3.alloc (.cells #[.bool false, .int .u64 0, .int .u8 0] 34)).alloc (.cells #[.bool false, .int .u64 0, .int .u8 0] 34)) W → Below (w.heap.size + 1) (w.alloc (.cells #[.int .i64 x.k, .int .i64 x.i, .bool x.e, .int .u64 x.d, .int .u8 x.l] 41)) W ∧ Below (w1.heap.size + 1) (w1.alloc (.cells #[.bool false, .int .u64 0, .int .u8 0] 34)) W ∧ Below (w2.heap.size + 1) (w2.alloc (.cells #[.bool false, .int .u64 0, .int .u8 0] 34)) W ∧ Below (w3.heap.size + 1) (w3.alloc (.cells #[.bool false, .int .u64 0, .int .u8 0] 34)) W ∧ Below (w3.heap.size + 2) ((w3.alloc (.cells #[.bool false, .int .u64 0, .int .u8 0] 34)).alloc (.cells #[.bool false, .int .u64 0, .int .u8 0] 34)) W) := (fun W hW => ⟨((HB3.out.alloc (by omega) (.cells #[.bool false, .int .u64 0, .int .u8 0] 34)).alloc (by simp; omega) (.cells #[.bool false, .int .u64 0, .int .u8 0] 34)).trans (hW.mono (by omega)), ((HK3.out.alloc (by omega) (.cells #[.bool false, .int .u64 0, .int .u8 0] 34)).alloc (by simp; omega) (.cells #[.bool false, .int .u64 0, .int .u8 0] 34)).trans (hW.mono (by omega)), ((HJ3.out.alloc (by omega) (.cells #[.bool false, .int .u64 0, .int .u8 0] 34)).alloc (by simp; omega) (.cells #[.bool false, .int .u64 0, .int .u8 0] 34)).trans (hW.mono (by omega)), (((Below.refl _ _).alloc (by simp) (.cells #[.bool false, .int .u64 0, .int .u8 0] 34))).trans (hW.mono (by omega)), hW⟩); clear hb3 hb3'))
  have HZ3 : Hid ((w3.alloc (.cells #[.bool false, .int .u64 0, .int .u8 0] 34)).heap.size = w3.heap.size + 1) := by unfold Hid; simp
  by_cases hbad : n < 1 ∨ 1024 < n ∨ most < 1 ∨ n < most
  · have HNew := veil (fun W => new_not n most W hbad)
    have hcs : (n < 1) ∨ (¬ n < 1 ∧ 1024 < n) ∨ (¬ n < 1 ∧ ¬ 1024 < n ∧ most < 1) ∨ (¬ n < 1 ∧ ¬ 1024 < n ∧ ¬ most < 1 ∧ n < most) := by omega
    clear hbad
    rcases hcs with h1 | ⟨h1, h2⟩ | ⟨h1, h2, h3⟩ | ⟨h1, h2, h3, h4⟩
    all_goals
      go_wp2_with (first
        | (go_at_call 12; refine (live_ready _).mono ?_; rintro e w5 ⟨rfl, hb5⟩; have HB5 := veil (show Below (w3.heap.size + 2) ((w3.alloc (.cells #[.bool false, .int .u64 0, .int .u8 0] 34)).alloc (.cells #[.bool false, .int .u64 0, .int .u8 0] 34)) w5 by simpa using hb5); have hz5 : w3.heap.size + 2 ≤ w5.heap.size := (by have := hb5.size; simpa using this); obtain ⟨x51, x52, x53, x54⟩ := (HX.out _ (HALL.out _ HB5.out).1).1; clear hb5)
        | (go_at_call 20; refine (put_nil _ _ _ _ _).mono ?_; rintro e w6 ⟨rfl, hb6⟩; have HB6 := veil (HB5.out.trans (hb6.mono hz5)); have hz6 : w3.heap.size + 2 ≤ w6.heap.size := Nat.le_trans hz5 hb6.size; obtain ⟨x61, x62, x63, x64⟩ := (HX.out _ (HALL.out _ HB6.out).1).1; clear hb6)
        | (go_at_call 19; refine (change_nil _ _ _ _ _).mono ?_; rintro e w7 ⟨rfl, hb7⟩; have HB7 := veil (HB6.out.trans (hb7.mono hz6)); have hz7 : w3.heap.size + 2 ≤ w7.heap.size := Nat.le_trans hz6 hb7.size; obtain ⟨x71, _, _, _⟩ := (HX.out _ (HALL.out _ HB7.out).1).1; obtain ⟨a0, a1, a2⟩ := zbox (HALL.out _ HB7.out).2.1; obtain ⟨b0, b1, b2⟩ := zbox (HALL.out _ HB7.out).2.2.1; obtain ⟨e0, e1, e2⟩ := zbox (HALL.out _ HB7.out).2.2.2.1; obtain ⟨g0, g1, g2⟩ := zbox (w := w3.alloc (.cells #[.bool false, .int .u64 0, .int .u8 0] 34)) (W := w7) (by simpa using HB7.out); simp only [HZ3.out] at g0 g1 g2; clear hb7)
        | (go_at_call 25; refine (remove_nil _ _).mono ?_; rintro e w8 ⟨rfl, hw⟩; replace hw := hw.symm; subst hw)
        | (go_at_call 14; refine (list_nil _).mono ?_; rintro e w8 ⟨rfl, hw⟩; replace hw := hw.symm; subst hw)
        | (go_at_call 17; refine (len_nil _).mono ?_; rintro e w8 ⟨rfl, hw⟩; replace hw := hw.symm; subst hw)
        | (go_at_call 21; refine (fork_nil _).mono ?_; rintro e w8 ⟨rfl, hw⟩; replace hw := hw.symm; subst hw)
        | (go_at_call 26; refine (HNew.out _).mono ?_; rintro e w9 ⟨rfl, hb9⟩; have HB9 := veil (HA.out.trans ((HALL.out _ HB7.out).1.mono (by omega)) |>.trans (hb9.mono (Nat.le_trans (HX.out _ (HALL.out _ HB7.out).1).2 (Nat.le_refl _) |> Nat.le_of_succ_le))); clear hb9))
      go_ret
      exact ⟨by simp, HB9.out⟩
  · have h1 : ¬ n < 1 := by omega
    have h2 : ¬ 1024 < n := by omega
    have h3 : ¬ most < 1 := by omega
    have h4 : ¬ n < most := by omega
    obtain ⟨N, rfl⟩ := Int.eq_ofNat_of_zero_le (show 0 ≤ n by omega)
    obtain ⟨M, rfl⟩ := Int.eq_ofNat_of_zero_le (show 0 ≤ most by omega)
    have HNew := veil (fun W => snew_ok N M W (by omega) (by omega) (by omega) (by omega))
    clear hbad
    go_wp2_with (first
      | (go_at_call 12; refine (live_ready _).mono ?_; rintro e w5 ⟨rfl, hb5⟩; have HB5 := veil (show Below (w3.heap.size + 2) ((w3.alloc (.cells #[.bool false, .int .u64 0, .int .u8 0] 34)).alloc (.cells #[.bool false, .int .u64 0, .int .u8 0] 34)) w5 by simpa using hb5); have hz5 : w3.heap.size + 2 ≤ w5.heap.size := (by have := hb5.size; simpa using this); obtain ⟨x51, x52, x53, x54⟩ := (HX.out _ (HALL.out _ HB5.out).1).1; clear hb5)
      | (go_at_call 20; refine (put_nil _ _ _ _ _).mono ?_; rintro e w6 ⟨rfl, hb6⟩; have HB6 := veil (HB5.out.trans (hb6.mono hz5)); have hz6 : w3.heap.size + 2 ≤ w6.heap.size := Nat.le_trans hz5 hb6.size; obtain ⟨x61, x62, x63, x64⟩ := (HX.out _ (HALL.out _ HB6.out).1).1; clear hb6)
      | (go_at_call 19; refine (change_nil _ _ _ _ _).mono ?_; rintro e w7 ⟨rfl, hb7⟩; have HB7 := veil (HB6.out.trans (hb7.mono hz6)); have hz7 : w3.heap.size + 2 ≤ w7.heap.size := Nat.le_trans hz6 hb7.size; obtain ⟨x71, _, _, _⟩ := (HX.out _ (HALL.out _ HB7.out).1).1; obtain ⟨a0, a1, a2⟩ := zbox (HALL.out _ HB7.out).2.1; obtain ⟨b0, b1, b2⟩ := zbox (HALL.out _ HB7.out).2.2.1; obtain ⟨e0, e1, e2⟩ := zbox (HALL.out _ HB7.out).2.2.2.1; obtain ⟨g0, g1, g2⟩ := zbox (w := w3.alloc (.cells #[.bool false, .int .u64 0, .int .u8 0] 34)) (W := w7) (by simpa using HB7.out); simp only [HZ3.out] at g0 g1 g2; clear hb7)
      | (go_at_call 25; refine (remove_nil _ _).mono ?_; rintro e w8 ⟨rfl, hw⟩; replace hw := hw.symm; subst hw)
      | (go_at_call 14; refine (list_nil _).mono ?_; rintro e w8 ⟨rfl, hw⟩; replace hw := hw.symm; subst hw)
      | (go_at_call 17; refine (len_nil _).mono ?_; rintro e w8 ⟨rfl, hw⟩; replace hw := hw.symm; subst hw)
      | (go_at_call 21; refine (fork_nil _).mono ?_; rintro e w8 ⟨rfl, hw⟩; replace hw := hw.symm; subst hw)
      | (go_at_call 26; refine (HNew.out _).mono ?_; rintro e w9 ⟨sb, qb, gq, hb, gh, rfl, _, _, _, _, _, _, hb9⟩; have HB9 := veil (HA.out.trans ((HALL.out _ HB7.out).1.mono (by omega)) |>.trans (hb9.mono (Nat.le_trans (HX.out _ (HALL.out _ HB7.out).1).2 (Nat.le_refl _) |> Nat.le_of_succ_le))); clear hb9))
    go_ret
    exact ⟨by simp; omega, HB9.out⟩
end Go.Proofs.Ytbefehoegmmgpaa
