/-
  What a set holds falls in urgency; the form of a list of ids.
-/
import Derived.Test.YtfadckkebfgheaaY20
namespace Go.Proofs.Ytfadckkebfgheaa
open Go.RowKit Go.Lib
attribute [local go_sem ↓] Go.wp_at_zero Go.wp_at_succ

/-- None is more urgent than one ahead of it. -/
def Falls (M : List En) : Prop := M.Pairwise (fun a b => Ke.up b.2 a.2 = false)
theorem falls_lev (R : List (Nat × Nat)) : ∀ k, Falls (lev R k)
  | 0 => List.Pairwise.nil
  | k + 1 => by
    unfold Falls
    rw [lev, List.pairwise_append]
    refine ⟨?_, falls_lev R k, ?_⟩
    · refine List.Pairwise.imp_of_mem (R := fun _ _ => True) ?_ (List.pairwise_of_forall (fun _ _ => trivial))
      intro a b ha hb _
      rw [(mem_lvs.1 ha).2, (mem_lvs.1 hb).2, up_ff]
      simp
    · intro a ha b hb
      obtain ⟨j, hj, _, e⟩ := mem_lev.1 hb
      rw [(mem_lvs.1 ha).2, e, up_ff]
      simp
      omega
theorem falls_dl (L : List Ph.Item) (h : Ph.Srt L) : Falls (dl L) := by
  unfold Falls dl
  rw [List.pairwise_map]
  refine List.Pairwise.imp ?_ h
  intro a b hab
  rw [up_dd]
  unfold Ph.ah at hab
  simp
  omega
theorem falls_all (R : List (Nat × Nat)) (L : List Ph.Item) (h : Ph.Srt L) : Falls (all R L) := by
  unfold Falls all
  rw [List.pairwise_append]
  refine ⟨falls_dl L h, falls_lev R 256, ?_⟩
  intro a ha b hb
  obtain ⟨d, s, _, e⟩ := mem_dl.1 ha
  obtain ⟨j, _, _, e'⟩ := mem_lev.1 hb
  rw [e, e']
  exact up_fd _ _
theorem IsS.falls {w : World} {sb qb gq hb gh n most turn : Nat} {M : List En} (h : IsS w sb qb gq hb gh n most turn M) : Falls M := by
  obtain ⟨R, L, hS, hI⟩ := h
  rw [← hI.eq]
  exact falls_all R L hS.h.good.srt
theorem falls_next {M1 M2 : List En} {a b : En} (h : Falls (M1 ++ a :: b :: M2)) : Ke.up b.2 a.2 = false := by
  unfold Falls at h
  rw [List.pairwise_append] at h
  exact (List.pairwise_cons.1 h.2.1).1 b (by simp)
theorem falls_at {M : List En} (h : Falls M) {i j : Nat} {a b : En} (hij : i < j) (ha : M[i]? = some a) (hb : M[j]? = some b) : Ke.up b.2 a.2 = false := by
  obtain ⟨h1, h1'⟩ := List.getElem?_eq_some_iff.1 ha
  obtain ⟨h2, h2'⟩ := List.getElem?_eq_some_iff.1 hb
  have := List.pairwise_iff_getElem.1 h i j h1 h2 hij
  rw [h1', h2'] at this
  exact this
/-- The form of a list of ids. -/
theorem il_form {w : World} {base : Nat} {v : Value} {xs : List Int} (h : Dc.IL w base v xs) : ∃ a cap, v = .slice a xs.length cap ∧ (xs = [] ∨ ∃ g, a = some ⟨g, 0, none⟩ ∧ base ≤ g ∧ g < w.heap.size ∧ ∀ j, j < xs.length → w.cell? ⟨g, j, none⟩ = some (.int .i64 (xs.getD j 0))) := by
  by_cases hx : xs = []
  · obtain ⟨a, cap, e⟩ := h.slice
    exact ⟨a, cap, e, .inl hx⟩
  · obtain ⟨g, cap, e, h1, h2, h3⟩ := h.cells hx
    exact ⟨_, cap, e, .inr ⟨g, rfl, h1, h2, h3⟩⟩
theorem idE_at {M : List En} {j : Nat} {x : En} (h : M[j]? = some x) : (idE M).getD j 0 = (x.1 : Int) := by
  unfold idE
  simp [List.getD, h]

theorem bk_store {w : World} {b : Nat} {k : Ke.K} (k' : Ke.K) (h : Bk w b k) (hf : ∀ o, w.frozen? ⟨b, o, none⟩ = false) :
    Bk (((w.setCell ⟨b, 0, none⟩ (.bool k'.e)).setCell ⟨b, 1, none⟩ (.int .u64 k'.d)).setCell ⟨b, 2, none⟩ (.int .u8 k'.l)) b k' ∧ (∀ o, (((w.setCell ⟨b, 0, none⟩ (.bool k'.e)).setCell ⟨b, 1, none⟩ (.int .u64 k'.d)).setCell ⟨b, 2, none⟩ (.int .u8 k'.l)).frozen? ⟨b, o, none⟩ = false) ∧ Fr (fun k => k = b) w (((w.setCell ⟨b, 0, none⟩ (.bool k'.e)).setCell ⟨b, 1, none⟩ (.int .u64 k'.d)).setCell ⟨b, 2, none⟩ (.int .u8 k'.l)) := by
  refine ⟨⟨?_, ?_, ?_⟩, fun o => by rw [World.frozen?_setCell, World.frozen?_setCell, World.frozen?_setCell]; exact hf o, (((Fr.refl (fun k => k = b) _).setCell (a := ⟨b, 0, none⟩) rfl _).setCell (a := ⟨b, 1, none⟩) rfl _).setCell (a := ⟨b, 2, none⟩) rfl _⟩
  · rw [Ph.set_other _ _ _ _ _ _ (by omega), Ph.set_other _ _ _ _ _ _ (by omega)]; exact Ph.set_same _ _ _ _ h.c0
  · rw [Ph.set_other _ _ _ _ _ _ (by omega)]; exact Ph.set_same _ _ _ (.int .u64 k.d) (by rw [Ph.set_other _ _ _ _ _ _ (by omega)]; exact h.c1)
  · exact Ph.set_same _ _ _ (.int .u8 k.l) (by rw [Ph.set_other _ _ _ _ _ _ (by omega), Ph.set_other _ _ _ _ _ _ (by omega)]; exact h.c2)
theorem rabove_c (w : World) (a b : Ke.K) (c : Bool) (hc : Ke.up a b = c) : Calls Try.prog 16 #[.agg #[.bool a.e, .int .u64 a.d, .int .u8 a.l], .agg #[.bool b.e, .int .u64 b.d, .int .u8 b.l]] w fun e w' => e = .returned (.bool c) ∧ Below w.heap.size w w' := by
  rw [← hc]
  exact Ke.rabove_ok w a b
theorem drop_at {M : List En} {j : Nat} {x : En} (h : M[j]? = some x) : M.drop j = x :: M.drop (j + 1) := by
  obtain ⟨h1, h2⟩ := List.getElem?_eq_some_iff.1 h
  rw [List.drop_eq_getElem_cons h1, h2]
set_option maxHeartbeats 4000000 in
theorem falls_walk (m : Nat) (hm : m < 256) (a : Option Addr) (len cap : Nat) (D : Nat → Dq) (w : World) (hlen : len < 9223372036854775808) (hd : Dqs w a len D) :
    Calls Try.prog 4 #[.int .u8 m, .slice a len cap] w fun e w' => e = .returned (.bool true) ∧ Below w.heap.size w w' := by
  have hN12 : m % 10 < 10 := Nat.mod_lt _ (by decide)
  have HP := veil (play_ok _ m hm a len cap hlen D hd)
  clear hd
  generalize m % 10 = N at *
  go_enter Try.func4, Try.ntmps4
  go_wp2_with (first
    | (go_at_call 11; refine (HP.out).mono ?_; rintro e w1 ⟨base, sb, qb, gq, hb, gh, rb, turn, v, M, rfl, h1, h3, h4, ht, hB, hL⟩; have HB := veil hB; have HL := veil hL; have HO := veil h1; clear hB hL h1)
    | (go_at_call 12; refine (live_ready _).mono ?_; rintro e w2 ⟨rfl, hb2⟩; have HB2 := veil (HB.out.below hb2); have HL2 := veil (HL.out.trans (hb2.mono HL.out.size)); clear hb2)
    | (go_at_call 14; refine (slist_ok HB2.out.q).mono ?_; rintro e w3 ⟨v3, rfl, hil, hb3⟩; obtain ⟨al, cl, rfl, hfo⟩ := il_form hil; have HI3 := veil hfo; have H23 := veil hb3.size; have HB3 := veil (HB2.out.below hb3); have HL3 := veil (HL2.out.trans (hb3.mono HL2.out.size)); clear hb3 hil hfo))
  have HF := veil HB3.out.q.falls
  have hfit := HB3.out.q.fit
  have OB := veil HB2.out.q.blocks
  have hz0 : (w3.alloc (.cells #[.bool false, .int .u64 0, .int .u8 0] 34)).heap.size = w3.heap.size + 1 := by simp
  have h23 : w2.heap.size ≤ w3.heap.size := H23.out
  have OB3 : Hid (∀ k, OwnS sb qb gq hb gh k → k < w3.heap.size) := fun k hk => Nat.lt_of_lt_of_le (OB.out k hk) h23
  have HQ0 := veil (HB3.out.q.below ((Below.refl _ _).alloc (Nat.le_refl _) (.cells #[.bool false, .int .u64 0, .int .u8 0] 34)))
  have HW0 : Hid (∀ W, Fr (fun k => OwnS sb qb gq hb gh k ∨ k = w3.heap.size) (w3.alloc (.cells #[.bool false, .int .u64 0, .int .u8 0] 34)) W → Below w.heap.size w W) := fun W hW =>
    (HL3.out.alloc HL3.out.size _).trans (hW.below (by rw [hz0]; have := HL3.out.size; omega) (by
      rintro k (q | q)
      · exact HO.out k q
      · have := HL3.out.size; omega))
  clear HB HB2 HL HL2 HP
  go_loopw [10] (fun i wr => ∃ (j : Nat) (kp : Ke.K), j ≤ M.length ∧ i = .int .i64 j ∧ IsS wr sb qb gq hb gh 10 (N + 1) turn (M.drop j) ∧ Bk wr w3.heap.size kp ∧ (∀ p, j = p + 1 → ∃ y, M[p]? = some y ∧ kp = y.2) ∧ (∀ o, wr.frozen? ⟨w3.heap.size, o, none⟩ = false) ∧ Fr (fun k => OwnS sb qb gq hb gh k ∨ k = w3.heap.size) (w3.alloc (.cells #[.bool false, .int .u64 0, .int .u8 0] 34)) wr) (fun i _ => M.length - (intOf i).toNat)
  case atStart => exact ⟨0, ⟨false, 0, 0⟩, by omega, rfl, HQ0.out, Bk.fresh w3 ⟨false, 0, 0⟩ _, fun p hp => by omega, fun o => Ph.frozen_new _ _ _ _, Fr.refl _ _⟩
  case round =>
    obtain ⟨j, kp, hj, rfl, hq, hk, hkp, hfz, hfr⟩ := hrel
    by_cases hjl : j < M.length
    · have hjl' : (j : Int) < ((idE M).length : Int) := by rw [idE_len]; omega
      have hjl2 : j < (idE M).length := by rw [idE_len]; exact hjl
      obtain ⟨x, hx⟩ : ∃ x, M[j]? = some x := ⟨_, List.getElem?_eq_getElem hjl⟩
      rw [drop_at hx] at hq
      have HT := veil (take_ok hq)
      rcases HI3.out with h0 | ⟨g, rfl, hg1, hg2, hc⟩
      · rw [h0] at hjl2
        exact absurd hjl2 (by simp)
      · have hgn : ¬ OwnS sb qb gq hb gh g := fun q => by have := OB.out g q; omega
        have lbn : ¬ OwnS sb qb gq hb gh w3.heap.size := fun q => by have := OB3.out _ q; omega
        have hlt := hk.lt
        have hcj : wr.cell? ⟨g, j, none⟩ = some (.int .i64 (x.1 : Int)) := by
          rw [hfr.cell (a := ⟨g, j, none⟩) (by rw [hz0]; show g < _; omega) (by show ¬ (_ ∨ g = _); rintro (q | q); exact hgn q; omega), World.cell?_alloc_lt _ _ _ hg2, hc j hjl2, idE_at hx]
        have HK : Hid (∀ w4, IsS w4 sb qb gq hb gh 10 (N + 1) turn (M.drop (j + 1)) → Fr (Own qb gq hb gh) wr w4 → (w4.alloc (.cells #[.bool x.2.e, .int .u64 x.2.d, .int .u8 x.2.l] 34)).cell? ⟨g, j, none⟩ = some (.int .i64 (x.1 : Int)) ∧ Bk (w4.alloc (.cells #[.bool x.2.e, .int .u64 x.2.d, .int .u8 x.2.l] 34)) w4.heap.size x.2 ∧ Bk (w4.alloc (.cells #[.bool x.2.e, .int .u64 x.2.d, .int .u8 x.2.l] 34)) w3.heap.size kp ∧ (∀ o, (w4.alloc (.cells #[.bool x.2.e, .int .u64 x.2.d, .int .u8 x.2.l] 34)).frozen? ⟨w3.heap.size, o, none⟩ = false) ∧ IsS (w4.alloc (.cells #[.bool x.2.e, .int .u64 x.2.d, .int .u8 x.2.l] 34)) sb qb gq hb gh 10 (N + 1) turn (M.drop (j + 1)) ∧ Fr (fun k => OwnS sb qb gq hb gh k ∨ k = w3.heap.size) (w3.alloc (.cells #[.bool false, .int .u64 0, .int .u8 0] 34)) (w4.alloc (.cells #[.bool x.2.e, .int .u64 x.2.d, .int .u8 x.2.l] 34))) := by
          intro w4 hq4 hf4
          have hgr : g < wr.heap.size := World.block_lt_of_cell? wr ⟨g, j, none⟩ hcj
          have hf5 := hf4.alloc (.cells #[.bool x.2.e, .int .u64 x.2.d, .int .u8 x.2.l] 34)
          exact ⟨(hf5.cell (a := ⟨g, j, none⟩) hgr (fun q => hgn (.inr q))).trans hcj, Bk.fresh w4 x.2 _, hk.frame hf5 (fun q => lbn (.inr q)), fun o => (hf5.frozen (a := ⟨w3.heap.size, o, none⟩) hlt (fun q => lbn (.inr q))).trans (hfz o), hq4.below ((Below.refl _ _).alloc (Nat.le_refl _) _), hfr.trans (hf5.wide (fun k _ q => .inl (.inr q)))⟩
        have HEnd : Hid (∀ W, Bk W w3.heap.size kp → (∀ o, W.frozen? ⟨w3.heap.size, o, none⟩ = false) → IsS W sb qb gq hb gh 10 (N + 1) turn (M.drop (j + 1)) → Fr (fun k => OwnS sb qb gq hb gh k ∨ k = w3.heap.size) (w3.alloc (.cells #[.bool false, .int .u64 0, .int .u8 0] 34)) W →
            IsS (((W.setCell ⟨w3.heap.size, 0, none⟩ (.bool x.2.e)).setCell ⟨w3.heap.size, 1, none⟩ (.int .u64 x.2.d)).setCell ⟨w3.heap.size, 2, none⟩ (.int .u8 x.2.l)) sb qb gq hb gh 10 (N + 1) turn (M.drop (j + 1)) ∧ Bk (((W.setCell ⟨w3.heap.size, 0, none⟩ (.bool x.2.e)).setCell ⟨w3.heap.size, 1, none⟩ (.int .u64 x.2.d)).setCell ⟨w3.heap.size, 2, none⟩ (.int .u8 x.2.l)) w3.heap.size x.2 ∧ (∀ o, (((W.setCell ⟨w3.heap.size, 0, none⟩ (.bool x.2.e)).setCell ⟨w3.heap.size, 1, none⟩ (.int .u64 x.2.d)).setCell ⟨w3.heap.size, 2, none⟩ (.int .u8 x.2.l)).frozen? ⟨w3.heap.size, o, none⟩ = false) ∧ Fr (fun k => OwnS sb qb gq hb gh k ∨ k = w3.heap.size) (w3.alloc (.cells #[.bool false, .int .u64 0, .int .u8 0] 34)) (((W.setCell ⟨w3.heap.size, 0, none⟩ (.bool x.2.e)).setCell ⟨w3.heap.size, 1, none⟩ (.int .u64 x.2.d)).setCell ⟨w3.heap.size, 2, none⟩ (.int .u8 x.2.l))) := by
          intro W a1 a2 a3 a4
          obtain ⟨b1, b2, b3⟩ := bk_store x.2 a1 a2
          exact ⟨a3.frame b3 (fun k hk e => lbn (by rw [← e]; exact hk)), b1, b2, a4.trans (b3.wide (fun k _ q => .inr q))⟩
        clear hc hq hk hfr hcj hfz
        by_cases hj0 : j = 0
        · subst hj0
          go_wp2_with (go_at_call 15; refine (HT.out).mono ?_; rintro e w4 ⟨rfl, hq4, hf4⟩; obtain ⟨y1, y2, y3, y4, y5, y6⟩ := HK.out w4 hq4 hf4; have HE := veil (HEnd.out _ y3 y4 y5 y6); obtain ⟨y21, y22, y23⟩ := y2; obtain ⟨y31, y32, y33⟩ := y3; have y40 := y4 0; have y41 := y4 1; have y42 := y4 2; clear hq4 hf4 y4 y5 y6 HK HEnd)
          go_roundw
          case rel => exact ⟨1, x.2, by omega, by go_num, HE.out.1, HE.out.2.1, fun p hp => ⟨x, by rw [show p = 0 by omega]; exact hx, rfl⟩, HE.out.2.2.1, HE.out.2.2.2⟩
          case measure => simp [intOf]; omega
        · obtain ⟨y, hy, rfl⟩ := hkp (j - 1) (by omega)
          have HU := veil (falls_at HF.out (show j - 1 < j by omega) hy hx)
          have hpos : (0 : Int) < (j : Int) := by omega
          go_wp2_with (first
            | (go_at_call 15; refine (HT.out).mono ?_; rintro e w4 ⟨rfl, hq4, hf4⟩; obtain ⟨y1, y2, y3, y4, y5, y6⟩ := HK.out w4 hq4 hf4; have Y2 := veil y2; have Y3 := veil y3; have Y4 := veil y4; have Y5 := veil y5; have Y6 := veil y6; obtain ⟨y21, y22, y23⟩ := y2; obtain ⟨y31, y32, y33⟩ := y3; clear hq4 hf4 y4 y5 y6 HK)
            | (go_at_call 16; refine (rabove_c _ x.2 y.2 false HU.out).mono ?_; rintro e w6 ⟨rfl, hb6⟩; have HE := veil (HEnd.out w6 (Y3.out.below hb6) (fun o => (World.frozen?_of_block (a := ⟨w3.heap.size, o, none⟩) (hb6.block _ Y3.out.lt)).trans (Y4.out o)) (Y5.out.below hb6) (Y6.out.trans (Fr.of_below' hb6))); have z4 : ∀ o, w6.frozen? ⟨w3.heap.size, o, none⟩ = false := (fun o => (World.frozen?_of_block (a := ⟨w3.heap.size, o, none⟩) (hb6.block _ Y3.out.lt)).trans (Y4.out o)); have z40 := z4 0; have z41 := z4 1; have z42 := z4 2; obtain ⟨z21, z22, z23⟩ := Y2.out.below hb6; obtain ⟨z31, z32, z33⟩ := Y3.out.below hb6; clear hb6 z4 y1 y21 y22 y23 y31 y32 y33))
          go_roundw
          case rel => exact ⟨j + 1, x.2, by omega, by go_num, HE.out.1, HE.out.2.1, fun p' hp => ⟨x, by rw [show p' = j by omega]; exact hx, rfl⟩, HE.out.2.2.1, HE.out.2.2.2⟩
          case measure => simp [intOf]; omega
    · have hjl' : ¬ (j : Int) < ((idE M).length : Int) := by rw [idE_len]; omega
      have hje : j = M.length := by omega
      rw [hje, List.drop_length] at hq
      have HQ := veil hq
      have HX := veil (HW0.out _ hfr)
      clear hq hk hfr hfz
      go_wp2_with (first
        | (go_at_call 15; refine (stake_none HQ.out.nil_parts).mono ?_; rintro e w4 ⟨rfl, hb4⟩; have HQ4 := veil (HQ.out.below hb4); have HX4 := veil (HX.out.trans (hb4.mono HX.out.size)); clear hb4)
        | (go_at_call 17; refine (slen_c HQ4.out 0 rfl).mono ?_; rintro e w5 ⟨rfl, hb5⟩; have HX5 := veil (HX4.out.trans (hb5.mono HX4.out.size)); clear hb5))
      go_ret
      exact ⟨rfl, HX5.out⟩
end Go.Proofs.Ytfadckkebfgheaa
