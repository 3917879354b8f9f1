/-
  What is best does not hang on the draw but modulo the processors; its key not at all; the walk of ProcsDraws.
-/
import Derived.Test.YtlfejgjhamcahaaMZ36
namespace Go.Proofs.Ytlfejgjhamcahaa
open Go.RowKit Go.Lib
set_option linter.unusedVariables false
attribute [local go_sem ↓] Go.wp_at_zero Go.wp_at_succ

theorem ords_mod (np p d : Nat) : ords np p (d % np) = ords np p d := by
  unfold ords ordsU plOf
  simp only [Nat.mod_mod]
theorem bb_mod (np : Nat) (H : List Hd) (p : Int) (d : Nat) : bb np H p ((d % np : Nat) : Int) = bb np H p (d : Int) := by
  unfold bb
  split
  · rw [show (((d % np : Nat) : Int)).toNat = d % np from rfl, show ((d : Int)).toNat = d from rfl, ords_mod]
  · rfl
theorem nu_trans {a b c : Ke.K} (h : Ke.up a b = false) (k : Ke.up b c = false) : Ke.up a c = false := by
  obtain ⟨ae, ad, al⟩ := a
  obtain ⟨be, bd, bl⟩ := b
  obtain ⟨ce, cd, cl⟩ := c
  cases ae <;> cases be <;> cases ce <;> simp_all [Ke.up] <;> omega
theorem up_asy {a b : Ke.K} (h : Ke.up a b = true) : Ke.up b a = false := by
  obtain ⟨ae, ad, al⟩ := a
  obtain ⟨be, bd, bl⟩ := b
  cases ae <;> cases be <;> simp_all [Ke.up] <;> omega
theorem nu_refl (a : Ke.K) : Ke.up a a = false := by simp [Ke.up]
theorem nu_eq {a b : Ke.K} (h : Ke.up a b = false) (k : Ke.up b a = false) (ra : Ke.rightK a = true) (rb : Ke.rightK b = true) : a = b := by
  obtain ⟨ae, ad, al⟩ := a
  obtain ⟨be, bd, bl⟩ := b
  cases ae <;> cases be <;> simp_all [Ke.up, Ke.rightK] <;> omega
/-- All that is passed is no more urgent than what is best. -/
theorem bst_top (H : List Hd) : ∀ (l : List Nat) (b : Option Nat), (∀ c0, b = some c0 → ∃ c, l.foldl (bstep H) b = some c ∧ Ke.up (tkK (MM H c0)) (tkK (MM H c)) = false) ∧ ∀ x ∈ l, ∀ y M, MM H x = y :: M → ∃ c, l.foldl (bstep H) b = some c ∧ Ke.up y.2 (tkK (MM H c)) = false
  | [], b => ⟨fun c0 hc => ⟨c0, hc, nu_refl _⟩, fun x hx => by cases hx⟩
  | x :: l, b => by
    have A : ∀ c0, b = some c0 → ∃ c1, bstep H b x = some c1 ∧ Ke.up (tkK (MM H c0)) (tkK (MM H c1)) = false := by
      intro c0 hc
      subst hc
      unfold bstep
      cases hM : MM H x with
      | nil => exact ⟨c0, rfl, nu_refl _⟩
      | cons y M =>
        simp only
        cases hu : Ke.up y.2 (tkK (MM H c0)) with
        | true =>
          refine ⟨x, rfl, ?_⟩
          rw [hM]
          exact up_asy hu
        | false => exact ⟨c0, rfl, nu_refl _⟩
    have B : ∀ y M, MM H x = y :: M → ∃ c1, bstep H b x = some c1 ∧ Ke.up y.2 (tkK (MM H c1)) = false := by
      intro y M hM
      unfold bstep
      rw [hM]
      cases b with
      | none => exact ⟨x, rfl, by rw [hM]; exact nu_refl _⟩
      | some c0 =>
        simp only
        cases hu : Ke.up y.2 (tkK (MM H c0)) with
        | true => exact ⟨x, rfl, by rw [hM]; exact nu_refl _⟩
        | false => exact ⟨c0, rfl, hu⟩
    obtain ⟨i1, i2⟩ := bst_top H l (bstep H b x)
    refine ⟨fun c0 hc => ?_, fun z hz y M hM => ?_⟩
    · obtain ⟨c1, e1, n1⟩ := A c0 hc
      obtain ⟨c, e2, n2⟩ := i1 c1 e1
      exact ⟨c, e2, nu_trans n1 n2⟩
    · rcases List.mem_cons.1 hz with rfl | hz
      · obtain ⟨c1, e1, n1⟩ := B y M hM
        obtain ⟨c, e2, n2⟩ := i1 c1 e1
        exact ⟨c, e2, nu_trans n1 n2⟩
      · exact i2 z hz y M hM
theorem ords_mem {np p d x : Nat} (hp : p < np) (hx : x ≤ np) : x ∈ ords np p d := by
  unfold ords ordsU
  by_cases h1 : x = p
  · rw [h1]; simp
  by_cases h2 : x = np
  · rw [h2]; simp
  refine List.mem_cons_of_mem _ (List.mem_cons_of_mem _ (List.mem_filter.2 ⟨List.mem_map.2 ⟨(x + 2 * np - (p + 1 + d % np)) % np, List.mem_range.2 (Nat.mod_lt _ (by omega)), ?_⟩, by simpa using h1⟩))
  unfold plOf
  have hm : d % np < np := Nat.mod_lt _ (by omega)
  rw [Nat.add_mod_mod]
  have e : p + 1 + d % np + (x + 2 * np - (p + 1 + d % np)) = x + np * 2 := by omega
  rw [e, Nat.add_mul_mod_self_left]
  exact Nat.mod_eq_of_lt (by omega)
/-- What is best is as urgent whatever is drawn. -/
theorem bb_key {np : Nat} {H : List Hd} (hl : H.length ≤ np + 1) (hr : ∀ (i : Nat) (x : Hd), H[i]? = some x → ∀ y ∈ x.M, Ke.rightK y.2 = true) (p d d' : Int) : bK H (bb np H p d) = bK H (bb np H p d') ∧ (bb np H p d).isSome = (bb np H p d').isSome := by
  have key : ∀ d d' : Int, ∀ c, bb np H p d = some c → ∃ c', bb np H p d' = some c' ∧ Ke.up (tkK (MM H c)) (tkK (MM H c')) = false := by
    intro d d' c hc
    obtain ⟨hp, hb, x, z, M', hx, hM⟩ := bb_at hc
    have hcl : c ≤ np := by have := (List.getElem?_eq_some_iff.1 hx).1; omega
    have hMM : MM H c = z :: M' := by rw [MM_at hx, hM]
    obtain ⟨_, h2⟩ := bst_top H (ords np p.toNat d'.toNat) none
    obtain ⟨c', e, n⟩ := h2 c (ords_mem (by omega) hcl) z M' hMM
    refine ⟨c', ?_, ?_⟩
    · unfold bb
      rw [if_pos hp]
      exact e
    · rw [hMM]
      exact n
  cases h1 : bb np H p d with
  | none =>
    cases h2 : bb np H p d' with
    | none => exact ⟨rfl, rfl⟩
    | some c =>
      obtain ⟨c', e, _⟩ := key d' d c h2
      rw [h1] at e
      cases e
  | some c =>
    obtain ⟨c', e, n⟩ := key d d' c h1
    obtain ⟨c1, e1, n1⟩ := key d' d c' e
    rw [h1] at e1
    injection e1 with e1
    subst e1
    rw [e]
    refine ⟨?_, rfl⟩
    obtain ⟨_, _, x, z, M', hx, hM⟩ := bb_at h1
    obtain ⟨_, _, x', z', M'', hx', hM'⟩ := bb_at e
    have q1 : MM H c = z :: M' := by rw [MM_at hx, hM]
    have q2 : MM H c' = z' :: M'' := by rw [MM_at hx', hM']
    show tkK (MM H c) = tkK (MM H c')
    refine nu_eq n n1 ?_ ?_
    · rw [q1]; exact hr c x hx z (by rw [hM]; simp)
    · rw [q2]; exact hr c' x' hx' z' (by rw [hM']; simp)
set_option maxHeartbeats 8000000 in
set_option maxRecDepth 20000 in
theorem ProcsDraws_walk (m : Nat) (hm : m < 256) (a : Option Addr) (len cap : Nat) (L : Nat → Dp) (hlen : len < 9223372036854775808) (w : World) (hd : Dps w a len L) (x y : Dp) (hx : x.ok) (hy : y.ok) :
    Calls Try.prog 10 #[.int .u8 m, .slice a len cap, .agg #[.int .i64 x.k, .int .i64 x.p, .int .i64 x.i, .bool x.e, .int .u64 x.d, .int .u8 x.l, .int .u64 x.r, .int .i64 y.k, .int .i64 y.p, .int .i64 y.i, .bool y.e, .int .u64 y.d, .int .u8 y.l, .int .u64 y.r]] w fun e w' => e = .returned (.bool true) ∧ Below w.heap.size w w' := by
  have hdr := hx.dr
  have hdy := hy.dr
  have hA : Below w.heap.size w (w.alloc (.cells #[.int .i64 x.k, .int .i64 x.p, .int .i64 x.i, .bool x.e, .int .u64 x.d, .int .u8 x.l, .int .u64 x.r, .int .i64 y.k, .int .i64 y.p, .int .i64 y.i, .bool y.e, .int .u64 y.d, .int .u8 y.l, .int .u64 y.r] 56)) := (Below.refl _ _).alloc (Nat.le_refl _) _
  have HA := veil hA
  have HP := veil (play_ok (w.alloc (.cells #[.int .i64 x.k, .int .i64 x.p, .int .i64 x.i, .bool x.e, .int .u64 x.d, .int .u8 x.l, .int .u64 x.r, .int .i64 y.k, .int .i64 y.p, .int .i64 y.i, .bool y.e, .int .u64 y.d, .int .u8 y.l, .int .u64 y.r] 56)) m hm a len cap hlen L (hd.below hA))
  have hblk : (w.alloc (.cells #[.int .i64 x.k, .int .i64 x.p, .int .i64 x.i, .bool x.e, .int .u64 x.d, .int .u8 x.l, .int .u64 x.r, .int .i64 y.k, .int .i64 y.p, .int .i64 y.i, .bool y.e, .int .u64 y.d, .int .u8 y.l, .int .u64 y.r] 56)).heap[w.heap.size]? = some (.cells #[.int .i64 x.k, .int .i64 x.p, .int .i64 x.i, .bool x.e, .int .u64 x.d, .int .u8 x.l, .int .u64 x.r, .int .i64 y.k, .int .i64 y.p, .int .i64 y.i, .bool y.e, .int .u64 y.d, .int .u8 y.l, .int .u64 y.r] 56 (0, 0)) := World.alloc_heap_new w _
  have HC : Hid (∀ W, Below (w.alloc (.cells #[.int .i64 x.k, .int .i64 x.p, .int .i64 x.i, .bool x.e, .int .u64 x.d, .int .u8 x.l, .int .u64 x.r, .int .i64 y.k, .int .i64 y.p, .int .i64 y.i, .bool y.e, .int .u64 y.d, .int .u8 y.l, .int .u64 y.r] 56)).heap.size (w.alloc (.cells #[.int .i64 x.k, .int .i64 x.p, .int .i64 x.i, .bool x.e, .int .u64 x.d, .int .u8 x.l, .int .u64 x.r, .int .i64 y.k, .int .i64 y.p, .int .i64 y.i, .bool y.e, .int .u64 y.d, .int .u8 y.l, .int .u64 y.r] 56)) W → W.cell? ⟨w.heap.size, 1, none⟩ = some (.int .i64 x.p) ∧ W.cell? ⟨w.heap.size, 6, none⟩ = some (.int .u64 x.r) ∧ W.cell? ⟨w.heap.size, 13, none⟩ = some (.int .u64 y.r)) := fun W hW => by
    have hb := (hW.block _ (by simp)).trans hblk
    exact ⟨(blk_cell hb 1).1, (blk_cell hb 6).1, (blk_cell hb 13).1⟩
  have hr4 := rem4 m
  have hN4 : m % 4 < 4 := Nat.mod_lt _ (by decide)
  clear hd hA hblk
  go_enter Try.func10, Try.ntmps10
  go_wp2_with (first
    | (go_at_call 14; refine (HP.out).mono ?_; rintro e w1 ⟨O, D, base, pb, rb, T, G, rfl, h1, h2, h3, ht, hB, hL⟩; have HB := veil hB.pq; have HL := veil hL; clear hB hL h1 h2 h3)
    | (go_at_call 15; refine (live_procs _).mono ?_; rintro e w2 ⟨rfl, hb2⟩; have HB2 := veil (HB.out.below hb2); have HL2 := veil (HL.out.trans (hb2.mono HL.out.size)); obtain ⟨c1, c6, c13⟩ := HC.out _ HL2.out; clear hb2))
  go_quiet (fail)
  have HQ3 := veil (HB2.out.below (below_drewN (Below.refl _ _) nq))
  have HL3 := veil (below_drewN HL2.out nq)
  obtain ⟨d1, d6, d13⟩ := HC.out _ HL3.out
  clear HB2 HL2 HB HL c1 c6 c13
  generalize w2.drewN nq = W3 at *
  have HKEY := veil (bb_key (np := m % 4 + 1) (H := gh G) (by rw [gh_len, HQ3.out.len]; exact Nat.le_refl _) (fun i z hz => (HQ3.out.nd hz).2.2) x.p x.r y.r)
  obtain ⟨dn, hdn⟩ := Int.eq_ofNat_of_zero_le hdr.1
  have HMOD : Hid (bb (m % 4 + 1) (gh G) x.p (x.r % ((m : Int) % 4 + 1)) = bb (m % 4 + 1) (gh G) x.p x.r) := by
    unfold Hid
    rw [hdn]
    have := bb_mod (m % 4 + 1) (gh G) x.p dn
    rw [← this]
    have e : (dn : Int) % ((m : Int) % 4 + 1) = ((dn % (m % 4 + 1) : Nat) : Int) := by push_cast; rfl
    rw [e]
  have HB1 := veil (HQ3.out.best x.p x.r hdr)
  have HBM := veil (fun W (hW : PQ W O pb 10 (m % 4 + 1) (m / 4 % 3 + 1) T G) => hW.best x.p (x.r % ((m : Int) % 4 + 1)) (by
    have h1 := Int.emod_nonneg x.r (show ((m : Int) % 4 + 1) ≠ 0 by omega)
    have h2 := Int.emod_lt_of_pos x.r (show (0 : Int) < ((m : Int) % 4 + 1) by omega)
    omega))
  have HB3 := veil (fun W (hW : PQ W O pb 10 (m % 4 + 1) (m / 4 % 3 + 1) T G) => hW.best x.p y.r hdy)
  rw [← HKEY.out.1, ← HKEY.out.2] at HB3
  rw [HMOD.out] at HBM
  generalize bb (m % 4 + 1) (gh G) x.p y.r = o' at *
  generalize bb (m % 4 + 1) (gh G) x.p x.r = o at *
  generalize bI (gh G) o' = ti' at *
  generalize bA o' = ta' at *
  generalize bI (gh G) o = ti at *
  generalize bA o = ta at *
  generalize bK (gh G) o = kk at *
  generalize o.isSome = ob at *
  have hs1 : Ke.same kk kk = true := by rw [Ke.same_eq]; exact decide_eq_true rfl
  clear HKEY HMOD hdn
  go_wp2_with (first
    | (go_at_call 17; have hh := HQ5.out; clear hh; refine (HB3.out _ HQ5.out).mono ?_; rintro e w6 ⟨rfl, hb6⟩; have HX6 := veil ((HX5.out.below hb6).push #[.bool kk.e, .int .u64 kk.d, .int .u8 kk.l] 25); have HL6 := veil (HL5.out.trans ((hb6.alloc hb6.size (.cells #[.bool kk.e, .int .u64 kk.d, .int .u8 kk.l] 25)).mono HL5.out.size)); have b1 := HX6.out.cell (b := w4.heap.size) (cs := #[.bool kk.e, .int .u64 kk.d, .int .u8 kk.l]) (t := 25) (by simp); have b2 := HX6.out.cell (b := w5.heap.size) (cs := #[.bool kk.e, .int .u64 kk.d, .int .u8 kk.l]) (t := 25) (by simp); have b3 := HX6.out.cell (b := w6.heap.size) (cs := #[.bool kk.e, .int .u64 kk.d, .int .u8 kk.l]) (t := 25) (by simp); have p0 := b1 0; have p1 := b1 1; have p2 := b1 2; have p3 := b2 0; have p4 := b2 1; have p5 := b2 2; have p6 := b3 0; have p7 := b3 1; have p8 := b3 2; simp only [List.getElem?_toArray, List.getElem?_cons_zero, List.getElem?_cons_succ] at p0 p1 p2 p3 p4 p5 p6 p7 p8; clear hb6 b1 b2 b3)
    | (go_at_call 17; have hh := HQ4.out; clear hh; refine (HBM.out _ HQ4.out).mono ?_; rintro e w5 ⟨rfl, hb5⟩; have HQ5 := veil (HQ4.out.below (hb5.alloc hb5.size (.cells #[.bool kk.e, .int .u64 kk.d, .int .u8 kk.l] 25))); have HL5 := veil (HL4.out.trans ((hb5.alloc hb5.size (.cells #[.bool kk.e, .int .u64 kk.d, .int .u8 kk.l] 25)).mono HL4.out.size)); obtain ⟨g1, g6, g13⟩ := HC.out _ HL5.out; have HX5 := veil ((HX4.out.below hb5).push #[.bool kk.e, .int .u64 kk.d, .int .u8 kk.l] 25); clear hb5)
    | (go_at_call 17; refine (HB1.out).mono ?_; rintro e w4 ⟨rfl, hb4⟩; have HQ4 := veil (HQ3.out.below (hb4.alloc hb4.size (.cells #[.bool kk.e, .int .u64 kk.d, .int .u8 kk.l] 25))); have HL4 := veil (HL3.out.trans ((hb4.alloc hb4.size (.cells #[.bool kk.e, .int .u64 kk.d, .int .u8 kk.l] 25)).mono HL3.out.size)); obtain ⟨e1, e6, e13⟩ := HC.out _ HL4.out; have HX4 := veil ((Bs.nil w4).push #[.bool kk.e, .int .u64 kk.d, .int .u8 kk.l] 25); clear hb4))
  go_ret
  exact ⟨by simp, HA.out.trans (HL6.out.mono HA.out.size)⟩
end Go.Proofs.Ytlfejgjhamcahaa
