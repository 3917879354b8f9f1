/-
  What is best, told by all places; the walk of ProcsBest.
-/
import Derived.Test.YtlfejgjhamcahaaMZ45
namespace Go.Proofs.Ytlfejgjhamcahaa
open Go.RowKit Go.Lib
set_option linter.unusedVariables false
attribute [local go_sem ↓] Go.wp_at_zero Go.wp_at_succ

theorem up_tr {a b c : Ke.K} (h : Ke.up a b = true) (k : Ke.up b c = true) : Ke.up a c = true := by
  obtain ⟨ae, ad, al⟩ := a
  obtain ⟨be, bd, bl⟩ := b
  obtain ⟨ce, cd, cl⟩ := c
  cases ae <;> cases be <;> cases ce <;> simp_all [Ke.up] <;> omega
theorem bst_from (H : List Hd) : ∀ (l : List Nat) (c0 c : Nat), l.foldl (bstep H) (some c0) = some c → c = c0 ∨ Ke.up (tkK (MM H c)) (tkK (MM H c0)) = true
  | [], c0, c, h => by simp at h; exact .inl h.symm
  | x :: l, c0, c, h => by
    have hs : bstep H (some c0) x = some c0 ∨ (bstep H (some c0) x = some x ∧ Ke.up (tkK (MM H x)) (tkK (MM H c0)) = true) := by
      unfold bstep
      cases hM : MM H x with
      | nil => exact .inl rfl
      | cons y M =>
        simp only
        cases hu : Ke.up y.2 (tkK (MM H c0)) with
        | true => exact .inr ⟨rfl, hu⟩
        | false => exact .inl rfl
    rw [List.foldl_cons] at h
    rcases hs with e | ⟨e, hu⟩
    · rw [e] at h
      exact bst_from H l c0 c h
    · rw [e] at h
      rcases bst_from H l x c h with q | q
      · rw [q]; exact .inr hu
      · exact .inr (up_tr q hu)
theorem bb_own {np : Nat} {H : List Hd} {p d : Int} {c : Nat} (hb : bb np H p d = some c) {y : En} {M : List En} (hM : MM H p.toNat = y :: M) : c = p.toNat ∨ Ke.up (tkK (MM H c)) y.2 = true := by
  obtain ⟨_, h, _⟩ := bb_at hb
  unfold bst ords ordsU at h
  rw [List.foldl_cons] at h
  have e : bstep H none p.toNat = some p.toNat := by unfold bstep; rw [hM]
  rw [e] at h
  have := bst_from H _ _ _ h
  rw [hM] at this
  exact this
theorem bb_over {np : Nat} {G : List (List En)} {p d : Int} {c : Nat} (hl : G.length = np + 1) (hb : bb np (gh G) p d = some c) {i : Nat} {y : En} {M : List En} (hM : G[i]? = some (y :: M)) : Ke.up y.2 (tkK (MM (gh G) c)) = false := by
  obtain ⟨hp, h, _⟩ := bb_at hb
  have hil : i ≤ np := by have := (List.getElem?_eq_some_iff.1 hM).1; omega
  obtain ⟨_, t2⟩ := bst_top (gh G) (ords np p.toNat d.toNat) none
  obtain ⟨c', e1, n1⟩ := t2 i (ords_mem (by omega) hil) y M (MM_at (gh_of hM))
  have h' : (ords np p.toNat d.toNat).foldl (bstep (gh G)) none = some c := h
  rw [h'] at e1
  injection e1 with e1
  rw [e1]
  exact n1
theorem bb_any {np : Nat} {G : List (List En)} (hl : G.length = np + 1) {p : Int} (hp : 0 ≤ p ∧ p < (np : Int)) (d : Int) : (bb np (gh G) p d).isSome = decide (0 < sumH (gh G)) := by
  cases hb : bb np (gh G) p d with
  | some c =>
    obtain ⟨_, _, x, z, M', hx, hM⟩ := bb_at hb
    have hs := sumH_set (y := ⟨0, 0, 0, 0, 0, 0, []⟩) hx
    have e : x.M.length = M'.length + 1 := by rw [hM]; rfl
    simp only [List.length_nil] at hs
    exact (decide_eq_true (by omega)).symm
  | none =>
    refine (decide_eq_false (fun hpos => ?_)).symm
    have key : ∀ (i : Nat) (M : List En), G[i]? = some M → M = [] := fun i M hM => by
      cases M with
      | nil => rfl
      | cons y M =>
        exfalso
        have hil : i ≤ np := by have := (List.getElem?_eq_some_iff.1 hM).1; omega
        obtain ⟨_, t2⟩ := bst_top (gh G) (ords np p.toNat d.toNat) none
        obtain ⟨c', e1, _⟩ := t2 i (ords_mem (by omega) hil) y M (MM_at (gh_of hM))
        unfold bb at hb
        rw [if_pos hp] at hb
        unfold bst at hb
        rw [hb] at e1
        cases e1
    have := sumH_nil (H := gh G) (fun i x hx => key i x.M (gh_at hx))
    omega
set_option maxHeartbeats 8000000 in
set_option maxRecDepth 20000 in
theorem ProcsBest_walk (m : Nat) (hm : m < 256) (a : Option Addr) (len cap : Nat) (L : Nat → Dp) (hlen : len < 9223372036854775808) (w : World) (hd : Dps w a len L) (x : Dp) (hx : x.ok) :
    Calls Try.prog 4 #[.int .u8 m, .slice a len cap, .agg #[.int .i64 x.k, .int .i64 x.p, .int .i64 x.i, .bool x.e, .int .u64 x.d, .int .u8 x.l, .int .u64 x.r]] w fun e w' => e = .returned (.bool true) ∧ Below w.heap.size w w' := by
  have hdr := hx.dr
  have hA : Below w.heap.size w (w.alloc (.cells #[.int .i64 x.k, .int .i64 x.p, .int .i64 x.i, .bool x.e, .int .u64 x.d, .int .u8 x.l, .int .u64 x.r] 27)) := (Below.refl _ _).alloc (Nat.le_refl _) _
  have HA := veil hA
  have HP := veil (play_ok (w.alloc (.cells #[.int .i64 x.k, .int .i64 x.p, .int .i64 x.i, .bool x.e, .int .u64 x.d, .int .u8 x.l, .int .u64 x.r] 27)) m hm a len cap hlen L (hd.below hA))
  have hblk : (w.alloc (.cells #[.int .i64 x.k, .int .i64 x.p, .int .i64 x.i, .bool x.e, .int .u64 x.d, .int .u8 x.l, .int .u64 x.r] 27)).heap[w.heap.size]? = some (.cells #[.int .i64 x.k, .int .i64 x.p, .int .i64 x.i, .bool x.e, .int .u64 x.d, .int .u8 x.l, .int .u64 x.r] 27 (0, 0)) := World.alloc_heap_new w _
  have HC : Hid (∀ W, Below (w.alloc (.cells #[.int .i64 x.k, .int .i64 x.p, .int .i64 x.i, .bool x.e, .int .u64 x.d, .int .u8 x.l, .int .u64 x.r] 27)).heap.size (w.alloc (.cells #[.int .i64 x.k, .int .i64 x.p, .int .i64 x.i, .bool x.e, .int .u64 x.d, .int .u8 x.l, .int .u64 x.r] 27)) W → W.cell? ⟨w.heap.size, 1, none⟩ = some (.int .i64 x.p) ∧ W.cell? ⟨w.heap.size, 6, none⟩ = some (.int .u64 x.r)) := fun W hW => by
    have hb := (hW.block _ (by simp)).trans hblk
    exact ⟨(blk_cell hb 1).1, (blk_cell hb 6).1⟩
  have hr := rem4 m
  have hr' : (m : Int) % 4 = ((m % 4 : Nat) : Int) := by omega
  have hN4 : m % 4 < 4 := Nat.mod_lt _ (by decide)
  generalize m % 4 = N at *
  generalize m / 4 % 3 + 1 = Q at *
  clear hd hA hblk
  go_enter Try.func4, Try.ntmps4
  go_wp2_with (first
    | (go_at_call 14; refine (HP.out).mono ?_; rintro e w1 ⟨O, D, base, pb, rb, T, G, rfl, h1, h2, h3, ht, hB, hL⟩; have HB := veil hB; have HL := veil hL; clear hB hL h1 h2 h3)
    | (go_at_call 15; refine (live_procs _).mono ?_; rintro e w2 ⟨rfl, hb2⟩; have HB2 := veil (HB.out.below hb2); have HL2 := veil (HL.out.trans (hb2.mono HL.out.size)); obtain ⟨c1, c6⟩ := HC.out _ HL2.out; clear hb2))
  have hgl := HB2.out.pq.len
  have hsl := HB2.out.pq.sum_le
  have HUN := veil HB2.out.pq.un
  have HBE := veil (HB2.out.pq.best x.p x.r hdr)
  by_cases hp : 0 ≤ x.p ∧ x.p < ((N + 1 : Nat) : Int)
  · have hp0 : ¬ x.p < 0 := by omega
    have hp1 : ¬ (N : Int) + 1 ≤ x.p := by omega
    have HAN := veil (bb_any hgl hp x.r)
    cases hbb : bb (N + 1) (gh G) x.p x.r with
    | none =>
      rw [hbb] at HBE HAN
      have hs0 : sumH (gh G) = 0 := by have := HAN.out; simp at this; omega
      have HRN := veil (fun W (hW : RD W D base rb 10 (N + 1) Q G) => hW.length)
      rw [hs0] at HRN
      simp only [bI, bK, bA, Option.isSome_none] at HBE
      clear HAN hbb
      go_wp2_with (first
        | (go_at_call 17; refine (HBE.out).mono ?_; rintro e w4 ⟨rfl, hb4⟩; have HQ4 := veil (HB2.out.below (hb4.alloc hb4.size (.cells #[.bool false, .int .u64 0, .int .u8 0] 25))); have HL4 := veil (HL2.out.trans ((hb4.alloc hb4.size (.cells #[.bool false, .int .u64 0, .int .u8 0] 25)).mono HL2.out.size)); obtain ⟨c41, c46⟩ := HC.out _ HL4.out; clear hb4)
        | (go_at_call 18; refine (HRN.out _ HQ4.out.rd).mono ?_; rintro e w5 ⟨rfl, hw⟩; replace hw := hw.symm; subst hw))
      generalize hW4 : w4.alloc (.cells #[.bool false, .int .u64 0, .int .u8 0] 25) = W4 at *
      clear hW4 hr hr'
      go_loopw [15] (fun iv wr => iv = .int .i64 0 ∧ wr = W4) (fun _ _ => 0)
      case atStart => exact ⟨rfl, rfl⟩
      case round =>
        obtain ⟨rfl, rfl⟩ := hrel
        have hn0 : (0 : Int) ≤ (N : Int) + 1 := by omega
        go_wp2
        go_ret
        exact ⟨rfl, HA.out.trans (HL4.out.mono HA.out.size)⟩
    | some c =>
      rw [hbb] at HBE HAN
      have hs0 : 0 < sumH (gh G) := by have := HAN.out; simp at this; omega
      have hs1 : (0 : Int) < (sumH (gh G) : Int) := by omega
      have HRN := veil (fun W (hW : RD W D base rb 10 (N + 1) Q G) => hW.length)
      have e3 : bA (some c) = (c : Int) := rfl
      rw [e3] at HBE
      simp only [Option.isSome_some] at HBE
      have HOV := veil (fun (i : Nat) (y : En) (M : List En) (hM : G[i]? = some (y :: M)) => bb_over hgl hbb hM)
      have HOW := veil (fun (y : En) (M : List En) (hM : MM (gh G) x.p.toNat = y :: M) => bb_own hbb hM)
      have hkk : bK (gh G) (some c) = tkK (MM (gh G) c) := rfl
      rw [hkk] at HBE
      generalize tkK (MM (gh G) c) = kk at *
      generalize bI (gh G) (some c) = ti at *
      generalize sumH (gh G) = s at *
      clear HAN hbb e3 hkk
      go_wp2_with (first
        | (go_at_call 17; refine (HBE.out).mono ?_; rintro e w4 ⟨rfl, hb4⟩; have HQ4 := veil (HB2.out.below (hb4.alloc hb4.size (.cells #[.bool kk.e, .int .u64 kk.d, .int .u8 kk.l] 25))); have HL4 := veil (HL2.out.trans ((hb4.alloc hb4.size (.cells #[.bool kk.e, .int .u64 kk.d, .int .u8 kk.l] 25)).mono HL2.out.size)); have HX4 := veil (World.alloc_heap_new w4 (.cells #[.bool kk.e, .int .u64 kk.d, .int .u8 kk.l] 25)); obtain ⟨c41, c46⟩ := HC.out _ HL4.out; clear hb4)
        | (go_at_call 18; refine (HRN.out _ HQ4.out.rd).mono ?_; rintro e w5 ⟨rfl, hw⟩; replace hw := hw.symm; subst hw))
      generalize hW4 : w4.alloc (.cells #[.bool kk.e, .int .u64 kk.d, .int .u8 kk.l] 25) = W4 at *
      generalize w4.heap.size = B4 at *
      clear hW4 hr hr' HB2 HL2 HBE HRN HP HB HL c1 c6 c41 c46
      go_loopw [15] (fun iv wr => ∃ j : Nat, j ≤ N + 2 ∧ iv = .int .i64 (j : Int) ∧ Below W4.heap.size W4 wr) (fun iv _ => N + 2 - (intOf iv).toNat)
      case atStart => exact ⟨0, by omega, rfl, Below.refl _ _⟩
      case round =>
        obtain ⟨j, hj, rfl, hbel⟩ := hrel
        have HBQ := veil (HQ4.out.below hbel)
        have HLq := veil (HL4.out.trans (hbel.mono HL4.out.size))
        have HXq := veil ((hbel.block B4 (Array.getElem?_eq_some_iff.1 HX4.out).1).trans HX4.out)
        have HBE := veil hbel
        clear hbel
        by_cases hjl : j ≤ N + 1
        · have hjl' : (j : Int) ≤ (N : Int) + 1 := by omega
          have HLI := veil (HBQ.out.pq.list (j : Int))
          rw [lst_at] at HLI
          cases hM : (G[j]?).getD [] with
          | nil =>
            rw [hM] at HLI
            clear hM
            go_wp2_with (go_at_call 19; refine (HLI.out).mono ?_; rintro e w6 ⟨v6, rfl, hil, hb6⟩; obtain ⟨av, cv, rfl⟩ := hil.slice; have HB6 := veil hb6; clear hb6 hil)
            go_roundw
            case rel => exact ⟨j + 1, by omega, by go_num, HBE.out.trans (HB6.out.mono HBE.out.size)⟩
            case measure => simp [intOf]; omega
          | cons y M =>
            rw [hM] at HLI
            have hGj : G[j]? = some (y :: M) := by
              cases hG : G[j]? with
              | none => rw [hG] at hM; cases hM
              | some M' => rw [hG] at hM; exact congrArg some hM
            have hup := HOV.out j y M hGj
            have HTK := veil (fun W D' base' rb' (hW : RD W D' base' rb' 10 (N + 1) Q G) => topKey_ok W D' base' rb' (N + 1) Q G hW (by omega) HUN.out j y ⟨y :: M, hGj, by simp⟩)
            have hown : (j : Int) = x.p → y.2 = kk → (c : Int) = x.p := fun e1 e2 => by
              have e3 : x.p.toNat = j := by omega
              rcases HOW.out y M (by rw [e3]; exact MM_at (gh_of hGj)) with q | q
              · omega
              · rw [← e2, nu_refl] at q
                cases q
            have HOWN := veil hown
            have HAB := veil (fun W => Ke.rabove_ok W y.2 kk)
            rw [hup] at HAB
            obtain ⟨d1, d6⟩ := HC.out _ HLq.out
            clear hM hGj hup hown
            have hcs : (((j : Int) == x.p) = false) ∨ (((j : Int) == x.p) = true ∧ Ke.same y.2 kk = false) ∨ (((j : Int) == x.p) = true ∧ Ke.same y.2 kk = true ∧ ((c : Int) != x.p) = false) := by
              by_cases e1 : (j : Int) = x.p
              · cases hsm : Ke.same y.2 kk with
                | false => exact .inr (.inl ⟨by simpa using e1, rfl⟩)
                | true =>
                  refine .inr (.inr ⟨by simpa using e1, rfl, ?_⟩)
                  rw [Ke.same_eq] at hsm
                  have := HOWN.out e1 (of_decide_eq_true hsm)
                  simpa using this
              · exact .inl (by simpa using e1)
            clear HOWN
            rcases hcs with q1 | ⟨q1, q2⟩ | ⟨q1, q2, q3⟩
            · go_wp2_with (first
                | (go_at_call 19; refine (HLI.out).mono ?_; rintro e w6 ⟨v6, rfl, hil, hb6⟩; obtain ⟨g6, cg6, e6, _, hgl6, hc6⟩ := hil.cells (by unfold idE; simp); subst e6; have k6 : w6.cell? ⟨g6, 0, none⟩ = some (.int .i64 (y.1 : Int)) := hc6 0 (by unfold idE; simp); have hlen6 : (idE (y :: M)).length = M.length + 1 := (by unfold idE; simp); have HB6 := veil hb6; have HR6 := veil (HBQ.out.below hb6).rd; clear hb6 hil hc6)
                | (go_at_call 20; refine (HR6.out.fork).mono ?_; rintro e w7 ⟨D7, rfl, hr7, hb7⟩; have HR7 := veil hr7; have HB7 := veil (HB6.out.trans (hb7.mono HB6.out.size)); have HBW7 := veil hb7; have k7 := (hb7.cell (p := ⟨g6, 0, none⟩) hgl6).trans k6; clear hr7 hb7)
                | (go_at_call 21; refine (HTK.out _ D7 _ _ HR7.out).mono ?_; rintro e w8 ⟨rfl, hf8⟩; have HB8 := veil (HB7.out.trans (hf8.below HB7.out.size (fun k hk => by have := HR7.out.ge k hk; have := HB6.out.size; omega))); have HA8 := veil (HB8.out.alloc HB8.out.size (.cells #[.bool y.2.e, .int .u64 y.2.d, .int .u8 y.2.l] 25)); have HT8 := veil (World.alloc_heap_new w8 (.cells #[.bool y.2.e, .int .u64 y.2.d, .int .u8 y.2.l] 25)); have hbx8 := (HA8.out.block B4 (Array.getElem?_eq_some_iff.1 HXq.out).1).trans HXq.out; have b0 := (blk_cell hbx8 0).1; have b1 := (blk_cell hbx8 1).1; have b2 := (blk_cell hbx8 2).1; simp only [List.getElem?_toArray, List.getElem?_cons_zero, List.getElem?_cons_succ] at b0 b1 b2; have h81 := (HC.out _ (HLq.out.trans (HA8.out.mono HLq.out.size))).1; have HBX8 := veil hbx8; clear hf8 hbx8)
                | (go_at_call 22; refine (HAB.out _).mono ?_; rintro e w9 ⟨rfl, hb9⟩; have HB9 := veil (HA8.out.trans (hb9.mono HA8.out.size)); have hbx9 := (hb9.block B4 (Array.getElem?_eq_some_iff.1 HBX8.out).1).trans HBX8.out; have m0 := (blk_cell hbx9 0).1; have m1 := (blk_cell hbx9 1).1; have m2 := (blk_cell hbx9 2).1; have htx9 := (hb9.block w8.heap.size (by simp)).trans HT8.out; have t0 := (blk_cell htx9 0).1; have t1 := (blk_cell htx9 1).1; have t2 := (blk_cell htx9 2).1; simp only [List.getElem?_toArray, List.getElem?_cons_zero, List.getElem?_cons_succ] at m0 m1 m2 t0 t1 t2; have h91 := (HC.out _ (HLq.out.trans (HB9.out.mono HLq.out.size))).1; clear hb9 hbx9 htx9))
              go_roundw
              case rel => exact ⟨j + 1, by omega, by go_num, HBE.out.trans (HB9.out.mono HBE.out.size)⟩
              case measure => simp [intOf]; omega
            · go_wp2_with (first
                | (go_at_call 19; refine (HLI.out).mono ?_; rintro e w6 ⟨v6, rfl, hil, hb6⟩; obtain ⟨g6, cg6, e6, _, hgl6, hc6⟩ := hil.cells (by unfold idE; simp); subst e6; have k6 : w6.cell? ⟨g6, 0, none⟩ = some (.int .i64 (y.1 : Int)) := hc6 0 (by unfold idE; simp); have hlen6 : (idE (y :: M)).length = M.length + 1 := (by unfold idE; simp); have HB6 := veil hb6; have HR6 := veil (HBQ.out.below hb6).rd; clear hb6 hil hc6)
                | (go_at_call 20; refine (HR6.out.fork).mono ?_; rintro e w7 ⟨D7, rfl, hr7, hb7⟩; have HR7 := veil hr7; have HB7 := veil (HB6.out.trans (hb7.mono HB6.out.size)); have HBW7 := veil hb7; have k7 := (hb7.cell (p := ⟨g6, 0, none⟩) hgl6).trans k6; clear hr7 hb7)
                | (go_at_call 21; refine (HTK.out _ D7 _ _ HR7.out).mono ?_; rintro e w8 ⟨rfl, hf8⟩; have HB8 := veil (HB7.out.trans (hf8.below HB7.out.size (fun k hk => by have := HR7.out.ge k hk; have := HB6.out.size; omega))); have HA8 := veil (HB8.out.alloc HB8.out.size (.cells #[.bool y.2.e, .int .u64 y.2.d, .int .u8 y.2.l] 25)); have HT8 := veil (World.alloc_heap_new w8 (.cells #[.bool y.2.e, .int .u64 y.2.d, .int .u8 y.2.l] 25)); have hbx8 := (HA8.out.block B4 (Array.getElem?_eq_some_iff.1 HXq.out).1).trans HXq.out; have b0 := (blk_cell hbx8 0).1; have b1 := (blk_cell hbx8 1).1; have b2 := (blk_cell hbx8 2).1; simp only [List.getElem?_toArray, List.getElem?_cons_zero, List.getElem?_cons_succ] at b0 b1 b2; have h81 := (HC.out _ (HLq.out.trans (HA8.out.mono HLq.out.size))).1; have HBX8 := veil hbx8; clear hf8 hbx8)
                | (go_at_call 22; refine (HAB.out _).mono ?_; rintro e w9 ⟨rfl, hb9⟩; have HB9 := veil (HA8.out.trans (hb9.mono HA8.out.size)); have hbx9 := (hb9.block B4 (Array.getElem?_eq_some_iff.1 HBX8.out).1).trans HBX8.out; have m0 := (blk_cell hbx9 0).1; have m1 := (blk_cell hbx9 1).1; have m2 := (blk_cell hbx9 2).1; have htx9 := (hb9.block w8.heap.size (by simp)).trans HT8.out; have t0 := (blk_cell htx9 0).1; have t1 := (blk_cell htx9 1).1; have t2 := (blk_cell htx9 2).1; simp only [List.getElem?_toArray, List.getElem?_cons_zero, List.getElem?_cons_succ] at m0 m1 m2 t0 t1 t2; have h91 := (HC.out _ (HLq.out.trans (HB9.out.mono HLq.out.size))).1; clear hb9 hbx9 htx9))
              go_roundw
              case rel => exact ⟨j + 1, by omega, by go_num, HBE.out.trans (HB9.out.mono HBE.out.size)⟩
              case measure => simp [intOf]; omega
            · go_wp2_with (first
                | (go_at_call 19; refine (HLI.out).mono ?_; rintro e w6 ⟨v6, rfl, hil, hb6⟩; obtain ⟨g6, cg6, e6, _, hgl6, hc6⟩ := hil.cells (by unfold idE; simp); subst e6; have k6 : w6.cell? ⟨g6, 0, none⟩ = some (.int .i64 (y.1 : Int)) := hc6 0 (by unfold idE; simp); have hlen6 : (idE (y :: M)).length = M.length + 1 := (by unfold idE; simp); have HB6 := veil hb6; have HR6 := veil (HBQ.out.below hb6).rd; clear hb6 hil hc6)
                | (go_at_call 20; refine (HR6.out.fork).mono ?_; rintro e w7 ⟨D7, rfl, hr7, hb7⟩; have HR7 := veil hr7; have HB7 := veil (HB6.out.trans (hb7.mono HB6.out.size)); have HBW7 := veil hb7; have k7 := (hb7.cell (p := ⟨g6, 0, none⟩) hgl6).trans k6; clear hr7 hb7)
                | (go_at_call 21; refine (HTK.out _ D7 _ _ HR7.out).mono ?_; rintro e w8 ⟨rfl, hf8⟩; have HB8 := veil (HB7.out.trans (hf8.below HB7.out.size (fun k hk => by have := HR7.out.ge k hk; have := HB6.out.size; omega))); have HA8 := veil (HB8.out.alloc HB8.out.size (.cells #[.bool y.2.e, .int .u64 y.2.d, .int .u8 y.2.l] 25)); have HT8 := veil (World.alloc_heap_new w8 (.cells #[.bool y.2.e, .int .u64 y.2.d, .int .u8 y.2.l] 25)); have hbx8 := (HA8.out.block B4 (Array.getElem?_eq_some_iff.1 HXq.out).1).trans HXq.out; have b0 := (blk_cell hbx8 0).1; have b1 := (blk_cell hbx8 1).1; have b2 := (blk_cell hbx8 2).1; simp only [List.getElem?_toArray, List.getElem?_cons_zero, List.getElem?_cons_succ] at b0 b1 b2; have h81 := (HC.out _ (HLq.out.trans (HA8.out.mono HLq.out.size))).1; have HBX8 := veil hbx8; clear hf8 hbx8)
                | (go_at_call 22; refine (HAB.out _).mono ?_; rintro e w9 ⟨rfl, hb9⟩; have HB9 := veil (HA8.out.trans (hb9.mono HA8.out.size)); have hbx9 := (hb9.block B4 (Array.getElem?_eq_some_iff.1 HBX8.out).1).trans HBX8.out; have m0 := (blk_cell hbx9 0).1; have m1 := (blk_cell hbx9 1).1; have m2 := (blk_cell hbx9 2).1; have htx9 := (hb9.block w8.heap.size (by simp)).trans HT8.out; have t0 := (blk_cell htx9 0).1; have t1 := (blk_cell htx9 1).1; have t2 := (blk_cell htx9 2).1; simp only [List.getElem?_toArray, List.getElem?_cons_zero, List.getElem?_cons_succ] at m0 m1 m2 t0 t1 t2; have h91 := (HC.out _ (HLq.out.trans (HB9.out.mono HLq.out.size))).1; clear hb9 hbx9 htx9))
              go_roundw
              case rel => exact ⟨j + 1, by omega, by go_num, HBE.out.trans (HB9.out.mono HBE.out.size)⟩
              case measure => simp [intOf]; omega
        · have hjl' : ¬ (j : Int) ≤ (N : Int) + 1 := by omega
          go_wp2
          go_ret
          exact ⟨rfl, HA.out.trans (HLq.out.mono HA.out.size)⟩
  · have hbb : bb (N + 1) (gh G) x.p x.r = none := by unfold bb; rw [if_neg hp]
    rw [hbb] at HBE
    simp only [bI, bK, bA, Option.isSome_none] at HBE
    clear hbb
    by_cases hp0 : x.p < 0
    · go_wp2_with (go_at_call 17; refine (HBE.out).mono ?_; rintro e w4 ⟨rfl, hb4⟩; have HL4 := veil (HL2.out.trans ((hb4.alloc hb4.size (.cells #[.bool false, .int .u64 0, .int .u8 0] 25)).mono HL2.out.size)); obtain ⟨c41, c46⟩ := HC.out _ HL4.out; clear hb4)
      go_ret
      exact ⟨by simp, HA.out.trans (HL4.out.mono HA.out.size)⟩
    · have hp1 : (N : Int) + 1 ≤ x.p := by omega
      go_wp2_with (go_at_call 17; refine (HBE.out).mono ?_; rintro e w4 ⟨rfl, hb4⟩; have HL4 := veil (HL2.out.trans ((hb4.alloc hb4.size (.cells #[.bool false, .int .u64 0, .int .u8 0] 25)).mono HL2.out.size)); obtain ⟨c41, c46⟩ := HC.out _ HL4.out; clear hb4)
      go_ret
      exact ⟨by simp, HA.out.trans (HL4.out.mono HA.out.size)⟩
end Go.Proofs.Ytlfejgjhamcahaa
