/-
  Where one that is put stands; the walk of ReadyPuts.
-/
import Derived.Test.YtfadckkebfgheaaY21
namespace Go.Proofs.Ytfadckkebfgheaa
open Go.RowKit Go.Lib
attribute [local go_sem ↓] Go.wp_at_zero Go.wp_at_succ

theorem up_over {a b c : Ke.K} (h : Ke.up a b = true) (k : Ke.up c b = false) : Ke.up a c = true := by
  obtain ⟨ae, ad, al⟩ := a
  obtain ⟨be, bd, bl⟩ := b
  obtain ⟨ce, cd, cl⟩ := c
  cases ae <;> cases be <;> cases ce <;> simp [Ke.up] at * <;> omega
theorem put_where {M : List En} {id : Nat} {k : Ke.K} (hF : Falls M) (hno : ∀ y ∈ M, y.1 ≠ id) : ∃ J, J ≤ M.length ∧ put (id, k) M = M.take J ++ (id, k) :: M.drop J ∧ (∀ j y, M[j]? = some y → Ke.up k y.2 = decide (J ≤ j)) ∧ (∀ j y, (put (id, k) M)[j]? = some y → (y.1 = id ↔ j = J)) := by
  obtain ⟨J, h1, h2, h3, h4⟩ := Dc.put_at (id, k) M
  refine ⟨J, h1, h4, fun j y hy => ?_, fun j y hy => ?_⟩
  · rcases Nat.lt_trichotomy j J with q | rfl | q
    · rw [h2 j y q hy, decide_eq_false (by omega)]
    · rw [h3 y hy, decide_eq_true (Nat.le_refl _)]
    · have hJ : J < M.length := Nat.lt_trans q (List.getElem?_eq_some_iff.1 hy).1
      have e := h3 _ (List.getElem?_eq_getElem hJ)
      rw [up_over e (falls_at hF q (List.getElem?_eq_getElem hJ) hy), decide_eq_true (by omega)]
  · rw [h4] at hy
    have hl : (M.take J).length = J := by rw [List.length_take]; omega
    rcases Nat.lt_trichotomy j J with q | rfl | q
    · rw [List.getElem?_append_left (by omega)] at hy
      have := hno y (List.mem_of_mem_take (List.mem_of_getElem? hy))
      exact ⟨fun e => absurd e this, fun e => by omega⟩
    · rw [List.getElem?_append_right (by omega), hl, Nat.sub_self] at hy
      simp at hy
      exact ⟨fun _ => rfl, fun _ => by rw [← hy]⟩
    · rw [List.getElem?_append_right (by omega), hl, show j - J = (j - J - 1) + 1 by omega, List.getElem?_cons_succ] at hy
      have := hno y (List.mem_of_mem_drop (List.mem_of_getElem? hy))
      exact ⟨fun e => absurd e this, fun e => by omega⟩
theorem cut_put {M : List En} {id : Nat} {k : Ke.K} (hnd : (M.map (·.1)).Nodup) (hno : ∀ y ∈ M, y.1 ≠ id) : cut id (put (id, k) M) = M := by
  obtain ⟨J, _, _, _, h4⟩ := Dc.put_at (id, k) M
  have h := nd_put (x := (id, k)) hnd hno
  rw [h4] at h ⊢
  rw [cut_split h, List.take_append_drop]
/-- What is so behind a Put that is not refused. -/
theorem put_facts {n most : Nat} {M : List En} {id : Int} {k : Ke.K} (hC : putC n most M id k = 0) (hnd : (M.map (·.1)).Nodup) (hF : Falls M) (hrg : ∀ y ∈ M, y.1 < n) :
    ∃ J, J ≤ M.length ∧ (∀ j y, (putL n most M id k)[j]? = some y → ((y.1 : Int) = id ↔ j = J)) ∧ (∀ j y, M[j]? = some y → Ke.up k y.2 = decide (J ≤ j)) ∧ (∀ y ∈ M, keyAt n (putL n most M id k) (y.1 : Int) = some y.2) ∧ remC n (putL n most M id k) id = 0 ∧ remL n (putL n most M id k) id = M := by
  rcases bad_cases n M id k with hb | ⟨i, rfl, hi, hr, hnb⟩
  · unfold putC at hC
    rw [if_pos hb] at hC
    cases hC
  · have hL : putL n most M (i : Int) k = put (i, k) M := by
      unfold putL
      rw [if_pos hC]
      rfl
    have hno : ∀ y ∈ M, y.1 ≠ i := by
      refine keyOf_none.1 ?_
      unfold putC at hC
      rw [if_neg hnb] at hC
      cases hk : keyOf M (i : Int).toNat with
      | none => exact hk
      | some k' =>
        rw [hk, if_pos (show (some k').isSome = true from rfl)] at hC
        cases hC
    obtain ⟨J, h1, h2, h3, h4⟩ := put_where (k := k) hF hno
    have hnd' := nd_put (x := (i, k)) hnd hno
    have hkey : keyOf (put (i, k) M) i = some k := (keyOf_some hnd').2 (mem_put.2 (.inl rfl))
    have hR : remC n (put (i, k) M) (i : Int) = 0 := by
      unfold remC
      rw [if_neg (by omega), show ((i : Int).toNat) = i from rfl, hkey]
      rfl
    rw [hL]
    refine ⟨J, h1, fun j y hy => ?_, h3, fun y hy => ?_, hR, ?_⟩
    · have := h4 j y hy
      omega
    · unfold keyAt
      have := hrg y hy
      rw [if_pos (by omega)]
      exact (keyOf_some hnd').2 (mem_put.2 (.inr hy))
    · unfold remL
      rw [if_pos hR]
      exact cut_put hnd hno
theorem IsS.rng {w : World} {sb qb gq hb gh n most turn : Nat} {M : List En} (h : IsS w sb qb gq hb gh n most turn M) : ∀ y ∈ M, y.1 < n := by
  obtain ⟨R, L, hS, hI⟩ := h
  exact InvS.rng hS hI
theorem srem_c {w : World} {sb qb gq hb gh n most turn : Nat} {M M' : List En} (h : IsS w sb qb gq hb gh n most turn M) (id : Int) (hc : remC n M id = 0) (hl : remL n M id = M') :
    Calls Try.prog 25 #[.pointer (some ⟨sb, 0, none⟩), .int .i64 id] w fun e w' => e = .returned (.int .i64 0) ∧ (∃ t, t ≤ turn + 1 ∧ IsS w' sb qb gq hb gh n most t M') ∧ Fr (OwnS sb qb gq hb gh) w w' := by
  rw [← hl, ← hc]
  exact sremove_all h id
theorem skey_c {w : World} {sb qb gq hb gh n most turn : Nat} {M : List En} (h : IsS w sb qb gq hb gh n most turn M) (id : Int) (k : Ke.K) (hk : keyAt n M id = some k) :
    Calls Try.prog 18 #[.pointer (some ⟨sb, 0, none⟩), .int .i64 id] w fun e w' => e = .returned (.tuple #[.agg #[.bool k.e, .int .u64 k.d, .int .u8 k.l], .bool true]) ∧ Below w.heap.size w w' := by
  have := skey_ok h id
  rw [hk] at this
  exact this

/-- The form of a list of ids, by what it lists. -/
theorem ids_form {w : World} {base : Nat} {v : Value} {M : List En} (h : Dc.IL w base v (idE M)) (l : Nat) (hl : M.length = l) : ∃ a cap, v = .slice a l cap ∧ (l = 0 ∨ ∃ g, a = some ⟨g, 0, none⟩ ∧ base ≤ g ∧ g < w.heap.size ∧ ∀ j y, M[j]? = some y → w.cell? ⟨g, j, none⟩ = some (.int .i64 (y.1 : Int))) := by
  obtain ⟨a, cap, e, h⟩ := il_form h
  refine ⟨a, cap, by rw [e, idE_len, hl], ?_⟩
  rcases h with h | ⟨g, e1, e2, e3, e4⟩
  · left
    have := congrArg List.length h
    rw [idE_len] at this
    rw [← hl, this]
    rfl
  · refine .inr ⟨g, e1, e2, e3, fun j y hy => ?_⟩
    rw [e4 j (by rw [idE_len]; exact (List.getElem?_eq_some_iff.1 hy).1), idE_at hy]
set_option maxHeartbeats 4000000 in
theorem puts_walk (m : Nat) (hm : m < 256) (a : Option Addr) (len cap : Nat) (D : Nat → Dq) (x : Dq) (w : World) (hlen : len < 9223372036854775808) (hd : Dqs w a len D) (hx : x.ok) :
    Calls Try.prog 9 #[.int .u8 m, .slice a len cap, .agg #[.int .i64 x.k, .int .i64 x.i, .bool x.e, .int .u64 x.d, .int .u8 x.l]] w fun e w' => e = .returned (.bool true) ∧ Below w.heap.size w w' := by
  have hN12 : m % 10 < 10 := Nat.mod_lt _ (by decide)
  have hA := (Below.refl w.heap.size w).alloc (Nat.le_refl _) (.cells #[.int .i64 x.k, .int .i64 x.i, .bool x.e, .int .u64 x.d, .int .u8 x.l] 41)
  have HA := veil hA
  have HP := veil (play_ok _ m hm a len cap hlen D (hd.below hA))
  have HB0 := veil (Bd.fresh w x 41)
  clear hd hA
  generalize m % 10 = N at *
  go_enter Try.func9, Try.ntmps9
  go_wp2_with (first
    | (go_at_call 11; refine (HP.out).mono ?_; rintro e w1 ⟨base, sb, qb, gq, hb, gh, rb, turn, v, M, rfl, h1, h3, h4, ht, hB, hL⟩; have HB := veil hB; have HBD := veil (HB0.out.below hL); have HL := veil (HA.out.trans (hL.mono (by simp))); have HO := veil h1; clear hB hL h1)
    | (go_at_call 12; refine (live_ready _).mono ?_; rintro e w2 ⟨rfl, hb2⟩; have HB2 := veil (HB.out.below hb2); have HBD2 := veil (HBD.out.below hb2); have HL2 := veil (HL.out.trans (hb2.mono HL.out.size)); clear hb2 HB HBD HL)
    | (go_at_call 14; refine (slist_ok HB2.out.q).mono ?_; rintro e w3 ⟨v3, rfl, hil, hb3⟩; obtain ⟨al, cl, rfl, hfo⟩ := ids_form hil M.length rfl; have HI3 := veil hfo; have H23 := veil hb3.size; have HBD3 := veil (HBD2.out.below hb3); have HB3 := veil (HB2.out.below hb3); have HL3 := veil (HL2.out.trans (hb3.mono HL2.out.size)); obtain ⟨c0, c1, c2, c3, c4⟩ := HBD2.out.below hb3; clear hb3 hil hfo))
  have hfit := HB3.out.q.fit
  have NO : Hid (¬ OwnS sb qb gq hb gh w.heap.size) := fun q => by have := HO.out _ q; simp at this; omega
  have HLE : Hid (putC 10 (N + 1) M x.i x.ky = 0 → (putL 10 (N + 1) M x.i x.ky).length = M.length + 1) := fun h => putL_yes h
  rcases put_cases 10 (N + 1) M x.i x.ky with hC | ⟨hC, hK⟩ | ⟨hC, hK, hM⟩ | ⟨hC, hK, hM⟩
  rotate_right
  · obtain ⟨J, hJ, f1, f2, f3, f4, f5⟩ := put_facts hC HB3.out.q.nd HB3.out.q.falls HB3.out.q.rng
    have hle := HLE.out hC
    have HPUT := veil (sput_c HB3.out.q (by omega) x hx _ hC)
    have F1 := veil f1
    have F2 := veil f2
    have F3 := veil f3
    have F4 := veil f4
    have F5 := veil f5
    clear f1 f2 f3 f4 f5 HLE
    generalize putL 10 (N + 1) M x.i x.ky = M' at *
    go_wp2_with (first
      | (go_at_call 20; refine (HPUT.out).mono ?_; rintro e w5 ⟨rfl, hq5, hf5⟩; obtain ⟨t5, ht5, hq5⟩ := hq5; have HQ5 := veil hq5; have HF5 := veil hf5; have HL5 := veil (HL3.out.trans (hf5.below HL3.out.size (fun k hk => Nat.le_trans (by simp) (HO.out k hk)))); have HBD5 := veil (HBD3.out.frame hf5 NO.out); clear hq5 hf5 c0 c1 c2 c3 c4)
      | (go_at_call 14; refine (slist_ok HQ5.out).mono ?_; rintro e w6 ⟨v6, rfl, hil, hb6⟩; obtain ⟨bl, dl', rfl, hfo⟩ := ids_form hil (M.length + 1) hle; have HI6 := veil hfo; have H56 := veil hb6; have HBD6 := veil (HBD5.out.below hb6); have HQ6 := veil (HQ5.out.below hb6); have HL6 := veil (HL5.out.trans (hb6.mono HL5.out.size)); clear hb6 hil hfo))
    have HFR := veil (HF5.out.trans (Fr.of_below' H56.out))
    have OB := veil HB2.out.q.blocks
    have HW6 : Hid (∀ W, Below w6.heap.size w6 W → IsS W sb qb gq hb gh 10 (N + 1) t5 M' ∧ Bd W w.heap.size x ∧ Below w.heap.size w W ∧ Fr (OwnS sb qb gq hb gh) w3 W ∧ ∀ j y, M[j]? = some y → ∃ g, al = some ⟨g, 0, none⟩ ∧ W.cell? ⟨g, j, none⟩ = some (.int .i64 (y.1 : Int))) := fun W hW => by
      refine ⟨HQ6.out.below hW, HBD6.out.below hW, HL6.out.trans (hW.mono HL6.out.size), HFR.out.trans (Fr.of_below' hW), fun j y hy => ?_⟩
      rcases HI3.out with h0 | ⟨g, e1, e2, e3, e4⟩
      · have := (List.getElem?_eq_some_iff.1 hy).1
        omega
      · refine ⟨g, e1, ?_⟩
        have hgn : ¬ OwnS sb qb gq hb gh g := fun q => by have := OB.out g q; omega
        rw [(HFR.out.trans (Fr.of_below' hW)).cell (a := ⟨g, j, none⟩) e3 hgn]
        exact e4 j y hy
    obtain ⟨d0, d1, d2, d3, d4⟩ := HBD6.out
    rcases HI6.out with h0 | ⟨g6, rfl, _, hg6, hc6⟩
    · omega
    have HC6 := veil hc6
    clear hc6 HQ5 HF5 HL5 HBD5 HPUT HP HL2 HBD2
    go_loopw [12, 13] (fun at' i wr => ∃ (j q : Nat) (A : Int), j ≤ M.length + 1 ∧ i = .int .i64 j ∧ at' = .int .i64 A ∧ (if J < j then A = (J : Int) else A = -1) ∧ wr = w6.drewN q) (fun _ i _ => M.length + 1 - (intOf i).toNat)
    case atStart => exact ⟨0, 0, -1, by omega, rfl, rfl, by rw [if_neg (by omega)], rfl⟩
    case round =>
      obtain ⟨j, q, A, hj, rfl, rfl, hat, rfl⟩ := hrel
      have HAT := veil hat
      clear hat
      by_cases hjl : j < M.length + 1
      · obtain ⟨y, hy⟩ : ∃ y, M'[j]? = some y := ⟨_, List.getElem?_eq_getElem (by omega)⟩
        have e1 := HC6.out j y hy
        have e2 := F1.out j y hy
        by_cases hjJ : j = J
        · have e3 : (y.1 : Int) = x.i := e2.2 hjJ
          rw [e3] at e1
          have HJ := veil hjJ
          clear e2 e3 hjJ
          go_wp2
          go_quiet (fail)
          go_wp2
          go_roundw
          case rel => exact ⟨j + 1, _, (j : Int), by omega, by go_num, rfl, by have := HJ.out; rw [if_pos (by omega), this], rfl⟩
          case measure => simp [intOf]; omega
        · have e3 : ¬ (y.1 : Int) = x.i := fun q => hjJ (e2.1 q)
          have HAT2 : Hid (if J < j + 1 then A = (J : Int) else A = -1) := by
            have h0 := HAT.out
            by_cases q : J < j
            · rw [if_pos q] at h0
              show (if J < j + 1 then A = (J : Int) else A = -1)
              rw [if_pos (by omega)]
              exact h0
            · rw [if_neg q] at h0
              show (if J < j + 1 then A = (J : Int) else A = -1)
              rw [if_neg (by omega)]
              exact h0
          go_wp2
          go_quiet (fail)
          go_wp2
          go_roundw
          case rel => exact ⟨j + 1, _, A, by omega, by go_num, rfl, HAT2.out, rfl⟩
          case measure => simp [intOf]; omega
      · have hA2 : A = (J : Int) := by
          have h0 := HAT.out
          rw [if_pos (show J < j by omega)] at h0
          exact h0
        subst hA2
        go_wp2
        go_loopw [14] (fun i wr => ∃ j : Nat, j ≤ M.length ∧ i = .int .i64 j ∧ Below w6.heap.size w6 wr) (fun i _ => M.length - (intOf i).toNat)
        case atStart => exact ⟨0, by omega, rfl, below_drewN (Below.refl _ _) _⟩
        case round =>
          obtain ⟨i, hi, rfl, hbl⟩ := hrel
          have HBL := veil hbl
          clear hbl
          by_cases hil : i < M.length
          · obtain ⟨y, hy⟩ : ∃ y, M[i]? = some y := ⟨_, List.getElem?_eq_getElem hil⟩
            obtain ⟨g, hg, e1⟩ := (HW6.out _ HBL.out).2.2.2.2 i y hy
            subst hg
            have HU := veil (F2.out i y hy)
            have HKEY := veil (skey_c (HW6.out _ HBL.out).1 (y.1 : Int) y.2 (F3.out y (List.mem_of_getElem? hy)))
            by_cases hiJ : J ≤ i
            · have HUT : Hid (Ke.up x.ky y.2 = true) := HU.out.trans (decide_eq_true hiJ)
              have hlt : ¬ (i : Int) < (J : Int) := by omega
              go_wp2_with (first
                | (go_at_call 18; refine (HKEY.out).mono ?_; rintro e w7 ⟨rfl, hb7⟩; have HB8 := veil (HBL.out.trans ((hb7.alloc hb7.size (.cells #[.bool y.2.e, .int .u64 y.2.d, .int .u8 y.2.l] 34)).mono HBL.out.size)); obtain ⟨z1, z2, z3⟩ := Bk.fresh w7 y.2 34; obtain ⟨u0, u1, u2, u3, u4⟩ := (HW6.out _ HB8.out).2.1; clear hb7)
                | (go_at_call 16; refine (rabove_c _ x.ky y.2 true HUT.out).mono ?_; rintro e w9 ⟨rfl, hb9⟩; have HB9 := veil (HB8.out.trans (hb9.mono HB8.out.size)); clear hb9 z1 z2 z3 u0 u1 u2 u3 u4))
              go_roundw
              case rel => exact ⟨i + 1, by omega, by go_num, HB9.out⟩
              case measure => simp [intOf]; omega
            · have HUT : Hid (Ke.up x.ky y.2 = false) := HU.out.trans (decide_eq_false hiJ)
              have hlt : (i : Int) < (J : Int) := by omega
              go_wp2_with (first
                | (go_at_call 18; refine (HKEY.out).mono ?_; rintro e w7 ⟨rfl, hb7⟩; have HB8 := veil (HBL.out.trans ((hb7.alloc hb7.size (.cells #[.bool y.2.e, .int .u64 y.2.d, .int .u8 y.2.l] 34)).mono HBL.out.size)); obtain ⟨z1, z2, z3⟩ := Bk.fresh w7 y.2 34; obtain ⟨u0, u1, u2, u3, u4⟩ := (HW6.out _ HB8.out).2.1; clear hb7)
                | (go_at_call 16; refine (rabove_c _ x.ky y.2 false HUT.out).mono ?_; rintro e w9 ⟨rfl, hb9⟩; have HB9 := veil (HB8.out.trans (hb9.mono HB8.out.size)); clear hb9 z1 z2 z3 u0 u1 u2 u3 u4))
              go_roundw
              case rel => exact ⟨i + 1, by omega, by go_num, HB9.out⟩
              case measure => simp [intOf]; omega
          · have hil' : ¬ (i : Int) < (M.length : Int) := by omega
            obtain ⟨u0, u1, u2, u3, u4⟩ := (HW6.out _ HBL.out).2.1
            go_wp2_with (first
              | (go_at_call 25; refine (srem_c (HW6.out _ HBL.out).1 x.i F4.out F5.out).mono ?_; rintro e w9 ⟨rfl, ⟨t9, _, hq9⟩, hf9⟩; have HB9 := veil (HB3.out.keep ((HW6.out _ HBL.out).2.2.2.1.trans hf9) hq9); have HL9 := veil ((HW6.out _ HBL.out).2.2.1.trans (hf9.below (HW6.out _ HBL.out).2.2.1.size (fun k hk => Nat.le_trans (by simp) (HO.out k hk)))); obtain ⟨x0, x1, x2, x3, x4⟩ := (HW6.out _ HBL.out).2.1.frame hf9 NO.out; clear hq9 hf9 u0 u1 u2 u3 u4)
              | (go_at_call 13; refine (same_ok _ _ _ _ _ _ _ _ _ _ _ v M HB9.out x.i).mono ?_; rintro e w10 ⟨rfl, hb10⟩; have HL10 := veil (HL9.out.trans (hb10.mono HL9.out.size)); clear hb10))
            go_ret
            exact ⟨rfl, HL10.out⟩
  · go_wp2_with (first
      | (go_at_call 20; refine (sput_c HB3.out.q (by omega) x hx _ hC).mono ?_; rintro e w5 ⟨rfl, hq5, hf5⟩; obtain ⟨t5, ht5, hq5⟩ := hq5; rw [putL_no (by rw [hC]; decide)] at hq5; have HB5 := veil (HB3.out.keep hf5 hq5); have HL5 := veil (HL3.out.trans (hf5.below HL3.out.size (fun k hk => Nat.le_trans (by simp) (HO.out k hk)))); obtain ⟨e0, e1, e2, e3, e4⟩ := HBD3.out.frame hf5 NO.out; clear hq5 hf5 c0 c1 c2 c3 c4)
      | (go_at_call 13; refine (same_ok _ _ _ _ _ _ _ _ _ _ _ v M HB5.out x.i).mono ?_; rintro e w6 ⟨rfl, hb6⟩; have HL6 := veil (HL5.out.trans (hb6.mono HL5.out.size)); clear hb6))
    go_ret
    exact ⟨rfl, HL6.out⟩
  · go_wp2_with (first
      | (go_at_call 20; refine (sput_c HB3.out.q (by omega) x hx _ hC).mono ?_; rintro e w5 ⟨rfl, hq5, hf5⟩; obtain ⟨t5, ht5, hq5⟩ := hq5; rw [putL_no (by rw [hC]; decide)] at hq5; have HB5 := veil (HB3.out.keep hf5 hq5); have HL5 := veil (HL3.out.trans (hf5.below HL3.out.size (fun k hk => Nat.le_trans (by simp) (HO.out k hk)))); obtain ⟨e0, e1, e2, e3, e4⟩ := HBD3.out.frame hf5 NO.out; clear hq5 hf5 c0 c1 c2 c3 c4)
      | (go_at_call 13; refine (same_ok _ _ _ _ _ _ _ _ _ _ _ v M HB5.out x.i).mono ?_; rintro e w6 ⟨rfl, hb6⟩; have HL6 := veil (HL5.out.trans (hb6.mono HL5.out.size)); clear hb6))
    go_ret
    exact ⟨rfl, HL6.out⟩
  · go_wp2_with (first
      | (go_at_call 20; refine (sput_c HB3.out.q (by omega) x hx _ hC).mono ?_; rintro e w5 ⟨rfl, hq5, hf5⟩; obtain ⟨t5, ht5, hq5⟩ := hq5; rw [putL_no (by rw [hC]; decide)] at hq5; have HB5 := veil (HB3.out.keep hf5 hq5); have HL5 := veil (HL3.out.trans (hf5.below HL3.out.size (fun k hk => Nat.le_trans (by simp) (HO.out k hk)))); obtain ⟨e0, e1, e2, e3, e4⟩ := HBD3.out.frame hf5 NO.out; clear hq5 hf5 c0 c1 c2 c3 c4)
      | (go_at_call 13; refine (same_ok _ _ _ _ _ _ _ _ _ _ _ v M HB5.out x.i).mono ?_; rintro e w6 ⟨rfl, hb6⟩; have HL6 := veil (HL5.out.trans (hb6.mono HL5.out.size)); clear hb6))
    go_ret
    exact ⟨rfl, HL6.out⟩
end Go.Proofs.Ytfadckkebfgheaa
