/-
  What Change answers, in cases; the walk of ReadyChanges.
-/
import Derived.Test.YtfadckkebfgheaaY22
namespace Go.Proofs.Ytfadckkebfgheaa
open Go.RowKit Go.Lib
attribute [local go_sem ↓] Go.wp_at_zero Go.wp_at_succ

theorem IsS.right {w : World} {sb qb gq hb gh n most turn : Nat} {M : List En} (h : IsS w sb qb gq hb gh n most turn M) : ∀ y ∈ M, Ke.rightK y.2 = true := by
  obtain ⟨R, L, hS, hI⟩ := h
  intro y hy
  rw [← hI.eq] at hy
  rcases mem_all.1 hy with ⟨d, s, _, e⟩ | ⟨lv, _, _, e⟩
  · rw [e]; rfl
  · rw [e]; rfl
theorem keyAt_some {n : Nat} {M : List En} {id : Int} {k : Ke.K} (h : keyAt n M id = some k) : ∃ i : Nat, id = i ∧ i < n ∧ keyOf M i = some k := by
  unfold keyAt at h
  by_cases hi : 0 ≤ id ∧ id < (n : Int)
  · rw [if_pos hi] at h
    obtain ⟨i, rfl⟩ := Int.eq_ofNat_of_zero_le hi.1
    exact ⟨i, rfl, by omega, h⟩
  · rw [if_neg hi] at h
    cases h
theorem schg_same {w : World} {sb qb gq hb gh n most turn : Nat} {M : List En} (h : IsS w sb qb gq hb gh n most turn M) (id : Int) (k : Ke.K) (hk : keyAt n M id = some k) :
    Calls Try.prog 19 #[.pointer (some ⟨sb, 0, none⟩), .int .i64 id, .agg #[.bool k.e, .int .u64 k.d, .int .u8 k.l]] w fun e w' => e = .returned (.int .i64 0) ∧ Below w.heap.size w w' := by
  obtain ⟨i, rfl, hi, hko⟩ := keyAt_some hk
  exact sChange_same h i hi k (h.right _ ((keyOf_some h.nd).1 hko)) hko
theorem schg_c {w : World} {sb qb gq hb gh n most turn : Nat} {M M' : List En} (h : IsS w sb qb gq hb gh n most turn M) (ht : turn ≤ 1000) (x : Dq) (hx : x.ok) (c : Int) (hc : chgC n M x.i x.ky = c) (hl : chgL n M x.i x.ky = M') :
    Calls Try.prog 19 #[.pointer (some ⟨sb, 0, none⟩), .int .i64 x.i, .agg #[.bool x.e, .int .u64 x.d, .int .u8 x.l]] w fun e w' => e = .returned (.int .i64 c) ∧ (∃ t, t ≤ turn + 1 ∧ IsS w' sb qb gq hb gh n most t M') ∧ Fr (OwnS sb qb gq hb gh) w w' := by
  rw [← hc, ← hl]
  exact schange_all h ht x.i x.ky hx.k
theorem skey_n {w : World} {sb qb gq hb gh n most turn : Nat} {M : List En} (h : IsS w sb qb gq hb gh n most turn M) (id : Int) (hk : keyAt n M id = none) :
    Calls Try.prog 18 #[.pointer (some ⟨sb, 0, none⟩), .int .i64 id] w fun e w' => e = .returned (.tuple #[.agg #[.bool false, .int .u64 0, .int .u8 0], .bool false]) ∧ Below w.heap.size w w' := by
  have := skey_ok h id
  rw [hk] at this
  exact this
theorem chg_none {n : Nat} {M : List En} {id : Int} (h : keyAt n M id = none) (k : Ke.K) : (chgC n M id k = 2 ∨ chgC n M id k = 6) ∧ chgL n M id k = M := by
  have key : chgC n M id k = 2 ∨ chgC n M id k = 6 := by
    unfold chgC
    by_cases hb : Bad n id k
    · rw [if_pos hb]; exact .inl rfl
    · rw [if_neg hb]
      have hi : 0 ≤ id ∧ id < (n : Int) := by unfold Bad at hb; omega
      unfold keyAt at h
      rw [if_pos hi] at h
      rw [h]
      exact .inr rfl
  refine ⟨key, ?_⟩
  unfold chgL
  rw [if_neg (by rcases key with e | e <;> rw [e] <;> decide)]
/-- Where one stands that has got another key. -/
def Stands (n : Nat) (M' : List En) (id : Int) (k : Ke.K) (J : Nat) : Prop :=
  J < M'.length ∧ ∀ j y, M'[j]? = some y → ((y.1 : Int) = id ↔ j = J) ∧ (j < J → Ke.up k y.2 = false) ∧ (J < j → Ke.up k y.2 = true) ∧ keyAt n M' (y.1 : Int) = some y.2
theorem chg_some {n : Nat} {M : List En} {id : Int} {kw : Ke.K} (h : keyAt n M id = some kw) (k : Ke.K) (hnd : (M.map (·.1)).Nodup) (hF : Falls M) (hrg : ∀ y ∈ M, y.1 < n) :
    (chgC n M id k = 2 ∧ chgL n M id k = M) ∨ (chgC n M id k = 0 ∧ kw = k ∧ chgL n M id k = M) ∨ (chgC n M id k = 0 ∧ kw ≠ k ∧ (chgL n M id k).length = M.length ∧ ∃ J, Stands n (chgL n M id k) id k J) := by
  obtain ⟨i, rfl, hi, hko⟩ := keyAt_some h
  have hko' : keyOf M (i : Int).toNat = some kw := hko
  by_cases hb : Bad n (i : Int) k
  · have e : chgC n M (i : Int) k = 2 := by unfold chgC; rw [if_pos hb]
    exact .inl ⟨e, by unfold chgL; rw [e, if_neg (by decide)]⟩
  · have e : chgC n M (i : Int) k = 0 := by unfold chgC; rw [if_neg hb, hko']; rfl
    right
    by_cases hkk : kw = k
    · exact .inl ⟨e, hkk, by unfold chgL; rw [e, if_pos rfl, hko', if_pos (by rw [hkk])]⟩
    · have hL : chgL n M (i : Int) k = put (i, k) (cut i M) := by
        unfold chgL
        rw [e, if_pos rfl, hko', if_neg (fun q => hkk (Option.some.inj q))]
        rfl
      have hno : ∀ y ∈ cut i M, y.1 ≠ i := fun y hy => (mem_cut.1 hy).2
      have hF' : Falls (cut i M) := List.Pairwise.sublist List.filter_sublist hF
      have hnd' := nd_put (x := (i, k)) (nd_cut (id := i) hnd) hno
      have hlen := len_cut hnd ((keyOf_some hnd).1 hko)
      obtain ⟨J, h1, h2, h3, h4⟩ := put_where (k := k) hF' hno
      have hlp := len_put (x := (i, k)) (M := cut i M)
      refine .inr ⟨e, hkk, by rw [hL]; omega, J, ?_⟩
      rw [hL]
      refine ⟨by omega, fun j y hy => ⟨?_, ?_, ?_, ?_⟩⟩
      · have := h4 j y hy
        omega
      · intro q
        rw [h2, List.getElem?_append_left (by rw [List.length_take]; omega), List.getElem?_take_of_lt q] at hy
        rw [h3 j y hy, decide_eq_false (by omega)]
      · intro q
        have hl : ((cut i M).take J).length = J := by rw [List.length_take]; omega
        rw [h2, List.getElem?_append_right (by omega), hl, show j - J = (j - J - 1) + 1 by omega, List.getElem?_cons_succ, List.getElem?_drop] at hy
        rw [h3 _ y hy, decide_eq_true (by omega)]
      · have hm : y ∈ put (i, k) (cut i M) := List.mem_of_getElem? hy
        have hy1 : y.1 < n := by
          rcases mem_put.1 hm with q | q
          · rw [q]; exact hi
          · exact hrg y (mem_cut.1 q).1
        unfold keyAt
        rw [if_pos (by omega)]
        exact (keyOf_some hnd').2 hm

@[go_sem high] theorem eqD (a : Ke.K) (x : Dq) (w : World) : (binOp .eql 34 (.agg #[.bool a.e, .int .u64 a.d, .int .u8 a.l]) (.agg #[.bool x.e, .int .u64 x.d, .int .u8 x.l])).run Try.prog w = .ok (.bool (Ke.same a x.ky)) w := Ke.eqB a x.ky w
set_option maxHeartbeats 8000000 in
theorem changes_walk (m : Nat) (hm : m < 256) (a : Option Addr) (len cap : Nat) (D : Nat → Dq) (x : Dq) (w : World) (hlen : len < 9223372036854775808) (hd : Dqs w a len D) (hx : x.ok) :
    Calls Try.prog 5 #[.int .u8 m, .slice a len cap, .agg #[.int .i64 x.k, .int .i64 x.i, .bool x.e, .int .u64 x.d, .int .u8 x.l]] w fun e w' => e = .returned (.bool true) ∧ Below w.heap.size w w' := by
  have hN12 : m % 10 < 10 := Nat.mod_lt _ (by decide)
  have hA := (Below.refl w.heap.size w).alloc (Nat.le_refl _) (.cells #[.int .i64 x.k, .int .i64 x.i, .bool x.e, .int .u64 x.d, .int .u8 x.l] 41)
  have HA := veil hA
  have HP := veil (play_ok _ m hm a len cap hlen D (hd.below hA))
  have HB0 := veil (Bd.fresh w x 41)
  clear hd hA
  generalize m % 10 = N at *
  go_enter Try.func5, Try.ntmps5
  go_wp2_with (first
    | (go_at_call 11; refine (HP.out).mono ?_; rintro e w1 ⟨base, sb, qb, gq, hb, gh, rb, turn, v, M, rfl, h1, h3, h4, ht, hB, hL⟩; have HB := veil hB; have HBD := veil (HB0.out.below hL); have HL := veil (HA.out.trans (hL.mono (by simp))); have HO := veil h1; clear hB hL h1)
    | (go_at_call 12; refine (live_ready _).mono ?_; rintro e w2 ⟨rfl, hb2⟩; have HB2 := veil (HB.out.below hb2); have HBD2 := veil (HBD.out.below hb2); have HL2 := veil (HL.out.trans (hb2.mono HL.out.size)); obtain ⟨c0, c1, c2, c3, c4⟩ := HBD.out.below hb2; clear hb2 HB HBD HL))
  have hfit := HB2.out.q.fit
  have NO : Hid (¬ OwnS sb qb gq hb gh w.heap.size) := fun q => by have := HO.out _ q; simp at this; omega
  have HCL : Hid (∀ W W', Below w.heap.size w W → Fr (OwnS sb qb gq hb gh) W W' → Below w.heap.size w W') := fun W W' h1 h2 => h1.trans (h2.below h1.size (fun k hk => Nat.le_trans (by simp) (HO.out k hk)))
  have HCB : Hid (∀ W W', Below w.heap.size w W → Below W.heap.size W W' → Below w.heap.size w W') := fun W W' h1 h2 => h1.trans (h2.mono h1.size)
  cases hka : keyAt 10 M x.i with
  | none =>
    obtain ⟨hcc, hcl⟩ := chg_none hka x.ky
    have HKN := veil (skey_n HB2.out.q x.i hka)
    rcases hcc with hcc | hcc
    all_goals
      go_wp2_with (first
        | (go_at_call 18; refine (HKN.out).mono ?_; rintro e w3 ⟨rfl, hb3⟩; have HX3 := veil (hb3.alloc hb3.size (.cells #[.bool false, .int .u64 0, .int .u8 0] 34)); have HB3 := veil (HB2.out.below HX3.out); have HL3 := veil (HCB.out _ _ HL2.out HX3.out); have HBD3 := veil (HBD2.out.below HX3.out); obtain ⟨d0, d1, d2, d3, d4⟩ := HBD2.out.below HX3.out; clear hb3 c0 c1 c2 c3 c4)
        | (go_at_call 19; refine (schg_c HB3.out.q (by omega) x hx _ hcc hcl).mono ?_; rintro e w4 ⟨rfl, ⟨t4, _, hq4⟩, hf4⟩; have HB4 := veil (HB3.out.keep hf4 hq4); have HL4 := veil (HCL.out _ _ HL3.out hf4); obtain ⟨e0, e1, e2, e3, e4⟩ := HBD3.out.frame hf4 NO.out; clear hq4 hf4 d0 d1 d2 d3 d4)
        | (go_at_call 13; refine (same_ok _ _ _ _ _ _ _ _ _ _ _ v M HB4.out x.i).mono ?_; rintro e w5 ⟨rfl, hb5⟩; have HL5 := veil (HCB.out _ _ HL4.out hb5); clear hb5))
      go_ret
      exact ⟨rfl, HL5.out⟩
  | some kw =>
    have HKS := veil (skey_c HB2.out.q x.i kw hka)
    have HKA := veil hka
    have hcs := chg_some hka x.ky HB2.out.q.nd HB2.out.q.falls HB2.out.q.rng
    rcases hcs with ⟨hcc, hcl⟩ | ⟨hcc, hkk, hcl⟩ | ⟨hcc, hkk, hll, J, hst⟩
    · go_wp2_with (first
        | (go_at_call 18; refine (HKS.out).mono ?_; rintro e w3 ⟨rfl, hb3⟩; have HX3 := veil (hb3.alloc hb3.size (.cells #[.bool kw.e, .int .u64 kw.d, .int .u8 kw.l] 34)); have HB3 := veil (HB2.out.below HX3.out); have HL3 := veil (HCB.out _ _ HL2.out HX3.out); have HBD3 := veil (HBD2.out.below HX3.out); have HBK3 := veil (Bk.fresh w3 kw 34); have NK : Hid (¬ OwnS sb qb gq hb gh w3.heap.size) := (fun q => by have := HB2.out.q.blocks _ q; have := hb3.size; omega); obtain ⟨d0, d1, d2, d3, d4⟩ := HBD2.out.below HX3.out; obtain ⟨b0, b1, b2⟩ := Bk.fresh w3 kw 34; clear hb3 c0 c1 c2 c3 c4)
        | (go_at_call 19; refine (schg_same HB3.out.q x.i kw HKA.out).mono ?_; rintro e w4 ⟨rfl, hb4⟩; have HB4 := veil (HB3.out.below hb4); have HL4 := veil (HCB.out _ _ HL3.out hb4); have HBD4 := veil (HBD3.out.below hb4); have HBK4 := veil (HBK3.out.below hb4); obtain ⟨e0, e1, e2, e3, e4⟩ := HBD3.out.below hb4; obtain ⟨f0, f1, f2⟩ := HBK3.out.below hb4; clear hb4 HB3 d0 d1 d2 d3 d4 b0 b1 b2)
        | (go_at_call 13; refine (same_ok _ _ _ _ _ _ _ _ _ _ _ v M HB4.out x.i).mono ?_; rintro e w5 ⟨rfl, hb5⟩; have HB5 := veil (HB4.out.below hb5); have HL5 := veil (HCB.out _ _ HL4.out hb5); have HBD5 := veil (HBD4.out.below hb5); have HBK5 := veil (HBK4.out.below hb5); obtain ⟨g0, g1, g2, g3, g4⟩ := HBD4.out.below hb5; obtain ⟨k0, k1, k2⟩ := HBK4.out.below hb5; clear hb5 HB4 e0 e1 e2 e3 e4 f0 f1 f2)
        | (go_at_call 19; refine (schg_c HB5.out.q (by omega) x hx _ hcc hcl).mono ?_; rintro e w6 ⟨rfl, ⟨t6, _, hq6⟩, hf6⟩; have HB6 := veil (HB5.out.keep hf6 hq6); clear HB5; have HL6 := veil (HCL.out _ _ HL5.out hf6); have HBD6 := veil (HBD5.out.frame hf6 NO.out); obtain ⟨m0, m1, m2, m3, m4⟩ := HBD5.out.frame hf6 NO.out; obtain ⟨n0, n1, n2⟩ := HBK5.out.frame hf6 NK.out; clear hq6 hf6 g0 g1 g2 g3 g4 k0 k1 k2)
        | (go_at_call 13; refine (same_ok _ _ _ _ _ _ _ _ _ _ _ v M HB6.out x.i).mono ?_; rintro e w7 ⟨rfl, hb7⟩; have HL7 := veil (HCB.out _ _ HL6.out hb7); clear hb7))
      go_ret
      exact ⟨rfl, HL7.out⟩
    · have hsm : Ke.same kw x.ky = true := by rw [Ke.same_eq]; exact decide_eq_true hkk
      clear hkk
      go_wp2_with (first
        | (go_at_call 18; refine (HKS.out).mono ?_; rintro e w3 ⟨rfl, hb3⟩; have HX3 := veil (hb3.alloc hb3.size (.cells #[.bool kw.e, .int .u64 kw.d, .int .u8 kw.l] 34)); have HB3 := veil (HB2.out.below HX3.out); have HL3 := veil (HCB.out _ _ HL2.out HX3.out); have HBD3 := veil (HBD2.out.below HX3.out); have HBK3 := veil (Bk.fresh w3 kw 34); have NK : Hid (¬ OwnS sb qb gq hb gh w3.heap.size) := (fun q => by have := HB2.out.q.blocks _ q; have := hb3.size; omega); obtain ⟨d0, d1, d2, d3, d4⟩ := HBD2.out.below HX3.out; obtain ⟨b0, b1, b2⟩ := Bk.fresh w3 kw 34; clear hb3 c0 c1 c2 c3 c4)
        | (go_at_call 19; refine (schg_same HB3.out.q x.i kw HKA.out).mono ?_; rintro e w4 ⟨rfl, hb4⟩; have HB4 := veil (HB3.out.below hb4); have HL4 := veil (HCB.out _ _ HL3.out hb4); have HBD4 := veil (HBD3.out.below hb4); have HBK4 := veil (HBK3.out.below hb4); obtain ⟨e0, e1, e2, e3, e4⟩ := HBD3.out.below hb4; obtain ⟨f0, f1, f2⟩ := HBK3.out.below hb4; clear hb4 HB3 d0 d1 d2 d3 d4 b0 b1 b2)
        | (go_at_call 13; refine (same_ok _ _ _ _ _ _ _ _ _ _ _ v M HB4.out x.i).mono ?_; rintro e w5 ⟨rfl, hb5⟩; have HB5 := veil (HB4.out.below hb5); have HL5 := veil (HCB.out _ _ HL4.out hb5); have HBD5 := veil (HBD4.out.below hb5); have HBK5 := veil (HBK4.out.below hb5); obtain ⟨g0, g1, g2, g3, g4⟩ := HBD4.out.below hb5; obtain ⟨k0, k1, k2⟩ := HBK4.out.below hb5; clear hb5 HB4 e0 e1 e2 e3 e4 f0 f1 f2)
        | (go_at_call 19; refine (schg_c HB5.out.q (by omega) x hx _ hcc hcl).mono ?_; rintro e w6 ⟨rfl, ⟨t6, _, hq6⟩, hf6⟩; have HB6 := veil (HB5.out.keep hf6 hq6); clear HB5; have HL6 := veil (HCL.out _ _ HL5.out hf6); have HBD6 := veil (HBD5.out.frame hf6 NO.out); obtain ⟨m0, m1, m2, m3, m4⟩ := HBD5.out.frame hf6 NO.out; obtain ⟨n0, n1, n2⟩ := HBK5.out.frame hf6 NK.out; clear hq6 hf6 g0 g1 g2 g3 g4 k0 k1 k2)
        | (go_at_call 13; refine (same_ok _ _ _ _ _ _ _ _ _ _ _ v M HB6.out x.i).mono ?_; rintro e w7 ⟨rfl, hb7⟩; have HL7 := veil (HCB.out _ _ HL6.out hb7); clear hb7))
      go_ret
      exact ⟨rfl, HL7.out⟩
    · have hsm : Ke.same kw x.ky = false := by rw [Ke.same_eq]; exact decide_eq_false hkk
      obtain ⟨M', hcl⟩ : ∃ M', chgL 10 M x.i x.ky = M' := ⟨_, rfl⟩
      rw [hcl] at hst hll
      have HST := veil hst
      clear hkk hst
      go_wp2_with (first
        | (go_at_call 18; refine (HKS.out).mono ?_; rintro e w3 ⟨rfl, hb3⟩; have HX3 := veil (hb3.alloc hb3.size (.cells #[.bool kw.e, .int .u64 kw.d, .int .u8 kw.l] 34)); have HB3 := veil (HB2.out.below HX3.out); have HL3 := veil (HCB.out _ _ HL2.out HX3.out); have HBD3 := veil (HBD2.out.below HX3.out); have HBK3 := veil (Bk.fresh w3 kw 34); have NK : Hid (¬ OwnS sb qb gq hb gh w3.heap.size) := (fun q => by have := HB2.out.q.blocks _ q; have := hb3.size; omega); obtain ⟨d0, d1, d2, d3, d4⟩ := HBD2.out.below HX3.out; obtain ⟨b0, b1, b2⟩ := Bk.fresh w3 kw 34; clear hb3 c0 c1 c2 c3 c4)
        | (go_at_call 19; refine (schg_same HB3.out.q x.i kw HKA.out).mono ?_; rintro e w4 ⟨rfl, hb4⟩; have HB4 := veil (HB3.out.below hb4); have HL4 := veil (HCB.out _ _ HL3.out hb4); have HBD4 := veil (HBD3.out.below hb4); have HBK4 := veil (HBK3.out.below hb4); obtain ⟨e0, e1, e2, e3, e4⟩ := HBD3.out.below hb4; obtain ⟨f0, f1, f2⟩ := HBK3.out.below hb4; clear hb4 HB3 d0 d1 d2 d3 d4 b0 b1 b2)
        | (go_at_call 13; refine (same_ok _ _ _ _ _ _ _ _ _ _ _ v M HB4.out x.i).mono ?_; rintro e w5 ⟨rfl, hb5⟩; have HB5 := veil (HB4.out.below hb5); have HL5 := veil (HCB.out _ _ HL4.out hb5); have HBD5 := veil (HBD4.out.below hb5); have HBK5 := veil (HBK4.out.below hb5); obtain ⟨g0, g1, g2, g3, g4⟩ := HBD4.out.below hb5; obtain ⟨k0, k1, k2⟩ := HBK4.out.below hb5; clear hb5 HB4 e0 e1 e2 e3 e4 f0 f1 f2)
        | (go_at_call 19; refine (schg_c HB5.out.q (by omega) x hx _ hcc hcl).mono ?_; rintro e w6 ⟨rfl, ⟨t6, _, hq6⟩, hf6⟩; have HQ6 := veil hq6; clear HB5; have HL6 := veil (HCL.out _ _ HL5.out hf6); have HBD6 := veil (HBD5.out.frame hf6 NO.out); obtain ⟨m0, m1, m2, m3, m4⟩ := HBD5.out.frame hf6 NO.out; obtain ⟨n0, n1, n2⟩ := HBK5.out.frame hf6 NK.out; clear hq6 hf6 g0 g1 g2 g3 g4 k0 k1 k2)
        | (go_at_call 14; refine (slist_ok HQ6.out).mono ?_; rintro e w7 ⟨v7, rfl, hil, hb7⟩; obtain ⟨al, cl, rfl, hfo⟩ := ids_form hil M.length hll; have HI7 := veil hfo; have HBD7 := veil (HBD6.out.below hb7); have HQ7 := veil (HQ6.out.below hb7); have HL7 := veil (HCB.out _ _ HL6.out hb7); clear hb7 hil hfo m0 m1 m2 m3 m4 n0 n1 n2))
      have HW7 : Hid (∀ W, Below w7.heap.size w7 W → IsS W sb qb gq hb gh 10 (N + 1) t6 M' ∧ Bd W w.heap.size x ∧ Below w.heap.size w W ∧ ∀ j y, M'[j]? = some y → ∃ g, al = some ⟨g, 0, none⟩ ∧ W.cell? ⟨g, j, none⟩ = some (.int .i64 (y.1 : Int))) := fun W hW => by
        refine ⟨HQ7.out.below hW, HBD7.out.below hW, HL7.out.trans (hW.mono HL7.out.size), fun j y hy => ?_⟩
        rcases HI7.out with h0 | ⟨g, e1, e2, e3, e4⟩
        · have := (List.getElem?_eq_some_iff.1 hy).1
          omega
        · refine ⟨g, e1, ?_⟩
          rw [hW.cell (p := ⟨g, j, none⟩) e3]
          exact e4 j y hy
      have hJl : J < M.length := by have := HST.out.1; omega
      rcases HI7.out with h0 | ⟨g, rfl, _, hg2, _⟩
      · omega
      have HWC : Hid (∀ W, Below w7.heap.size w7 W → ∀ j y, M'[j]? = some y → W.cell? ⟨g, j, none⟩ = some (.int .i64 (y.1 : Int))) := fun W hW j y hy => by
        obtain ⟨g', e, h⟩ := (HW7.out W hW).2.2.2 j y hy
        simp only [Option.some.injEq, Addr.mk.injEq, and_true] at e
        rw [e]
        exact h
      clear HP HL2 HBD2 HB2 HI7 HB0
      go_loopw [15, 16] (fun bh i wr => ∃ (j : Nat) (B : Bool), j ≤ M.length ∧ i = .int .i64 j ∧ bh = .bool B ∧ (B = true ↔ J < j) ∧ Below w7.heap.size w7 wr) (fun _ i _ => M.length - (intOf i).toNat)
      case atStart => exact ⟨0, false, by omega, rfl, rfl, ⟨fun q => (by cases q), fun q => by omega⟩, Below.refl _ _⟩
      case round =>
        obtain ⟨j, B, hj, rfl, rfl, hBj, hbl⟩ := hrel
        have HBL := veil hbl
        clear hbl
        by_cases hjl : j < M.length
        · have hjl' : (j : Int) < (M.length : Int) := by omega
          obtain ⟨y, hy⟩ : ∃ y, M'[j]? = some y := ⟨_, List.getElem?_eq_getElem (by omega)⟩
          have HY := veil hy
          obtain ⟨s1, s2, s3, s4⟩ := HST.out.2 j y hy
          have e1 := HWC.out _ HBL.out j y hy
          have HKEY := veil (skey_c (HW7.out _ HBL.out).1 (y.1 : Int) y.2 s4)
          rcases Nat.lt_trichotomy j J with q | q | q
          · have HU := veil (s2 q)
            have hB : B = false := by cases B with
              | false => rfl
              | true => have := hBj.1 rfl; omega
            subst hB
            have hne : ¬ (y.1 : Int) = x.i := fun e => by have := s1.1 e; omega
            have HQ := veil q
            clear s1 s2 s3 s4 hBj hy q
            go_wp2_with (go_at_call 18; refine (HKEY.out).mono ?_; rintro e w8 ⟨rfl, hb8⟩; have HB8 := veil (HBL.out.trans ((hb8.alloc hb8.size (.cells #[.bool y.2.e, .int .u64 y.2.d, .int .u8 y.2.l] 34)).mono HBL.out.size)); obtain ⟨z1, z2, z3⟩ := Bk.fresh w8 y.2 34; obtain ⟨u0, u1, u2, u3, u4⟩ := (HW7.out _ HB8.out).2.1; have e5 := HWC.out _ HB8.out j y HY.out; clear e1; clear hb8)
            go_quiet (fail)
            go_wp2_with (go_at_call 16; refine (rabove_c _ x.ky y.2 false HU.out).mono ?_; rintro e w9 ⟨rfl, hb9⟩; have HB9 := veil ((below_drewN HB8.out _).trans (hb9.mono HB8.out.size)); clear hb9 z1 z2 z3 u0 u1 u2 u3 u4)
            go_roundw
            case rel => exact ⟨j + 1, false, by omega, by go_num, rfl, ⟨fun q => (by cases q), fun q => by have := HQ.out; omega⟩, HB9.out⟩
            case measure => simp [intOf]; omega
          · have hxe : (y.1 : Int) = x.i := s1.2 q
            have HQ := veil q
            have HXE := veil hxe
            clear s1 s2 s3 s4 hBj hy q hxe
            go_wp2_with (go_at_call 18; refine (HKEY.out).mono ?_; rintro e w8 ⟨rfl, hb8⟩; have HB8 := veil (HBL.out.trans ((hb8.alloc hb8.size (.cells #[.bool y.2.e, .int .u64 y.2.d, .int .u8 y.2.l] 34)).mono HBL.out.size)); obtain ⟨z1, z2, z3⟩ := Bk.fresh w8 y.2 34; obtain ⟨u0, u1, u2, u3, u4⟩ := (HW7.out _ HB8.out).2.1; have e5 := HWC.out _ HB8.out j y HY.out; rw [HXE.out] at e5; clear e1; clear hb8)
            go_quiet (fail)
            go_wp2
            go_roundw
            case rel => exact ⟨j + 1, true, by omega, by go_num, rfl, ⟨fun _ => by have := HQ.out; omega, fun _ => rfl⟩, below_drewN HB8.out _⟩
            case measure => simp [intOf]; omega
          · have HU := veil (s3 q)
            have hB : B = true := hBj.2 q
            subst hB
            have hne : ¬ (y.1 : Int) = x.i := fun e => by have := s1.1 e; omega
            have HQ := veil q
            clear s1 s2 s3 s4 hBj hy q
            go_wp2_with (go_at_call 18; refine (HKEY.out).mono ?_; rintro e w8 ⟨rfl, hb8⟩; have HB8 := veil (HBL.out.trans ((hb8.alloc hb8.size (.cells #[.bool y.2.e, .int .u64 y.2.d, .int .u8 y.2.l] 34)).mono HBL.out.size)); obtain ⟨z1, z2, z3⟩ := Bk.fresh w8 y.2 34; obtain ⟨u0, u1, u2, u3, u4⟩ := (HW7.out _ HB8.out).2.1; have e5 := HWC.out _ HB8.out j y HY.out; clear e1; clear hb8)
            go_quiet (fail)
            go_wp2_with (go_at_call 16; refine (rabove_c _ x.ky y.2 true HU.out).mono ?_; rintro e w9 ⟨rfl, hb9⟩; have HB9 := veil ((below_drewN HB8.out _).trans (hb9.mono HB8.out.size)); clear hb9 z1 z2 z3 u0 u1 u2 u3 u4)
            go_roundw
            case rel => exact ⟨j + 1, true, by omega, by go_num, rfl, ⟨fun _ => by have := HQ.out; omega, fun _ => rfl⟩, HB9.out⟩
            case measure => simp [intOf]; omega
        · have hjl' : ¬ (j : Int) < (M.length : Int) := by omega
          have hB : B = true := hBj.2 (by omega)
          subst hB
          have HL8 := veil (HW7.out _ HBL.out).2.2.1
          go_wp2
          go_ret
          exact ⟨rfl, HL8.out⟩
end Go.Proofs.Ytfadckkebfgheaa
