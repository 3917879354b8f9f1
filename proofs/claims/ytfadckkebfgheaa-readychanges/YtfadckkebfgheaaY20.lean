/-
  A box of a deed; what Put answers, in cases; the walk of ReadyFull.
-/
import Derived.Test.YtfadckkebfgheaaY17
namespace Go.Proofs.Ytfadckkebfgheaa
open Go.RowKit Go.Lib
attribute [local go_sem ↓] Go.wp_at_zero Go.wp_at_succ

/-- A box of a deed. -/
structure Bd (w : World) (b : Nat) (x : Dq) : Prop where
  c0 : w.cell? ⟨b, 0, none⟩ = some (.int .i64 x.k)
  c1 : w.cell? ⟨b, 1, none⟩ = some (.int .i64 x.i)
  c2 : w.cell? ⟨b, 2, none⟩ = some (.bool x.e)
  c3 : w.cell? ⟨b, 3, none⟩ = some (.int .u64 x.d)
  c4 : w.cell? ⟨b, 4, none⟩ = some (.int .u8 x.l)
section
variable {w w' : World} {b : Nat} {x : Dq}
theorem Bd.fresh (w : World) (x : Dq) (t : TypeId) : Bd (w.alloc (.cells #[.int .i64 x.k, .int .i64 x.i, .bool x.e, .int .u64 x.d, .int .u8 x.l] t)) w.heap.size x :=
  ⟨by rw [Ph.cell_new]; rfl, by rw [Ph.cell_new]; rfl, by rw [Ph.cell_new]; rfl, by rw [Ph.cell_new]; rfl, by rw [Ph.cell_new]; rfl⟩
theorem Bd.lt (h : Bd w b x) : b < w.heap.size := World.block_lt_of_cell? w ⟨b, 0, none⟩ h.c0
theorem Bd.below (h : Bd w b x) (hb : Below w.heap.size w w') : Bd w' b x :=
  ⟨(hb.cell (p := ⟨b, 0, none⟩) h.lt).trans h.c0, (hb.cell (p := ⟨b, 1, none⟩) h.lt).trans h.c1, (hb.cell (p := ⟨b, 2, none⟩) h.lt).trans h.c2, (hb.cell (p := ⟨b, 3, none⟩) h.lt).trans h.c3, (hb.cell (p := ⟨b, 4, none⟩) h.lt).trans h.c4⟩
theorem Bd.frame {S : Nat → Prop} (h : Bd w b x) (hf : Fr S w w') (hn : ¬ S b) : Bd w' b x :=
  ⟨(hf.cell (a := ⟨b, 0, none⟩) h.lt hn).trans h.c0, (hf.cell (a := ⟨b, 1, none⟩) h.lt hn).trans h.c1, (hf.cell (a := ⟨b, 2, none⟩) h.lt hn).trans h.c2, (hf.cell (a := ⟨b, 3, none⟩) h.lt hn).trans h.c3, (hf.cell (a := ⟨b, 4, none⟩) h.lt hn).trans h.c4⟩
end
theorem put_cases (n most : Nat) (M : List En) (id : Int) (k : Ke.K) : putC n most M id k = 2 ∨ (putC n most M id k = 5 ∧ (keyAt n M id).isSome = true) ∨ (putC n most M id k = 4 ∧ (keyAt n M id).isSome = false ∧ M.length = most) ∨ (putC n most M id k = 0 ∧ (keyAt n M id).isSome = false ∧ M.length ≠ most) := by
  unfold putC keyAt
  by_cases hb : Bad n id k
  · rw [if_pos hb]; exact .inl rfl
  · rw [if_neg hb]
    have hi : 0 ≤ id ∧ id < (n : Int) := by unfold Bad at hb; omega
    rw [if_pos hi]
    right
    cases hk : keyOf M id.toNat with
    | some k' => left; exact ⟨rfl, rfl⟩
    | none =>
      right
      by_cases hl : M.length = most
      · left; simp [hl]
      · right; simp [hl]
theorem putL_no {n most : Nat} {M : List En} {id : Int} {k : Ke.K} (h : putC n most M id k ≠ 0) : putL n most M id k = M := by unfold putL; rw [if_neg h]
theorem putL_yes {n most : Nat} {M : List En} {id : Int} {k : Ke.K} (h : putC n most M id k = 0) : (putL n most M id k).length = M.length + 1 := by unfold putL; rw [if_pos h]; exact len_put
/-- The program's set kept its list: both still hold the same. -/
theorem Both.keep {w w' : World} {base sb qb gq hb gh rb n most turn t : Nat} {v : Value} {M : List En} (h : Both w base sb qb gq hb gh rb n most turn v M) (hf : Fr (OwnS sb qb gq hb gh) w w') (hq : IsS w' sb qb gq hb gh n most t M) : Both w' base sb qb gq hb gh rb n most t v M :=
  ⟨hq, h.refOf hf, h.ob, h.nb⟩

theorem sput_c {w : World} {sb qb gq hb gh n most turn : Nat} {M : List En} (h : IsS w sb qb gq hb gh n most turn M) (ht : turn ≤ 1000) (x : Dq) (hx : x.ok) (c : Int) (hc : putC n most M x.i x.ky = c) :
    Calls Try.prog 20 #[.pointer (some ⟨sb, 0, none⟩), .int .i64 x.i, .agg #[.bool x.e, .int .u64 x.d, .int .u8 x.l]] w fun e w' => e = .returned (.int .i64 c) ∧ (∃ t, t ≤ turn + 1 ∧ IsS w' sb qb gq hb gh n most t (putL n most M x.i x.ky)) ∧ Fr (OwnS sb qb gq hb gh) w w' := by
  rw [← hc]
  exact sput_all h ht x.i x.ky hx.k
theorem slen_c {w : World} {sb qb gq hb gh n most turn : Nat} {M : List En} (h : IsS w sb qb gq hb gh n most turn M) (l : Int) (hl : (M.length : Int) = l) :
    Calls Try.prog 17 #[.pointer (some ⟨sb, 0, none⟩)] w fun e w' => e = .returned (.int .i64 l) ∧ Below w.heap.size w w' := by
  rw [← hl]
  exact slenS h
set_option maxHeartbeats 4000000 in
theorem full_walk (m : Nat) (hm : m < 256) (a : Option Addr) (len cap : Nat) (D : Nat → Dq) (x : Dq) (w : World) (hlen : len < 9223372036854775808) (hd : Dqs w a len D) (hx : x.ok) :
    Calls Try.prog 6 #[.int .u8 m, .slice a len cap, .agg #[.int .i64 x.k, .int .i64 x.i, .bool x.e, .int .u64 x.d, .int .u8 x.l]] w fun e w' => e = .returned (.bool true) ∧ Below w.heap.size w w' := by
  have hr := rem10 m
  have hN12 : m % 10 < 10 := Nat.mod_lt _ (by decide)
  have hA := (Below.refl w.heap.size w).alloc (Nat.le_refl _) (.cells #[.int .i64 x.k, .int .i64 x.i, .bool x.e, .int .u64 x.d, .int .u8 x.l] 41)
  have HA := veil hA
  have HP := veil (play_ok _ m hm a len cap hlen D (hd.below hA))
  have HB0 := veil (Bd.fresh w x 41)
  clear hd hA
  generalize m % 10 = N at *
  go_enter Try.func6, Try.ntmps6
  go_wp2_with (first
    | (go_at_call 11; refine (HP.out).mono ?_; rintro e w1 ⟨base, sb, qb, gq, hb, gh, rb, turn, v, M, rfl, h1, h3, h4, ht, hB, hL⟩; have HB := veil hB; have HBD := veil (HB0.out.below hL); have HL := veil (HA.out.trans (hL.mono (by simp))); have HO := veil h1; clear hB hL h1)
    | (go_at_call 12; refine (live_ready _).mono ?_; rintro e w2 ⟨rfl, hb2⟩; have HB2 := veil (HB.out.below hb2); have HBD2 := veil (HBD.out.below hb2); have HL2 := veil (HL.out.trans (hb2.mono HL.out.size)); clear hb2))
  have hfit := HB2.out.q.fit
  have NO : Hid (¬ OwnS sb qb gq hb gh w.heap.size) := fun q => by have := HO.out _ q; simp at this; omega
  have hf1 : (M.length : Int) ≤ (N : Int) + 1 := by omega
  rcases put_cases 10 (N + 1) M x.i x.ky with hC | ⟨hC, hK⟩ | ⟨hC, hK, hM⟩ | ⟨hC, hK, hM⟩
  · go_wp2_with (first
      | (go_at_call 17; refine (slenS HB2.out.q).mono ?_; rintro e w3 ⟨rfl, hb3⟩; have HB3 := veil (HB2.out.below hb3); have HL3 := veil (HL2.out.trans (hb3.mono HL2.out.size)); have HBD3 := veil (HBD2.out.below hb3); obtain ⟨c0, c1, c2, c3, c4⟩ := HBD2.out.below hb3; clear hb3 HB2 HL2 HBD2)
      | (go_at_call 18; refine (skey_ok HB3.out.q x.i).mono ?_; rintro e w4 ⟨rfl, hb4⟩; have hbx := hb4.trans (((Below.refl w4.heap.size w4).alloc (Nat.le_refl _) (.cells #[.bool (kz (keyAt 10 M x.i)).e, .int .u64 (kz (keyAt 10 M x.i)).d, .int .u8 (kz (keyAt 10 M x.i)).l] 34)).mono hb4.size); have HB4 := veil (HB3.out.below hbx); have HL4 := veil (HL3.out.trans (hbx.mono HL3.out.size)); have HBD4 := veil (HBD3.out.below hbx); obtain ⟨d0, d1, d2, d3, d4⟩ := HBD3.out.below hbx; clear hb4 hbx HB3 HL3 HBD3 c0 c1 c2 c3 c4)
      | (go_at_call 20; refine (sput_c HB4.out.q (by omega) x hx _ hC).mono ?_; rintro e w5 ⟨rfl, hq5, hf5⟩; obtain ⟨t5, ht5, hq5⟩ := hq5; rw [putL_no (by rw [hC]; decide)] at hq5; have HB5 := veil (HB4.out.keep hf5 hq5); have HL5 := veil (HL4.out.trans (hf5.below HL4.out.size (fun k hk => Nat.le_trans (by simp) (HO.out k hk)))); obtain ⟨e0, e1, e2, e3, e4⟩ := HBD4.out.frame hf5 NO.out; clear hq5 hf5 d0 d1 d2 d3 d4 HB4 HL4)
      | (go_at_call 13; refine (same_ok _ _ _ _ _ _ _ _ _ _ _ v M HB5.out x.i).mono ?_; rintro e w6 ⟨rfl, hb6⟩; have HL6 := veil (HL5.out.trans (hb6.mono HL5.out.size)); clear hb6))
    go_ret
    exact ⟨by first | rfl | simp [*], HL6.out⟩
  · go_wp2_with (first
      | (go_at_call 17; refine (slenS HB2.out.q).mono ?_; rintro e w3 ⟨rfl, hb3⟩; have HB3 := veil (HB2.out.below hb3); have HL3 := veil (HL2.out.trans (hb3.mono HL2.out.size)); have HBD3 := veil (HBD2.out.below hb3); obtain ⟨c0, c1, c2, c3, c4⟩ := HBD2.out.below hb3; clear hb3 HB2 HL2 HBD2)
      | (go_at_call 18; refine (skey_ok HB3.out.q x.i).mono ?_; rintro e w4 ⟨rfl, hb4⟩; have hbx := hb4.trans (((Below.refl w4.heap.size w4).alloc (Nat.le_refl _) (.cells #[.bool (kz (keyAt 10 M x.i)).e, .int .u64 (kz (keyAt 10 M x.i)).d, .int .u8 (kz (keyAt 10 M x.i)).l] 34)).mono hb4.size); have HB4 := veil (HB3.out.below hbx); have HL4 := veil (HL3.out.trans (hbx.mono HL3.out.size)); have HBD4 := veil (HBD3.out.below hbx); obtain ⟨d0, d1, d2, d3, d4⟩ := HBD3.out.below hbx; clear hb4 hbx HB3 HL3 HBD3 c0 c1 c2 c3 c4)
      | (go_at_call 20; refine (sput_c HB4.out.q (by omega) x hx _ hC).mono ?_; rintro e w5 ⟨rfl, hq5, hf5⟩; obtain ⟨t5, ht5, hq5⟩ := hq5; rw [putL_no (by rw [hC]; decide)] at hq5; have HB5 := veil (HB4.out.keep hf5 hq5); have HL5 := veil (HL4.out.trans (hf5.below HL4.out.size (fun k hk => Nat.le_trans (by simp) (HO.out k hk)))); obtain ⟨e0, e1, e2, e3, e4⟩ := HBD4.out.frame hf5 NO.out; clear hq5 hf5 d0 d1 d2 d3 d4 HB4 HL4)
      | (go_at_call 13; refine (same_ok _ _ _ _ _ _ _ _ _ _ _ v M HB5.out x.i).mono ?_; rintro e w6 ⟨rfl, hb6⟩; have HL6 := veil (HL5.out.trans (hb6.mono HL5.out.size)); clear hb6))
    go_ret
    exact ⟨by first | rfl | simp [*], HL6.out⟩
  · have hf2 : (M.length : Int) = (N : Int) + 1 := by omega
    go_wp2_with (first
      | (go_at_call 17; refine (slenS HB2.out.q).mono ?_; rintro e w3 ⟨rfl, hb3⟩; have HB3 := veil (HB2.out.below hb3); have HL3 := veil (HL2.out.trans (hb3.mono HL2.out.size)); have HBD3 := veil (HBD2.out.below hb3); obtain ⟨c0, c1, c2, c3, c4⟩ := HBD2.out.below hb3; clear hb3 HB2 HL2 HBD2)
      | (go_at_call 18; refine (skey_ok HB3.out.q x.i).mono ?_; rintro e w4 ⟨rfl, hb4⟩; have hbx := hb4.trans (((Below.refl w4.heap.size w4).alloc (Nat.le_refl _) (.cells #[.bool (kz (keyAt 10 M x.i)).e, .int .u64 (kz (keyAt 10 M x.i)).d, .int .u8 (kz (keyAt 10 M x.i)).l] 34)).mono hb4.size); have HB4 := veil (HB3.out.below hbx); have HL4 := veil (HL3.out.trans (hbx.mono HL3.out.size)); have HBD4 := veil (HBD3.out.below hbx); obtain ⟨d0, d1, d2, d3, d4⟩ := HBD3.out.below hbx; clear hb4 hbx HB3 HL3 HBD3 c0 c1 c2 c3 c4)
      | (go_at_call 20; refine (sput_c HB4.out.q (by omega) x hx _ hC).mono ?_; rintro e w5 ⟨rfl, hq5, hf5⟩; obtain ⟨t5, ht5, hq5⟩ := hq5; rw [putL_no (by rw [hC]; decide)] at hq5; have HB5 := veil (HB4.out.keep hf5 hq5); have HL5 := veil (HL4.out.trans (hf5.below HL4.out.size (fun k hk => Nat.le_trans (by simp) (HO.out k hk)))); obtain ⟨e0, e1, e2, e3, e4⟩ := HBD4.out.frame hf5 NO.out; clear hq5 hf5 d0 d1 d2 d3 d4 HB4 HL4)
      | (go_at_call 13; refine (same_ok _ _ _ _ _ _ _ _ _ _ _ v M HB5.out x.i).mono ?_; rintro e w6 ⟨rfl, hb6⟩; have HL6 := veil (HL5.out.trans (hb6.mono HL5.out.size)); clear hb6))
    go_ret
    exact ⟨by first | rfl | simp [*], HL6.out⟩
  · have hf2 : (M.length : Int) < (N : Int) + 1 := by omega
    go_wp2_with (first
      | (go_at_call 17; refine (slen_c HQ5.out ((M.length : Int) + 1) (by rw [putL_yes hC]; omega)).mono ?_; rintro e w6 ⟨rfl, hb6⟩; have HL6 := veil (HL5.out.trans (hb6.mono HL5.out.size)); clear hb6)
      | (go_at_call 17; refine (slenS HB2.out.q).mono ?_; rintro e w3 ⟨rfl, hb3⟩; have HB3 := veil (HB2.out.below hb3); have HL3 := veil (HL2.out.trans (hb3.mono HL2.out.size)); have HBD3 := veil (HBD2.out.below hb3); obtain ⟨c0, c1, c2, c3, c4⟩ := HBD2.out.below hb3; clear hb3 HB2 HL2 HBD2)
      | (go_at_call 18; refine (skey_ok HB3.out.q x.i).mono ?_; rintro e w4 ⟨rfl, hb4⟩; have hbx := hb4.trans (((Below.refl w4.heap.size w4).alloc (Nat.le_refl _) (.cells #[.bool (kz (keyAt 10 M x.i)).e, .int .u64 (kz (keyAt 10 M x.i)).d, .int .u8 (kz (keyAt 10 M x.i)).l] 34)).mono hb4.size); have HB4 := veil (HB3.out.below hbx); have HL4 := veil (HL3.out.trans (hbx.mono HL3.out.size)); have HBD4 := veil (HBD3.out.below hbx); obtain ⟨d0, d1, d2, d3, d4⟩ := HBD3.out.below hbx; clear hb4 hbx HB3 HL3 HBD3 c0 c1 c2 c3 c4)
      | (go_at_call 20; refine (sput_c HB4.out.q (by omega) x hx _ hC).mono ?_; rintro e w5 ⟨rfl, hq5, hf5⟩; obtain ⟨t5, ht5, hq5⟩ := hq5; have HQ5 := veil hq5; have HL5 := veil (HL4.out.trans (hf5.below HL4.out.size (fun k hk => Nat.le_trans (by simp) (HO.out k hk)))); clear hq5 hf5 d0 d1 d2 d3 d4 HL4))
    go_ret
    exact ⟨by first | rfl | simp [*], HL6.out⟩
end Go.Proofs.Ytfadckkebfgheaa
