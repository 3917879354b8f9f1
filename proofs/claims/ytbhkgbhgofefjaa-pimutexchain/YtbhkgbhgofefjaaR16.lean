/- PimutexChain's walk. -/
import Derived.Test.YtbhkgbhgofefjaaR14
namespace Go.Proofs.Ytbhkgbhgofefjaa
open Go.RowKit
set_option linter.unusedVariables false
theorem up_max (a b c : K) (h : up c a = false) : up c (maxK a b) = false := by
  unfold maxK up at *
  obtain ⟨ae, ad, al⟩ := a
  obtain ⟨be, bd, bl⟩ := b
  obtain ⟨ce, cd, cl⟩ := c
  revert h
  cases ae <;> cases be <;> cases ce <;> simp <;> split <;> simp <;> omega
theorem up_max' (a b : K) : up b (maxK a b) = false := by
  unfold maxK up
  obtain ⟨ae, ad, al⟩ := a
  obtain ⟨be, bd, bl⟩ := b
  cases ae <;> cases be <;> simp <;> split <;> simp <;> omega
theorem up_fold (f : Nat → K) : ∀ (l : List Nat) (k : K) (c : K), up c k = false → up c (l.foldl (fun k x => maxK k (f x)) k) = false
  | [], k, c, h => h
  | x :: l, k, c, h => up_fold f l _ c (up_max k (f x) c h)
theorem up_mem (f : Nat → K) : ∀ (l : List Nat) (k : K) (x : Nat), x ∈ l → up (f x) (l.foldl (fun k x => maxK k (f x)) k) = false
  | y :: l, k, x, h => by
    rcases List.mem_cons.1 h with rfl | q
    · exact up_fold f l _ _ (up_max' k (f x))
    · exact up_mem f l _ x q
theorem key_edge {T : List Th} {L : List Lk} (h : Acyc L) {t s : Nat} (e : Edge L t s) : up (keyOf T L t) (keyOf T L s) = false := by
  rw [keyOf_eq h s]
  exact up_mem (keyOf T L) _ _ t (mem_behind.2 e)
/-- Whom one waits for. -/
theorem Fine.waits_edge {T : List Th} {L : List Lk} (f : Fine T L) {t : Nat} (ht : t < T.length) (hw : waitsOf T (t : Int) ≠ -1) : ∃ m s : Nat, waitsOf T (t : Int) = (m : Int) ∧ m < L.length ∧ ownerOf L (m : Int) = (s : Int) ∧ s < T.length ∧ Edge L t s := by
  have hx : T[t]? = some _ := List.getElem?_eq_getElem ht
  have e1 : waitsOf T (t : Int) = (T[t]).u := by
    unfold waitsOf
    rw [if_pos (by unfold inT; simp; omega), Int.toNat_natCast, hx]
    rfl
  rw [e1] at hw ⊢
  have hok := f.th _ (List.mem_of_getElem? hx)
  obtain ⟨m, hm⟩ : ∃ m : Nat, (T[t]).u = (m : Int) := ⟨(T[t]).u.toNat, by have := hok.2.1; omega⟩
  have hml : m < L.length := by have := hok.2.2; omega
  have hy : L[m]? = some _ := List.getElem?_eq_getElem hml
  have hin := (f.wt t _ hx m _ hy).2 hm
  have hlk := f.lk _ (List.mem_of_getElem? hy)
  have h0 := hlk.2.2.2.2 (List.ne_nil_of_mem hin)
  refine ⟨m, (L[m]).h.toNat, hm, hml, ?_, by have := hlk.2.1; omega, _, List.mem_of_getElem? hy, hin, by omega⟩
  unfold ownerOf
  rw [if_pos (by unfold inL; simp; omega), Int.toNat_natCast, hy]
  simp
  omega
theorem keyA_nat {T : List Th} {L : List Lk} {t : Nat} (h : t < T.length) : keyA T L (t : Int) = keyOf T L t := by unfold keyA; rw [if_pos (by unfold inT; simp; omega), Int.toNat_natCast]
theorem waits_out {T : List Th} {t : Nat} (h : ¬ t < T.length) : waitsOf T (t : Int) = -1 := by unfold waitsOf; rw [if_neg (by unfold inT; simp; omega)]
set_option maxHeartbeats 4000000 in
theorem Chain_walk (m : Nat) (hm : m < 256) (a : Option Addr) (len cap : Nat) (L : Nat → Dp) (hlen : len < 9223372036854775808) (w : World) (hd : Dps w a len L) :
    Calls Try.prog 6 #[.int .u8 m, .slice a len cap] w fun e w' => e = .returned (.bool true) ∧ Below w.heap.size w w' := by
  have HP := veil (play_ok w m hm a len cap hlen L hd)
  have hN : m % 6 + 1 ≤ 6 := by omega
  clear hd
  generalize m % 6 + 1 = N at HP hN
  go_enter Try.func6, Try.ntmps6
  go_wp2_with (first
    | (go_at_call 14; refine (HP.out).mono ?_; rintro e w1 ⟨g, r, O, D, M, rfl, hB, hsz, hL⟩; have HB := veil hB.p; have HL := veil hL; have HSZ := veil hsz; clear hB hL hsz)
    | (go_at_call 15; refine (live_ok _).mono ?_; rintro e w2 ⟨rfl, hb2⟩; have HB2 := veil (HB.out.below hb2); have HL2 := veil (HL.out.trans (hb2.mono HL.out.size)); clear hb2))
  have HF := veil HB2.out.f
  obtain ⟨B, rk, hrb, hrk⟩ := HF.out.ac
  have HRK := veil hrk
  have hTl : M.T.length ≤ 6 := by rw [HSZ.out.1]; exact hN
  clear hrk hrb
  go_loopw [8] (fun p wr => ∃ j : Nat, j ≤ 6 ∧ p = .int .i64 j ∧ PG wr w.heap.size O g M ∧ Below w.heap.size w wr) (fun p _ => 6 - (intOf p).toNat)
  case atStart => exact ⟨0, by omega, rfl, HB2.out, HL2.out⟩
  case round =>
    obtain ⟨t, ht, rfl, hg, hb⟩ := hrel
    have HG := veil hg
    have HBB := veil hb
    clear hg hb
    by_cases htl : t < 6
    · have htl' : (t : Int) < 6 := by omega
      go_wp2
      go_loopw [9, 10] (fun av iv wr => ∃ (i c : Nat) (vs : List Nat), iv = .int .i64 i ∧ av = .int .i64 c ∧ vs.length = i ∧ (∀ v ∈ vs, v < M.T.length ∧ rk v < rk c) ∧ vs.Nodup ∧ (c = t ∨ rk t < rk c) ∧ (c < M.T.length ∨ i = 0) ∧ PG wr w.heap.size O g M ∧ Below w.heap.size w wr) (fun _ iv _ => 7 - (intOf iv).toNat)
      case atStart => exact ⟨0, t, [], rfl, rfl, rfl, by simp, by simp, .inl rfl, .inr rfl, HG.out, HBB.out⟩
      case round =>
        obtain ⟨i, c, vs, rfl, rfl, hvl, hvs, hnd, hct, hcl, hg, hb⟩ := hrel
        have HG := veil hg
        have HBB := veil hb
        have HVS := veil hvs
        have HND := veil hnd
        have HVL := veil hvl
        have HCT := veil hct
        clear hg hb hvs hnd hvl hct
        by_cases hwt : waitsOf M.T (c : Int) = -1
        · have HWp := veil (HG.out.waits (c : Int))
          rw [hwt] at HWp
          have hi7 : i ≤ 6 := by
            have h1 := HVS.out
            have h2 := HND.out.length_le_of_subset (l₂ := List.range M.T.length) (fun v hv => List.mem_range.2 (h1 v hv).1)
            have h3 := HVL.out
            simp at h2
            omega
          have hi7' : (i : Int) < 7 := by omega
          clear hwt
          go_wp2_with (go_at_call 20; refine (HWp.out).mono ?_; rintro e wx ⟨rfl, hw⟩; replace hw := hw.symm; subst hw)
          go_roundw
          case rel => exact ⟨t + 1, by omega, by go_num, HG.out, HBB.out⟩
          case measure => simp [intOf]; omega
        · have hcl2 : c < M.T.length := by
            by_cases q : c < M.T.length
            · exact q
            · exact absurd (waits_out q) hwt
          obtain ⟨mm, ss, e1, e2, e3, e4, hed⟩ := HF.out.waits_edge hcl2 hwt
          have hrs := HRK.out c ss hed
          have hnt : ss ≠ t := by
            intro e
            subst e
            rcases HCT.out with q | q
            · subst q; omega
            · omega
          have hi5 : i ≤ 5 := by
            have h1 := HVS.out
            have h2 : (c :: vs).Nodup := List.nodup_cons.2 ⟨fun q => by have := (h1 c q).2; omega, HND.out⟩
            have h3 := h2.length_le_of_subset (l₂ := List.range M.T.length) (fun v hv => by
              rcases List.mem_cons.1 hv with rfl | q
              · exact List.mem_range.2 hcl2
              · exact List.mem_range.2 (h1 v q).1)
            have h4 := HVL.out
            simp at h3
            omega
          have hi7' : (i : Int) < 7 := by omega
          have hi6 : ¬ (i : Int) = 6 := by omega
          have hi6' : ((i : Int) == 6) = false := by simp; omega
          have hnt' : ¬ (ss : Int) = (t : Int) := by omega
          have hnt2 : ((ss : Int) == (t : Int)) = false := by simp; omega
          have hs0 : decide ((ss : Int) < 0) = false := by simp
          have HWp := veil (HG.out.waits (c : Int))
          rw [e1] at HWp
          have HOp := veil (HG.out.owner (mm : Int))
          rw [e3] at HOp
          have HK1 := veil (fun W hb => (HG.out.below (w' := W) hb).key (c : Int))
          have HK2 := veil (fun W hb => (HG.out.below (w' := W) hb).key (ss : Int))
          simp only [keyA_nat hcl2] at HK1
          simp only [keyA_nat e4] at HK2
          have hup := key_edge (T := M.T) HF.out.ac hed
          have HAB := veil (fun W => rabove_ok W (keyOf M.T M.L c) (keyOf M.T M.L ss))
          rw [hup] at HAB
          generalize keyOf M.T M.L c = k1 at HK1 HAB
          generalize keyOf M.T M.L ss = k2 at HK2 HAB
          have HNX : Hid (∀ v ∈ c :: vs, v < M.T.length ∧ rk v < rk ss) := fun v hv => by
            rcases List.mem_cons.1 hv with rfl | q
            · exact ⟨hcl2, hrs⟩
            · have := HVS.out v q; exact ⟨this.1, by omega⟩
          have HNN : Hid ((c :: vs).Nodup) := List.nodup_cons.2 ⟨fun q => by have := (HVS.out c q).2; omega, HND.out⟩
          have HTS : Hid (rk t < rk ss) := by
            rcases HCT.out with q | q
            · subst q; exact hrs
            · show _ < _; omega
          have HE4 := veil e4
          clear e1 e3 hed hup hwt e2 e4
          go_wp2_with (first
            | (go_at_call 20; refine (HWp.out).mono ?_; rintro e wx ⟨rfl, hw⟩; replace hw := hw.symm; subst hw)
            | (go_at_call 18; refine (HOp.out).mono ?_; rintro e wx ⟨rfl, hw⟩; replace hw := hw.symm; subst hw)
            | (go_at_call 24; (have hh := HX1.out; clear hh); refine (HK2.out _ HX1.out).mono ?_; rintro e w4 ⟨rfl, hb⟩; have HX2 := veil (HX1.out.trans (hb.mono HX1.out.size)); clear hb)
            | (go_at_call 24; refine (HK1.out _ (Below.refl _ _)).mono ?_; rintro e w3 ⟨rfl, hb⟩; have HX1 := veil hb; clear hb)
            | (go_at_call 25; refine (HAB.out _).mono ?_; rintro e w5 ⟨rfl, hb⟩; have HX3 := veil (HX2.out.trans (hb.mono HX2.out.size)); clear hb))
          go_roundw
          case rel =>
            exact ⟨i + 1, ss, c :: vs, by go_num, rfl, by simp [HVL.out], HNX.out, HNN.out, .inr HTS.out, .inl HE4.out, HG.out.below HX3.out, HBB.out.trans (HX3.out.mono HBB.out.size)⟩
          case measure => simp [intOf]; omega
    · have htl' : ¬ (t : Int) < 6 := by omega
      go_wp2
      go_ret
      exact ⟨rfl, HBB.out⟩
end Go.Proofs.Ytbhkgbhgofefjaa
