/- TopSame's walk. -/
import Derived.Test.YtnmhcgpnhlhcgaaGreatDoorKv
namespace Go.Proofs.YtnmhcgpnhlhcgaaGreatDoor
set_option maxHeartbeats 16000000
set_option linter.unusedVariables false
set_option linter.unusedSimpArgs false
set_option maxRecDepth 100000
open Go.RowKit Go.Lib Go.Shelf
set_option linter.unusedVariables false
set_option linter.unusedSimpArgs false
attribute [local go_sem ↓] Go.wp_at_zero Go.wp_at_succ
section
variable {w V V' : World} {ad : Ad} {T : Nat} {M : Mc} {lv wv : Value} {Z : Ex.Zs} {evs : List Ev}
theorem TS.init (hA : nQ w V ad 2 6 2 T M (fun _ => False)) (x : Ex.En) (ca : Option Addr) (cc : Nat) : TS w (V.alloc (.cells (Ex.ec x ca cc).toArray 86)) ad T M (.slice (some (ao V.heap.size)) 1 1) (.slice none 0 0) [(x, ca, cc)] [] where
  a := hA.below bq (fun k q => by
    rcases q with q | q
    · simp [Value.ownBlock] at q
      subst q
      exact .inr ⟨aT, by simp⟩
    · simp [Value.ownBlock] at q)
  l := ⟨rfl, .inr ⟨V.heap.size, 1, _, rfl, hA.jC.size, (MapKept.heap_alloc V _).1, aT, by decide, rfl, rfl⟩⟩
  e := fK.nil _ _
theorem TS.AK {T' : Nat} {M' : Mc} (h : TS w V ad T M lv wv Z evs) {f : Nat} {args : Array Value} {R : Ending → World → Prop}
    (hc : ∀ lab, ax V lab ad 2 6 2 T M → aB f args V fun e w' => R e w' ∧ aD V w' lab ad 2 6 2 T' M') :
    aB f args V fun e w' => R e w' ∧ TS w w' ad T' M' lv wv Z evs := by
  refine (h.a.AK hc).mono ?_
  rintro e w' ⟨hr, hA, hK⟩
  exact ⟨hr, hA, aQ h.l (fun k q => hK k (.inl q)), aQ h.e (fun k q => hK k (.inr q))⟩
end
section
variable {w V V' : World} {ad : Ad} {T : Nat} {M : Mc} {lv wv lv' wv' : Value} {Z : Ex.Zs} {evs l : List Ev}
theorem TS.addL (h : TS w V ad T M lv wv Z evs) {z : Ex.En × Option Addr × Nat} (ho : V'.ownsRow w.heap.size 86 10 lv' (Z.length + 1) (Ex.iP Z ++ Ex.ec z.1 z.2.1 z.2.2)) (hg : Grw V V' lv lv') (h0 : 0 < w.heap.size) : TS w V' ad T M lv' wv (Z ++ [z]) evs :=
  h.growL hg (by rw [Ex.rv, Ex.ya, List.length_append]; exact ho) h0
theorem TS.addE (h : TS w V ad T M lv wv Z evs) (ho : V'.ownsRow w.heap.size 80 6 wv' (evs.length + l.length) (bF evs ++ bF l)) (hg : Grw V V' wv wv') (h0 : 0 < w.heap.size) : TS w V' ad T M lv wv' Z (evs ++ l) :=
  h.growE hg (by unfold fK; rw [pT, List.length_append]; exact ho) h0
theorem new_src (x : Ex.En) : SrX (V.alloc (.cells (Ex.ec x none 0).toArray 86)) (.slice (some (ao V.heap.size)) 1 1) 1 10 (Ex.ec x none 0) :=
  ⟨_, 1, rfl, rfl, Ex.Ax x none 0, fun _ => ⟨_, rfl, Ex.rP V _ _⟩⟩
/-- So many entries were done. -/
def TJ (w V : World) (ad : Ad) (lv wv : Value) (n : Nat) : Prop := ∃ Z T M evs, Z.length = n ∧ TS w V ad T M lv wv Z evs ∧ JT (Z.map (·.1)) T M evs ∧ ∀ z ∈ Z, Ex.Fit w z
theorem TJ.next {T' : Nat} {M' : Mc} {x : Ex.En} (h : TS w V ad T' M' lv wv (Z ++ [(x, none, 0)]) evs) (hJ : JT (Z.map (·.1) ++ [x]) T' M' evs) (hF : ∀ z ∈ Z, Ex.Fit w z) (hc : x.code = []) {n : Nat} (hn : Z.length = n) : TJ w V ad lv wv (n + 1) := by
  refine ⟨_, _, _, _, by simp [hn], h, by simpa using hJ, fun z hz => ?_⟩
  rcases List.mem_append.1 hz with q | q
  · exact hF z q
  · obtain rfl : z = (x, none, 0) := by simpa using q
    have hw := (hJ.r x (by simp)).2
    exact ⟨fun W _ => by rw [hc]; exact Ex.lY _ _, by simp [hc], .inl (by simp [hc]), hw⟩
end
/-- The program's cells. -/
def tsA : Array Value := #[ab 2, ab 0, ab 1, ab 1, ab 3, ab 0, ab 5, ab 2, ab 4, ab 0, ab 9, ab 0]
theorem ts_cod {w : World} {b : Nat} (h : w.heap[b]? = some (.cells tsA 83 (0, 0))) : Ex.qe w (some (ao b)) tsC := by
  have hp : ∀ (j : Nat) (u : Value), tsA[j]? = some u → w.cell? (af b j) = some u := fun j u hu => by
    unfold World.cell?
    rw [h]
    exact hu
  refine .inr ⟨b, 0, rfl, (Array.getElem?_eq_some_iff.1 h).1, fun j hj => ?_⟩
  have h6 : j < 6 := hj
  match j, h6 with
  | 0, _ => exact ⟨hp 0 _ rfl, hp 1 _ rfl⟩
  | 1, _ => exact ⟨hp 2 _ rfl, hp 3 _ rfl⟩
  | 2, _ => exact ⟨hp 4 _ rfl, hp 5 _ rfl⟩
  | 3, _ => exact ⟨hp 6 _ rfl, hp 7 _ rfl⟩
  | 4, _ => exact ⟨hp 8 _ rfl, hp 9 _ rfl⟩
  | 5, _ => exact ⟨hp 10 _ rfl, hp 11 _ rfl⟩
def tsF : Array Value := #[ab 2, ab 6, ab 2, ab 2, aj 3, aj 4]
theorem ts_W (w : World) : aC w ((w.alloc (.cells tsF 30)).alloc (.cells tsA 83)) ∧ (∀ (i : Nat) (u : Value), tsF[i]? = some u → ((w.alloc (.cells tsF 30)).alloc (.cells tsA 83)).cell? (af w.heap.size i) = some u) ∧ Ex.qe ((w.alloc (.cells tsF 30)).alloc (.cells tsA 83)) (some (ao (w.heap.size + 1))) tsC := by
  obtain ⟨w1, e1⟩ : ∃ w1, w.alloc (.cells tsF 30) = w1 := ⟨_, rfl⟩
  obtain ⟨w2, e2⟩ : ∃ w2, w1.alloc (.cells tsA 83) = w2 := ⟨_, rfl⟩
  rw [e1, e2]
  have b1 : aC w w1 := by rw [← e1]; exact bq
  have b2 : aC w1 w2 := by rw [← e2]; exact bq
  have s1 : w1.heap.size = w.heap.size + 1 := by rw [← e1]; simp
  have h1 : w1.heap[w.heap.size]? = some (.cells tsF 30 (0, 0)) := by rw [← e1]; exact (MapKept.heap_alloc w _).1
  refine ⟨bt b1 b2, fun i u hu => ?_, ts_cod ?_⟩
  · unfold World.cell?
    rw [b2.block _ (by show w.heap.size < _; omega), h1]
    exact hu
  · rw [← e2, ← s1]
    exact (MapKept.heap_alloc w1 _).1
set_option maxHeartbeats 8000000 in
set_option maxRecDepth 20000 in
theorem TopSame_walk (a : Option Addr) (len cap : Nat) (X : Nat → Nat) (a2 : Option Addr) (len2 cap2 : Nat) (X2 : Nat → Nat) (w : World) (hU : Qj w a len X) (hU2 : Qj w a2 len2 X2) (hl : len < 9223372036854775808) (hl2 : len2 < 9223372036854775808) (ht : Gt.pv w) :
    vQ 9 #[.slice a len cap, .slice a2 len2 cap2] w (.bool true) := by
  obtain ⟨W, hW⟩ : ∃ W, (w.alloc (.cells tsF 30)).alloc (.cells tsA 83) = W := ⟨_, rfl⟩
  obtain ⟨hb, hcf, hcod⟩ := ts_W w
  rw [hW] at hb hcf hcod
  have HB := aa hb
  have HCF := aa hcf
  have HCOD := aa hcod
  have HTB := aa ht
  have HU := aa hU
  have HU2 := aa hU2
  have HN : Hid (aB 11 #[.agg #[ab 2, ab 6, ab 2, ab 2, aj 3, aj 4]] W fun e w' => ∃ ad, e = .returned (ak ad.m) ∧ nQ W w' ad 2 6 2 0 (gz 2 6 2 3 4) (fun _ => False)) := (MI 2 6 2 2 3 4 (by decide) (by decide) (by decide) (by decide) (by decide) (by decide) W (ht.below hb)).mono (fun e w' ⟨a, he, hA⟩ => ⟨a, he, hA.k⟩)
  have HW : Hid ((w.alloc (.cells #[ab 2, ab 6, ab 2, ab 2, aj 3, aj 4] 30)).alloc (.cells #[ab 2, ab 0, ab 1, ab 1, ab 3, ab 0, ab 5, ab 2, ab 4, ab 0, ab 9, ab 0] 83) = W) := hW
  clear hb hcf hcod ht hU hU2 hW
  have h0 : 0 < W.heap.size := by rw [← HW.out]; simp
  obtain ⟨i0, hi, hz0, hz1, hz2⟩ := Ex.info_parts Ex.zw
  obtain ⟨i1, gi, gz0, gz1, gz2⟩ := Ex.info_parts nI
  go_enter Tryz.func9, Tryz.ntmps9
  go_wp2_with (first
    | (go_at_call 11; rw [HW.out]; refine (HN.out).mono ?_; rintro e w1 ⟨ad, rfl, hA⟩; have HA := aa (TS.init hA (Ex.cK tsC) (some (ao (w.heap.size + 1))) 6); have HB1 := aa hA.jC; clear hA)
    | (go_at_call 18; refine (HA.out.AK (fun lab hi => hi.vB (some (ao (w.heap.size + 1))) 6 6 (Ex.cO tsC) (Ex.cR tsC) (HCOD.out.below (bt HB1.out bq)) ts_rt (by decide))).mono ?_; rintro e w2 ⟨rfl, hT⟩; have HT := aa hT; clear hT))
  go_loopw [8, 9, 12] (fun lv wv iv wr => ∃ j : Nat, j ≤ min len 4 ∧ iv = ab (j : Int) ∧ TJ W wr ad lv wv (j + 1)) (fun _ _ iv _ => 4 - (RowKit.intOf iv).toNat)
  case atStart =>
    refine ⟨0, Nat.zero_le _, rfl, _, _, _, _, rfl, HT.out, ?_, fun z hz => ?_⟩
    · have := JT.load
      rw [show lM (gz 2 6 2 3 4) ⟨6, Ex.cO tsC, Ex.cR tsC⟩ = { gz 2 6 2 3 4 with pr := (gz 2 6 2 3 4).pr ++ [⟨6, Ex.cO tsC, Ex.cR tsC⟩] } from if_pos ⟨ts_rt, by decide⟩] at this
      exact this
    · obtain rfl : z = (Ex.cK tsC, some (ao (w.heap.size + 1)), 6) := by simpa using hz
      exact ⟨fun U hU => HCOD.out.below hU, by simp [Ex.cK, tsC], .inl (by simp [Ex.cK, tsC]), (JT.load.r _ (by simp)).2⟩
  case round =>
    obtain ⟨j, hj, rfl, Z, T, M, evs, hZ, hT, hJ, hF⟩ := hrel
    clear HA HT
    obtain ⟨va, vc, rfl⟩ := Cb.aJ hT.l
    obtain ⟨wa, wc, rfl⟩ := Cb.aJ hT.e
    by_cases hjl : j < min len 4
    · have hj1 : (j : Int) < (len : Int) := by omega
      have hj2 : (j : Int) < 4 := by omega
      rcases HU.out with hX | ⟨lb, off, rfl, hlb, hX⟩
      · omega
      have hx := hX j (by omega)
      have hbw := bt HB.out hT.jC
      have c0 := kc hbw hx.2
      have hv := hx.1
      have HX := aa hx.2
      generalize X j = v at *
      have HLJ := aa (show (Z.map (·.1)).length ≤ 100 by simp; omega)
      have HEL := aa (show evs.length ≤ 20000 by have := hJ.l; have := HLJ.out; omega)
      have hzl : Z.length ≤ 100 := by omega
      have HT := aa hT; have HJ := aa hJ; have HF := aa hF; have HZ := aa hZ
      clear hT hJ hF hX hx hZ
      go_wp2_with (first
        | (at_builtin; refine wp_appX i0 rfl _ _ 87 86 rfl Tryz.underlying87 _ 10 96 hi hz0 hz1 hz2 rfl (by decide) (by decide) W.heap.size (.slice va Z.length vc) Z.length _ rfl (Ex.gP HT.out.l bq) _ 1 _ rfl (new_src (Ex.bV 0 v (-1))) (by omega) (bt HT.out.jC bq).size ?_; intro lv2 w3 ho hg; have HT2 := aa ((HT.out.below bq).addL (z := (Ex.bV 0 v (-1), none, 0)) ho hg h0); have c3 := kc (bt HB.out HT2.out.jC) HX.out; clear ho hg)
        | (go_at_call 20; refine (ts_start HT2.out HJ.out HLJ.out v hv).mono ?_; rintro e w4 ⟨x, c, l, T', M', rfl, hx, hT, hlen, hJ⟩; have HX4 := aa hx; have HT4 := aa hT; have HJ4 := aa hJ; clear hx hT hJ)
        | (at_builtin; refine wp_appX i1 rfl _ _ 38 80 rfl Tryz.underlying38 _ 6 48 gi gz0 gz1 gz2 rfl (by decide) (by decide) W.heap.size (.slice wa evs.length wc) evs.length _ rfl HT4.out.e x l.length _ rfl HX4.out.src (by have := HEL.out; omega) HT4.out.jC.size ?_; intro wv2 w5 ho hg; have HT5 := aa (HT4.out.addE ho hg h0); clear ho hg))
      go_roundw
      · exact ⟨j + 1, by omega, by go_num, TJ.next HT5.out HJ4.out HF.out rfl HZ.out⟩
      · simp [RowKit.intOf]; omega
    · have HJ0 := aa (show TJ W wr ad (.slice va Z.length vc) (.slice wa evs.length wc) (j + 1) from ⟨Z, T, M, evs, hZ, hT, hJ, hF⟩)
      have hj4 : j ≤ 4 := by omega
      by_cases h1 : (j : Int) < (len : Int)
      case' pos => have h2 : ¬ (j : Int) < 4 := by omega
      all_goals
        clear hZ hT hJ hF hjl hj
        go_wp2
        go_loopw [8, 9, 15] (fun lv wv iv wr => ∃ i n : Nat, i ≤ min len2 40 ∧ n ≤ i + 5 ∧ iv = ab (i : Int) ∧ TJ W wr ad lv wv n) (fun _ _ iv _ => 40 - (RowKit.intOf iv).toNat)
        case atStart => exact ⟨0, j + 1, Nat.zero_le _, by omega, rfl, HJ0.out⟩
        case round =>
          obtain ⟨i, n, hin, hn5, rfl, Z, T, M, evs, hZ, hT, hJ, hF⟩ := hrel
          clear HJ0
          obtain ⟨va, vc, rfl⟩ := Cb.aJ hT.l
          obtain ⟨wa, wc, rfl⟩ := Cb.aJ hT.e
          have HLJ := aa (show (Z.map (·.1)).length ≤ 100 by simp; omega)
          have HEL := aa (show evs.length ≤ 20000 by have := hJ.l; have := HLJ.out; omega)
          have hzl : Z.length ≤ 100 := by omega
          by_cases hil : i < min len2 40
          · have hi1 : (i : Int) < (len2 : Int) := by omega
            have hi2 : (i : Int) < 40 := by omega
            rcases HU2.out with hX | ⟨lb, off, rfl, hlb, hX⟩
            · omega
            have hx := hX i (by omega)
            have hbw := bt HB.out hT.jC
            have c0 := kc hbw hx.2
            have hv := hx.1
            have HX := aa hx.2
            generalize X2 i = v at *
            obtain ⟨r, hr⟩ : ∃ r, v % 3 = r := ⟨_, rfl⟩
            have hr3 : r ≤ 2 := by omega
            have m1 : (v : Int) % 3 = (r : Int) := by omega
            have m1' : (v : Int).tmod 3 = (r : Int) := by rw [show (3 : Int) = ((3 : Nat) : Int) from rfl, ← Int.ofNat_tmod, hr]
            have m2 : IntKind.i64.wrap (r : Int) = (r : Int) := Qs (by omega)
            have m4 : IntKind.i64.wrap ((v : Int).tmod 3) = (r : Int) := by rw [m1', m2]
            have m3 : IntKind.u64.wrap (v : Int) = (v : Int) := by simp [IntKind.wrap, IntKind.bits, IntKind.signed]; omega
            have HT := aa hT; have HJ := aa hJ; have HF := aa hF; have HZ := aa hZ
            clear hT hJ hF hX hx hZ hr
            by_cases hr2 : r = 2
            · subst hr2
              go_wp2_with (first
                | (at_builtin; refine wp_appX i0 rfl _ _ 87 86 rfl Tryz.underlying87 _ 10 96 hi hz0 hz1 hz2 rfl (by decide) (by decide) W.heap.size (.slice va Z.length vc) Z.length _ rfl (Ex.gP HT.out.l bq) _ 1 _ rfl (new_src (Ex.dg 1)) (by omega) (bt HT.out.jC bq).size ?_; intro lv2 w3 ho hg; have HT2 := aa ((HT.out.below bq).addL (z := (Ex.dg 1, none, 0)) ho hg h0); have c3 := kc (bt HB.out HT2.out.jC) HX.out; clear ho hg)
                | (go_at_call 17; refine (ts_tick HT2.out HJ.out HLJ.out).mono ?_; rintro e w4 ⟨x, l, T', M', rfl, hx, hT, hlen, hJ⟩; have HX4 := aa hx; have HT4 := aa hT; have HJ4 := aa hJ; clear hx hT hJ)
                | (at_builtin; refine wp_appX i1 rfl _ _ 38 80 rfl Tryz.underlying38 _ 6 48 gi gz0 gz1 gz2 rfl (by decide) (by decide) W.heap.size (.slice wa evs.length wc) evs.length _ rfl HT4.out.e x l.length _ rfl HX4.out.src (by have := HEL.out; omega) HT4.out.jC.size ?_; intro wv2 w5 ho hg; have HT5 := aa (HT4.out.addE ho hg h0); clear ho hg))
              exact ⟨⟨i + 1, n + 1, by omega, by omega, by go_num, TJ.next HT5.out HJ4.out HF.out rfl HZ.out⟩, by simp [RowKit.intOf]; omega⟩
            · have hr4 : ¬ (r : Int) = 2 := by omega
              obtain ⟨W3, hW3⟩ : ∃ W3, (wr.alloc (.cells #[ab 1, ab (r : Int), aj (v : Int), ab 0, .slice none 0 0, aj 0, aj 0, ab 0, aA 0, ab 0] 86)).drew = W3 := ⟨_, rfl⟩
              have hb3 : aC wr W3 := by rw [← hW3]; exact bq.drew
              have HT3 := aa (HT.out.below hb3)
              have HNW : Hid (∀ (j : Nat) u, (Ex.ec (Ex.dB (r : Int) v) none 0)[j]? = some u → W3.cell? ((ao wr.heap.size : Addr).add j) = some u) := by
                rw [← hW3]
                exact Ex.rP wr _ _
              have k3 := kc hb3 c0
              have HBS := aa (bt HT.out.jC hb3).size
              have HOW := aa HT3.out.l
              have HW3 := aa hW3
              clear hb3 hW3
              go_wp2
              refine wp_region_held_drew (S := (fun w' => w'.cell? (af lb (off + i)) = some (aA (v : Int)))) (by rfl) ?_ (fun hHeld => ?_)
              · exact c0
              refine st ?_
              repeat' first
                | refine dn ?_
                | refine tk ?_
                | refine rd ?_
                | exact oA
                | refine oE ?_
                | refine oC ?_ ?_
                | (refine dU 13 (fun K hK => ?_)
                   go_simp
                   (try simp only [m4])
                   rw [HW3.out]
                   refine hK.out _ _ ?_ (fun hHeld => ?_)
                   · exact k3
                   clear hK K
                   try simp only [cV])
                | (refine dU 14 (fun K hK => ?_)
                   refine cC _ (by rfl) _ _ _ (by rfl) W.heap.size 86 i0 _ 10 96 Tryz.underlying87 hi hz0 hz1 hz2 rfl (by omega) (.slice va Z.length vc) Z.length (Ex.iP Z) (by rfl) HOW.out (ao wr.heap.size) 1 1 (Ex.ec (Ex.dB (r : Int) v) none 0) (by rfl) rfl HNW.out (Ex.Ax _ _ _) (by unfold maxLen; omega) (by omega) HBS.out ?_
                   intro lv2 w3 ho hg hat
                   have HT2 := aa (HT3.out.addL (z := (Ex.dB (r : Int) v, none, 0)) ho ⟨hg, fun k q => by
                     rcases hat with e | e
                     · exact .inl (e ▸ q)
                     · rw [e] at q
                       obtain rfl := Option.some.inj q
                       exact .inr aT⟩ h0)
                   have c3 := kc (bt HB.out HT2.out.jC) HX.out
                   clear ho hg hat
                   refine hK.out _ _ ?_ (fun hHeld => ?_)
                   · exact c3
                   clear hK K
                   try simp only [cV])
                | (refine dU _ (fun K hK => ?_)
                   go_simp
                   refine hK.out _ _ ?_ (fun hHeld => ?_)
                   · assumption
                   clear hK K
                   try simp only [cV])
              all_goals
                refine ⟨?_⟩
                go_wp2
                go_region_held3 (fun w' => w'.cell? (af lb (off + i)) = some (aA (v : Int))) (first | exact c3 | assumption | go_keep)
                  (first
                    | (go_at_call 14; (try rw [m4]); refine (ts_step (HT2.out.below cj.drew) HJ.out HLJ.out r v (by omega) (by omega)).mono ?_; rintro e w4 ⟨x, c, l, T', M', rfl, hx, hT, hlen, hJ⟩; have HX4 := aa hx; have HT4 := aa hT; have HJ4 := aa hJ; have HM1 := aa (kc (bt HB.out HT4.out.jC) HX.out); clear hx hT hJ))
                go_wp2_with (at_builtin; refine wp_appX i1 rfl _ _ 38 80 rfl Tryz.underlying38 _ 6 48 gi gz0 gz1 gz2 rfl (by decide) (by decide) W.heap.size (.slice wa evs.length wc) evs.length _ rfl HT4.out.e x l.length _ rfl HX4.out.src (by have := HEL.out; omega) HT4.out.jC.size ?_; intro wv2 w5 ho hg; have HT5 := aa (HT4.out.addE ho hg h0); clear ho hg)
                exact ⟨⟨i + 1, n + 1, by omega, by omega, by go_num, TJ.next HT5.out HJ4.out HF.out rfl HZ.out⟩, by simp [RowKit.intOf]; omega⟩
          · have HL : Hid (Ex.gu (Z.map (·.1)) ∧ (Hg 2 6 2 2 3 4 (Z.map (·.1))).ev = evs ∧ wX (Z.map (·.1)) ≤ 100) := ⟨hJ.r, hJ.v, Nat.le_trans hJ.k HLJ.out⟩
            obtain ⟨L, hLZ⟩ : ∃ L, Z.map (·.1) = L := ⟨_, rfl⟩
            have hZL : Z.length = L.length := by rw [← hLZ, List.length_map]
            obtain ⟨va', vc', ev, hE⟩ := Ex.ens_of hT.l hT.jC hF
            simp only [Value.slice.injEq, true_and] at ev
            obtain ⟨rfl, rfl⟩ := ev
            rw [hLZ] at HL hE HLJ
            have hwb := bt HB.out hT.jC
            have HWB := aa hwb
            have HWV := aa hT.jC
            have HEN : Hid (aB 31 #[.slice va L.length vc] wr fun e w' => ∃ v, e = aS #[v, ab 0] ∧ w'.ownsRow wr.heap.size 5 1 v (Ex.all L).length (Ex.dG (Ex.all L)) ∧ aC wr w') := (Ex.J6 wr va L vc (by have := HLJ.out; omega) hE).mono fun e w' h => h.yes fun x hx => (HL.out.1 x hx).1
            have HEV := aa hT.e
            have hlc : (Ex.all L).length < 100000 := by
              have := Ex.DK L (fun x hx => (HL.out.1 x hx).1)
              have := HLJ.out
              omega
            have HRN : Hid (∀ V v U, U.ownsRow wr.heap.size 5 1 v (Ex.all L).length (Ex.dG (Ex.all L)) → aC w U → aC U V → aB 25 #[.agg #[ab 2, ab 6, ab 2, ab 2, aj 3, aj 4], v] V fun e w' => ∃ ea ec ra rc cn f, e = aS #[.agg (B6 (.slice ea evs.length ec) (.slice ra L.length rc) cn f), ab 0] ∧ fK w' V.heap.size (.slice ea evs.length ec) evs ∧ aC V w') := fun V v U ho hb hb2 => by
              refine (run_ts (by have := HLJ.out; omega) (by have := HL.out.2.2; omega) (HTB.out.below (bt hb hb2)) (fun Y hY => Ex.zS Y _ v _ (Ex.gP ho (bt hb2 hY)) (Ex.Bt HL.out.1) hlc) ⟨HL.out.1, rfl⟩).mono ?_
              rintro e w5 ⟨ev, er, cn, f, rfl, hev, her, hb5⟩
              rw [HL.out.2.1] at hev
              obtain ⟨ea, ec, rfl, _⟩ := hev.cells
              obtain ⟨ra, rc, rfl⟩ := Cb.aJ her
              rw [LV]
              exact ⟨ea, ec, ra, rc, cn, f, rfl, hev, hb5⟩
            unfold B6 at HRN
            rw [hZL]
            have HC0 := fun (i : Nat) u (hu : tsF[i]? = some u) => HCF.out i u hu
            clear hT hJ hF hE hZ HL HLJ hLZ hZL hzl hwb
            by_cases h3 : (i : Int) < (len2 : Int)
            case' pos => have h4 : ¬ (i : Int) < 40 := by omega
            all_goals
              go_wp2_with (first
                | (go_at_call 31; refine (HEN.out).mono ?_; rintro e w6 ⟨bv, rfl, ho, hb6⟩; have HO6 := aa ho; have HB6 := aa hb6; have HE6 := aa (HEV.out.below hb6); have hb7 := bt HWV.out hb6; have d0 := kc hb7 (HC0 0 _ rfl); have d1 := kc hb7 (HC0 1 _ rfl); have d2 := kc hb7 (HC0 2 _ rfl); have d3 := kc hb7 (HC0 3 _ rfl); have d4 := kc hb7 (HC0 4 _ rfl); have d5 := kc hb7 (HC0 5 _ rfl); clear ho hb6 hb7)
                | (go_at_call 25; refine (HRN.out _ _ _ HO6.out (bt HWB.out HB6.out) cj).mono ?_; rintro e w7 ⟨ea, ec, ra, rc, cn, f, rfl, hev, hb7⟩; have HV7 := aa hev; have HB7 := aa hb7; have HE7 := aa (HE6.out.below hb7); clear hev hb7))
              have hel := HEL.out
              obtain ⟨W8, hW8⟩ : ∃ W8, w7.alloc (.cells (B6 (.slice ea evs.length ec) (.slice ra L.length rc) cn f) 60) = W8 := ⟨_, rfl⟩
              have r0 : W8.cell? (ao w7.heap.size) = some (.slice ea evs.length ec) := by
                rw [← hW8]
                exact bB w7 _ _ 0 _ rfl
              have hv8 := HV7.out.below (show aC w7 W8 by rw [← hW8]; exact bq)
              have he8 := HE7.out.below (show aC w7 W8 by rw [← hW8]; exact bq)
              have HW8 := aa (bt HWB.out (bt HB6.out (bt HB7.out (show aC w7 W8 by rw [← hW8]; exact bq))))
              unfold B6 at hW8
              rw [hW8]
              obtain ⟨_, _, e1, hc1⟩ := hv8.cells
              obtain ⟨_, _, e2, hc2⟩ := he8.cells
              simp only [Value.slice.injEq, true_and] at e1 e2
              obtain ⟨rfl, rfl⟩ := e1
              obtain ⟨rfl, rfl⟩ := e2
              have HC1 := aa hc1
              have HC2 := aa hc2
              clear hW8 hv8 he8 hc1 hc2 HV7 HE7 HO6 HE6 HEN HRN HEV
              go_loopw [22] (fun iv wr => ∃ k : Nat, k ≤ evs.length ∧ iv = ab (k : Int) ∧ aC W8 wr) (fun iv _ => evs.length - (RowKit.intOf iv).toNat)
              case atStart => exact ⟨0, Nat.zero_le _, rfl, cj⟩
              case round =>
                obtain ⟨k, hk, rfl, hb9⟩ := hrel
                have HB9 := aa hb9
                by_cases hkl : k < evs.length
                · have hk1 : (k : Int) < (evs.length : Int) := by omega
                  obtain ⟨g1, rfl, _, _, x⟩ := HC1.out k evs[k] (List.getElem?_eq_getElem hkl)
                  obtain ⟨g2, rfl, _, _, y⟩ := HC2.out k evs[k] (List.getElem?_eq_getElem hkl)
                  generalize evs[k] = ev at *
                  have x0 := kc HB9.out (x 0 _ rfl); have x1 := kc HB9.out (x 1 _ rfl); have x2 := kc HB9.out (x 2 _ rfl); have x3 := kc HB9.out (x 3 _ rfl); have x4 := kc HB9.out (x 4 _ rfl); have x5 := kc HB9.out (x 5 _ rfl)
                  have y0 := kc HB9.out (y 0 _ rfl); have y1 := kc HB9.out (y 1 _ rfl); have y2 := kc HB9.out (y 2 _ rfl); have y3 := kc HB9.out (y 3 _ rfl); have y4 := kc HB9.out (y 4 _ rfl); have y5 := kc HB9.out (y 5 _ rfl)
                  have r1 := kc HB9.out r0
                  have S := aa (show wr.cell? (ao w7.heap.size) = some (.slice (some (ao g1)) evs.length ec) ∧ (wr.cell? (af g1 (k * 6)) = some (ab ev.k) ∧ wr.cell? (af g1 (k * 6 + 1)) = some (ab ev.p) ∧ wr.cell? (af g1 (k * 6 + 2)) = some (ab ev.x) ∧ wr.cell? (af g1 (k * 6 + 3)) = some (aM (ev.g : Int)) ∧ wr.cell? (af g1 (k * 6 + 4)) = some (ab ev.r) ∧ wr.cell? (af g1 (k * 6 + 5)) = some (ab ev.e)) ∧ wr.cell? (af g2 (k * 6)) = some (ab ev.k) ∧ wr.cell? (af g2 (k * 6 + 1)) = some (ab ev.p) ∧ wr.cell? (af g2 (k * 6 + 2)) = some (ab ev.x) ∧ wr.cell? (af g2 (k * 6 + 3)) = some (aM (ev.g : Int)) ∧ wr.cell? (af g2 (k * 6 + 4)) = some (ab ev.r) ∧ wr.cell? (af g2 (k * 6 + 5)) = some (ab ev.e) from ⟨r1, ⟨x0, x1, x2, x3, x4, x5⟩, y0, y1, y2, y3, y4, y5⟩)
                  clear x y HC1 HC2
                  go_wp2
                  go_region_held3 (fun w' => w'.cell? (ao w7.heap.size) = some (.slice (some (ao g1)) evs.length ec) ∧ (w'.cell? (af g1 (k * 6)) = some (ab ev.k) ∧ w'.cell? (af g1 (k * 6 + 1)) = some (ab ev.p) ∧ w'.cell? (af g1 (k * 6 + 2)) = some (ab ev.x) ∧ w'.cell? (af g1 (k * 6 + 3)) = some (aM (ev.g : Int)) ∧ w'.cell? (af g1 (k * 6 + 4)) = some (ab ev.r) ∧ w'.cell? (af g1 (k * 6 + 5)) = some (ab ev.e)) ∧ w'.cell? (af g2 (k * 6)) = some (ab ev.k) ∧ w'.cell? (af g2 (k * 6 + 1)) = some (ab ev.p) ∧ w'.cell? (af g2 (k * 6 + 2)) = some (ab ev.x) ∧ w'.cell? (af g2 (k * 6 + 3)) = some (aM (ev.g : Int)) ∧ w'.cell? (af g2 (k * 6 + 4)) = some (ab ev.r) ∧ w'.cell? (af g2 (k * 6 + 5)) = some (ab ev.e)) (first | exact S.out | go_keep) (fail)
                  go_wp2
                  go_roundw
                  · exact ⟨k + 1, by omega, by go_num, by exact bt HB9.out cj.drew⟩
                  · simp [RowKit.intOf]; omega
                · have hk1 : ¬ (k : Int) < (evs.length : Int) := by omega
                  go_wp2
                  go_ret
                  exact ⟨rfl, bt HW8.out HB9.out⟩
end Go.Proofs.YtnmhcgpnhlhcgaaGreatDoor
