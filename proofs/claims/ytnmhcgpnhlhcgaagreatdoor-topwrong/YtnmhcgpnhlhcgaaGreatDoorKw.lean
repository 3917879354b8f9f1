/- TopWrong's walk. -/
import Derived.Test.YtnmhcgpnhlhcgaaGreatDoorK0
import Derived.Test.YtnmhcgpnhlhcgaaGreatDoorKn
import Derived.Test.YtnmhcgpnhlhcgaaGreatDoorKs
import Derived.Test.YtnmhcgpnhlhcgaaGreatDoorKl
namespace Go.Proofs.YtnmhcgpnhlhcgaaGreatDoor
set_option linter.unusedVariables false
set_option linter.unusedSimpArgs false
set_option maxRecDepth 100000
open Go.RowKit Go.Lib Go.Shelf
set_option linter.unusedVariables false
set_option linter.unusedSimpArgs false
attribute [local go_sem ↓] Go.wp_at_zero Go.wp_at_succ
def twC : Array Value := #[ab 1, ab 1, ab 1, ab 0, aj 9, aj 9]
theorem tw_enW (w : World) : Ex.M8 (((w.alloc (.cells twC 30)).alloc (.cells #[ab 9, ab 0] 83)).alloc (.cells (P6 (w.heap.size + 1)) 86)) (some (ao (w.heap.size + 1 + 1))) Lc ∧ aC w (((w.alloc (.cells twC 30)).alloc (.cells #[ab 9, ab 0] 83)).alloc (.cells (P6 (w.heap.size + 1)) 86)) ∧ ∀ (i : Nat) (u : Value), twC[i]? = some u → (((w.alloc (.cells twC 30)).alloc (.cells #[ab 9, ab 0] 83)).alloc (.cells (P6 (w.heap.size + 1)) 86)).cell? (af w.heap.size i) = some u := by
  obtain ⟨w1, e1⟩ : ∃ w1, w.alloc (.cells twC 30) = w1 := ⟨_, rfl⟩
  obtain ⟨w2, e2⟩ : ∃ w2, w1.alloc (.cells #[ab 9, ab 0] 83) = w2 := ⟨_, rfl⟩
  obtain ⟨w3, e3⟩ : ∃ w3, w2.alloc (.cells (P6 (w.heap.size + 1)) 86) = w3 := ⟨_, rfl⟩
  rw [e1, e2, e3]
  have b1 : aC w w1 := by rw [← e1]; exact bq
  have b2 : aC w1 w2 := by rw [← e2]; exact bq
  have b3 : aC w2 w3 := by rw [← e3]; exact bq
  have s1 : w1.heap.size = w.heap.size + 1 := by rw [← e1]; simp
  have s2 : w2.heap.size = w.heap.size + 1 + 1 := by rw [← e2]; simp [s1]
  have h1 : w1.heap[w.heap.size]? = some (.cells twC 30 (0, 0)) := by rw [← e1]; exact (MapKept.heap_alloc w _).1
  have h2 : w2.heap[w.heap.size + 1]? = some (.cells #[ab 9, ab 0] 83 (0, 0)) := by rw [← e2, ← s1]; exact (MapKept.heap_alloc w1 _).1
  have h3 : w3.heap[w.heap.size + 1 + 1]? = some (.cells (P6 (w.heap.size + 1)) 86 (0, 0)) := by rw [← e3, ← s2]; exact (MapKept.heap_alloc w2 _).1
  refine ⟨Mw ((b3.block _ (by omega)).trans h2) h3, bt b1 (bt b2 b3), fun i u hu => ?_⟩
  unfold World.cell?
  rw [(bt b2 b3).block _ (by show w.heap.size < _; omega), h1]
  exact hu
set_option maxHeartbeats 8000000 in
set_option maxRecDepth 20000 in
theorem TopWrong_far (a : Option Addr) (len cap : Nat) (X : Nat → Nat) (hcap : cap < 9223372036854775808) (hlc : len ≤ cap) (hn : a = none → len = 0 ∧ cap = 0) (w : World) (hU : Qj w a len X) (h5 : (500 : Int) < (len : Int)) (ht : Gt.pv w) :
    vQ 10 #[.slice a len cap] w (.bool true) := by
  have hB : Ex.Ki w a len X := by
    rcases hU with h | ⟨lb, off, e, hl, h⟩
    · exact .inl h
    · exact .inr ⟨lb, off, e, hl, fun j hj => (h j hj).symm⟩
  obtain ⟨ys, hys⟩ : ∃ ys, (List.range len).map X = ys := ⟨_, rfl⟩
  have hyl : ys.length = len := by rw [← hys]; simp
  have hysm : ∀ y ∈ ys, y < 256 := by
    intro y hy
    rw [← hys] at hy
    simp only [List.mem_map, List.mem_range] at hy
    obtain ⟨j, hj, rfl⟩ := hy
    rcases hB with h | ⟨_, _, _, _, h⟩
    · omega
    · exact (h j hj).2
  have HS : Hid (∀ V, aC w V → Src V (.slice a len cap) ys) := fun V hV => by
    rw [← hys]
    refine Ks ?_ hn
    rcases hB with h | ⟨lb, off, e, hl, h⟩
    · exact .inl h
    · exact .inr ⟨lb, off, e, Nat.lt_of_lt_of_le hl hV.size, fun j hj => ⟨kc hV (h j hj).1, (h j hj).2⟩⟩
  have HTB := aa ht
  obtain ⟨B, hBe⟩ : ∃ B, Ex.all Lc = B := ⟨_, rfl⟩
  have hBl : B.length = 10 := by rw [← hBe]; rfl
  have hBs : ∀ y ∈ B, y < 256 := by rw [← hBe]; exact Ex.Bt sD
  have HEN : Hid (∀ W k, Ex.M8 W (some (ao k)) Lc → aB 31 #[.slice (some (ao k)) 2 2] W fun e w' => ∃ v, e = aS #[v, ab 0] ∧ w'.ownsRow W.heap.size 5 1 v B.length (Ex.dG B) ∧ aC W w') := fun W k h => by
    rw [← hBe]
    exact (Ex.J6 W _ Lc 2 (by decide) h).mono fun e w' h => h.yes fun x hx => (sD x hx).1
  have HALL : Hid (∀ L, Ex.Good (B ++ ys) L → ∃ K, L = Lc ++ K) := fun L hg => Af Lc L ys sD hg.1 (by rw [hBe]; exact hg.2.symm)
  clear hBe hU hB hys ht
  obtain ⟨i0, hi, hz0, hz1, hz2⟩ := Ex.info_parts Ex.gJ
  · go_enter Tryz.func10, Tryz.ntmps10
    go_wp2_with (go_at_call 31; refine (HEN.out _ _ (tw_enW w).1).mono ?_; rintro e w1 ⟨v, rfl, ho, hb⟩; have HB1 := aa (bt (tw_enW w).2.1 hb); clear ho hb)
    go_ret
    exact ⟨rfl, HB1.out⟩
set_option maxHeartbeats 8000000 in
set_option maxRecDepth 20000 in
theorem TopWrong_good (a : Option Addr) (len cap : Nat) (X : Nat → Nat) (hcap : cap < 9223372036854775808) (hlc : len ≤ cap) (hn : a = none → len = 0 ∧ cap = 0) (w : World) (hU : Qj w a len X) (hG : ∃ L, Ex.Good (Ex.all Lc ++ (List.range len).map X) L) (h5' : len ≤ 500) (ht : Gt.pv w) :
    vQ 10 #[.slice a len cap] w (.bool true) := by
  have hB : Ex.Ki w a len X := by
    rcases hU with h | ⟨lb, off, e, hl, h⟩
    · exact .inl h
    · exact .inr ⟨lb, off, e, hl, fun j hj => (h j hj).symm⟩
  obtain ⟨ys, hys⟩ : ∃ ys, (List.range len).map X = ys := ⟨_, rfl⟩
  rw [hys] at hG
  have hyl : ys.length = len := by rw [← hys]; simp
  have hysm : ∀ y ∈ ys, y < 256 := by
    intro y hy
    rw [← hys] at hy
    simp only [List.mem_map, List.mem_range] at hy
    obtain ⟨j, hj, rfl⟩ := hy
    rcases hB with h | ⟨_, _, _, _, h⟩
    · omega
    · exact (h j hj).2
  have HS : Hid (∀ V, aC w V → Src V (.slice a len cap) ys) := fun V hV => by
    rw [← hys]
    refine Ks ?_ hn
    rcases hB with h | ⟨lb, off, e, hl, h⟩
    · exact .inl h
    · exact .inr ⟨lb, off, e, Nat.lt_of_lt_of_le hl hV.size, fun j hj => ⟨kc hV (h j hj).1, (h j hj).2⟩⟩
  have HTB := aa ht
  obtain ⟨B, hBe⟩ : ∃ B, Ex.all Lc = B := ⟨_, rfl⟩
  rw [hBe] at hG
  have hBl : B.length = 10 := by rw [← hBe]; rfl
  have hBs : ∀ y ∈ B, y < 256 := by rw [← hBe]; exact Ex.Bt sD
  have HEN : Hid (∀ W k, Ex.M8 W (some (ao k)) Lc → aB 31 #[.slice (some (ao k)) 2 2] W fun e w' => ∃ v, e = aS #[v, ab 0] ∧ w'.ownsRow W.heap.size 5 1 v B.length (Ex.dG B) ∧ aC W w') := fun W k h => by
    rw [← hBe]
    exact (Ex.J6 W _ Lc 2 (by decide) h).mono fun e w' h => h.yes fun x hx => (sD x hx).1
  have HALL : Hid (∀ L, Ex.Good (B ++ ys) L → ∃ K, L = Lc ++ K) := fun L hg => Af Lc L ys sD hg.1 (by rw [hBe]; exact hg.2.symm)
  clear hBe hU hB hys ht
  obtain ⟨i0, hi, hz0, hz1, hz2⟩ := Ex.info_parts Ex.gJ
  have h5 : ¬ (500 : Int) < (len : Int) := by omega
  go_enter Tryz.func10, Tryz.ntmps10
  go_wp2_with (first
    | (go_at_call 31; refine (HEN.out _ _ (tw_enW w).1).mono ?_; rintro e w1 ⟨v, rfl, ho, hb⟩; have HO := aa ho; have HCF := aa (fun i u (hu : twC[i]? = some u) => kc hb ((tw_enW w).2.2 i u hu)); have HB1 := aa (bt (tw_enW w).2.1 hb); clear ho hb)
    | (at_builtin; refine L9 i0 rfl _ _ 51 rfl Tryz.underlying51 hi hz0 hz1 hz2 w1.heap.size (.slice (some (ao w1.heap.size)) 0 0) [] B rfl (Ex.FL w1 _) v rfl (IP (Ex.gP HO.out bq)) (by rw [hBl]; decide) (by simp) ?_; intro v2 w2 ho2 hg2; have HO2 := aa (show w2.ownsRow w1.heap.size 5 1 v2 B.length (Ex.dG B) from ho2); have HB2 := aa (((Below.refl w1.heap.size w1).alloc aT _).grown hg2 (by simp) (fun k hk => by simp [Value.ownBlock] at hk; omega)); clear ho2 hg2)
    | (at_builtin; refine L9 i0 rfl _ _ 51 rfl Tryz.underlying51 hi hz0 hz1 hz2 w1.heap.size v2 B ys rfl HO2.out (.slice a len cap) rfl (HS.out _ (bt HB1.out HB2.out)) (by rw [hBl, hyl]; omega) HB2.out.size ?_; intro v3 w3 ho3 hg3; have HO3 := aa ho3; have HB3 := aa (HB2.out.grown hg3 HB2.out.size (fun k hk => (HO2.out.lt k hk).1)); clear ho3 hg3))
  have hsm : ∀ y ∈ B ++ ys, y < 256 := fun y hy => by
    rcases List.mem_append.1 hy with q | q
    · exact hBs y q
    · exact hysm y q
  have hlen : (B ++ ys).length ≤ 510 := by
    rw [List.length_append, hBl, hyl]
    omega
  have HDC : Hid (∀ V, aC w3 V → aB 32 #[v3] V (Ex.nR V 86 (B ++ ys))) := fun V hV => Ex.zS V _ v3 _ (Ex.gP HO3.out hV) hsm (by omega)
  have HW3 := aa (bt HB1.out HB3.out)
  have HC3 := aa (fun i u (hu : twC[i]? = some u) => kc HB3.out (HCF.out i u hu))
  obtain ⟨L, hg⟩ := hG
  have hLl : L.length ≤ 510 := by
    have := Bm L
    rw [← hg.2] at this
    omega
  have h2L : 1 ≤ L.length ∧ 1 ≤ (Hg 1 1 1 0 9 9 L).ev.length := by
    obtain ⟨K, rfl⟩ := HALL.out L hg
    exact ⟨by simp [Lc], OM K⟩
  have HG := aa hg
  have HE1 := aa h2L.2
  refine ((HDC.out w3 cj).mono fun e w' h => h.tu hg).mono ?_
  rintro e w4 ⟨Z, v4, hZ, rfl, hR, hb4⟩
  obtain ⟨la, lc, rfl, hE⟩ := hR.Qi
  have hZl : Z.length = L.length := by rw [← hZ, List.length_map]
  rw [hZ] at hE
  rw [hZl]
  rcases hE with h0 | ⟨lb, off, rfl, hlb, hx⟩
  · rw [h0] at h2L
    exact absurd h2L.1 (by decide)
  have HX := aa hx
  have HB4 := aa hb4
  have HW4 := aa (bt HW3.out hb4)
  clear hx hb4 hR hZ hZl h2L hg HB1 HB2 HB3 HO HO2
  go_wp2
  go_loopw [10, 11] (fun tv iv wr => ∃ j : Nat, j ≤ L.length ∧ iv = ab (j : Int) ∧ tv = ab (wX (L.take j) : Int) ∧ wr = w4) (fun _ iv _ => L.length - (RowKit.intOf iv).toNat)
  case atStart => exact ⟨0, Nat.zero_le _, rfl, rfl, rfl⟩
  case round =>
    obtain ⟨j, hj, rfl, rfl, rfl⟩ := hrel
    have htk : wX (L.take j) ≤ 65535 * 510 := by
      have h1 : wX (L.take j) ≤ _ := rT (fun x hx => HG.out.1 x (List.mem_of_mem_take hx))
      have h2 : (L.take j).length ≤ 510 := by simp; omega
      have h3 := Nat.mul_le_mul_left 65535 h2
      omega
    by_cases hjl : j < L.length
    · obtain ⟨x, hxj⟩ : ∃ x, L[j]? = some x := ⟨L[j], List.getElem?_eq_getElem hjl⟩
      obtain ⟨ca, cc, he⟩ := HX.out j x hxj
      have c3 := he.c3
      have hn := A8 (HG.out.1 x (List.mem_of_getElem? hxj)).1
      have hs : wX (L.take (j + 1)) = wX (L.take j) + x.n.toNat := by rw [Ex.take_one hxj, qL]
      obtain ⟨m, hm⟩ : ∃ m : Nat, x.n = (m : Int) := ⟨x.n.toNat, by omega⟩
      rw [hm, Int.toNat_natCast] at hs
      rw [hm] at c3 hn
      have HS2 := aa hs
      generalize wX (L.take j) = t at *
      have hwr : IntKind.i64.wrap ((t : Int) + (m : Int)) = ((t + m : Nat) : Int) := Qs (x := t + m) (by omega)
      have hjl' : (j : Int) < (L.length : Int) := by omega
      clear he hxj hm hs
      go_wp2
      go_roundw
      · exact ⟨j + 1, by omega, by go_num, by rw [HS2.out]; rfl, trivial⟩
      · simp [RowKit.intOf]; omega
    · have hjl' : ¬ (j : Int) < (L.length : Int) := by omega
      have htt : L.take j = L := List.take_of_length_le (by omega)
      rw [htt] at htk
      rw [htt]
      by_cases hk : wX L ≤ 300
      · have HR : Hid (aB 25 #[.agg twC, v3] wr fun e w' => ∃ ea ra : Option Addr, ∃ n c1 c2 cn f, e = aS #[.agg (B6 (.slice ea n c1) (.slice ra L.length c2) cn f), ab 0] ∧ (1 : Int) ≤ (n : Int) ∧ aC wr w') := by
          refine (H5 (by omega) (by omega) (HTB.out.below HW4.out) (fun U hU => HDC.out U (bt HB4.out hU)) HG.out).mono ?_
          rintro e w5 ⟨ev, er, cn, f, rfl, hev, her, hb⟩
          obtain ⟨ea, c1, rfl, _⟩ := hev.cells
          obtain ⟨ra, c2, rfl⟩ := Cb.aJ her
          rw [LV]
          exact ⟨ea, ra, _, c1, c2, cn, f, rfl, by have := HE1.out; omega, hb⟩
        unfold B6 twC at HR
        have hk' : ¬ (300 : Int) < (wX L : Int) := by omega
        have d0 := kc HB4.out (HC3.out 0 _ rfl); have d1 := kc HB4.out (HC3.out 1 _ rfl); have d2 := kc HB4.out (HC3.out 2 _ rfl); have d3 := kc HB4.out (HC3.out 3 _ rfl); have d4 := kc HB4.out (HC3.out 4 _ rfl); have d5 := kc HB4.out (HC3.out 5 _ rfl)
        generalize wX L = t at *
        go_wp2_with (go_at_call 25; refine HR.out.mono ?_; rintro e w5 ⟨ea, ra, n, c1, c2, cn, f, rfl, hn1, hb5⟩; have HB5 := aa hb5; clear hb5)
        go_ret
        exact ⟨rfl, bt HW4.out (bt HB5.out bq)⟩
      · have hk' : (300 : Int) < (wX L : Int) := by omega
        generalize wX L = t at *
        go_wp2
        go_ret
        exact ⟨rfl, HW4.out⟩
set_option maxHeartbeats 8000000 in
set_option maxRecDepth 20000 in
theorem TopWrong_bad (a : Option Addr) (len cap : Nat) (X : Nat → Nat) (hcap : cap < 9223372036854775808) (hlc : len ≤ cap) (hn : a = none → len = 0 ∧ cap = 0) (w : World) (hU : Qj w a len X) (hG : ∃ L, Ex.nU (Ex.all Lc ++ (List.range len).map X) L) (h5' : len ≤ 500) (ht : Gt.pv w) :
    vQ 10 #[.slice a len cap] w (.bool true) := by
  have hB : Ex.Ki w a len X := by
    rcases hU with h | ⟨lb, off, e, hl, h⟩
    · exact .inl h
    · exact .inr ⟨lb, off, e, hl, fun j hj => (h j hj).symm⟩
  obtain ⟨ys, hys⟩ : ∃ ys, (List.range len).map X = ys := ⟨_, rfl⟩
  rw [hys] at hG
  have hyl : ys.length = len := by rw [← hys]; simp
  have hysm : ∀ y ∈ ys, y < 256 := by
    intro y hy
    rw [← hys] at hy
    simp only [List.mem_map, List.mem_range] at hy
    obtain ⟨j, hj, rfl⟩ := hy
    rcases hB with h | ⟨_, _, _, _, h⟩
    · omega
    · exact (h j hj).2
  have HS : Hid (∀ V, aC w V → Src V (.slice a len cap) ys) := fun V hV => by
    rw [← hys]
    refine Ks ?_ hn
    rcases hB with h | ⟨lb, off, e, hl, h⟩
    · exact .inl h
    · exact .inr ⟨lb, off, e, Nat.lt_of_lt_of_le hl hV.size, fun j hj => ⟨kc hV (h j hj).1, (h j hj).2⟩⟩
  have HTB := aa ht
  obtain ⟨B, hBe⟩ : ∃ B, Ex.all Lc = B := ⟨_, rfl⟩
  rw [hBe] at hG
  have hBl : B.length = 10 := by rw [← hBe]; rfl
  have hBs : ∀ y ∈ B, y < 256 := by rw [← hBe]; exact Ex.Bt sD
  have HEN : Hid (∀ W k, Ex.M8 W (some (ao k)) Lc → aB 31 #[.slice (some (ao k)) 2 2] W fun e w' => ∃ v, e = aS #[v, ab 0] ∧ w'.ownsRow W.heap.size 5 1 v B.length (Ex.dG B) ∧ aC W w') := fun W k h => by
    rw [← hBe]
    exact (Ex.J6 W _ Lc 2 (by decide) h).mono fun e w' h => h.yes fun x hx => (sD x hx).1
  have HALL : Hid (∀ L, Ex.Good (B ++ ys) L → ∃ K, L = Lc ++ K) := fun L hg => Af Lc L ys sD hg.1 (by rw [hBe]; exact hg.2.symm)
  clear hBe hU hB hys ht
  obtain ⟨i0, hi, hz0, hz1, hz2⟩ := Ex.info_parts Ex.gJ
  have h5 : ¬ (500 : Int) < (len : Int) := by omega
  go_enter Tryz.func10, Tryz.ntmps10
  go_wp2_with (first
    | (go_at_call 31; refine (HEN.out _ _ (tw_enW w).1).mono ?_; rintro e w1 ⟨v, rfl, ho, hb⟩; have HO := aa ho; have HCF := aa (fun i u (hu : twC[i]? = some u) => kc hb ((tw_enW w).2.2 i u hu)); have HB1 := aa (bt (tw_enW w).2.1 hb); clear ho hb)
    | (at_builtin; refine L9 i0 rfl _ _ 51 rfl Tryz.underlying51 hi hz0 hz1 hz2 w1.heap.size (.slice (some (ao w1.heap.size)) 0 0) [] B rfl (Ex.FL w1 _) v rfl (IP (Ex.gP HO.out bq)) (by rw [hBl]; decide) (by simp) ?_; intro v2 w2 ho2 hg2; have HO2 := aa (show w2.ownsRow w1.heap.size 5 1 v2 B.length (Ex.dG B) from ho2); have HB2 := aa (((Below.refl w1.heap.size w1).alloc aT _).grown hg2 (by simp) (fun k hk => by simp [Value.ownBlock] at hk; omega)); clear ho2 hg2)
    | (at_builtin; refine L9 i0 rfl _ _ 51 rfl Tryz.underlying51 hi hz0 hz1 hz2 w1.heap.size v2 B ys rfl HO2.out (.slice a len cap) rfl (HS.out _ (bt HB1.out HB2.out)) (by rw [hBl, hyl]; omega) HB2.out.size ?_; intro v3 w3 ho3 hg3; have HO3 := aa ho3; have HB3 := aa (HB2.out.grown hg3 HB2.out.size (fun k hk => (HO2.out.lt k hk).1)); clear ho3 hg3))
  have hsm : ∀ y ∈ B ++ ys, y < 256 := fun y hy => by
    rcases List.mem_append.1 hy with q | q
    · exact hBs y q
    · exact hysm y q
  have hlen : (B ++ ys).length ≤ 510 := by
    rw [List.length_append, hBl, hyl]
    omega
  have HDC : Hid (∀ V, aC w3 V → aB 32 #[v3] V (Ex.nR V 86 (B ++ ys))) := fun V hV => Ex.zS V _ v3 _ (Ex.gP HO3.out hV) hsm (by omega)
  have HW3 := aa (bt HB1.out HB3.out)
  have HC3 := aa (fun i u (hu : twC[i]? = some u) => kc HB3.out (HCF.out i u hu))
  obtain ⟨L, hg⟩ := hG
  have HR : Hid (∀ V, aC w V → aC w3 V → aB 25 #[.agg twC, v3] V fun e w' => e = aS #[.agg eY, ab 3] ∧ aC V w') := fun V h1 h3 => Is 1 1 1 0 9 9 (by decide) (by decide) (by decide) (by decide) (by decide) (by decide) V (HTB.out.below h1) v3 (fun U hU => (HDC.out U (bt h3 hU)).mono fun e w' h => ⟨⟨_, (h.bad hg).1⟩, (h.bad hg).2⟩)
  unfold eY twC at HR
  refine ((HDC.out w3 cj).mono fun e w' h => h.bad hg).mono ?_
  rintro e w4 ⟨rfl, hb4⟩
  have HB4 := aa hb4
  have HW4 := aa (bt HW3.out hb4)
  have d0 := kc HB4.out (HC3.out 0 _ rfl); have d1 := kc HB4.out (HC3.out 1 _ rfl); have d2 := kc HB4.out (HC3.out 2 _ rfl); have d3 := kc HB4.out (HC3.out 3 _ rfl); have d4 := kc HB4.out (HC3.out 4 _ rfl); have d5 := kc HB4.out (HC3.out 5 _ rfl)
  clear hb4 HDC hg HB1 HB2 HB3 HO HO2
  go_wp2
  go_loopw [10, 11] (fun tv iv wr => iv = ab 0 ∧ tv = ab 0 ∧ wr = w4) (fun _ iv _ => 1 - (RowKit.intOf iv).toNat)
  case atStart => exact ⟨rfl, rfl, rfl⟩
  case round =>
    obtain ⟨rfl, rfl, rfl⟩ := hrel
    go_wp2_with (go_at_call 25; refine (HR.out _ HW4.out HB4.out).mono ?_; rintro e w5 ⟨rfl, hb5⟩; have HB5 := aa hb5; clear hb5)
    go_ret
    exact ⟨rfl, bt HW4.out (bt HB5.out bq)⟩
set_option maxHeartbeats 8000000 in
set_option maxRecDepth 20000 in
theorem TopWrong_walk (a : Option Addr) (len cap : Nat) (X : Nat → Nat) (hcap : cap < 9223372036854775808) (hlc : len ≤ cap) (hn : a = none → len = 0 ∧ cap = 0) (w : World) (hU : Qj w a len X) (ht : Gt.pv w) :
    vQ 10 #[.slice a len cap] w (.bool true) := by
  by_cases h5 : (500 : Int) < (len : Int)
  · exact TopWrong_far a len cap X hcap hlc hn w hU h5 ht
  have h5' : len ≤ 500 := by omega
  have hX : ∀ y ∈ (List.range len).map X, y < 256 := by
    intro y hy
    simp only [List.mem_map, List.mem_range] at hy
    obtain ⟨j, hj, rfl⟩ := hy
    rcases hU with h | ⟨_, _, _, _, h⟩
    · omega
    · exact (h j hj).1
  obtain ⟨l, el⟩ : ∃ l, Ex.all Lc ++ (List.range len).map X = l := ⟨_, rfl⟩
  have hl : l.length ≤ 510 := by
    rw [← el, List.length_append, List.length_map, List.length_range]
    show 10 + len ≤ 510
    omega
  have hs : ∀ y ∈ l, y < 256 := by
    intro y hy
    rw [← el] at hy
    rcases List.mem_append.1 hy with q | q
    · exact (Ex.Bt sD) y q
    · exact hX y q
  have hrow : (w.alloc (.cells (Ex.dG l).toArray 5)).ownsRow w.heap.size 5 1 (.slice (some (ao w.heap.size)) l.length l.length) l.length (Ex.dG l) := ⟨by simp [Ex.dG], .inr ⟨w.heap.size, l.length, _, rfl, Nat.le_refl _, (MapKept.heap_alloc w _).1, Nat.le_refl _, by unfold maxLen; omega, by simp [Ex.dG], by simp [Ex.dG]; exact List.take_of_length_le (by simp)⟩⟩
  rcases Hv hrow hs (by omega) with hG | hG
  · rw [← el] at hG
    exact TopWrong_good a len cap X hcap hlc hn w hU hG h5' ht
  · rw [← el] at hG
    exact TopWrong_bad a len cap X hcap hlc hn w hU hG h5' ht
end Go.Proofs.YtnmhcgpnhlhcgaaGreatDoor
