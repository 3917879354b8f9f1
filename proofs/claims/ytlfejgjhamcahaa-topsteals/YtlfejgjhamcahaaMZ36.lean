/-
  What Take leaves, told by the places; the walk of ProcsTakes.
-/
import Derived.Test.YtlfejgjhamcahaaNf
namespace Go.Proofs.Ytlfejgjhamcahaa
open Go.RowKit Go.Lib
set_option linter.unusedVariables false
attribute [local go_sem ↓] Go.wp_at_zero Go.wp_at_succ

theorem gh_set (G : List (List En)) (c : Nat) (M : List En) : gh (G.set c M) = (gh G).set c ⟨0, 0, 0, 0, 0, 0, M⟩ := by unfold gh; rw [List.map_set]
theorem gh_at {G : List (List En)} {c : Nat} {x : Hd} (h : (gh G)[c]? = some x) : G[c]? = some x.M := by
  have := Ms_at h
  rw [Ms_gh] at this
  exact this
theorem gh_len (G : List (List En)) : (gh G).length = G.length := by unfold gh; simp
section
variable {w : World} {O : Nat → Prop} {pb n np q T : Nat} {G : List (List En)}
theorem PQ.nd (h : PQ w O pb n np q T G) {c : Nat} {x : Hd} (hx : (gh G)[c]? = some x) : (x.M.map (·.1)).Nodup ∧ (∀ y ∈ x.M, y.1 < n) ∧ ∀ y ∈ x.M, Ke.rightK y.2 = true := by
  obtain ⟨h1, h2, _, h4⟩ := h.at (gh_at hx)
  exact ⟨h1, h2, h4⟩
/-- Behind a Take of something: its id stands nowhere, and there is one less. -/
theorem PQ.took (h : PQ w O pb n np q T G) {p d : Int} {c : Nat} (hb : bb np (gh G) p d = some c) : ∃ z : En, bI (gh G) (some c) = (z.1 : Int) ∧ bK (gh G) (some c) = z.2 ∧ z.1 < n ∧ whereF n (gh (ptkG np (gh G) p d)) 0 (z.1 : Int) = none ∧ sumH (gh (ptkG np (gh G) p d)) + 1 = sumH (gh G) := by
  obtain ⟨_, _, x, z, M', hx, hM⟩ := bb_at hb
  obtain ⟨hnd, hrn, _⟩ := h.nd hx
  have e1 : bI (gh G) (some c) = (z.1 : Int) := by show tkI (MM (gh G) c) = _; rw [MM_at hx, hM]; rfl
  have e2 : bK (gh G) (some c) = z.2 := by show tkK (MM (gh G) c) = _; rw [MM_at hx, hM]; rfl
  have hg : ptkG np (gh G) p d = G.set c M' := by unfold ptkG; rw [hb, Ms_gh]; show G.set c (MM (gh G) c).tail = _; rw [MM_at hx, hM]; rfl
  have hcut : cut z.1 x.M = M' := by rw [hM]; exact cut_head (by rw [← hM]; exact hnd)
  have hzk : (keyOf x.M z.1).isSome = true := by rw [has_iff]; exact ⟨z, by rw [hM]; simp, rfl⟩
  rw [hg, gh_set]
  obtain ⟨_, u2⟩ := where_cut (n := n) (y := ⟨0, 0, 0, 0, 0, 0, M'⟩) h.un hx (id := z.1) hcut.symm hzk
  have hs := sumH_set (y := ⟨0, 0, 0, 0, 0, 0, M'⟩) hx
  refine ⟨z, e1, e2, hrn z (by rw [hM]; simp), ?_, ?_⟩
  · rw [u2]
    unfold setF
    rw [if_pos rfl]
  · have : x.M.length = M'.length + 1 := by rw [hM]; rfl
    simp only at hs
    omega
theorem PQ.sum_le (h : PQ w O pb n np q T G) : sumH (gh G) ≤ 66560 := by
  obtain ⟨base, lo, mb, v, H, hQ, rfl, hO⟩ := h
  rw [sumH_eq (Ms_gh _)]
  exact hQ.p.sum_le
end
set_option maxHeartbeats 8000000 in
set_option maxRecDepth 20000 in
theorem ProcsTakes_walk (m : Nat) (hm : m < 256) (a : Option Addr) (len cap : Nat) (L : Nat → Dp) (hlen : len < 9223372036854775808) (w : World) (hd : Dps w a len L) (x : Dp) (hx : x.ok) :
    Calls Try.prog 6 #[.int .u8 m, .slice a len cap, .agg #[.int .i64 x.k, .int .i64 x.p, .int .i64 x.i, .bool x.e, .int .u64 x.d, .int .u8 x.l, .int .u64 x.r]] w fun e w' => e = .returned (.bool true) ∧ Below w.heap.size w w' := by
  have hdr := hx.dr
  have hA : Below w.heap.size w (w.alloc (.cells #[.int .i64 x.k, .int .i64 x.p, .int .i64 x.i, .bool x.e, .int .u64 x.d, .int .u8 x.l, .int .u64 x.r] 27)) := (Below.refl _ _).alloc (Nat.le_refl _) _
  have HA := veil hA
  have HP := veil (play_ok (w.alloc (.cells #[.int .i64 x.k, .int .i64 x.p, .int .i64 x.i, .bool x.e, .int .u64 x.d, .int .u8 x.l, .int .u64 x.r] 27)) m hm a len cap hlen L (hd.below hA))
  have hblk : (w.alloc (.cells #[.int .i64 x.k, .int .i64 x.p, .int .i64 x.i, .bool x.e, .int .u64 x.d, .int .u8 x.l, .int .u64 x.r] 27)).heap[w.heap.size]? = some (.cells #[.int .i64 x.k, .int .i64 x.p, .int .i64 x.i, .bool x.e, .int .u64 x.d, .int .u8 x.l, .int .u64 x.r] 27 (0, 0)) := World.alloc_heap_new w _
  have HC : Hid (∀ W, Below (w.alloc (.cells #[.int .i64 x.k, .int .i64 x.p, .int .i64 x.i, .bool x.e, .int .u64 x.d, .int .u8 x.l, .int .u64 x.r] 27)).heap.size (w.alloc (.cells #[.int .i64 x.k, .int .i64 x.p, .int .i64 x.i, .bool x.e, .int .u64 x.d, .int .u8 x.l, .int .u64 x.r] 27)) W → W.cell? ⟨w.heap.size, 1, none⟩ = some (.int .i64 x.p) ∧ W.cell? ⟨w.heap.size, 6, none⟩ = some (.int .u64 x.r)) := fun W hW => by
    have hb := (hW.block _ (by simp)).trans hblk
    exact ⟨(blk_cell hb 1).1, (blk_cell hb 6).1⟩
  clear hd hA hblk
  go_enter Try.func6, Try.ntmps6
  go_wp2_with (first
    | (go_at_call 14; refine (HP.out).mono ?_; rintro e w1 ⟨O, D, base, pb, rb, T, G, rfl, h1, h2, h3, ht, hB, hL⟩; have HB := veil hB.pq; have HL := veil hL; have HO := veil h1; clear hB hL h1 h2 h3)
    | (go_at_call 15; refine (live_procs _).mono ?_; rintro e w2 ⟨rfl, hb2⟩; have HB2 := veil (HB.out.below hb2); have HL2 := veil (HL.out.trans (hb2.mono HL.out.size)); obtain ⟨c1, c6⟩ := HC.out _ HL2.out; clear hb2))
  have hsl := HB2.out.sum_le
  have HN0 := veil HB2.out.length
  have HBE := veil (HB2.out.best x.p x.r hdr)
  have HTK := veil (fun W (hW : PQ W O pb 10 (m % 4 + 1) (m / 4 % 3 + 1) T G) => hW.take x.p x.r hdr)
  have HLW := veil (fun W (hW : PQ W O pb 10 (m % 4 + 1) (m / 4 % 3 + 1) (T + 1) (ptkG (m % 4 + 1) (gh G) x.p x.r)) => hW.length)
  have HWH := veil (fun W (hW : PQ W O pb 10 (m % 4 + 1) (m / 4 % 3 + 1) (T + 1) (ptkG (m % 4 + 1) (gh G) x.p x.r)) id hid => hW.where id hid)
  have HTO := veil (fun c hc => HB2.out.took (p := x.p) (d := x.r) (c := c) hc)
  have HNO : Hid (bb (m % 4 + 1) (gh G) x.p x.r = none → ptkG (m % 4 + 1) (gh G) x.p x.r = G) := fun e => by unfold ptkG; rw [e]; exact Ms_gh _
  generalize bb (m % 4 + 1) (gh G) x.p x.r = o at *
  generalize ptkG (m % 4 + 1) (gh G) x.p x.r = G' at *
  cases o with
  | none =>
    have hg := HNO.out rfl
    rw [hg] at HTK HLW
    simp only [bI, bK, bA, Option.isSome_none] at HBE HTK
    generalize sumH (gh G) = s at *
    have hs1 : Ke.same ⟨false, 0, 0⟩ ⟨false, 0, 0⟩ = true := rfl
    clear HTO HNO HWH hg
    go_wp2_with (first
      | (go_at_call 24; have hh := HQ5.out; clear hh; refine (HLW.out _ HQ5.out).mono ?_; rintro e w6 ⟨rfl, hw⟩; replace hw := hw.symm; subst hw)
      | (go_at_call 24; refine (HN0.out).mono ?_; rintro e w3 ⟨rfl, hw⟩; replace hw := hw.symm; subst hw)
      | (go_at_call 17; refine (HBE.out).mono ?_; rintro e w4 ⟨rfl, hb4⟩; have HQ4 := veil (HB2.out.below (hb4.alloc hb4.size (.cells #[.bool false, .int .u64 0, .int .u8 0] 25))); have HL4 := veil (HL2.out.trans ((hb4.alloc hb4.size (.cells #[.bool false, .int .u64 0, .int .u8 0] 25)).mono HL2.out.size)); obtain ⟨c41, c46⟩ := HC.out _ HL4.out; have HBX := veil (World.alloc_heap_new w4 (.cells #[.bool false, .int .u64 0, .int .u8 0] 25)); have HWS := veil (show w2.heap.size ≤ w4.heap.size from hb4.size); clear hb4)
      | (go_at_call 25; refine (HTK.out _ HQ4.out).mono ?_; rintro e w5 ⟨rfl, hq5, hf5⟩; have hbx5 := (hf5.block w4.heap.size (by simp) (fun q => by have := HB2.out.blocks _ q; have := HWS.out; omega)).trans HBX.out; have hs5 : w4.heap.size < w5.heap.size := (Array.getElem?_eq_some_iff.1 hbx5).1; have HQ5 := veil (hq5.below ((Below.refl _ _).alloc (Nat.le_refl _) (.cells #[.bool false, .int .u64 0, .int .u8 0] 25))); have z0 : ¬ w4.heap.size = w5.heap.size := (by omega); have z1 : ¬ w5.heap.size = w4.heap.size := (by omega); have hbx6 : (w5.alloc (.cells #[.bool false, .int .u64 0, .int .u8 0] 25)).heap[w4.heap.size]? = some (.cells #[.bool false, .int .u64 0, .int .u8 0] 25) := (Below.heap_alloc _ _ _ hs5).trans hbx5; have p0 := (blk_cell hbx6 0).1; have p1 := (blk_cell hbx6 1).1; have p2 := (blk_cell hbx6 2).1; simp only [List.getElem?_toArray, List.getElem?_cons_zero, List.getElem?_cons_succ] at p0 p1 p2; have HL5 := veil (HL4.out.trans (hf5.below HL4.out.size HO.out)); clear hq5 hf5 hbx5 hbx6))
    go_ret
    exact ⟨by simp, HA.out.trans ((HL5.out.alloc HL5.out.size _).mono HA.out.size)⟩
  | some c =>
    obtain ⟨z, e1, e2, hzn, hzw, hzs⟩ := HTO.out c rfl
    have e3 : bA (some c) = (c : Int) := rfl
    rw [e1, e2, e3] at HBE HTK
    simp only [Option.isSome_some] at HBE HTK
    have HW1 := veil (fun W hW => HWH.out W hW (z.1 : Int) (wf_nat (by omega)))
    rw [hzw] at HW1
    simp only [Option.getD_none, Option.isSome_none] at HW1
    have HZS := veil hzs
    generalize sumH (gh G) = s at *
    generalize sumH (gh G') = s' at *
    have hss : (s : Int) - 1 = (s' : Int) := by omega
    have hs0 : s' ≤ 66560 := by omega
    obtain ⟨zi, zk⟩ := z
    simp only at HBE HTK HW1 hzn
    generalize zk = kk at *
    have hs1 : Ke.same kk kk = true := by rw [Ke.same_eq]; exact decide_eq_true rfl
    clear HTO HNO HWH e1 e2 e3 hzw hzs
    go_wp2_with (first
      | (go_at_call 24; have hh := HQ5.out; clear hh; refine (HLW.out _ HQ5.out).mono ?_; rintro e w6 ⟨rfl, hw⟩; replace hw := hw.symm; subst hw)
      | (go_at_call 24; refine (HN0.out).mono ?_; rintro e w3 ⟨rfl, hw⟩; replace hw := hw.symm; subst hw)
      | (go_at_call 23; refine (HW1.out _ HQ5.out).mono ?_; rintro e w6 ⟨rfl, hw⟩; replace hw := hw.symm; subst hw)
      | (go_at_call 17; refine (HBE.out).mono ?_; rintro e w4 ⟨rfl, hb4⟩; have HQ4 := veil (HB2.out.below (hb4.alloc hb4.size (.cells #[.bool kk.e, .int .u64 kk.d, .int .u8 kk.l] 25))); have HL4 := veil (HL2.out.trans ((hb4.alloc hb4.size (.cells #[.bool kk.e, .int .u64 kk.d, .int .u8 kk.l] 25)).mono HL2.out.size)); obtain ⟨c41, c46⟩ := HC.out _ HL4.out; have HBX := veil (World.alloc_heap_new w4 (.cells #[.bool kk.e, .int .u64 kk.d, .int .u8 kk.l] 25)); have HWS := veil (show w2.heap.size ≤ w4.heap.size from hb4.size); clear hb4)
      | (go_at_call 25; refine (HTK.out _ HQ4.out).mono ?_; rintro e w5 ⟨rfl, hq5, hf5⟩; have hbx5 := (hf5.block w4.heap.size (by simp) (fun q => by have := HB2.out.blocks _ q; have := HWS.out; omega)).trans HBX.out; have hs5 : w4.heap.size < w5.heap.size := (Array.getElem?_eq_some_iff.1 hbx5).1; have HQ5 := veil (hq5.below ((Below.refl _ _).alloc (Nat.le_refl _) (.cells #[.bool kk.e, .int .u64 kk.d, .int .u8 kk.l] 25))); have z0 : ¬ w4.heap.size = w5.heap.size := (by omega); have z1 : ¬ w5.heap.size = w4.heap.size := (by omega); have hbx6 : (w5.alloc (.cells #[.bool kk.e, .int .u64 kk.d, .int .u8 kk.l] 25)).heap[w4.heap.size]? = some (.cells #[.bool kk.e, .int .u64 kk.d, .int .u8 kk.l] 25) := (Below.heap_alloc _ _ _ hs5).trans hbx5; have p0 := (blk_cell hbx6 0).1; have p1 := (blk_cell hbx6 1).1; have p2 := (blk_cell hbx6 2).1; simp only [List.getElem?_toArray, List.getElem?_cons_zero, List.getElem?_cons_succ] at p0 p1 p2; have HL5 := veil (HL4.out.trans (hf5.below HL4.out.size HO.out)); clear hq5 hf5 hbx5 hbx6))
    go_ret
    exact ⟨by simp, HA.out.trans ((HL5.out.alloc HL5.out.size _).mono HA.out.size)⟩
end Go.Proofs.Ytlfejgjhamcahaa
