/- The document's Key. -/
import Derived.Test.YtbhkgbhgofefjaaR3
namespace Go.Proofs.Ytbhkgbhgofefjaa
open Go.RowKit
set_option linter.unusedVariables false
section
variable {w w' : World} {s : Nat} {T : List Th} {L : List Lk} {n0 cb co cw : Nat} {ab ao aw : Option Addr} {ln : Nat → Option Addr × Nat}
theorem rkey_no (h : Rv n0 w s ab cb ao co aw cw ln T L) (hn : n0 ≤ w.heap.size) (t : Int) (ht : inT T t = false) : Calls Try.prog 35 #[.pointer (some ⟨s, 0, none⟩), .int .i64 t] w fun e w' => e = .returned (.agg #[.bool (fixK 0).e, .int .u64 (fixK 0).d, .int .u8 (fixK 0).l]) ∧ Below w.heap.size w w' := by
  have c0 := h.c0
  have ls : s < w.heap.size := Nat.lt_of_lt_of_le h.sl hn
  unfold inT at ht
  simp only [decide_eq_false_iff_not] at ht
  by_cases h0 : t < 0
  · clear h ht
    go_enter Try.func35, Try.ntmps35
    go_wp2
    simp [bodyPost, results, Try.results35, go_sem, fixK]
    exact (Below.refl _ _).alloc (Nat.le_refl _) _
  · have h1 : (T.length : Int) ≤ t := by omega
    clear h ht
    go_enter Try.func35, Try.ntmps35
    go_wp2
    simp [bodyPost, results, Try.results35, go_sem, fixK]
    exact (Below.refl _ _).alloc (Nat.le_refl _) _
set_option maxRecDepth 100000 in
set_option maxHeartbeats 2000000 in
theorem rmost_ok (s : Nat) (ab : Option Addr) (cb : Nat) (ao : Option Addr) (co : Nat) (aw : Option Addr) (cw : Nat) (ln : Nat → Option Addr × Nat) (T : List Th) (L : List Lk) (f : Vf T L) (r : Nat → Nat) (hr : ∀ t s, Edge L t s → r t < r s) : ∀ (m t : Nat), r t < m → t < T.length → ∀ (n0 : Nat) (w : World), n0 ≤ w.heap.size → Rv n0 w s ab cb ao co aw cw ln T L →
    Calls Try.prog 35 #[.pointer (some ⟨s, 0, none⟩), .int .i64 (t : Int)] w fun e w' => e = .returned (.agg #[.bool (keyOf T L t).e, .int .u64 (keyOf T L t).d, .int .u8 (keyOf T L t).l]) ∧ Below w.heap.size w w' := by
  intro m
  induction m with
  | zero =>
    intro t hm
    omega
  | succ m ih =>
    intro t hm ht n0 w hn0 hv
    have ht' : (t : Int) < (T.length : Int) := by omega
    obtain ⟨x, hx⟩ : ∃ x, T[t]? = some x := ⟨_, List.getElem?_eq_getElem ht⟩
    have eown : ownK T t = x.k := by unfold ownK; rw [hx]; rfl
    have hd1 : decide (T.length ≤ t) = false := by simp; omega
    have hd2 : decide ((t : Int) < 0) = false := by simp
    have hd3 : ¬ T.length ≤ t := by omega
    have c0 := hv.c0
    have hle := hv.le
    have hl2 := f.l2
    have ls : s < w.heap.size := Nat.lt_of_lt_of_le hv.sl hn0
    obtain ⟨g, rfl, hg', x0, x1, x2⟩ := hv.kb t x hx
    have hg : g < w.heap.size := Nat.lt_of_lt_of_le hg' hn0
    have HV := veil hv
    have HIH := veil ih
    have HX := veil hx
    clear hv ih hx
    go_enter Try.func35, Try.ntmps35
    go_wp2
    have bR : KBox ((w.alloc (.cells #[.bool false, .int .u64 0, .int .u8 0] 36)).alloc (.cells #[.bool x.k.e, .int .u64 x.k.d, .int .u8 x.k.l] 36)) w.heap.size (fixK 0) := KBox.alloc (V := w.alloc (.cells #[.bool false, .int .u64 0, .int .u8 0] 36)) (b := w.heap.size) (k := fixK 0) (World.alloc_heap_new w _) _
    have bK : KBox ((w.alloc (.cells #[.bool false, .int .u64 0, .int .u8 0] 36)).alloc (.cells #[.bool x.k.e, .int .u64 x.k.d, .int .u8 x.k.l] 36)) (w.heap.size + 1) x.k := by
      have := World.alloc_heap_new (w.alloc (.cells #[.bool false, .int .u64 0, .int .u8 0] 36)) (.cells #[.bool x.k.e, .int .u64 x.k.d, .int .u8 x.k.l] 36)
      rw [World.size_alloc] at this
      exact this
    have hbe : Below w.heap.size w ((w.alloc (.cells #[.bool false, .int .u64 0, .int .u8 0] 36)).alloc (.cells #[.bool x.k.e, .int .u64 x.k.d, .int .u8 x.k.l] 36)) := ((Below.refl _ w).alloc (Nat.le_refl _) _).alloc (by simp) _
    generalize (w.alloc (.cells #[.bool false, .int .u64 0, .int .u8 0] 36)).alloc (.cells #[.bool x.k.e, .int .u64 x.k.d, .int .u8 x.k.l] 36) = W0 at bR bK hbe ⊢
    go_loopw [6] (fun p wr => ∃ (j : Nat), j ≤ L.length ∧ p = .int .i64 j ∧ KBox wr w.heap.size (fixK 0) ∧ KBox wr (w.heap.size + 1) (keyTo T L t (behind (L.take j) t).length) ∧ Below w.heap.size w wr) (fun p _ => L.length - (intOf p).toNat)
    case atStart => exact ⟨0, by omega, rfl, bR, by unfold keyTo; simpa [behind, eown] using bK, hbe⟩
    case round =>
      obtain ⟨j, hj, rfl, hR, hK, hB⟩ := hrel
      have HVr := veil (HV.out.below (hB.mono hn0))
      have c1 := HVr.out.c1
      have c2 := HVr.out.c2
      have HR := veil hR
      have HK := veil hK
      have HB := veil hB
      clear hR hK hB
      by_cases hjl : j < L.length
      · have hjl' : (j : Int) < (L.length : Int) := by omega
        obtain ⟨y, hy⟩ : ∃ y, L[j]? = some y := ⟨_, List.getElem?_eq_getElem hjl⟩
        obtain ⟨go, eo, hgo, o0⟩ := HVr.out.ow j y hy
        subst eo
        obtain ⟨gw, ew, hgw, y0, l1, l2, _⟩ := HVr.out.ce j y hy
        subst ew
        have hly : y.l.length ≤ 9223372036854775807 := by have := l2; unfold maxLen at this; omega
        have HY := veil hy
        clear hy
        by_cases hh : y.h = (t : Int)
        · have hh' : ¬ (y.h != (t : Int)) = true := by simp [hh]
          rw [hh] at o0
          go_wp2
          go_loopw [7] (fun p wr => ∃ (i : Nat), i ≤ y.l.length ∧ p = .int .i64 i ∧ KBox wr w.heap.size (fixK 0) ∧ KBox wr (w.heap.size + 1) (keyTo T L t ((behind (L.take j) t).length + i)) ∧ Below w.heap.size w wr) (fun p _ => y.l.length - (intOf p).toNat)
          case atStart => exact ⟨0, by omega, rfl, HR.out, HK.out, HB.out⟩
          case round =>
            obtain ⟨i, hi, rfl, hR, hK, hB⟩ := hrel
            have hVi := HV.out.below (hB.mono hn0)
            have d2 := hVi.c2
            obtain ⟨gw', ew', hgw', z0, m1, m2, hce⟩ := hVi.ce j y HY.out
            simp at ew'
            subst ew'
            have HR := veil hR
            have HK := veil hK
            have HB := veil hB
            clear hR hK hB
            by_cases hil : i < y.l.length
            · have hil' : (i : Int) < (y.l.length : Int) := by omega
              obtain ⟨q, hq⟩ : ∃ q, y.l[i]? = some q := ⟨_, List.getElem?_eq_getElem hil⟩
              obtain ⟨gg, eg, hgg, q0⟩ := hce i q hq
              have hbq := beh_at HY.out hh hq
              have hed : Edge L q t := mem_behind.1 (List.mem_of_getElem? hbq)
              have hql : q < T.length := by obtain ⟨z, hz, hzl, _⟩ := hed; exact f.lt z hz q hzl
              have hrq : r q < m := by have := hr q t hed; omega
              have HN := veil (keyTo_next (T := T) hbq)
              have HW : Hid (∀ V', Below wr.heap.size wr V' → Calls Try.prog 35 #[.pointer (some ⟨s, 0, none⟩), .int .i64 (q : Int)] V' fun e W' => e = .returned (.agg #[.bool (keyOf T L q).e, .int .u64 (keyOf T L q).d, .int .u8 (keyOf T L q).l]) ∧ Below V'.heap.size V' W') := by
                intro V' hV'
                have hb' : Below w.heap.size w V' := HB.out.trans (hV'.mono HB.out.size)
                exact HIH.out q hrq hql n0 V' (Nat.le_trans hn0 hb'.size) (HV.out.below (hb'.mono hn0))
              have HMx : Hid (∀ V', Calls Try.prog 23 #[.agg #[.bool (keyTo T L t ((behind (L.take j) t).length + i)).e, .int .u64 (keyTo T L t ((behind (L.take j) t).length + i)).d, .int .u8 (keyTo T L t ((behind (L.take j) t).length + i)).l], .agg #[.bool (keyOf T L q).e, .int .u64 (keyOf T L q).d, .int .u8 (keyOf T L q).l]] V' fun e W' => e = .returned (.agg #[.bool (maxK (keyTo T L t ((behind (L.take j) t).length + i)) (keyOf T L q)).e, .int .u64 (maxK (keyTo T L t ((behind (L.take j) t).length + i)) (keyOf T L q)).d, .int .u8 (maxK (keyTo T L t ((behind (L.take j) t).length + i)) (keyOf T L q)).l]) ∧ Below V'.heap.size V' W') := fun V' => rmax_ok V' _ _
              generalize keyTo T L t ((behind (L.take j) t).length + i) = kn at HMx HN HK
              generalize keyOf T L q = ky at HW HMx HN
              generalize hlv : (ln j).1 = va at z0 eg
              generalize hlc : (ln j).2 = vc at z0 m1 m2
              clear hlv hlc
              subst eg
              have ls2 : s < wr.heap.size := Nat.lt_of_lt_of_le ls HB.out.size
              have lw2 : gw < wr.heap.size := Nat.lt_of_lt_of_le (Nat.lt_of_lt_of_le hgw hn0) HB.out.size
              have lg2 : gg < wr.heap.size := Nat.lt_of_lt_of_le (Nat.lt_of_lt_of_le hgg hn0) HB.out.size
              have HCC : Hid (∀ V', Below wr.heap.size wr V' → V'.cell? ⟨s, 2, none⟩ = some (.slice (some ⟨gw, 0, none⟩) L.length cw) ∧ V'.cell? ⟨gw, j, none⟩ = some (.slice (some ⟨gg, 0, none⟩) y.l.length vc) ∧ V'.cell? ⟨gg, i, none⟩ = some (.int .i64 (q : Int))) := fun V' hb => ⟨(hb.cell (p := ⟨s, 2, none⟩) ls2).trans d2, (hb.cell (p := ⟨gw, j, none⟩) lw2).trans z0, (hb.cell (p := ⟨gg, i, none⟩) lg2).trans q0⟩
              have e3 : ∀ (V2 : World) b, b ≠ w.heap.size + 1 → (((V2.setCell ⟨w.heap.size + 1, 0, none⟩ (.bool (maxK kn ky).e)).setCell ⟨w.heap.size + 1, 1, none⟩ (.int .u64 (maxK kn ky).d)).setCell ⟨w.heap.size + 1, 2, none⟩ (.int .u8 (maxK kn ky).l)).heap[b]? = V2.heap[b]? := fun V2 b hb => by
                rw [Below.heap_setCell _ _ _ _ hb, Below.heap_setCell _ _ _ _ hb, Below.heap_setCell _ _ _ _ hb]
              have hns : s ≠ w.heap.size + 1 := by omega
              have hnw : gw ≠ w.heap.size + 1 := by omega
              have hng : gg ≠ w.heap.size + 1 := by omega
              have HCS : Hid (∀ V2, Below wr.heap.size wr V2 → (fun w' : World => w'.cell? ⟨s, 2, none⟩ = some (.slice (some ⟨gw, 0, none⟩) L.length cw) ∧ w'.cell? ⟨gw, j, none⟩ = some (.slice (some ⟨gg, 0, none⟩) y.l.length vc) ∧ w'.cell? ⟨gg, i, none⟩ = some (.int .i64 (q : Int)))
                  (((V2.setCell ⟨w.heap.size + 1, 0, none⟩ (.bool (maxK kn ky).e)).setCell ⟨w.heap.size + 1, 1, none⟩ (.int .u64 (maxK kn ky).d)).setCell ⟨w.heap.size + 1, 2, none⟩ (.int .u8 (maxK kn ky).l))) := fun V2 hb =>
                ⟨(World.cell?_of_block (e3 V2 s hns)).trans (HCC.out V2 hb).1, (World.cell?_of_block (e3 V2 gw hnw)).trans (HCC.out V2 hb).2.1, (World.cell?_of_block (e3 V2 gg hng)).trans (HCC.out V2 hb).2.2⟩
              have HFin : Hid (∀ V2, Below wr.heap.size wr V2 → (fun V3 => KBox V3 w.heap.size (fixK 0) ∧ KBox V3 (w.heap.size + 1) (keyTo T L t ((behind (L.take j) t).length + (i + 1))) ∧ Below w.heap.size w V3)
                  (((V2.setCell ⟨w.heap.size + 1, 0, none⟩ (.bool (maxK kn ky).e)).setCell ⟨w.heap.size + 1, 1, none⟩ (.int .u64 (maxK kn ky).d)).setCell ⟨w.heap.size + 1, 2, none⟩ (.int .u8 (maxK kn ky).l))) := by
                intro V2 hb2
                refine ⟨(e3 V2 _ (by omega)).trans (HR.out.below hb2), ?_, ?_⟩
                · rw [show (behind (L.take j) t).length + (i + 1) = (behind (L.take j) t).length + i + 1 by omega, HN.out]
                  exact (HK.out.below hb2).set _
                · exact (((HB.out.trans (hb2.mono HB.out.size)).setCell (p := ⟨w.heap.size + 1, 0, none⟩) (by simp) _).setCell (p := ⟨w.heap.size + 1, 1, none⟩) (by simp) _).setCell (p := ⟨w.heap.size + 1, 2, none⟩) (by simp) _
              have k0 := HK.out.at.1
              have k1 := HK.out.at.2.1
              have k2 := HK.out.at.2.2
              have HI := veil (show i + 1 ≤ y.l.length from hil)
              clear hce hq hbq hed e3
              go_wp2
              refine wp_region_held_drew (S := (fun w' => w'.cell? ⟨s, 2, none⟩ = some (.slice (some ⟨gw, 0, none⟩) L.length cw) ∧ w'.cell? ⟨gw, j, none⟩ = some (.slice (some ⟨gg, 0, none⟩) y.l.length vc) ∧ w'.cell? ⟨gg, i, none⟩ = some (.int .i64 (q : Int)))) (by kernel_rfl) ⟨d2, z0, q0⟩ (fun hHeld => ?_)
              refine wpAnyH_take (i := 1) (v := ?_) rfl (by kernel_rfl) (by kernel_rfl) (by kernel_rfl) (fun _ _ _ h => h) (Or.inl ⟨by rfl, ?v1⟩) (by assumption) ?_
              case v1 => (intro w hSw; (try dsimp only at hSw); go_simp; try with_reducible rfl)
              try simp only [Act.put, List.setIfInBounds_toArray, List.set_cons_zero, List.set_cons_succ, List.getElem_toArray, List.getElem_cons_succ, List.getElem_cons_zero]
              refine wpAnyH_take (i := 2) (v := ?_) rfl (by kernel_rfl) (by kernel_rfl) (by kernel_rfl) (fun _ _ _ h => h) (Or.inl ⟨by rfl, ?v2⟩) (by assumption) ?_
              case v2 => (intro w hSw; (try dsimp only at hSw); go_simp; try with_reducible rfl)
              try simp only [Act.put, List.setIfInBounds_toArray, List.set_cons_zero, List.set_cons_succ, List.getElem_toArray, List.getElem_cons_succ, List.getElem_cons_zero]
              refine wpAnyH_take (i := 3) (v := ?_) rfl (by kernel_rfl) (by kernel_rfl) (by kernel_rfl) (fun _ _ _ h => h) (Or.inl ⟨by rfl, ?v3⟩) (by assumption) ?_
              case v3 => (intro w hSw; (try dsimp only at hSw); go_simp; try with_reducible rfl)
              try simp only [Act.put, List.setIfInBounds_toArray, List.set_cons_zero, List.set_cons_succ, List.getElem_toArray, List.getElem_cons_succ, List.getElem_cons_zero]
              refine wpAnyH_take (i := 4) (v := ?_) rfl (by kernel_rfl) (by kernel_rfl) (by kernel_rfl) (fun _ _ _ h => h) (Or.inl ⟨by rfl, ?v4⟩) (by assumption) ?_
              case v4 => (intro w hSw; (try dsimp only at hSw); go_simp; try with_reducible rfl)
              try simp only [Act.put, List.setIfInBounds_toArray, List.set_cons_zero, List.set_cons_succ, List.getElem_toArray, List.getElem_cons_succ, List.getElem_cons_zero]
              refine wpAnyH_take (i := 5) (v := ?_) rfl (by kernel_rfl) (by kernel_rfl) (by kernel_rfl) (fun _ _ _ h => h) (Or.inl ⟨by rfl, ?v5⟩) (by assumption) ?_
              case v5 => (intro w hSw; (try dsimp only at hSw); go_simp; try with_reducible rfl)
              try simp only [Act.put, List.setIfInBounds_toArray, List.set_cons_zero, List.set_cons_succ, List.getElem_toArray, List.getElem_cons_succ, List.getElem_cons_zero]
              refine wpAnyH_take (i := 6) (v := ?_) rfl (by kernel_rfl) (by kernel_rfl) (by kernel_rfl) (fun _ _ _ h => h) (Or.inl ⟨by rfl, ?v6⟩) (by assumption) ?_
              case v6 => (intro w hSw; (try dsimp only at hSw); go_simp; try with_reducible rfl)
              try simp only [Act.put, List.setIfInBounds_toArray, List.set_cons_zero, List.set_cons_succ, List.getElem_toArray, List.getElem_cons_succ, List.getElem_cons_zero]
              refine wpAnyH_take (i := 7) (v := ?_) rfl (by kernel_rfl) (by kernel_rfl) (by kernel_rfl) (fun _ _ _ h => h) (Or.inl ⟨by rfl, ?v7⟩) (by assumption) ?_
              case v7 => (intro w hSw; (try dsimp only at hSw); go_simp; try with_reducible rfl)
              try simp only [Act.put, List.setIfInBounds_toArray, List.set_cons_zero, List.set_cons_succ, List.getElem_toArray, List.getElem_cons_succ, List.getElem_cons_zero]
              refine wpAnyH_take (i := 8) (v := ?_) rfl (by kernel_rfl) (by kernel_rfl) (by kernel_rfl) (fun _ _ _ h => h) (Or.inl ⟨by rfl, ?v8⟩) (by assumption) ?_
              case v8 => (intro w hSw; (try dsimp only at hSw); go_simp; try with_reducible rfl)
              try simp only [Act.put, List.setIfInBounds_toArray, List.set_cons_zero, List.set_cons_succ, List.getElem_toArray, List.getElem_cons_succ, List.getElem_cons_zero]
              refine wpAnyH_take (i := 9) (v := ?_) rfl (by kernel_rfl) (by kernel_rfl) (by kernel_rfl) (fun _ _ _ h => h) (Or.inl ⟨by rfl, ?v9⟩) (by assumption) ?_
              case v9 => (intro w hSw; (try dsimp only at hSw); go_simp; try with_reducible rfl)
              try simp only [Act.put, List.setIfInBounds_toArray, List.set_cons_zero, List.set_cons_succ, List.getElem_toArray, List.getElem_cons_succ, List.getElem_cons_zero]
              refine wpAnyH_take (i := 10) (v := ?_) rfl (by kernel_rfl) (by kernel_rfl) (by kernel_rfl) (fun _ _ _ h => h) (Or.inl ⟨by rfl, ?v10⟩) (by assumption) ?_
              case v10 => (intro w hSw; (try dsimp only at hSw); go_simp; try with_reducible rfl)
              try simp only [Act.put, List.setIfInBounds_toArray, List.set_cons_zero, List.set_cons_succ, List.getElem_toArray, List.getElem_cons_succ, List.getElem_cons_zero]
              refine wpAnyH_take (i := 11) (v := ?_) rfl (by kernel_rfl) (by kernel_rfl) (by kernel_rfl) (fun _ _ _ h => h) (Or.inl ⟨by rfl, ?v11⟩) (by assumption) ?_
              case v11 => (intro w hSw; (try dsimp only at hSw); go_simp; try with_reducible rfl)
              try simp only [Act.put, List.setIfInBounds_toArray, List.set_cons_zero, List.set_cons_succ, List.getElem_toArray, List.getElem_cons_succ, List.getElem_cons_zero]
              refine wpAnyH_ready (rs := [0, 12]) (by kernel_rfl) (by simp) ?_
              refine AllReadyH.cons rfl (fun K hK => ?_) (AllReadyH.cons rfl (fun K hK => ?_) AllReadyH.nil)
              · skip
                go_simp
                refine hK.out _ _ ?_ (fun hHeld => ?_)
                · exact hHeld
                clear hK K
                try simp only [Act.put, List.setIfInBounds_toArray, List.set_cons_zero, List.set_cons_succ, List.getElem_toArray, List.getElem_cons_succ, List.getElem_cons_zero]
                refine wpAnyH_ready (rs := [12]) (by kernel_rfl) (by simp) ?_
                refine AllReadyH.cons rfl (fun K hK => ?_) AllReadyH.nil
                go_simp
                go_at_call 35
                refine (HW.out _ ((Below.refl _ wr).drew)).mono ?_
                rintro e V1 ⟨rfl, hb⟩
                have hb1 : Below wr.heap.size wr V1 := ((Below.refl _ wr).drew).trans hb
                clear hb
                have HB1V := veil hb1
                have j0 := (HK.out.below hb1).at.1
                have j1 := (HK.out.below hb1).at.2.1
                have j2 := (HK.out.below hb1).at.2.2
                have q1 := HCC.out _ hb1
                clear hb1
                refine hK.out _ _ ?_ (fun hHeld => ?_)
                · exact q1
                clear hK K
                try simp only [Act.put, List.setIfInBounds_toArray, List.set_cons_zero, List.set_cons_succ, List.getElem_toArray, List.getElem_cons_succ, List.getElem_cons_zero]
                refine wpAnyH_ready (rs := [13]) (by kernel_rfl) (by simp) ?_
                refine AllReadyH.cons rfl (fun K hK => ?_) AllReadyH.nil
                go_simp
                go_at_call 23
                refine (HMx.out _).mono ?_
                rintro e V2 ⟨rfl, hb⟩
                have hb2 : Below wr.heap.size wr V2 := HB1V.out.trans (hb.mono HB1V.out.size)
                clear hb
                have HB2V := veil hb2
                have hK2 := HK.out.below hb2
                have i0 := hK2.at.1
                have i1 := hK2.at.2.1
                have i2 := hK2.at.2.2
                have fz2 := hK2.frozen
                have q2 := HCC.out _ hb2
                have HK2 := veil hK2
                clear hb2 hK2
                refine hK.out _ _ ?_ (fun hHeld => ?_)
                · exact q2
                clear hK K
                try simp only [Act.put, List.setIfInBounds_toArray, List.set_cons_zero, List.set_cons_succ, List.getElem_toArray, List.getElem_cons_succ, List.getElem_cons_zero]
                refine wpAnyH_ready (rs := [14]) (by kernel_rfl) (by simp) ?_
                refine AllReadyH.cons rfl (fun K hK => ?_) AllReadyH.nil
                go_simp
                refine hK.out _ _ ?_ (fun hHeld => ?_)
                · exact HCS.out V2 HB2V.out
                clear hK K
                try simp only [Act.put, List.setIfInBounds_toArray, List.set_cons_zero, List.set_cons_succ, List.getElem_toArray, List.getElem_cons_succ, List.getElem_cons_zero]
                refine wpAnyH_done (by kernel_rfl) ?_ _
                have HFN := veil (HFin.out V2 HB2V.out)
                clear HK2 HB1V HB2V HW HMx HCC HCS j0 j1 j2 i0 i1 i2 fz2 q1 q2
                obtain ⟨f1, f2, f3⟩ := HFN.out
                have HF1 := veil f1
                have HF2 := veil f2
                have HF3 := veil f3
                clear f1 f2 f3 HFN HFin
                go_wp2
                go_roundw
                case rel => exact ⟨i + 1, HI.out, by go_num, HF1.out, HF2.out, HF3.out⟩
                case measure => simp [intOf]; omega
              · skip
                go_simp
                go_at_call 35
                refine (HW.out _ ((Below.refl _ wr).drew)).mono ?_
                rintro e V1 ⟨rfl, hb⟩
                have hb1 : Below wr.heap.size wr V1 := ((Below.refl _ wr).drew).trans hb
                clear hb
                have HB1V := veil hb1
                have j0 := (HK.out.below hb1).at.1
                have j1 := (HK.out.below hb1).at.2.1
                have j2 := (HK.out.below hb1).at.2.2
                have q1 := HCC.out _ hb1
                clear hb1
                refine hK.out _ _ ?_ (fun hHeld => ?_)
                · exact q1
                clear hK K
                try simp only [Act.put, List.setIfInBounds_toArray, List.set_cons_zero, List.set_cons_succ, List.getElem_toArray, List.getElem_cons_succ, List.getElem_cons_zero]
                refine wpAnyH_ready (rs := [0]) (by kernel_rfl) (by simp) ?_
                refine AllReadyH.cons rfl (fun K hK => ?_) AllReadyH.nil
                go_simp
                refine hK.out _ _ ?_ (fun hHeld => ?_)
                · exact hHeld
                clear hK K
                try simp only [Act.put, List.setIfInBounds_toArray, List.set_cons_zero, List.set_cons_succ, List.getElem_toArray, List.getElem_cons_succ, List.getElem_cons_zero]
                refine wpAnyH_ready (rs := [13]) (by kernel_rfl) (by simp) ?_
                refine AllReadyH.cons rfl (fun K hK => ?_) AllReadyH.nil
                go_simp
                go_at_call 23
                refine (HMx.out _).mono ?_
                rintro e V2 ⟨rfl, hb⟩
                have hb2 : Below wr.heap.size wr V2 := HB1V.out.trans (hb.mono HB1V.out.size)
                clear hb
                have HB2V := veil hb2
                have hK2 := HK.out.below hb2
                have i0 := hK2.at.1
                have i1 := hK2.at.2.1
                have i2 := hK2.at.2.2
                have fz2 := hK2.frozen
                have q2 := HCC.out _ hb2
                have HK2 := veil hK2
                clear hb2 hK2
                refine hK.out _ _ ?_ (fun hHeld => ?_)
                · exact q2
                clear hK K
                try simp only [Act.put, List.setIfInBounds_toArray, List.set_cons_zero, List.set_cons_succ, List.getElem_toArray, List.getElem_cons_succ, List.getElem_cons_zero]
                refine wpAnyH_ready (rs := [14]) (by kernel_rfl) (by simp) ?_
                refine AllReadyH.cons rfl (fun K hK => ?_) AllReadyH.nil
                go_simp
                refine hK.out _ _ ?_ (fun hHeld => ?_)
                · exact HCS.out V2 HB2V.out
                clear hK K
                try simp only [Act.put, List.setIfInBounds_toArray, List.set_cons_zero, List.set_cons_succ, List.getElem_toArray, List.getElem_cons_succ, List.getElem_cons_zero]
                refine wpAnyH_done (by kernel_rfl) ?_ _
                have HFN := veil (HFin.out V2 HB2V.out)
                clear HK2 HB1V HB2V HW HMx HCC HCS j0 j1 j2 i0 i1 i2 fz2 q1 q2
                obtain ⟨f1, f2, f3⟩ := HFN.out
                have HF1 := veil f1
                have HF2 := veil f2
                have HF3 := veil f3
                clear f1 f2 f3 HFN HFin
                go_wp2
                go_roundw
                case rel => exact ⟨i + 1, HI.out, by go_num, HF1.out, HF2.out, HF3.out⟩
                case measure => simp [intOf]; omega
            · have hil' : ¬ (i : Int) < (y.l.length : Int) := by omega
              obtain rfl : i = y.l.length := by omega
              clear hce
              go_wp2
              go_roundw
              case rel =>
                refine ⟨j + 1, by omega, by go_num, HR.out, ?_, HB.out⟩
                rw [beh_yes HY.out hh, List.length_append]
                exact HK.out
              case measure => simp [intOf]; omega
        · have hh' : (y.h != (t : Int)) = true := by simp [hh]
          have HE := veil (beh_no HY.out hh)
          generalize y.h = yh at o0 hh hh'
          go_wp2
          go_roundw
          case rel =>
            refine ⟨j + 1, by omega, by go_num, HR.out, ?_, HB.out⟩
            rw [HE.out]
            exact HK.out
          case measure => simp [intOf]; omega
      · have hjl' : ¬ (j : Int) < (L.length : Int) := by omega
        obtain rfl : j = L.length := by omega
        have hKe := HK.out
        rw [List.take_length, keyTo_end f.ac] at hKe
        have k0 := hKe.at.1
        have k1 := hKe.at.2.1
        have k2 := hKe.at.2.2
        have fz := HR.out.frozen
        have r0 := HR.out.at.1
        have r1 := HR.out.at.2.1
        have r2 := HR.out.at.2.2
        have hset := (HR.out.set (keyOf T L t)).at
        have d0 := hset.1
        have d1 := hset.2.1
        have d2 := hset.2.2
        clear hKe hset
        go_wp2
        simp [bodyPost, results, Try.results35, go_sem, d0, d1, d2]
        exact ((HB.out.setCell (p := ⟨w.heap.size, 0, none⟩) (by simp) _).setCell (p := ⟨w.heap.size, 1, none⟩) (by simp) _).setCell (p := ⟨w.heap.size, 2, none⟩) (by simp) _
end
end Go.Proofs.Ytbhkgbhgofefjaa
