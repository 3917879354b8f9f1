/- PimutexKeys' walk. -/
import Derived.Test.YtbhkgbhgofefjaaR17
namespace Go.Proofs.Ytbhkgbhgofefjaa
open Go.RowKit
set_option linter.unusedVariables false
/-- The lines behind one, by the locks that it holds. -/
theorem behind_to (L : List Lk) (t : Nat) : ∀ j, j ≤ L.length → behind (L.take j) t = (heldTo L (t : Int) j).flatMap (waitersOf L)
  | 0, _ => by simp [behind, heldTo]
  | j + 1, hj => by
    have ih := behind_to L t j (by omega)
    obtain ⟨y, hy⟩ : ∃ y, L[j]? = some y := ⟨_, List.getElem?_eq_getElem (by omega)⟩
    have ew : waitersOf L (j : Int) = y.l := by
      unfold waitersOf
      rw [if_pos (by unfold inL; simp; omega), Int.toNat_natCast, hy]
      rfl
    have e1 : behind (L.take (j + 1)) t = behind (L.take j) t ++ behind [y] t := by
      rw [take_snoc hy]
      unfold behind
      rw [List.filter_append, List.flatMap_append]
    by_cases h : y.h = (t : Int)
    · rw [e1, ih, heldTo_yes hy h, List.flatMap_append]
      simp [behind, h, ew]
    · rw [e1, ih, heldTo_no hy h]
      simp [behind, h]
theorem behind_held (L : List Lk) (t : Nat) : behind L t = (heldOf L (t : Int)).flatMap (waitersOf L) := by
  have := behind_to L t L.length (Nat.le_refl _)
  rw [List.take_length] at this
  exact this
def pre (L : List Lk) (H : List Int) (i : Nat) : Nat := ((H.take i).flatMap (waitersOf L)).length
theorem pre_next {L : List Lk} {H : List Int} {i : Nat} {m : Int} (hm : H[i]? = some m) : pre L H (i + 1) = pre L H i + (waitersOf L m).length := by
  unfold pre
  rw [take_snoc hm, List.flatMap_append]
  simp
theorem pre_at {L : List Lk} {H : List Int} {i j : Nat} {m : Int} {q : Nat} (hm : H[i]? = some m) (hq : (waitersOf L m)[j]? = some q) : (H.flatMap (waitersOf L))[pre L H i + j]? = some q := by
  obtain ⟨hi, e⟩ := List.getElem?_eq_some_iff.1 hm
  have hs : H = H.take i ++ m :: H.drop (i + 1) := by
    rw [← e, ← List.drop_eq_getElem_cons hi, List.take_append_drop]
  unfold pre
  conv => lhs; rw [hs]
  rw [List.flatMap_append, List.getElem?_append_right (by rw [← hs]; omega)]
  rw [← hs, show ((H.take i).flatMap (waitersOf L)).length + j - ((H.take i).flatMap (waitersOf L)).length = j by omega, List.flatMap_cons, List.getElem?_append_left (List.getElem?_eq_some_iff.1 hq).1]
  exact hq
theorem keyA_nat' {T : List Th} {L : List Lk} {t : Nat} (h : t < T.length) : keyA T L (t : Int) = keyOf T L t := by unfold keyA; rw [if_pos (by unfold inT; simp; omega), Int.toNat_natCast]
theorem baseR_ways {M : Md} (t : Int) (k : K) : baseR M t k = (2, M) ∨ ∃ (i : Nat) (x : Th), t = (i : Int) ∧ M.T[i]? = some x ∧ baseR M t k = (0, ⟨M.T.set i ⟨k, x.u⟩, M.L⟩) := by
  unfold baseR
  cases h : (inT M.T t && rightK k)
  · exact .inl rfl
  · simp at h
    obtain ⟨i, x, rfl, hi, hx, _⟩ := inT_yes h.1
    refine .inr ⟨i, x, rfl, hx, ?_⟩
    simp [hx]
section
variable {w w' : World} {kb : Nat} {k k' : K} {base : Nat} {v hv : Value} {xs H : List Int}
theorem IL.setk (h : IL w base v xs) (hb : kb < base) (k' : K) : IL (((w.setCell ⟨kb, 0, none⟩ (.bool k'.e)).setCell ⟨kb, 1, none⟩ (.int .u64 k'.d)).setCell ⟨kb, 2, none⟩ (.int .u8 k'.l)) base v xs := ownsRow_far h (fun q hq => by
  have hne : q ≠ kb := by have := (ownsRow_blk h hq).1; omega
  rw [Below.heap_setCell _ _ _ _ hne, Below.heap_setCell _ _ _ _ hne, Below.heap_setCell _ _ _ _ hne])
theorem IL.low (h : IL w base v xs) {b : Nat} (hb : b ≤ base) : IL w b v xs := row_low h hb
/-- What stands while the key is drawn together. -/
structure KI (w wr : World) (kb : Nat) (hv : Value) (H : List Int) (k : K) : Prop where
  box : KBox wr kb k
  il : IL wr (kb + 1) hv H
  be : Below kb w wr
  lo : w.heap.size = kb
theorem KI.below {wr wr' : World} (h : KI w wr kb hv H k) (hb : Below wr.heap.size wr wr') : KI w wr' kb hv H k := ⟨h.box.below hb, h.il.below hb, h.be.trans (hb.mono (by have := h.be.size; have := h.lo; omega)), h.lo⟩
theorem KI.set {wr : World} (h : KI w wr kb hv H k) (k' : K) : KI w (((wr.setCell ⟨kb, 0, none⟩ (.bool k'.e)).setCell ⟨kb, 1, none⟩ (.int .u64 k'.d)).setCell ⟨kb, 2, none⟩ (.int .u8 k'.l)) kb hv H k' :=
  ⟨h.box.set k', h.il.setk (by omega) k', ((h.be.setCell (p := ⟨kb, 0, none⟩) (Nat.le_refl _) _).setCell (p := ⟨kb, 1, none⟩) (Nat.le_refl _) _).setCell (p := ⟨kb, 2, none⟩) (Nat.le_refl _) _, h.lo⟩
end
set_option maxRecDepth 100000 in
set_option maxHeartbeats 4000000 in
theorem Keys_walk (m : Nat) (hm : m < 256) (a : Option Addr) (len cap : Nat) (L : Nat → Dp) (hlen : len < 9223372036854775808) (w : World) (hd : Dps w a len L) (x : Dp) (hx : x.ok) :
    Calls Try.prog 5 #[.int .u8 m, .slice a len cap, .agg #[.int .i64 x.k, .int .i64 x.p, .int .i64 x.i, .bool x.e, .int .u64 x.d, .int .u8 x.l]] w fun e w' => e = .returned (.bool true) ∧ Below w.heap.size w w' := by
  have HD0 : Hid (DB (w.alloc (.cells #[.int .i64 x.k, .int .i64 x.p, .int .i64 x.i, .bool x.e, .int .u64 x.d, .int .u8 x.l] 38)) w.heap.size x) := World.alloc_heap_new w _
  have HB0 : Hid (Below w.heap.size w (w.alloc (.cells #[.int .i64 x.k, .int .i64 x.p, .int .i64 x.i, .bool x.e, .int .u64 x.d, .int .u8 x.l] 38))) := (Below.refl _ _).alloc (Nat.le_refl _) _
  have HP := veil (play_ok _ m hm a len cap hlen L (hd.deed (.cells #[.int .i64 x.k, .int .i64 x.p, .int .i64 x.i, .bool x.e, .int .u64 x.d, .int .u8 x.l] 38)))
  clear hd
  go_enter Try.func5, Try.ntmps5
  go_wp2_with (first
    | (go_at_call 14; refine (HP.out).mono ?_; rintro e w1 ⟨g, r, O, D, M, rfl, hB, hsz, hL⟩; have HB := veil hB; have HL := veil hL; clear hB hL hsz)
    | (go_at_call 15; refine (live_ok _).mono ?_; rintro e w2 ⟨rfl, hb2⟩; have HB2 := veil (HB.out.below hb2); have HL2 := veil (HL.out.trans (hb2.mono HL.out.size)); have HD2 := veil (HD0.out.below (HL2.out)); obtain ⟨c0, c1, c2, c3, c4, c5⟩ := HD2.out.cells; clear hb2))
  have hbp := HB2.out.p.base x.p x.ky (Dp.ok.k hx)
  have HSo := veil HB2.out.solo
  rcases baseR_ways (M := M) x.p x.ky with eq | ⟨t, xt, ep, hxt, eq⟩
  · have hbr := fun W (hb : RG W (w.alloc (.cells #[.int .i64 x.k, .int .i64 x.p, .int .i64 x.i, .bool x.e, .int .u64 x.d, .int .u8 x.l] 38)).heap.size D r M) => hb.base x.p x.ky (Dp.ok.k hx)
    rw [eq] at hbp hbr
    have HBp := veil hbp
    have HBr := veil hbr
    clear hbp hbr eq
    go_wp2_with (first
      | (go_at_call 21; refine (HBp.out).mono ?_; rintro e w3 ⟨rfl, hs⟩; obtain ⟨O3, hso, hf, hn⟩ := HSo.out.step hs; have HS3 := veil hso; have HL3 := veil (HL2.out.trans (hf.below HL2.out.size (fun k hk => HSo.out.p.ge hk))); have HD3 := veil (HD0.out.below HL3.out); obtain ⟨d0, d1, d2, d3, d4, d5⟩ := HD3.out.cells; clear hs hso hf hn)
      | (go_at_call 22; refine (HBr.out _ HS3.out.r).mono ?_; rintro e w4 ⟨rfl, D4, hr4, hf4, hn4⟩; have HB4 : Hid (Both w4 _ O3 D4 g r M) := ⟨HS3.out.p.frame hf4 (fun k hk hd => HS3.out.ap k hk hd), hr4, fun k hk hd => by rcases hn4 k hd with q | q; exact HS3.out.ap k hk q; exact absurd (HS3.out.p.lt hk) (by omega)⟩; have HL4 := veil (HL3.out.trans (hf4.below HL3.out.size (fun k hk => HS3.out.r.ge hk))); clear hr4 hf4 hn4)
      | (go_at_call 16; refine (same_ok HB4.out).mono ?_; rintro e w5 ⟨rfl, hb⟩; have HL5 := veil (HL4.out.trans (hb.mono HL4.out.size)); clear hb))
    go_ret
    exact ⟨rfl, HB0.out.trans (HL5.out.mono HB0.out.size)⟩
  · rw [eq] at hbp
    have HBp := veil hbp
    have ht := (List.getElem?_eq_some_iff.1 hxt).1
    have eown : ownK (M.T.set t ⟨x.ky, xt.u⟩) t = x.ky := by unfold ownK; simp [ht]
    have htl : t < (M.T.set t ⟨x.ky, xt.u⟩).length := by simpa using ht
    have HEP := veil ep
    clear hbp eq hxt ep
    generalize M.T.set t ⟨x.ky, xt.u⟩ = T1 at HBp eown htl
    generalize M.L = L1 at HBp
    go_wp2_with (first
      | (go_at_call 21; refine (HBp.out).mono ?_; rintro e w3 ⟨rfl, hs⟩; obtain ⟨O3, hso, hf, hn⟩ := HSo.out.step hs; have HS3 := veil hso; have HL3 := veil (HL2.out.trans (hf.below HL2.out.size (fun k hk => HSo.out.p.ge hk))); have HD3 := veil (HD0.out.below HL3.out); obtain ⟨d0, d1, d2, d3, d4, d5⟩ := HD3.out.cells; clear hs hso hf hn; have e1 : ∀ o, (w3.alloc o).cell? ⟨w.heap.size, 1, none⟩ = some (.int .i64 x.p) := fun o => (((Below.refl _ w3).alloc (Nat.le_refl _) o).cell (p := ⟨w.heap.size, 1, none⟩) (Array.getElem?_eq_some_iff.1 HD3.out).1).trans d1)
      | (go_at_call 17; refine ((HS3.out.p.below ((Below.refl _ w3).alloc (Nat.le_refl _) (.cells #[.bool x.e, .int .u64 x.d, .int .u8 x.l] 36))).held x.p).mono ?_; rintro e w4 ⟨hv, rfl, hil, hb4⟩; have HI4 := veil hil; have HB4 := veil hb4; clear hil hb4))
    have hH : heldA T1 L1 x.p = heldOf L1 (t : Int) := by unfold heldA; rw [HEP.out, if_pos (by unfold inT; simp; omega)]
    have hbx : KBox (w3.alloc (.cells #[.bool x.e, .int .u64 x.d, .int .u8 x.l] 36)) w3.heap.size x.ky := World.alloc_heap_new w3 _
    have hil4 := HI4.out
    rw [World.size_alloc] at hil4
    have HK4 : Hid (KI w3 w4 w3.heap.size hv (heldA T1 L1 x.p) x.ky) := ⟨hbx.below HB4.out, hil4, ((Below.refl _ w3).alloc (Nat.le_refl _) _).trans (HB4.out.mono (by simp)), rfl⟩
    have HPk : Hid (∀ W, Below w3.heap.size w3 W → PG W _ O3 g ⟨T1, L1⟩) := fun W hb => HS3.out.p.below hb
    have HDk : Hid (∀ W, Below w3.heap.size w3 W → W.cell? ⟨w.heap.size, 1, none⟩ = some (.int .i64 x.p)) := fun W hb => (hb.cell (p := ⟨w.heap.size, 1, none⟩) (Array.getElem?_eq_some_iff.1 HD3.out).1).trans d1
    have HLk : Hid (∀ W, Below w3.heap.size w3 W → Below w.heap.size w W) := fun W hb => HB0.out.trans ((HL3.out.trans (hb.mono HL3.out.size)).mono HB0.out.size)
    have HFi : Hid (Fine T1 L1) := HS3.out.p.f
    have hlen4 : (heldA T1 L1 x.p).length ≤ 1024 := heldA_len (M := ⟨T1, L1⟩) HFi.out x.p
    have HKx := veil (fun W hb => (HPk.out W hb).key x.p)
    have ekx : keyA T1 L1 x.p = keyTo T1 L1 t (pre L1 (heldA T1 L1 x.p) (heldA T1 L1 x.p).length) := by
      rw [HEP.out, keyA_nat' htl, ← keyTo_end HFi.out.ac, behind_held, ← HEP.out, hH]
      unfold pre
      rw [List.take_length, HEP.out]
    have HEK := veil ekx
    have HHH := veil hH
    have HOW := veil eown
    clear hbx hil4 hH HI4 HB4 HS3 HSo HBp HB HB2 HL HL2 HL3 HD3 HD2 ekx eown e1 c0 c1 c2 c3 c4 c5 d0 d1 d2 d3 d4 d5
    generalize heldA T1 L1 x.p = H at *
    obtain ⟨ha, hc, rfl⟩ := HK4.out.il.slice
    generalize w3.heap.size = kb at *
    go_loopw [12] (fun p wr => ∃ (i : Nat), i ≤ H.length ∧ p = .int .i64 i ∧ KI w3 wr kb (.slice ha H.length hc) H (keyTo T1 L1 t (pre L1 H i))) (fun p _ => H.length - (intOf p).toNat)
    case atStart =>
      refine ⟨0, by omega, rfl, ?_⟩
      have e0 : keyTo T1 L1 t (pre L1 H 0) = x.ky := by unfold keyTo pre; simpa using HOW.out
      rw [e0]
      exact HK4.out
    case round =>
      obtain ⟨i, hi, rfl, hK⟩ := hrel
      by_cases hil : i < H.length
      · have hil' : (i : Int) < (H.length : Int) := by omega
        obtain ⟨m1, hm1⟩ : ∃ m1, H[i]? = some m1 := ⟨_, List.getElem?_eq_getElem hil⟩
        obtain ⟨hg, hcc, eh, hg1, hg2, hcell⟩ := hK.il.cells (by intro q; rw [q] at hil; simp at hil)
        simp only [Value.slice.injEq, true_and] at eh
        obtain ⟨rfl, rfl⟩ := eh
        have q0 := hcell i hil
        rw [List.getD_eq_getElem?_getD, hm1, Option.getD_some] at q0
        have HWa := veil ((HPk.out wr hK.be).waiters m1)
        have hwl : (waitersOf L1 m1).length ≤ 1024 := by have := waiters_len (M := ⟨T1, L1⟩) HFi.out m1; simpa using this
        have HK := veil hK
        have HM1 := veil hm1
        clear hK hm1 hcell
        go_wp2_with (first
          | (go_at_call 19; refine (HWa.out).mono ?_; rintro e w5 ⟨wv, rfl, hil5, hb5⟩; have HI5 := veil (hil5.low (b := kb + 1) (by have := HK.out.box.lt; omega)); have HK5 := veil (HK.out.below hb5); clear hil5 hb5))
        obtain ⟨wa, wc, ew⟩ := HI5.out.slice
        rw [List.length_map] at ew
        subst ew
        have HWL : Hid (∀ (j q : Nat), (waitersOf L1 m1)[j]? = some q → (behind L1 t)[pre L1 H i + j]? = some q ∧ q < T1.length) := fun j q hq => by
          have hb : (behind L1 t)[pre L1 H i + j]? = some q := by rw [behind_held, ← HHH.out]; exact pre_at HM1.out hq
          obtain ⟨z, hz, hzl, _⟩ := mem_behind.1 (List.mem_of_getElem? hb)
          exact ⟨hb, (HFi.out.lk z hz).2.2.1 q hzl⟩
        have HPN := veil (pre_next (L := L1) HM1.out)
        generalize waitersOf L1 m1 = Wl at HI5 HWL HPN hwl
        clear HWa
        go_loopw [14] (fun p wr => ∃ (j : Nat), j ≤ Wl.length ∧ p = .int .i64 j ∧ KI w3 wr kb (.slice (some ⟨hg, 0, none⟩) H.length hc) H (keyTo T1 L1 t (pre L1 H i + j)) ∧ IL wr (kb + 1) (.slice wa Wl.length wc) (Wl.map (fun (t : Nat) => (t : Int)))) (fun p _ => Wl.length - (intOf p).toNat)
        case atStart => exact ⟨0, by omega, rfl, HK5.out, HI5.out⟩
        case round =>
          obtain ⟨j, hj, rfl, hK, hI⟩ := hrel
          clear HK5 HI5 HK q0
          by_cases hjl : j < Wl.length
          · have hjl' : (j : Int) < (Wl.length : Int) := by omega
            obtain ⟨q, hq⟩ : ∃ q, Wl[j]? = some q := ⟨_, List.getElem?_eq_getElem hjl⟩
            obtain ⟨hbq, hql⟩ := HWL.out j q hq
            obtain ⟨gw, gc, eg, hgw1, hgw2, hcell⟩ := hI.cells (by intro z; have := congrArg List.length z; simp at this; rw [this] at hjl; simp at hjl)
            simp only [Value.slice.injEq] at eg
            obtain ⟨rfl, hlw, rfl⟩ := eg
            clear hlw
            have q0 := hcell j (by simpa using hjl)
            rw [List.getD_eq_getElem?_getD, List.getElem?_map, hq, Option.map_some, Option.getD_some] at q0
            have HN := veil (keyTo_next (T := T1) hbq)
            have hsz : kb ≤ wr.heap.size := Nat.le_of_lt hK.box.lt
            have HW : Hid (∀ V', Below wr.heap.size wr V' → Calls Try.prog 24 #[.pointer (some ⟨g, 0, none⟩), .int .i64 (q : Int)] V' fun e W' => e = .returned (.agg #[.bool (keyOf T1 L1 q).e, .int .u64 (keyOf T1 L1 q).d, .int .u8 (keyOf T1 L1 q).l]) ∧ Below V'.heap.size V' W') := by
              intro V' hV'
              have := (HPk.out V' (hK.be.trans (hV'.mono hsz))).key (q : Int)
              rw [keyA_nat' hql] at this
              exact this
            have HMx := veil (fun V' => rmax_ok V' (keyTo T1 L1 t (pre L1 H i + j)) (keyOf T1 L1 q))
            have HKb := veil hK.box
            have HKI := veil hK
            have HII := veil hI
            generalize keyTo T1 L1 t (pre L1 H i + j) = kn at HMx HN HKb HKI
            generalize keyOf T1 L1 q = ky at HW HMx HN
            have HCC : Hid (∀ V', Below wr.heap.size wr V' → V'.cell? ⟨gw, j, none⟩ = some (.int .i64 (q : Int))) := fun V' hb => (hb.cell (p := ⟨gw, j, none⟩) hgw2).trans q0
            have hng : gw ≠ kb := by omega
            have HCS : Hid (∀ V2, Below wr.heap.size wr V2 → (fun w' : World => w'.cell? ⟨gw, j, none⟩ = some (.int .i64 (q : Int))) (((V2.setCell ⟨kb, 0, none⟩ (.bool (maxK kn ky).e)).setCell ⟨kb, 1, none⟩ (.int .u64 (maxK kn ky).d)).setCell ⟨kb, 2, none⟩ (.int .u8 (maxK kn ky).l))) := fun V2 hb =>
              (World.cell?_of_block (by rw [Below.heap_setCell _ _ _ _ hng, Below.heap_setCell _ _ _ _ hng, Below.heap_setCell _ _ _ _ hng])).trans (HCC.out V2 hb)
            have HFin : Hid (∀ V2, Below wr.heap.size wr V2 → KI w3 (((V2.setCell ⟨kb, 0, none⟩ (.bool (maxK kn ky).e)).setCell ⟨kb, 1, none⟩ (.int .u64 (maxK kn ky).d)).setCell ⟨kb, 2, none⟩ (.int .u8 (maxK kn ky).l)) kb (.slice (some ⟨hg, 0, none⟩) H.length hc) H (keyTo T1 L1 t (pre L1 H i + (j + 1))) ∧ IL (((V2.setCell ⟨kb, 0, none⟩ (.bool (maxK kn ky).e)).setCell ⟨kb, 1, none⟩ (.int .u64 (maxK kn ky).d)).setCell ⟨kb, 2, none⟩ (.int .u8 (maxK kn ky).l)) (kb + 1) (.slice (some ⟨gw, 0, none⟩) Wl.length wc) (Wl.map (fun (t : Nat) => (t : Int)))) := fun V2 hb => by
              rw [← Nat.add_assoc, HN.out]
              exact ⟨(HKI.out.below hb).set _, (HII.out.below hb).setk (by omega) _⟩
            have k0 := HKb.out.at.1
            have k1 := HKb.out.at.2.1
            have k2 := HKb.out.at.2.2
            have HI := veil (show j + 1 ≤ Wl.length from hjl)
            clear hK hI hq hbq hcell
            go_wp2
            refine wp_region_held_drew (S := (fun w' => w'.cell? ⟨gw, j, none⟩ = some (.int .i64 (q : Int)))) (by kernel_rfl) q0 (fun hHeld => ?_)
            refine wpAnyH_take (i := 1) (v := ?_) rfl (by kernel_rfl) (by kernel_rfl) (by kernel_rfl) (fun _ _ _ h => h) (Or.inl ⟨by rfl, ?v1⟩) (by assumption) ?_
            case v1 => (intro w hSw; (try dsimp only at hSw); go_simp; try with_reducible rfl)
            try simp only [Act.put, List.setIfInBounds_toArray, List.set_cons_zero, List.set_cons_succ, List.getElem_toArray, List.getElem_cons_succ, List.getElem_cons_zero]
            refine wpAnyH_take (i := 2) (v := ?_) rfl (by kernel_rfl) (by kernel_rfl) (by kernel_rfl) (fun _ _ _ h => h) (Or.inl ⟨by rfl, ?v2⟩) (by assumption) ?_
            case v2 => (intro w hSw; (try dsimp only at hSw); go_simp; try with_reducible rfl)
            try simp only [Act.put, List.setIfInBounds_toArray, List.set_cons_zero, List.set_cons_succ, List.getElem_toArray, List.getElem_cons_succ, List.getElem_cons_zero]
            refine wpAnyH_take (i := 3) (v := ?_) rfl (by kernel_rfl) (by kernel_rfl) (by kernel_rfl) (fun _ _ _ h => h) (Or.inl ⟨by rfl, ?v3⟩) (by assumption) ?_
            case v3 => (intro w hSw; (try dsimp only at hSw); go_simp; try with_reducible rfl)
            try simp only [Act.put, List.setIfInBounds_toArray, List.set_cons_zero, List.set_cons_succ, List.getElem_toArray, List.getElem_cons_succ, List.getElem_cons_zero]
            refine wpAnyH_take (i := 4) (v := ?_) rfl (by kernel_rfl) (by kernel_rfl) (by kernel_rfl) (fun _ _ _ h => h) (Or.inl ⟨by rfl, ?v4⟩) (by assumption) ?_
            case v4 => (intro w hSw; (try dsimp only at hSw); go_simp; try with_reducible rfl)
            try simp only [Act.put, List.setIfInBounds_toArray, List.set_cons_zero, List.set_cons_succ, List.getElem_toArray, List.getElem_cons_succ, List.getElem_cons_zero]
            refine wpAnyH_take (i := 5) (v := ?_) rfl (by kernel_rfl) (by kernel_rfl) (by kernel_rfl) (fun _ _ _ h => h) (Or.inl ⟨by rfl, ?v5⟩) (by assumption) ?_
            case v5 => (intro w hSw; (try dsimp only at hSw); go_simp; try with_reducible rfl)
            try simp only [Act.put, List.setIfInBounds_toArray, List.set_cons_zero, List.set_cons_succ, List.getElem_toArray, List.getElem_cons_succ, List.getElem_cons_zero]
            refine wpAnyH_ready (rs := [0, 6]) (by kernel_rfl) (by simp) ?_
            refine AllReadyH.cons rfl (fun K hK => ?_) (AllReadyH.cons rfl (fun K hK => ?_) AllReadyH.nil)
            · skip
              go_simp
              refine hK.out _ _ ?_ (fun hHeld => ?_)
              · exact hHeld
              clear hK K
              try simp only [Act.put, List.setIfInBounds_toArray, List.set_cons_zero, List.set_cons_succ, List.getElem_toArray, List.getElem_cons_succ, List.getElem_cons_zero]
              refine wpAnyH_ready (rs := [6]) (by kernel_rfl) (by simp) ?_
              refine AllReadyH.cons rfl (fun K hK => ?_) AllReadyH.nil
              go_simp
              go_at_call 24
              refine (HW.out _ ((Below.refl _ wr).drew)).mono ?_
              rintro e V1 ⟨rfl, hb⟩
              have hb1 : Below wr.heap.size wr V1 := ((Below.refl _ wr).drew).trans hb
              clear hb
              have HB1V := veil hb1
              have j0 := (HKb.out.below hb1).at.1
              have j1 := (HKb.out.below hb1).at.2.1
              have j2 := (HKb.out.below hb1).at.2.2
              have q1 := HCC.out _ hb1
              clear hb1
              refine hK.out _ _ ?_ (fun hHeld => ?_)
              · exact q1
              clear hK K
              try simp only [Act.put, List.setIfInBounds_toArray, List.set_cons_zero, List.set_cons_succ, List.getElem_toArray, List.getElem_cons_succ, List.getElem_cons_zero]
              refine wpAnyH_ready (rs := [7]) (by kernel_rfl) (by simp) ?_
              refine AllReadyH.cons rfl (fun K hK => ?_) AllReadyH.nil
              go_simp
              go_at_call 23
              refine (HMx.out _).mono ?_
              rintro e V2 ⟨rfl, hb⟩
              have hb2 : Below wr.heap.size wr V2 := HB1V.out.trans (hb.mono HB1V.out.size)
              clear hb
              have HB2V := veil hb2
              have hK2 := HKb.out.below hb2
              have i0 := hK2.at.1
              have i1 := hK2.at.2.1
              have i2 := hK2.at.2.2
              have fz2 := hK2.frozen
              have q2 := HCC.out _ hb2
              have HK2 := veil hK2
              clear hb2 hK2
              refine hK.out _ _ ?_ (fun hHeld => ?_)
              · exact q2
              clear hK K
              try simp only [Act.put, List.setIfInBounds_toArray, List.set_cons_zero, List.set_cons_succ, List.getElem_toArray, List.getElem_cons_succ, List.getElem_cons_zero]
              refine wpAnyH_ready (rs := [8]) (by kernel_rfl) (by simp) ?_
              refine AllReadyH.cons rfl (fun K hK => ?_) AllReadyH.nil
              go_simp
              refine hK.out _ _ ?_ (fun hHeld => ?_)
              · exact HCS.out V2 HB2V.out
              clear hK K
              try simp only [Act.put, List.setIfInBounds_toArray, List.set_cons_zero, List.set_cons_succ, List.getElem_toArray, List.getElem_cons_succ, List.getElem_cons_zero]
              refine wpAnyH_done (by kernel_rfl) ?_ _
              have HFN := veil (HFin.out V2 HB2V.out)
              clear HK2 HB1V HB2V HW HMx HCC HCS j0 j1 j2 i0 i1 i2 fz2 q1 q2 HFin
              have HF1 := veil HFN.out.1
              have HF2 := veil HFN.out.2
              clear HFN
              go_wp2
              go_roundw
              case rel => exact ⟨j + 1, HI.out, by go_num, HF1.out, HF2.out⟩
              case measure => simp [intOf]; omega
            · skip
              go_simp
              go_at_call 24
              refine (HW.out _ ((Below.refl _ wr).drew)).mono ?_
              rintro e V1 ⟨rfl, hb⟩
              have hb1 : Below wr.heap.size wr V1 := ((Below.refl _ wr).drew).trans hb
              clear hb
              have HB1V := veil hb1
              have j0 := (HKb.out.below hb1).at.1
              have j1 := (HKb.out.below hb1).at.2.1
              have j2 := (HKb.out.below hb1).at.2.2
              have q1 := HCC.out _ hb1
              clear hb1
              refine hK.out _ _ ?_ (fun hHeld => ?_)
              · exact q1
              clear hK K
              try simp only [Act.put, List.setIfInBounds_toArray, List.set_cons_zero, List.set_cons_succ, List.getElem_toArray, List.getElem_cons_succ, List.getElem_cons_zero]
              refine wpAnyH_ready (rs := [0]) (by kernel_rfl) (by simp) ?_
              refine AllReadyH.cons rfl (fun K hK => ?_) AllReadyH.nil
              go_simp
              refine hK.out _ _ ?_ (fun hHeld => ?_)
              · exact hHeld
              clear hK K
              try simp only [Act.put, List.setIfInBounds_toArray, List.set_cons_zero, List.set_cons_succ, List.getElem_toArray, List.getElem_cons_succ, List.getElem_cons_zero]
              refine wpAnyH_ready (rs := [7]) (by kernel_rfl) (by simp) ?_
              refine AllReadyH.cons rfl (fun K hK => ?_) AllReadyH.nil
              go_simp
              go_at_call 23
              refine (HMx.out _).mono ?_
              rintro e V2 ⟨rfl, hb⟩
              have hb2 : Below wr.heap.size wr V2 := HB1V.out.trans (hb.mono HB1V.out.size)
              clear hb
              have HB2V := veil hb2
              have hK2 := HKb.out.below hb2
              have i0 := hK2.at.1
              have i1 := hK2.at.2.1
              have i2 := hK2.at.2.2
              have fz2 := hK2.frozen
              have q2 := HCC.out _ hb2
              have HK2 := veil hK2
              clear hb2 hK2
              refine hK.out _ _ ?_ (fun hHeld => ?_)
              · exact q2
              clear hK K
              try simp only [Act.put, List.setIfInBounds_toArray, List.set_cons_zero, List.set_cons_succ, List.getElem_toArray, List.getElem_cons_succ, List.getElem_cons_zero]
              refine wpAnyH_ready (rs := [8]) (by kernel_rfl) (by simp) ?_
              refine AllReadyH.cons rfl (fun K hK => ?_) AllReadyH.nil
              go_simp
              refine hK.out _ _ ?_ (fun hHeld => ?_)
              · exact HCS.out V2 HB2V.out
              clear hK K
              try simp only [Act.put, List.setIfInBounds_toArray, List.set_cons_zero, List.set_cons_succ, List.getElem_toArray, List.getElem_cons_succ, List.getElem_cons_zero]
              refine wpAnyH_done (by kernel_rfl) ?_ _
              have HFN := veil (HFin.out V2 HB2V.out)
              clear HK2 HB1V HB2V HW HMx HCC HCS j0 j1 j2 i0 i1 i2 fz2 q1 q2 HFin
              have HF1 := veil HFN.out.1
              have HF2 := veil HFN.out.2
              clear HFN
              go_wp2
              go_roundw
              case rel => exact ⟨j + 1, HI.out, by go_num, HF1.out, HF2.out⟩
              case measure => simp [intOf]; omega
          · have hjl' : ¬ (j : Int) < (Wl.length : Int) := by omega
            obtain rfl : j = Wl.length := by omega
            rw [← HPN.out] at hK
            have HKn := veil hK
            clear hK hI
            go_wp2
            go_roundw
            case rel => exact ⟨i + 1, by omega, by go_num, HKn.out⟩
            case measure => simp [intOf]; omega
      · have hil' : ¬ (i : Int) < (H.length : Int) := by omega
        obtain rfl : i = H.length := by omega
        have q1 := HDk.out wr hK.be
        have hkx := HKx.out wr hK.be
        rw [HEK.out] at hkx
        generalize hgk : keyTo T1 L1 t (pre L1 H H.length) = kk at hkx hK
        have hss := same_self kk
        have hkd := HKx.out wr.drew hK.be.drew
        rw [HEK.out, hgk] at hkd
        have HKz := veil hkd
        have r0 := hK.box.at.1
        have r1 := hK.box.at.2.1
        have r2 := hK.box.at.2.2
        have HSS : Hid (∀ W, Below wr.heap.size wr W → W.cell? ⟨w.heap.size, 1, none⟩ = some (.int .i64 x.p) ∧ W.cell? ⟨kb, 0, none⟩ = some (.bool kk.e) ∧ W.cell? ⟨kb, 1, none⟩ = some (.int .u64 kk.d) ∧ W.cell? ⟨kb, 2, none⟩ = some (.int .u8 kk.l)) := fun W hb => ⟨HDk.out W (hK.below hb).be, (hK.box.below hb).at.1, (hK.box.below hb).at.2.1, (hK.box.below hb).at.2.2⟩
        have HKk := veil hK
        have hS1 := veil (HSS.out _ (Below.refl _ _))
        have hS2 := veil (HSS.out _ (Below.refl _ wr).drew)
        clear hkx hK hkd hgk
        go_wp2
        go_region_held3 (fun w' => (w'.cell? ⟨w.heap.size, 1, none⟩ = some (.int .i64 x.p) ∧ w'.cell? ⟨kb, 0, none⟩ = some (.bool kk.e) ∧ w'.cell? ⟨kb, 1, none⟩ = some (.int .u64 kk.d) ∧ w'.cell? ⟨kb, 2, none⟩ = some (.int .u8 kk.l)))
          (first | with_reducible exact hS1.out | with_reducible exact hS2.out | with_reducible exact hS3.out)
          (first
            | (go_at_call 24; refine (HKz.out).mono ?_; rintro e w6 ⟨rfl, hb⟩; have hb6 : Below wr.heap.size wr w6 := ((Below.refl _ wr).drew).trans hb; have hS3 := veil (HSS.out _ hb6); have HB6 := veil (HLk.out _ (HKk.out.below hb6).be); clear hb hb6))
        go_wp2
        go_ret
        exact ⟨rfl, HB6.out⟩
end Go.Proofs.Ytbhkgbhgofefjaa
