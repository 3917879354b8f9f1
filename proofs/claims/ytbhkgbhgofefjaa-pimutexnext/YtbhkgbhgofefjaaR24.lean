/- PimutexNext's walk. -/
import Derived.Test.YtbhkgbhgofefjaaR17
namespace Go.Proofs.Ytbhkgbhgofefjaa
open Go.RowKit
set_option linter.unusedVariables false
/-- The ways of Unlock. -/
theorem unlR_ways {M : Md} (f : Fine M.T M.L) (t m : Int) : (∃ e, e ≠ 0 ∧ unlR M t m = ((-1, e), M)) ∨
    (∃ (j : Nat) (y : Lk), m = (j : Int) ∧ M.L[j]? = some y ∧ y.l = [] ∧ unlR M t m = ((-1, 0), ⟨M.T, M.L.set j ⟨-1, y.l⟩⟩)) ∨
    (∃ (j p q : Nat) (y : Lk) (z : Th), m = (j : Int) ∧ M.L[j]? = some y ∧ nextP M y = (p : Int) ∧ y.l[p]? = some q ∧ M.T[q]? = some z ∧ unlR M t m = (((q : Int), 0), ⟨M.T.set q ⟨z.k, -1⟩, M.L.set j ⟨(q : Int), y.l.eraseIdx p⟩⟩)) := by
  by_cases he : mayE M.T M.L t m = 0
  · obtain ⟨i, j, x, y, rfl, rfl, hi, hj, hx, hu, hy⟩ := may_yes he
    unfold unlR
    rw [if_neg (by simpa using he)]
    simp only [Int.toNat_natCast, hy]
    by_cases h1 : y.h = (i : Int)
    · rw [if_neg (by simpa using h1)]
      by_cases h2 : y.l = []
      · rw [nextP_none h2]
        exact .inr (.inl ⟨j, y, rfl, hy, h2, rfl⟩)
      · obtain ⟨p, q, e1, e2⟩ := nextP_some (M := M) h2
        have hq : q < M.T.length := (f.lk y (List.mem_of_getElem? hy)).2.2.1 q (List.mem_of_getElem? e2)
        refine .inr (.inr ⟨j, p, q, y, M.T[q], rfl, hy, e1, e2, List.getElem?_eq_getElem hq, ?_⟩)
        rw [e1, Int.toNat_natCast, e2]
        simp only [List.getElem?_eq_getElem hq]
    · rw [if_pos h1]
      exact .inl ⟨9, by decide, rfl⟩
  · refine .inl ⟨mayE M.T M.L t m, he, ?_⟩
    unfold unlR
    rw [if_pos he]
noncomputable def kth (g : Nat → K) (l : List Nat) : List Th := l.map (fun q => ⟨g q, 0⟩)
theorem kth_len (g : Nat → K) (l : List Nat) : (kth g l).length = l.length := by simp [kth]
theorem kth_at (g : Nat → K) (l : List Nat) (j q : Nat) (h : l[j]? = some q) : (kth g l)[j]? = some ⟨g q, 0⟩ := by simp [kth, h]
theorem kth_next (g : Nat → K) (l : List Nat) (j q : Nat) (h : l[j]? = some q) : kth g (l.take (j + 1)) = kth g (l.take j) ++ [⟨g q, 0⟩] := by
  unfold kth
  rw [take_snoc h, List.map_append]
  rfl
theorem kcells_append (a b : List Th) : kcells (a ++ b) = kcells a ++ kcells b := by unfold kcells; rw [List.flatMap_append]
theorem kbox_news {W : World} {b : Nat} {k : K} (h : KBox W b k) : ∀ j u, [Value.bool k.e, .int .u64 k.d, .int .u8 k.l][j]? = some u → W.cell? ((⟨b, 0, none⟩ : Addr).add j) = some u := by
  intro j u hu
  have hadd : (⟨b, 0, none⟩ : Addr).add j = ⟨b, j, none⟩ := by unfold Addr.add; split <;> simp_all
  obtain ⟨h0, h1, h2⟩ := h.at
  rw [hadd]
  rcases j with _ | _ | _ | j
  · simp at hu; rw [← hu]; exact h0
  · simp at hu; rw [← hu]; exact h1
  · simp at hu; rw [← hu]; exact h2
  · simp at hu
/-- Two rows: who waits, and their keys. -/
structure NR (wr : World) (b : Nat) (wv kv : Value) (Wl : List Nat) (ks : List Th) : Prop where
  wl : IL wr b wv (Wl.map (fun (t : Nat) => (t : Int)))
  kl : wr.ownsRow b 36 3 kv ks.length (kcells ks)
section
variable {w wr w' : World} {b : Nat} {wv kv : Value} {Wl : List Nat} {ks : List Th}
theorem NR.fr {S : Nat → Prop} (h : NR wr b wv kv Wl ks) (hf : Fr S wr w') (hs : ∀ k, S k → k < b) : NR w' b wv kv Wl ks :=
  ⟨ownsRow_far h.wl (fun k hk => hf.block k (ownsRow_blk h.wl hk).2.1 (fun q => by have := hs k q; have := (ownsRow_blk h.wl hk).1; omega)),
   ownsRow_far h.kl (fun k hk => hf.block k (ownsRow_blk h.kl hk).2.1 (fun q => by have := hs k q; have := (ownsRow_blk h.kl hk).1; omega))⟩
theorem NR.push (h : NR wr b wv kv Wl ks) {k : K} {o : Obj} {v' : Value} (hown : w'.ownsRow b 36 3 v' (ks.length + 1) (kcells ks ++ [.bool k.e, .int .u64 k.d, .int .u8 k.l])) (hgrow : (wr.alloc o).grownBy w' kv.ownBlock) : NR w' b wv v' Wl (ks ++ [⟨k, 0⟩]) := by
  refine ⟨ownsRow_far h.wl (fun q hq => ?_), ?_⟩
  · obtain ⟨_, hlt, c, hc⟩ := ownsRow_blk h.wl hq
    refine (hgrow.block q (by simp; omega) (fun e => ?_)).trans (Below.heap_alloc _ _ _ hlt)
    obtain ⟨_, _, c', hc'⟩ := ownsRow_blk h.kl e.symm
    rw [hc] at hc'
    simp at hc'
  · rw [kcells_append, List.length_append]
    exact hown
theorem NR.below (h : NR wr b wv kv Wl ks) (hb : Below wr.heap.size wr w') : NR w' b wv kv Wl ks := h.fr (Fr.of_below' (S := fun _ => False) hb) (fun _ q => q.elim)
end
set_option maxRecDepth 100000 in
set_option maxHeartbeats 4000000 in
theorem Next_walk (m : Nat) (hm : m < 256) (a : Option Addr) (len cap : Nat) (L : Nat → Dp) (hlen : len < 9223372036854775808) (w : World) (hd : Dps w a len L) (x : Dp) (hx : x.ok) :
    Calls Try.prog 7 #[.int .u8 m, .slice a len cap, .agg #[.int .i64 x.k, .int .i64 x.p, .int .i64 x.i, .bool x.e, .int .u64 x.d, .int .u8 x.l]] w fun e w' => e = .returned (.bool true) ∧ Below w.heap.size w w' := by
  have HD0 : Hid (DB (w.alloc (.cells #[.int .i64 x.k, .int .i64 x.p, .int .i64 x.i, .bool x.e, .int .u64 x.d, .int .u8 x.l] 38)) w.heap.size x) := World.alloc_heap_new w _
  have HB0 : Hid (Below w.heap.size w (w.alloc (.cells #[.int .i64 x.k, .int .i64 x.p, .int .i64 x.i, .bool x.e, .int .u64 x.d, .int .u8 x.l] 38))) := (Below.refl _ _).alloc (Nat.le_refl _) _
  have HP := veil (play_ok _ m hm a len cap hlen L (hd.deed (.cells #[.int .i64 x.k, .int .i64 x.p, .int .i64 x.i, .bool x.e, .int .u64 x.d, .int .u8 x.l] 38)))
  obtain ⟨i0, hi0, hz0, hz1, hz2⟩ := info_parts infoKey
  clear hd
  go_enter Try.func7, Try.ntmps7
  go_wp2_with (first
    | (go_at_call 14; refine (HP.out).mono ?_; rintro e w1 ⟨g, r, O, D, M, rfl, hB, hsz, hL⟩; have HB := veil hB; have HL := veil hL; clear hB hL hsz)
    | (go_at_call 15; refine (live_ok _).mono ?_; rintro e w2 ⟨rfl, hb2⟩; have HP2 := veil (HB.out.below hb2).p; have HL2 := veil (HL.out.trans (hb2.mono HL.out.size)); have HD2 := veil (HD0.out.below (HL2.out)); obtain ⟨c0, c1, c2, c3, c4, c5⟩ := HD2.out.cells; clear hb2)
    | (go_at_call 19; refine (HP2.out.waiters x.i).mono ?_; rintro e w3 ⟨wv, rfl, hil, hb3⟩; have HI3 := veil hil; have HB3 := veil hb3; clear hil hb3))
  have HFi : Hid (Fine M.T M.L) := HP2.out.f
  have hwl : (waitersOf M.L x.i).length ≤ 1024 := by have := waiters_len (M := M) HFi.out x.i; simpa using this
  have HWq : Hid (∀ q ∈ waitersOf M.L x.i, q < M.T.length) := fun q hq => by
    unfold waitersOf at hq
    split at hq
    · cases hy : M.L[x.i.toNat]? with
      | none => rw [hy] at hq; simp at hq
      | some y =>
        rw [hy] at hq
        simp at hq
        exact (HFi.out.lk y (List.mem_of_getElem? hy)).2.2.1 q hq
    · simp at hq
  obtain ⟨wa, wc, ew⟩ := HI3.out.slice
  rw [List.length_map] at ew
  subst ew
  obtain ⟨Wl, hWl⟩ : ∃ Wl, Wl = waitersOf M.L x.i := ⟨_, rfl⟩
  rw [← hWl] at HI3 HWq hwl ⊢
  have HWL := veil hWl
  have HKy : Hid (∀ (q : Nat) (W : World), Below w2.heap.size w2 W → q < M.T.length → Calls Try.prog 24 #[.pointer (some ⟨g, 0, none⟩), .int .i64 (q : Int)] W fun e W' => e = .returned (.agg #[.bool (keyOf M.T M.L q).e, .int .u64 (keyOf M.T M.L q).d, .int .u8 (keyOf M.T M.L q).l]) ∧ Below W.heap.size W W') := fun q W hb hq => by
    have := (HP2.out.below hb).key (q : Int)
    unfold keyA at this
    rw [if_pos (by unfold inT; simp; omega), Int.toNat_natCast] at this
    exact this
  clear hWl HP HB HL c0 c1 c2 c3 c4 c5
  go_loopw [11, 12] (fun kv p wr => ∃ (j : Nat), j ≤ Wl.length ∧ p = .int .i64 j ∧ NR wr w2.heap.size (.slice wa Wl.length wc) kv Wl (kth (keyOf M.T M.L) (Wl.take j)) ∧ Below w2.heap.size w2 wr) (fun _ p _ => Wl.length - (intOf p).toNat)
  case atStart => exact ⟨0, by omega, rfl, ⟨HI3.out, World.ownsRow_nil _ _ _ _⟩, HB3.out⟩
  case round =>
    obtain ⟨j, hj, rfl, hN, hB⟩ := hrel
    clear HI3 HB3
    by_cases hjl : j < Wl.length
    · have hjl' : (j : Int) < (Wl.length : Int) := by omega
      obtain ⟨q, hq⟩ : ∃ q, Wl[j]? = some q := ⟨_, List.getElem?_eq_getElem hjl⟩
      obtain ⟨gw, gc, eg, hgw1, hgw2, hcell⟩ := hN.wl.cells (by intro z; have := congrArg List.length z; simp at this; rw [this] at hjl; simp at hjl)
      simp only [Value.slice.injEq] at eg
      obtain ⟨rfl, hlw, rfl⟩ := eg
      clear hlw
      have q0 := hcell j (by simpa using hjl)
      rw [List.getD_eq_getElem?_getD, List.getElem?_map, hq, Option.map_some, Option.getD_some] at q0
      obtain ⟨ka, kc, ek, _, _⟩ := form_of hN.kl
      rw [kth_len, List.length_take_of_le hj] at ek
      subst ek
      have HKq := veil (HKy.out q wr hB (HWq.out q (List.mem_of_getElem? hq)))
      have HKd := veil (HKy.out q wr.drew hB.drew (HWq.out q (List.mem_of_getElem? hq)))
      have HN := veil hN
      have HB := veil hB
      have HQ := veil hq
      have hkn : ∀ (W : World) (v : Value), NR W w2.heap.size (.slice (some ⟨gw, 0, none⟩) Wl.length wc) v Wl (kth (keyOf M.T M.L) (Wl.take j) ++ [⟨keyOf M.T M.L q, 0⟩]) → NR W w2.heap.size (.slice (some ⟨gw, 0, none⟩) Wl.length wc) v Wl (kth (keyOf M.T M.L) (Wl.take (j + 1))) := fun W v h => by rw [kth_next _ _ _ _ hq]; exact h
      have HKn := veil hkn
      have HLn : Hid ((kth (keyOf M.T M.L) (Wl.take j)).length = j) := by
        have e : (kth (keyOf M.T M.L) (Wl.take j)).length = j := by rw [kth_len, List.length_take_of_le hj]
        exact e
      clear hN hB hq hcell hkn
      have HG1 := veil hi0
      generalize keyOf M.T M.L q = ky at HKq HKd HKn
      go_wp2_with (first
        | (go_at_call 24; refine (HKq.out).mono ?_; rintro e w4 ⟨rfl, hb⟩; have HN4 := veil (HN.out.below hb); have HB4 := veil (HB.out.trans (hb.mono HB.out.size)); have hbx : KBox (w4.alloc (.cells #[.bool ky.e, .int .u64 ky.d, .int .u8 ky.l] 36)) w4.heap.size ky := World.alloc_heap_new w4 _; have HNw := veil (kbox_news hbx); have HR4 := veil (HN4.out.kl.alloc (.cells #[.bool ky.e, .int .u64 ky.d, .int .u8 ky.l] 36)); rw [HLn.out] at HR4; have HS4 := veil (HB4.out.alloc HB4.out.size (.cells #[.bool ky.e, .int .u64 ky.d, .int .u8 ky.l] 36)); clear hb hbx)
        | (at_builtin; refine wpList_append_own _ rfl _ _ 45 rfl w2.heap.size 36 i0 (.agg #[.bool false, .int .u64 0, .int .u8 0]) 3 24 Try.underlying45 hi0 hz0 hz1 hz2 rfl (by decide) _ _ _ rfl HR4.out ⟨w4.heap.size, 0, none⟩ 1 1 [.bool ky.e, .int .u64 ky.d, .int .u8 ky.l] rfl rfl HNw.out (by simp [Value.oneCell']) (by unfold maxLen; omega) (by omega) HS4.out.size ?_; intro v' w5 hown hgrow _; obtain ⟨g', cap', rfl⟩ := ownsRow_succ hown; have HN5 := veil (HKn.out _ _ (HN4.out.push (k := ky) (by rw [HLn.out]; exact hown) hgrow)); have HB5 := veil (HS4.out.grown hgrow HS4.out.size (fun k hk => (ownsRow_blk HR4.out hk).1)); clear hown hgrow))
      go_roundw
      case rel => exact ⟨j + 1, by omega, by go_num, HN5.out, HB5.out⟩
      case measure => simp [intOf]; omega
    · have hjl' : ¬ (j : Int) < (Wl.length : Int) := by omega
      obtain rfl : j = Wl.length := by omega
      rw [List.take_length] at hN
      obtain ⟨ka, kc, ek, _, _⟩ := form_of hN.kl
      rw [kth_len] at ek
      subst ek
      have HLr := veil (HL2.out.trans (hB.mono HL2.out.size))
      have HDr := veil (HD0.out.below HLr.out)
      obtain ⟨d0, d1, d2, d3, d4, d5⟩ := HDr.out.cells
      have HPr := veil (HP2.out.below hB)
      have hul := HPr.out.unlock x.p x.i
      have HOl : Hid (∀ k, O k → k < w2.heap.size) := fun k hk => HP2.out.lt hk
      have HNr := veil hN
      have hsr : w2.heap.size ≤ wr.heap.size := hB.size
      have HGE : Hid (∀ W', Fr O wr W' → Below w.heap.size w W' ∧ DB W' w.heap.size x) := fun W' hf => by
        have q1 : Below (w.alloc (.cells #[.int .i64 x.k, .int .i64 x.p, .int .i64 x.i, .bool x.e, .int .u64 x.d, .int .u8 x.l] 38)).heap.size (w.alloc (.cells #[.int .i64 x.k, .int .i64 x.p, .int .i64 x.i, .bool x.e, .int .u64 x.d, .int .u8 x.l] 38)) W' := HLr.out.trans (hf.below HLr.out.size (fun k hk => HPr.out.ge hk))
        exact ⟨HB0.out.trans (q1.mono HB0.out.size), HD0.out.below q1⟩
      clear hN hB
      rcases unlR_ways HFi.out x.p x.i with ⟨e, he, eq⟩ | ⟨j, y, ej, hy, hyl, eq⟩ | ⟨j, p, q, y, z, ej, hy, hnp, hpq, hz, eq⟩
      · rw [eq] at hul
        have HUl := veil hul
        have hne : (e != 0) = true := by simpa using he
        clear eq hul he
        go_wp2_with (first
          | (go_at_call 26; refine (HUl.out).mono ?_; rintro e' w4 ⟨rfl, O4, hp4, hf4, hn4⟩; have HE4 := veil (HGE.out _ hf4).1; clear hp4 hf4 hn4))
        go_ret
        exact ⟨rfl, HE4.out⟩
      · have hj := (List.getElem?_eq_some_iff.1 hy).1
        have ew : waitersOf M.L x.i = y.l := by
          rw [ej]
          unfold waitersOf
          rw [if_pos (by unfold inL; simp; omega), Int.toNat_natCast, hy]
          rfl
        have hw0 : Wl = [] := by rw [HWL.out, ew, hyl]
        have eo : ownerOf (M.L.set j ⟨-1, y.l⟩) x.i = -1 := by rw [ej]; exact owner_of (y := ⟨-1, y.l⟩) (by simp [hj])
        rw [eq] at hul
        have HUl := veil hul
        have HEO := veil eo
        subst hw0
        clear eq hul ew ej hy hyl eo
        go_wp2_with (first
          | (go_at_call 26; refine (HUl.out).mono ?_; rintro e' w4 ⟨rfl, O4, hp4, hf4, hn4⟩; have HE4 := veil (HGE.out _ hf4).1; have ho4 := hp4.owner x.i; dsimp only at ho4; rw [HEO.out] at ho4; have HO4 := veil ho4; obtain ⟨e0, e1, e2, e3, e4, e5⟩ := (HGE.out _ hf4).2.cells; clear hp4 hf4 hn4 ho4)
          | (go_at_call 18; refine (HO4.out).mono ?_; rintro e wx ⟨rfl, hw⟩; replace hw := hw.symm; subst hw))
        go_ret
        exact ⟨rfl, HE4.out⟩
      · have hj := (List.getElem?_eq_some_iff.1 hy).1
        have hql := (List.getElem?_eq_some_iff.1 hz).1
        have ew : waitersOf M.L x.i = y.l := by
          rw [ej]
          unfold waitersOf
          rw [if_pos (by unfold inL; simp; omega), Int.toNat_natCast, hy]
          rfl
        have hWy : Wl = y.l := by rw [HWL.out, ew]
        have eo : ownerOf (M.L.set j ⟨(q : Int), y.l.eraseIdx p⟩) x.i = (q : Int) := by rw [ej]; exact owner_of (y := ⟨(q : Int), y.l.eraseIdx p⟩) (by simp [hj])
        have ewt : waitsOf (M.T.set q ⟨z.k, -1⟩) (q : Int) = -1 := waits_of (x := ⟨z.k, -1⟩) (by simp [hql])
        have ewl : waitersOf (M.L.set j ⟨(q : Int), y.l.eraseIdx p⟩) x.i = Wl.eraseIdx p := by
          rw [ej, hWy]
          unfold waitersOf
          rw [if_pos (by unfold inL; simp; omega), Int.toNat_natCast]
          simp [hj]
        have hfo : (foreTo (keyOf M.T M.L) Wl Wl.length).1 = (p : Int) := by rw [hWy]; exact hnp
        have hpq' : Wl[p]? = some q := by rw [hWy]; exact hpq
        have hpl := (List.getElem?_eq_some_iff.1 hpq').1
        have hel : (Wl.eraseIdx p).length = Wl.length - 1 := by rw [List.length_eraseIdx]; simp [hpl]
        rw [eq] at hul
        have HUl := veil hul
        have HEO := veil eo
        have HEW := veil ewt
        have HEL := veil ewl
        have HFO := veil hfo
        have HPQ := veil hpq'
        have HLE := veil hel
        have hl0 : ((Wl.length : Int) == 0) = false := by simp; intro q; rw [q] at hpl; simp at hpl
        have hl1 : ¬ (Wl.length : Int) = 0 := by omega
        clear eq hul ew ej hy eo ewt ewl hfo hpq' hel hWy hnp hpq hz
        go_wp2_with (first
          | (go_at_call 26; refine (HUl.out).mono ?_; rintro e' w4 ⟨rfl, O4, hp4, hf4, hn4⟩; have HE4 := veil (HGE.out _ hf4).1; have HP4 := veil hp4; have HD4 := veil (HGE.out _ hf4).2; have HN4 := veil (HNr.out.fr hf4 (fun k hk => HOl.out k hk)); clear hp4 hf4 hn4))
        obtain ⟨gk, ck, ekk, hgk, hkc, _⟩ := row_form HN4.out.kl (by rw [kth_len]; omega)
        simp only [Value.slice.injEq] at ekk
        obtain ⟨rfl, hlk, rfl⟩ := ekk
        obtain ⟨gw, gc, eg, _, hgw2, hcell⟩ := HN4.out.wl.cells (by intro z; have := congrArg List.length z; simp at this; rw [this] at hpl; simp at hpl)
        simp only [Value.slice.injEq] at eg
        obtain ⟨rfl, hlw, rfl⟩ := eg
        have HKC : Hid (∀ (i v : Nat), Wl[i]? = some v → w4.cell? ⟨gk, i * 3, none⟩ = some (.bool (keyOf M.T M.L v).e) ∧ w4.cell? ⟨gk, i * 3 + 1, none⟩ = some (.int .u64 (keyOf M.T M.L v).d) ∧ w4.cell? ⟨gk, i * 3 + 2, none⟩ = some (.int .u8 (keyOf M.T M.L v).l)) := fun i v hv => by
          have hil := (List.getElem?_eq_some_iff.1 hv).1
          obtain ⟨k0, k1, k2⟩ := kcells_at (kth (keyOf M.T M.L) Wl) i ⟨keyOf M.T M.L v, 0⟩ (kth_at _ _ _ _ hv)
          rw [hkc (i * 3) (by rw [kth_len]; omega), hkc (i * 3 + 1) (by rw [kth_len]; omega), hkc (i * 3 + 2) (by rw [kth_len]; omega)]
          exact ⟨k0, k1, k2⟩
        have q0 := hcell p (by simpa using hpl)
        rw [List.getD_eq_getElem?_getD, List.getElem?_map, HPQ.out, Option.map_some, Option.getD_some] at q0
        have HQ0 := veil q0
        generalize keyOf M.T M.L = kf at HFO HKC
        clear hlk hlw hcell hkc q0 HNr HN4 HUl HPr HOl HGE HKy HLr HDr d0 d1 d2 d3 d4 d5
        go_loopw [15, 16] (fun bv pv wr => ∃ (i b : Nat), 1 ≤ i ∧ i ≤ Wl.length ∧ pv = .int .i64 i ∧ bv = .int .i64 b ∧ b < i ∧ (foreTo kf Wl i).1 = (b : Int) ∧ Below w4.heap.size w4 wr) (fun _ pv _ => Wl.length - (intOf pv).toNat)
        case atStart =>
          refine ⟨1, 0, by omega, by omega, rfl, rfl, by omega, ?_, Below.refl _ _⟩
          rw [foreTo, if_pos (.inl rfl)]
        case round =>
          obtain ⟨i, b, hi1, hi, rfl, rfl, hbi, hfb, hBr⟩ := hrel
          by_cases hil : i < Wl.length
          · have hil' : (i : Int) < (Wl.length : Int) := by omega
            obtain ⟨p', hp', e1, e2⟩ := foreTo_some kf Wl i hi (by omega)
            have epb : p' = b := by omega
            subst epb
            obtain ⟨vi, hvi⟩ : ∃ v, Wl[i]? = some v := ⟨_, List.getElem?_eq_getElem hil⟩
            obtain ⟨vb, hvb⟩ : ∃ v, Wl[p']? = some v := ⟨_, List.getElem?_eq_getElem (by omega)⟩
            obtain ⟨x0, x1, x2⟩ := HKC.out i vi hvi
            obtain ⟨z0, z1, z2⟩ := HKC.out p' vb hvb
            have HS6 : Hid (∀ w', Below wr.heap.size wr w' → (w'.cell? ⟨gk, i * 3, none⟩ = some (.bool (kf vi).e) ∧ w'.cell? ⟨gk, i * 3 + 1, none⟩ = some (.int .u64 (kf vi).d) ∧ w'.cell? ⟨gk, i * 3 + 2, none⟩ = some (.int .u8 (kf vi).l) ∧ w'.cell? ⟨gk, p' * 3, none⟩ = some (.bool (kf vb).e) ∧ w'.cell? ⟨gk, p' * 3 + 1, none⟩ = some (.int .u64 (kf vb).d) ∧ w'.cell? ⟨gk, p' * 3 + 2, none⟩ = some (.int .u8 (kf vb).l))) := fun w' hb => by
              have hb4 : Below w4.heap.size w4 w' := hBr.trans (hb.mono hBr.size)
              exact ⟨(hb4.cell (p := ⟨gk, i * 3, none⟩) hgk).trans x0, (hb4.cell (p := ⟨gk, i * 3 + 1, none⟩) hgk).trans x1, (hb4.cell (p := ⟨gk, i * 3 + 2, none⟩) hgk).trans x2, (hb4.cell (p := ⟨gk, p' * 3, none⟩) hgk).trans z0, (hb4.cell (p := ⟨gk, p' * 3 + 1, none⟩) hgk).trans z1, (hb4.cell (p := ⟨gk, p' * 3 + 2, none⟩) hgk).trans z2⟩
            have hS1 := veil (HS6.out _ (Below.refl _ _))
            have hS2 := veil (HS6.out _ (Below.refl _ wr).drew)
            have hab := fun W => rabove_ok W (kf vi) (kf vb)
            have HBr := veil hBr
            have HVi := veil hvi
            have HVb := veil hvb
            have hbl : (p' : Int) < (Wl.length : Int) := by omega
            clear hvi hvb hBr x0 x1 x2 z0 z1 z2 hfb
            cases hu : up (kf vi) (kf vb) with
            | true =>
            rw [hu] at hab
            have HAB := veil hab
            have HBn : Hid ((foreTo kf Wl (i + 1)).1 = ((i : Nat) : Int)) := by
              have e : (foreTo kf Wl (i + 1)).1 = ((i : Nat) : Int) := by
                rw [foreTo, e1, e2, HVi.out, HVb.out, Option.getD_some, Option.getD_some, hu]
                simp
                try omega
              exact e
            clear hab hu e1 e2
            go_wp2
            go_region_held3 (fun w' => (w'.cell? ⟨gk, i * 3, none⟩ = some (.bool (kf vi).e) ∧ w'.cell? ⟨gk, i * 3 + 1, none⟩ = some (.int .u64 (kf vi).d) ∧ w'.cell? ⟨gk, i * 3 + 2, none⟩ = some (.int .u8 (kf vi).l) ∧ w'.cell? ⟨gk, p' * 3, none⟩ = some (.bool (kf vb).e) ∧ w'.cell? ⟨gk, p' * 3 + 1, none⟩ = some (.int .u64 (kf vb).d) ∧ w'.cell? ⟨gk, p' * 3 + 2, none⟩ = some (.int .u8 (kf vb).l)))
              (first | with_reducible exact hS1.out | with_reducible exact hS2.out | with_reducible exact hS3.out)
              (first
                | (go_at_call 25; refine (HAB.out _).mono ?_; rintro e w5 ⟨rfl, hb⟩; have hb5 : Below wr.heap.size wr w5 := ((Below.refl _ wr).drew).trans hb; have hS3 := veil (HS6.out _ hb5); have HB5 := veil (HBr.out.trans (hb5.mono HBr.out.size)); clear hb hb5))
            all_goals go_wp2
            all_goals go_roundw
            case rel => exact ⟨i + 1, i, by omega, by omega, by go_num, rfl, by omega, HBn.out, HB5.out⟩
            case measure => simp [intOf]; omega
            | false =>
            rw [hu] at hab
            have HAB := veil hab
            have HBn : Hid ((foreTo kf Wl (i + 1)).1 = ((p' : Nat) : Int)) := by
              have e : (foreTo kf Wl (i + 1)).1 = ((p' : Nat) : Int) := by
                rw [foreTo, e1, e2, HVi.out, HVb.out, Option.getD_some, Option.getD_some, hu]
                simp
                try omega
              exact e
            clear hab hu e1 e2
            go_wp2
            go_region_held3 (fun w' => (w'.cell? ⟨gk, i * 3, none⟩ = some (.bool (kf vi).e) ∧ w'.cell? ⟨gk, i * 3 + 1, none⟩ = some (.int .u64 (kf vi).d) ∧ w'.cell? ⟨gk, i * 3 + 2, none⟩ = some (.int .u8 (kf vi).l) ∧ w'.cell? ⟨gk, p' * 3, none⟩ = some (.bool (kf vb).e) ∧ w'.cell? ⟨gk, p' * 3 + 1, none⟩ = some (.int .u64 (kf vb).d) ∧ w'.cell? ⟨gk, p' * 3 + 2, none⟩ = some (.int .u8 (kf vb).l)))
              (first | with_reducible exact hS1.out | with_reducible exact hS2.out | with_reducible exact hS3.out)
              (first
                | (go_at_call 25; refine (HAB.out _).mono ?_; rintro e w5 ⟨rfl, hb⟩; have hb5 : Below wr.heap.size wr w5 := ((Below.refl _ wr).drew).trans hb; have hS3 := veil (HS6.out _ hb5); have HB5 := veil (HBr.out.trans (hb5.mono HBr.out.size)); clear hb hb5))
            all_goals go_wp2
            all_goals go_roundw
            case rel => exact ⟨i + 1, p', by omega, by omega, by go_num, rfl, by omega, HBn.out, HB5.out⟩
            case measure => simp [intOf]; omega
          · have hil' : ¬ (i : Int) < (Wl.length : Int) := by omega
            obtain rfl : i = Wl.length := by omega
            rw [HFO.out] at hfb
            have epb : p = b := by omega
            subst epb
            have HBr := veil hBr
            have hpn : (p : Int) < (Wl.length : Int) := by omega
            clear hfb hBr
            have q0 := (HBr.out.cell (p := ⟨gw, p, none⟩) hgw2).trans HQ0.out
            obtain ⟨e0, e1, e2, e3, e4, e5⟩ := (HD4.out.below HBr.out).cells
            have HPw := veil (HP4.out.below HBr.out)
            have how := HPw.out.owner x.i
            dsimp only at how
            rw [HEO.out] at how
            have hwt := HPw.out.waits (q : Int)
            dsimp only at hwt
            rw [HEW.out] at hwt
            have hwa := HPw.out.waiters x.i
            dsimp only at hwa
            rw [HEL.out] at hwa
            have HOw := veil how
            have HWt := veil hwt
            have HWa := veil hwa
            obtain ⟨N, hN⟩ : ∃ N, N = Wl.length - 1 := ⟨_, rfl⟩
            have hNb : N ≤ 1024 := by omega
            have hNN : ((N : Int) == (Wl.length : Int) - 1) = true := by simp; omega
            have hNN2 : (N : Int) = (Wl.length : Int) - 1 := by omega
            have HN := veil hN
            have hqq : ((q : Int) == (q : Int)) = true := by simp
            clear how hwt hwa hN hNN2
            go_wp2_with (first
              | (go_at_call 18; refine (HOw.out).mono ?_; rintro e wx ⟨rfl, hw⟩; replace hw := hw.symm; subst hw)
              | (go_at_call 20; refine (HWt.out).mono ?_; rintro e wx ⟨rfl, hw⟩; replace hw := hw.symm; subst hw)
              | (go_at_call 19; refine (HWa.out).mono ?_; rintro e w6 ⟨v6, rfl, hil6, hb6⟩; obtain ⟨a6, d6, e6'⟩ := hil6.slice; rw [List.length_map, HLE.out, ← HN.out] at e6'; subst e6'; have HE6 := veil ((HE4.out.trans (HBr.out.mono HE4.out.size)).trans (hb6.mono ((HE4.out.trans (HBr.out.mono HE4.out.size)).size))); clear hil6 hb6))
            go_ret
            exact ⟨rfl, HE6.out⟩
end Go.Proofs.Ytbhkgbhgofefjaa
