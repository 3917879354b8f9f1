/- The document's Lock of a lock that another one holds. -/
import Derived.Test.YtbhkgbhgofefjaaR7
namespace Go.Proofs.Ytbhkgbhgofefjaa
open Go.RowKit
set_option linter.unusedVariables false
theorem step_append_any {P : Program} (w : World) {ops : Array Oper} {o : Oper} {a : Act} {K : Act → World → Prop} {Q : Exit → Act → World → Prop} {E : Prop} (hgd : o.guard = none) (s x : Operand) (t : TypeId)
    (ho : o.op = .call { callee := .builtin .append, args := #[s, x], argTypes := #[t, t] })
    (base : Nat) (e : TypeId) (i : TypeInfo) (z : Value) (size bytes : Nat) (ht : P.underlying t = some (.slice e)) (hi : P.info? e = some i) (hz : i.zero = some z)
    (hsize : i.size = size) (hby : i.bytes = bytes) (hzs : z.cells.size = size) (hsz : 0 < size)
    (v : Value) (n : Nat) (xs : List Value) (hs : a.eval s = v) (hown : w.ownsRow base e size v n xs)
    (ad : Addr) (m c : Nat) (news : List Value) (hx : a.eval x = .slice (some ad) m c) (hl : news.length = m * size) (hnews : ∀ j u, news[j]? = some u → w.cell? (ad.add j) = some u) (h1 : ∀ u ∈ news, u.oneCell' = true)
    (h63 : n + m ≤ maxLen) (hbytes : (n + m) * bytes ≤ 140737488355328) (hbase : base ≤ w.heap.size)
    (h : ∀ v' w', w'.ownsRow base e size v' (n + m) (xs ++ news) → w.grownBy w' v.ownBlock → K (a.put o.dst v') w') :
    if Region.wanted o (yielded ops a.tmps) = true then Oper.wp P o a w K Q else E := by
  have hw : Region.wanted o (yielded ops a.tmps) = true := by simp [Region.wanted, hgd]
  rw [if_pos hw]
  exact wp_append_own w s x t ho base e i z size bytes ht hi hz hsize hby hzs hsz v n xs hs hown ad m c news hx hl hnews h1 h63 hbytes hbase fun v' w' h2 h3 _ => h v' w' h2 h3
/-- The way from a lock on goes through each lock once at most. -/
theorem Chn.locks {T : List Th} {L : List Lk} (f : Fine T L) {r : Nat → Nat} (hr : ∀ t s, Edge L t s → r t < r s) {p : Int} {ch : List Int} (h : Chn T L p ch) :
    ∃ ms : List Nat, ms.length = ch.length ∧ (∀ m ∈ ms, m < L.length) ∧ ms.Pairwise (fun a b => r ((L[a]?.map Lk.h).getD 0).toNat < r ((L[b]?.map Lk.h).getD 0).toNat) ∧ ∀ a ∈ ms.head?, p = (a : Int) := by
  induction h with
  | stop => exact ⟨[], rfl, by simp, by simp, by simp⟩
  | @on m i y x xs hy hi hx hc ih =>
    obtain ⟨ms, e1, e2, e3, e4⟩ := ih
    have hm := (List.getElem?_eq_some_iff.1 hy).1
    refine ⟨m :: ms, by simp [e1], ?_, ?_, by simp⟩
    · intro a ha
      rcases List.mem_cons.1 ha with rfl | q
      · exact hm
      · exact e2 a q
    · rw [List.pairwise_cons]
      refine ⟨?_, e3⟩
      cases ms with
      | nil => simp
      | cons a ms =>
        have ea := e4 a (by simp)
        have hal := e2 a (by simp)
        have hya : L[a]? = some _ := List.getElem?_eq_getElem hal
        have hin := (f.wt i x hx a _ hya).2 ea
        have h0 := (f.lk _ (List.mem_of_getElem? hya)).2.2.2.2 (List.ne_nil_of_mem hin)
        have hlt := hr i (L[a]).h.toNat ⟨_, List.mem_of_getElem? hya, hin, by omega⟩
        have hlt' : r ((L[m]?.map Lk.h).getD 0).toNat < r ((L[a]?.map Lk.h).getD 0).toNat := by
          rw [hy, hya]
          simp only [Option.map_some, Option.getD_some]
          rw [hi, Int.toNat_natCast]
          exact hlt
        intro b hb
        rcases List.mem_cons.1 hb with rfl | q
        · exact hlt'
        · exact Nat.lt_trans hlt' ((List.pairwise_cons.1 e3).1 b q)
theorem Chn.len {T : List Th} {L : List Lk} (f : Fine T L) {p : Int} {ch : List Int} (h : Chn T L p ch) : ch.length ≤ L.length := by
  obtain ⟨B, r, _, hr⟩ := f.ac
  obtain ⟨ms, e1, e2, e3, _⟩ := h.locks f hr
  have hnd : ms.Nodup := by
    refine e3.imp ?_
    intro a b hab e
    subst e
    omega
  have := hnd.length_le_of_subset (l₂ := List.range L.length) (fun m hm => List.mem_range.2 (e2 m hm))
  simp at this
  omega
section
variable {w w' : World} {base s : Nat} {vb vo vw : Value} {V : List Value} {T : List Th} {L : List Lk}
/-- Lock, of a lock that k holds: whether it closes a circle. -/
def LockEnd (w : World) (base s : Nat) (vb vo vw : Value) (V : List Value) (T : List Th) (L : List Lk) (i j : Nat) (x : Th) (y : Lk) (b : Prop) (e : Ending) (w' : World) : Prop :=
  (b ∧ e = .returned (.tuple #[.bool false, .int .i64 8]) ∧ w' = w) ∨ (¬ b ∧ e = .returned (.tuple #[.bool false, .int .i64 0]) ∧ MovedR w w' base s vb vo vw V (T.set i ⟨x.k, (j : Int)⟩) (L.set j ⟨y.h, y.l ++ [i]⟩))
set_option maxHeartbeats 2000000 in
theorem rlock_held (h : IsR w base s vb vo vw V T L) (i j : Nat) (he : mayE T L i j = 0) (x : Th) (hx : T[i]? = some x) (y : Lk) (hy : L[j]? = some y) (k : Nat) (ho : y.h = (k : Int)) (hk : k ≠ i) : Calls Try.prog 55 #[.pointer (some ⟨s, 0, none⟩), .int .i64 (i : Int), .int .i64 (j : Int)] w (LockEnd w base s vb vo vw V T L i j x y (Leads L k i)) := by
  obtain ⟨ht, hw⟩ := rmay_yes h he
  have HT := veil ht
  have HW := veil hw
  obtain ⟨ch, hch⟩ := h.f.chain j y hy (by omega)
  have hlead := hch.leads h.f j y k rfl hy ho i
  have hlen := hch.len h.f
  have hj := (List.getElem?_eq_some_iff.1 hy).1
  have hj' : (j : Int) < (L.length : Int) := by omega
  have hi := (List.getElem?_eq_some_iff.1 hx).1
  have hxu : x.u = -1 := by
    obtain ⟨i', j', x', y', e1, e2, _, _, e3, e4, _⟩ := may_yes he
    obtain rfl : i = i' := by omega
    rw [hx] at e3
    obtain rfl := Option.some.inj e3
    exact e4
  obtain ⟨ab, cb, ao, co, aw, cw, rfl, rfl, rfl, hv⟩ := h.rv
  obtain ⟨go, rfl, hgo, o0⟩ := hv.ow j y hy
  rw [ho] at o0
  obtain ⟨gw, rfl, hgw, _⟩ := hv.ce j y hy
  have hsh := h.f.short (List.mem_of_getElem? hy)
  have ht2 := h.f.t2
  have ls := hv.sl
  obtain ⟨i0, hi0, hz0, hz1, hz2⟩ := info_parts infoInt
  have c1 := hv.c1
  have c2 := hv.c2
  have hle := hv.le.2.1
  have hl32 := h.f.l2
  have hk1 : ((k : Int) == (i : Int)) = false := by simp; omega
  have hk3 : ¬ (k : Int) = (i : Int) := by omega
  have hk5 : ¬ k = i := hk
  have HV := veil hv
  have HH := veil h
  have HX := veil hx
  have HY := veil hy
  have HO := veil ho
  have HU := veil hxu
  have HLD := veil hlead
  have HWs := veil (fun t => rwaits_ok h t)
  obtain ⟨r0, hr0⟩ : ∃ r, ch = (k : Int) :: r := by
    generalize hz : (j : Int) = z at hch
    cases hch with
    | stop => omega
    | @on m' i' y' x' xs hy' hi' hx' hc' =>
      obtain rfl : j = m' := by omega
      rw [hy] at hy'
      obtain rfl := Option.some.inj hy'
      exact ⟨xs, by rw [← hi', ho]⟩
  have HC := veil hch
  have HLEN := veil hlen
  have HR0 := veil hr0
  have hle3 := hv.le.2.2
  clear h hv ht hw he hx hy ho hxu hlead hch hlen hr0
  go_enter Try.func55, Try.ntmps55
  go_wp2_with (first
    | (go_at_call 62; refine (HT.out).mono ?_; rintro e w1 ⟨rfl, hw⟩; replace hw := hw.symm; subst hw)
    | (go_at_call 36; refine (HW.out).mono ?_; rintro e w1 ⟨rfl, hw⟩; replace hw := hw.symm; subst hw))
  clear HT HW
  go_loopw [8, 9] (fun xv iv wr => ∃ (n m' c : Nat) (r : List Int), iv = .int .i64 n ∧ xv = .int .i64 c ∧ wr = w ∧ Chn T L (m' : Int) ((c : Int) :: r) ∧ n + (r.length + 1) = ch.length ∧ ((i : Int) ∈ ch ↔ (i : Int) ∈ r)) (fun _ iv _ => L.length + 1 - (intOf iv).toNat)
  case atStart =>
    refine ⟨0, j, k, r0, rfl, rfl, rfl, ?_, ?_, ?_⟩
    · rw [← HR0.out]; exact HC.out
    · rw [HR0.out]; simp
    · rw [HR0.out]
      simp
      omega
  case round =>
    obtain ⟨n, m', c, r, rfl, rfl, hwr, hch, hn, hmem⟩ := hrel
    replace hwr := hwr.symm
    subst hwr
    have hn' : n ≤ L.length := by have := HLEN.out; omega
    have hn2 : (n : Int) ≤ (L.length : Int) := by omega
    obtain ⟨yc, xc, hyc, hic, hxc, hcr⟩ : ∃ yc xc, L[m']? = some yc ∧ yc.h = (c : Int) ∧ T[c]? = some xc ∧ Chn T L xc.u r := by
      generalize hz : (m' : Int) = z at hch
      generalize hz2 : (c : Int) :: r = q at hch
      cases hch with
      | stop => simp at hz2
      | @on m2 i2 y2 x2 xs hy2 hi2 hx2 hc2 =>
        obtain rfl : m' = m2 := by omega
        simp at hz2
        obtain ⟨e1, rfl⟩ := hz2
        obtain rfl : c = i2 := by omega
        exact ⟨y2, x2, hy2, hi2, hx2, hc2⟩
    have hcl := (List.getElem?_eq_some_iff.1 hxc).1
    have hwc : waitsOf T (c : Int) = xc.u := by
      unfold waitsOf
      rw [if_pos (by unfold inT; simp; omega), Int.toNat_natCast, hxc]
      rfl
    have HWc := veil (HWs.out (c : Int))
    rw [hwc] at HWc
    have HN := veil hn
    have HMM := veil hmem
    cases r with
    | nil =>
      have hu : xc.u = -1 := by
        generalize hz : xc.u = z at hcr
        generalize hz2 : ([] : List Int) = q at hcr
        cases hcr with
        | stop => rfl
        | on => simp at hz2
      rw [hu] at HWc
      have hno : ¬ Leads L k i := fun q => by
        have := HMM.out.1 (HLD.out.2 q)
        simp at this
      have HNO := veil hno
      have hwt : ∀ W, Below w.heap.size w W → Calls Try.prog 40 #[.pointer (some ⟨s, 0, none⟩), .int .i64 (j : Int)] W fun e w' => ∃ v, e = .returned v ∧ w'.ownsRow W.heap.size 3 1 v y.l.length (ints y.l) ∧ Below W.heap.size W w' := by
        intro W hb
        refine (rwaiters_ok (HH.out.below hb) (j : Int)).mono ?_
        rintro e w' ⟨v, rfl, hil, hb'⟩
        have ew : waitersOf L (j : Int) = y.l := by
          unfold waitersOf
          rw [if_pos (by unfold inL; simp; omega), Int.toNat_natCast, HY.out]
          rfl
        rw [ew] at hil
        refine ⟨v, rfl, ?_, hb'⟩
        unfold IL at hil
        rw [← ints_eq, List.length_map] at hil
        exact hil
      have HWt := veil hwt
      have hend : ∀ w2 v', Below w.heap.size w w2 → w2.ownsRow w.heap.size 3 1 v' (y.l.length + 1) (ints y.l ++ [.int .i64 (i : Int)]) → w2.cell? ⟨s, 2, none⟩ = some (.slice (some ⟨gw, 0, none⟩) L.length cw) ∧ w2.cell? ⟨gw, j, none⟩ = some (.slice (lineAt V j).1 y.l.length (lineAt V j).2) ∧ (∀ k, w2.frozen? ⟨gw, k, none⟩ = false) ∧ (w2.setCell ⟨gw, j, none⟩ v').cell? ⟨s, 2, none⟩ = some (.slice (some ⟨gw, 0, none⟩) L.length cw) ∧
          MovedR w (w2.setCell ⟨gw, j, none⟩ v') base s (.slice ab T.length cb) (.slice (some ⟨go, 0, none⟩) L.length co) (.slice (some ⟨gw, 0, none⟩) L.length cw) V (T.set i ⟨x.k, (j : Int)⟩) (L.set j ⟨y.h, y.l ++ [i]⟩) := by
        intro w2 v' hb hown
        have h2 := HH.out.below hb
        obtain ⟨_, _, _, _, _, _, _, _, e3, hv2⟩ := h2.rv
        simp at e3
        obtain ⟨e31, e32⟩ := e3
        subst e31 e32
        obtain ⟨gw2, ew2, _, y2, _⟩ := hv2.ce j y HY.out
        simp at ew2
        subst ew2
        rw [ints_snoc, show y.l.length + 1 = (y.l ++ [i]).length by simp] at hown
        have hq := HH.out.q.lined HY.out hb hown
        refine ⟨hv2.c2, y2, frozen_row h2.wo, hq.sc.2.2, V.set j v', (hq.waits HX.out (j : Int)).r (HH.out.f.wait HX.out HU.out HY.out HO.out HNO.out), (Fr.of_below' hb).setCell (a := ⟨gw, j, none⟩) (.inr (.inr (.inr (.inl rfl)))) _, ?_⟩
        rintro q (r | r | r | r | ⟨u, hu, r⟩)
        · exact .inl (.inl r)
        · exact .inl (.inr (.inl r))
        · exact .inl (.inr (.inr (.inl r)))
        · exact .inl (.inr (.inr (.inr (.inl r))))
        · rcases List.mem_or_eq_of_mem_set hu with r' | rfl
          · exact .inl (.inr (.inr (.inr (.inr ⟨u, r', r⟩))))
          · exact .inr (ownsRow_blk hown r).1
      have HEnd := veil hend
      clear hno hch hyc hic hxc hcr hwc hu hn hmem HWs hwt hend
      go_wp2_with (go_at_call 36; refine (HWc.out).mono ?_; rintro e w1 ⟨rfl, hw⟩; replace hw := hw.symm; subst hw)
      refine wp_region_held_drew (S := (fun w' => w'.cell? ⟨s, 2, none⟩ = some (.slice (some ⟨gw, 0, none⟩) L.length cw))) (by kernel_rfl) c2 (fun hHeld => ?_)
      refine wpAnyH_take (i := 0) (v := ?_) rfl (by kernel_rfl) (by kernel_rfl) (by kernel_rfl) (fun _ _ _ h => h) (Or.inl ⟨by rfl, ?v0⟩) (by assumption) ?_
      case v0 => (intro w hSw; (try dsimp only at hSw); go_simp; try with_reducible rfl)
      try simp only [Act.put, List.setIfInBounds_toArray, List.set_cons_zero, List.set_cons_succ, List.getElem_toArray, List.getElem_cons_zero]
      refine wpAnyH_take (i := 1) (v := ?_) rfl (by kernel_rfl) (by kernel_rfl) (by kernel_rfl) (fun _ _ _ h => h) (Or.inl ⟨by rfl, ?v1⟩) (by assumption) ?_
      case v1 => (intro w hSw; (try dsimp only at hSw); go_simp; try with_reducible rfl)
      try simp only [Act.put, List.setIfInBounds_toArray, List.set_cons_zero, List.set_cons_succ, List.getElem_toArray, List.getElem_cons_succ, List.getElem_cons_zero]
      refine wpAnyH_take (i := 2) (v := ?_) rfl (by kernel_rfl) (by kernel_rfl) (by kernel_rfl) (fun _ _ _ h => h) (Or.inl ⟨by rfl, ?v2⟩) (by assumption) ?_
      case v2 => (intro w hSw; (try dsimp only at hSw); go_simp; try with_reducible rfl)
      try simp only [Act.put, List.setIfInBounds_toArray, List.set_cons_zero, List.set_cons_succ, List.getElem_toArray, List.getElem_cons_succ, List.getElem_cons_zero]
      refine wpAnyH_take (i := 3) (v := ?_) rfl (by kernel_rfl) (by kernel_rfl) (by kernel_rfl) (fun _ _ _ h => h) (Or.inl ⟨by rfl, ?v3⟩) (by assumption) ?_
      case v3 => (intro w hSw; (try dsimp only at hSw); go_simp; try with_reducible rfl)
      try simp only [Act.put, List.setIfInBounds_toArray, List.set_cons_zero, List.set_cons_succ, List.getElem_toArray, List.getElem_cons_succ, List.getElem_cons_zero]
      refine wpAnyH_take (i := 4) (v := ?_) rfl (by kernel_rfl) (by kernel_rfl) (by kernel_rfl) (fun _ _ _ h => h) (Or.inl ⟨by rfl, ?v4⟩) (by assumption) ?_
      case v4 => (intro w hSw; (try dsimp only at hSw); go_simp; try with_reducible rfl)
      try simp only [Act.put, List.setIfInBounds_toArray, List.set_cons_zero, List.set_cons_succ, List.getElem_toArray, List.getElem_cons_succ, List.getElem_cons_zero]
      refine wpAnyH_take (i := 5) (v := ?_) rfl (by kernel_rfl) (by kernel_rfl) (by kernel_rfl) (fun _ _ _ h => h) (Or.inl ⟨by rfl, ?v5⟩) (by assumption) ?_
      case v5 => (intro w hSw; (try dsimp only at hSw); go_simp; try with_reducible rfl)
      try simp only [Act.put, List.setIfInBounds_toArray, List.set_cons_zero, List.set_cons_succ, List.getElem_toArray, List.getElem_cons_succ, List.getElem_cons_zero]
      refine wpAnyH_take (i := 6) (v := ?_) rfl (by kernel_rfl) (by kernel_rfl) (by kernel_rfl) (fun _ _ _ h => h) (Or.inl ⟨by rfl, ?v6⟩) (by assumption) ?_
      case v6 => (intro w hSw; (try dsimp only at hSw); go_simp; try with_reducible rfl)
      try simp only [Act.put, List.setIfInBounds_toArray, List.set_cons_zero, List.set_cons_succ, List.getElem_toArray, List.getElem_cons_succ, List.getElem_cons_zero]
      refine wpAnyH_take (i := 8) (v := ?_) rfl (by kernel_rfl) (by kernel_rfl) (by kernel_rfl) (fun _ _ _ h => h) (Or.inl ⟨by rfl, ?v8⟩) (by assumption) ?_
      case v8 => (intro w hSw; (try dsimp only at hSw); go_simp; try with_reducible rfl)
      try simp only [Act.put, List.setIfInBounds_toArray, List.set_cons_zero, List.set_cons_succ, List.getElem_toArray, List.getElem_cons_succ, List.getElem_cons_zero]
      refine wpAnyH_ready (rs := [7, 9]) (by kernel_rfl) (by simp) ?_
      refine AllReadyH.cons rfl (fun K hK => ?_) (AllReadyH.cons rfl (fun K hK => ?_) AllReadyH.nil)
      · skip
        go_simp
        go_at_call 40
        refine (HWt.out _ ((Below.refl _ w).drew)).mono ?_
        rintro e w1 ⟨vv, rfl, ho, hb⟩
        have hb1 : Below w.heap.size w w1 := ((Below.refl _ w).drew).trans hb
        have ho' : w1.ownsRow w.heap.size 3 1 vv y.l.length (ints y.l) := ho
        have HO1 := veil ho'
        have HB1 := veil hb1
        have q1 := (hb1.cell (p := ⟨s, 2, none⟩) ls).trans c2
        clear hb ho ho' hb1
        refine hK.out _ _ ?_ (fun hHeld => ?_)
        · exact q1
        clear hK K
        try simp only [Act.put, List.setIfInBounds_toArray, List.set_cons_zero, List.set_cons_succ, List.getElem_toArray, List.getElem_cons_succ, List.getElem_cons_zero]
        refine wpAnyH_ready (rs := [9]) (by kernel_rfl) (by simp) ?_
        refine AllReadyH.cons rfl (fun K hK => ?_) AllReadyH.nil
        go_simp
        have HRow := veil (HO1.out.alloc (.cells #[.int .i64 (i : Int)] 3))
        have HNews := veil (cell_one_new w1 (.int .i64 (i : Int)) 3)
        have HBa := veil (HB1.out.alloc HB1.out.size (.cells #[.int .i64 (i : Int)] 3))
        have HSz := veil (show w.heap.size ≤ (w1.alloc (.cells #[.int .i64 (i : Int)] 3)).heap.size from HBa.out.size)
        refine hK.out _ _ ?_ (fun hHeld => ?_)
        · exact (HBa.out.cell (p := ⟨s, 2, none⟩) ls).trans c2
        clear hK K
        try simp only [Act.put, List.setIfInBounds_toArray, List.set_cons_zero, List.set_cons_succ, List.getElem_toArray, List.getElem_cons_succ, List.getElem_cons_zero]
        refine wpAnyH_ready (rs := [10]) (by kernel_rfl) (by simp) ?_
        refine AllReadyH.cons rfl (fun K hK => ?_) AllReadyH.nil
        refine step_append_any _ (by rfl) _ _ _ (by rfl) w.heap.size 3 i0 (.int .i64 0) 1 8 Try.underlying31 hi0 hz0 hz1 hz2 rfl (by omega) vv y.l.length (ints y.l) (by rfl) HRow.out ⟨w1.heap.size, 0, none⟩ 1 1 [.int .i64 (i : Int)] (by rfl) rfl HNews.out (by simp [Value.oneCell']) (by unfold maxLen; omega) (by omega) HSz.out ?_
        intro v1 w2 ho1 hg1
        have hb2 : Below w.heap.size w w2 := HBa.out.grown hg1 HSz.out (fun k hk => (ownsRow_blk HRow.out hk).1)
        obtain ⟨a1, d1, rfl⟩ := ownsRow_succ ho1
        obtain ⟨n1, n2, n3, n4, n5⟩ := HEnd.out w2 _ hb2 ho1
        have HMV := veil n5
        clear hb2 ho1 hg1 n5
        refine hK.out _ _ ?_ (fun hHeld => ?_)
        · exact n1
        clear hK K
        try simp only [Act.put, List.setIfInBounds_toArray, List.set_cons_zero, List.set_cons_succ, List.getElem_toArray, List.getElem_cons_succ, List.getElem_cons_zero]
        refine wpAnyH_take (i := 11) (v := ?_) rfl (by kernel_rfl) (by kernel_rfl) (by kernel_rfl) (fun _ _ _ h => h) (Or.inl ⟨by rfl, ?v11⟩) (by assumption) ?_
        case v11 => (intro w hSw; (try dsimp only at hSw); go_simp; try with_reducible rfl)
        try simp only [Act.put, List.setIfInBounds_toArray, List.set_cons_zero, List.set_cons_succ, List.getElem_toArray, List.getElem_cons_succ, List.getElem_cons_zero]
        refine wpAnyH_ready (rs := [12]) (by kernel_rfl) (by simp) ?_
        refine AllReadyH.cons rfl (fun K hK => ?_) AllReadyH.nil
        go_simp
        refine hK.out _ _ ?_ (fun hHeld => ?_)
        · exact n4
        clear hK K
        try simp only [Act.put, List.setIfInBounds_toArray, List.set_cons_zero, List.set_cons_succ, List.getElem_toArray, List.getElem_cons_succ, List.getElem_cons_zero]
        refine wpAnyH_done (by kernel_rfl) ?_ _
        clear HWt HEnd HRow HNews HBa HSz
        go_wp2
        simp [bodyPost, results, Try.results55, go_sem]
        exact .inr ⟨HNO.out, rfl, HMV.out⟩
      · skip
        go_simp
        have HB0 : Hid (Below w.heap.size w (w.drew.alloc (.cells #[.int .i64 (i : Int)] 3))) := ((Below.refl _ w).drew).alloc (Nat.le_refl _) _
        have HN0 := veil (cell_one_new w.drew (.int .i64 (i : Int)) 3)
        refine hK.out _ _ ?_ (fun hHeld => ?_)
        · exact (HB0.out.cell (p := ⟨s, 2, none⟩) ls).trans c2
        clear hK K
        try simp only [Act.put, List.setIfInBounds_toArray, List.set_cons_zero, List.set_cons_succ, List.getElem_toArray, List.getElem_cons_succ, List.getElem_cons_zero]
        refine wpAnyH_ready (rs := [7]) (by kernel_rfl) (by simp) ?_
        refine AllReadyH.cons rfl (fun K hK => ?_) AllReadyH.nil
        go_simp
        go_at_call 40
        refine (HWt.out _ HB0.out).mono ?_
        rintro e w1 ⟨vv, rfl, ho, hb⟩
        have hb1 : Below w.heap.size w w1 := HB0.out.trans (hb.mono HB0.out.size)
        have HRow := veil (ownsRow_lift (base' := w.heap.size) ho (fun k hk => Nat.le_trans HB0.out.size (ownsRow_blk ho hk).1))
        have HBa := veil hb1
        have HSz := veil hb1.size
        have HNews : Hid (∀ j u, [Value.int .i64 (i : Int)][j]? = some u → w1.cell? ((⟨w.heap.size, 0, none⟩ : Addr).add j) = some u) := (fun j u hu => by
          have hadd : (⟨w.heap.size, 0, none⟩ : Addr).add j = ⟨w.heap.size, j, none⟩ := by unfold Addr.add; split <;> simp_all
          have h0 := HN0.out j u hu
          have hadd' : (⟨w.drew.heap.size, 0, none⟩ : Addr).add j = ⟨w.heap.size, j, none⟩ := hadd
          rw [hadd'] at h0
          rw [hadd]
          exact (hb.cell (p := ⟨w.heap.size, j, none⟩) (by show w.heap.size < (w.drew.alloc _).heap.size; rw [World.size_alloc]; exact Nat.lt_succ_self _)).trans h0)
        have q1 := (hb1.cell (p := ⟨s, 2, none⟩) ls).trans c2
        clear hb ho hb1
        refine hK.out _ _ ?_ (fun hHeld => ?_)
        · exact q1
        clear hK K
        try simp only [Act.put, List.setIfInBounds_toArray, List.set_cons_zero, List.set_cons_succ, List.getElem_toArray, List.getElem_cons_succ, List.getElem_cons_zero]
        refine wpAnyH_ready (rs := [10]) (by kernel_rfl) (by simp) ?_
        refine AllReadyH.cons rfl (fun K hK => ?_) AllReadyH.nil
        refine step_append_any _ (by rfl) _ _ _ (by rfl) w.heap.size 3 i0 (.int .i64 0) 1 8 Try.underlying31 hi0 hz0 hz1 hz2 rfl (by omega) vv y.l.length (ints y.l) (by rfl) HRow.out ⟨w.heap.size, 0, none⟩ 1 1 [.int .i64 (i : Int)] (by rfl) rfl HNews.out (by simp [Value.oneCell']) (by unfold maxLen; omega) (by omega) HSz.out ?_
        intro v1 w2 ho1 hg1
        have hb2 : Below w.heap.size w w2 := HBa.out.grown hg1 HSz.out (fun k hk => (ownsRow_blk HRow.out hk).1)
        obtain ⟨a1, d1, rfl⟩ := ownsRow_succ ho1
        obtain ⟨n1, n2, n3, n4, n5⟩ := HEnd.out w2 _ hb2 ho1
        have HMV := veil n5
        clear hb2 ho1 hg1 n5
        refine hK.out _ _ ?_ (fun hHeld => ?_)
        · exact n1
        clear hK K
        try simp only [Act.put, List.setIfInBounds_toArray, List.set_cons_zero, List.set_cons_succ, List.getElem_toArray, List.getElem_cons_succ, List.getElem_cons_zero]
        refine wpAnyH_take (i := 11) (v := ?_) rfl (by kernel_rfl) (by kernel_rfl) (by kernel_rfl) (fun _ _ _ h => h) (Or.inl ⟨by rfl, ?v11⟩) (by assumption) ?_
        case v11 => (intro w hSw; (try dsimp only at hSw); go_simp; try with_reducible rfl)
        try simp only [Act.put, List.setIfInBounds_toArray, List.set_cons_zero, List.set_cons_succ, List.getElem_toArray, List.getElem_cons_succ, List.getElem_cons_zero]
        refine wpAnyH_ready (rs := [12]) (by kernel_rfl) (by simp) ?_
        refine AllReadyH.cons rfl (fun K hK => ?_) AllReadyH.nil
        go_simp
        refine hK.out _ _ ?_ (fun hHeld => ?_)
        · exact n4
        clear hK K
        try simp only [Act.put, List.setIfInBounds_toArray, List.set_cons_zero, List.set_cons_succ, List.getElem_toArray, List.getElem_cons_succ, List.getElem_cons_zero]
        refine wpAnyH_done (by kernel_rfl) ?_ _
        clear HWt HEnd HRow HNews HBa HSz
        go_wp2
        simp [bodyPost, results, Try.results55, go_sem]
        exact .inr ⟨HNO.out, rfl, HMV.out⟩
    | cons c2 r2 =>
      obtain ⟨m2, y2, x2, hu, hy2, hh2, hx2, i2, hi2⟩ : ∃ (m2 : Nat) (y2 : Lk) (x2 : Th), xc.u = (m2 : Int) ∧ L[m2]? = some y2 ∧ y2.h = c2 ∧ True ∧ ∃ i2 : Nat, c2 = (i2 : Int) := by
        generalize hz : xc.u = z at hcr
        generalize hz2 : c2 :: r2 = q at hcr
        cases hcr with
        | stop => simp at hz2
        | @on m2 i2 y2 x2 xs hy2 hi2 hx2 hc2 =>
          simp at hz2
          exact ⟨m2, y2, x2, rfl, hy2, by rw [hi2, hz2.1], trivial, i2, hz2.1⟩
      subst hi2
      rw [hu] at HWc
      obtain ⟨go2, ego, _, o2⟩ := HV.out.ow m2 y2 hy2
      simp at ego
      subst ego
      rw [hh2] at o2
      have hm2 := (List.getElem?_eq_some_iff.1 hy2).1
      have hm2' : (m2 : Int) < (L.length : Int) := by omega
      have hcr' : Chn T L (m2 : Int) ((i2 : Int) :: r2) := by rw [← hu]; exact hcr
      have HCR := veil hcr'
      have hn3 : n + 1 ≤ L.length := by have := HLEN.out; have := HN.out; simp at this; omega
      clear hch hyc hic hxc hcr hcr' hwc hn hmem hy2 hh2 hu
      by_cases hit : (i2 : Int) = (i : Int)
      · have hl : Leads L k i := HLD.out.1 (HMM.out.2 (by simp [hit]))
        have HL := veil hl
        have hit' : ((i2 : Int) == (i : Int)) = true := by simp [hit]
        have hit2 : i2 = i := by omega
        clear hl
        go_wp2_with (go_at_call 36; refine (HWc.out).mono ?_; rintro e w1 ⟨rfl, hw⟩; replace hw := hw.symm; subst hw)
        simp [bodyPost, results, Try.results55, go_sem]
        exact .inl ⟨HL.out, rfl, rfl⟩
      · have hit' : ((i2 : Int) == (i : Int)) = false := by simp [hit]
        have hit2 : ¬ i2 = i := by omega
        have hit3 : ¬ i = i2 := by omega
        go_wp2_with (go_at_call 36; refine (HWc.out).mono ?_; rintro e w1 ⟨rfl, hw⟩; replace hw := hw.symm; subst hw)
        go_roundw
        case rel =>
          refine ⟨n + 1, m2, i2, r2, by go_num, rfl, trivial, HCR.out, ?_, ?_⟩
          · have := HN.out; simp at this; omega
          · rw [HMM.out]; simp; omega
        case measure => simp [intOf]; omega
end
end Go.Proofs.Ytbhkgbhgofefjaa
