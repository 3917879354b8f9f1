/- PimutexOne's walk. -/
import Derived.Test.YtbhkgbhgofefjaaR17
namespace Go.Proofs.Ytbhkgbhgofefjaa
open Go.RowKit
set_option linter.unusedVariables false
/-- Held locks counted by threads below t, of the locks below j. -/
def sumH (L : List Lk) (j : Nat) : Nat → Nat
  | 0 => 0
  | t + 1 => sumH L j t + (heldTo L (t : Int) j).length
def cntO (L : List Lk) : Nat → Nat
  | 0 => 0
  | j + 1 => cntO L j + (if 0 ≤ ownerOf L (j : Int) then 1 else 0)
theorem sumH_zero (L : List Lk) : ∀ t, sumH L 0 t = 0
  | 0 => rfl
  | t + 1 => by rw [sumH, sumH_zero L t]; simp [heldTo]
theorem sumH_step {L : List Lk} {j : Nat} {y : Lk} (hy : L[j]? = some y) : ∀ t : Nat, sumH L (j + 1) t = sumH L j t + (if 0 ≤ y.h ∧ y.h < (t : Int) then 1 else 0)
  | 0 => by
    have : ¬ (0 ≤ y.h ∧ y.h < ((0 : Nat) : Int)) := by omega
    rw [if_neg this]; rfl
  | t + 1 => by
    rw [sumH, sumH, sumH_step hy t]
    by_cases h : y.h = (t : Int)
    · rw [heldTo_yes hy h, List.length_append, if_neg (by omega), if_pos (by omega)]
      simp
      omega
    · rw [heldTo_no hy h]
      by_cases h2 : 0 ≤ y.h ∧ y.h < (t : Int)
      · rw [if_pos h2, if_pos (by omega)]
        omega
      · rw [if_neg h2, if_neg (by omega)]
        omega
theorem sumH_cnt {T : List Th} {L : List Lk} (f : Fine T L) {N : Nat} (hN : T.length ≤ N) : ∀ j, j ≤ L.length → sumH L j N = cntO L j
  | 0, _ => by rw [sumH_zero]; rfl
  | j + 1, hj => by
    obtain ⟨y, hy⟩ : ∃ y, L[j]? = some y := ⟨_, List.getElem?_eq_getElem (by omega)⟩
    have hk := f.lk y (List.mem_of_getElem? hy)
    rw [sumH_step hy N, cntO, sumH_cnt f hN j (by omega), owner_of hy]
    by_cases h : 0 ≤ y.h
    · rw [if_pos h, if_pos ⟨h, by have := hk.2.1; omega⟩]
    · rw [if_neg h, if_neg (fun q => h q.1)]
theorem cntO_end {L : List Lk} : ∀ k, cntO L (L.length + k) = cntO L L.length
  | 0 => rfl
  | k + 1 => by
    have e : ownerOf L ((L.length + k : Nat) : Int) = -1 := by unfold ownerOf; rw [if_neg (by unfold inL; simp; omega)]
    rw [← Nat.add_assoc, cntO, cntO_end k, e]
    rfl
theorem heldA_to {T : List Th} {L : List Lk} (f : Fine T L) (t : Nat) : (heldA T L (t : Int)).length = (heldTo L (t : Int) L.length).length := by
  unfold heldA
  by_cases h : inT T (t : Int) = true
  · rw [if_pos h]; rfl
  · rw [if_neg h]
    have hno : ∀ j, j ≤ L.length → heldTo L (t : Int) j = [] := by
      intro j
      induction j with
      | zero => intro _; simp [heldTo]
      | succ j ih =>
        intro hj
        obtain ⟨y, hy⟩ : ∃ y, L[j]? = some y := ⟨_, List.getElem?_eq_getElem (by omega)⟩
        have hk := f.lk y (List.mem_of_getElem? hy)
        rw [heldTo_no hy (fun e => h (by unfold inT; simp; have := hk.2.1; omega)), ih (by omega)]
    rw [hno _ (Nat.le_refl _)]
/-- How often t was met among the lines of locks below m, and the first i of lock m. -/
noncomputable def cnt (T : List Th) (L : List Lk) (m i t : Nat) : Int := by
  classical
  exact if 0 ≤ waitsOf T (t : Int) ∧ (waitsOf T (t : Int) < (m : Int) ∨ waitsOf T (t : Int) = (m : Int) ∧ t ∈ (waitersOf L (m : Int)).take i) then 1 else 0
theorem cnt_start (T : List Th) (L : List Lk) (t : Nat) : cnt T L 0 0 t = 0 := by
  unfold cnt
  rw [if_neg]
  rintro ⟨h1, h2 | ⟨_, h3⟩⟩
  · omega
  · simp at h3
theorem waiters_of {L : List Lk} {j : Nat} {y : Lk} (hy : L[j]? = some y) : waitersOf L (j : Int) = y.l := by
  have hj := (List.getElem?_eq_some_iff.1 hy).1
  unfold waitersOf
  rw [if_pos (by unfold inL; simp; omega), Int.toNat_natCast, hy]
  rfl
/-- Of who stands in a line all is as it should be. -/
theorem line_facts {T : List Th} {L : List Lk} (f : Fine T L) {m i q : Nat} (hq : (waitersOf L (m : Int))[i]? = some q) : q < T.length ∧ waitsOf T (q : Int) = (m : Int) ∧ 0 ≤ ownerOf L (m : Int) ∧ (q : Int) ≠ ownerOf L (m : Int) ∧ q ∉ (waitersOf L (m : Int)).take i := by
  by_cases hm : m < L.length
  · obtain ⟨y, hy⟩ : ∃ y, L[m]? = some y := ⟨_, List.getElem?_eq_getElem hm⟩
    have hyl := List.mem_of_getElem? hy
    have hk := f.lk y hyl
    rw [waiters_of hy] at hq ⊢
    rw [owner_of hy]
    have hqm := List.mem_of_getElem? hq
    have hql := hk.2.2.1 q hqm
    obtain ⟨x, hx⟩ : ∃ x, T[q]? = some x := ⟨_, List.getElem?_eq_getElem hql⟩
    have h0 : 0 ≤ y.h := hk.2.2.2.2 (fun e => by rw [e] at hqm; simp at hqm)
    refine ⟨hql, ?_, h0, fun e => ?_, fun e => ?_⟩
    · rw [waits_of hx]
      exact (f.wt q x hx m y hy).1 hqm
    · obtain ⟨B, r, _, hr⟩ := f.ac
      have := hr q q ⟨y, hyl, hqm, by omega⟩
      omega
    · obtain ⟨k, hk1⟩ := List.mem_iff_getElem?.1 e
      rw [List.getElem?_take] at hk1
      split at hk1
      · rename_i hki
        have hnd := hk.2.2.2.1
        have hil := (List.getElem?_eq_some_iff.1 hq).1
        have := (List.getElem?_inj (by omega) hnd).1 (hk1.trans hq.symm)
        omega
      · simp at hk1
  · have : waitersOf L (m : Int) = [] := by unfold waitersOf; rw [if_neg (by unfold inL; simp; omega)]
    rw [this] at hq
    simp at hq
theorem cnt_next {T : List Th} {L : List Lk} (f : Fine T L) {m i q : Nat} (hq : (waitersOf L (m : Int))[i]? = some q) (t : Nat) : cnt T L m (i + 1) t = if t = q then 1 else cnt T L m i t := by
  obtain ⟨h1, h2, h3, h4, h5⟩ := line_facts f hq
  unfold cnt
  rw [take_snoc hq]
  by_cases h : t = q
  · subst h
    rw [if_pos rfl, if_pos]
    exact ⟨by omega, .inr ⟨h2, by simp⟩⟩
  · rw [if_neg h]
    congr 1
    simp [h]
theorem cnt_q {T : List Th} {L : List Lk} (f : Fine T L) {m i q : Nat} (hq : (waitersOf L (m : Int))[i]? = some q) : cnt T L m i q = 0 := by
  obtain ⟨h1, h2, h3, h4, h5⟩ := line_facts f hq
  unfold cnt
  rw [if_neg]
  rintro ⟨_, h | ⟨_, h⟩⟩
  · omega
  · exact h5 h
theorem cnt_line {T : List Th} {L : List Lk} (f : Fine T L) (m t : Nat) : cnt T L m (waitersOf L (m : Int)).length t = cnt T L (m + 1) 0 t := by
  unfold cnt
  rw [List.take_length]
  congr 1
  simp only [List.take_zero, List.not_mem_nil, and_false, or_false, eq_iff_iff]
  constructor
  · rintro ⟨h0, h | ⟨h, _⟩⟩
    · exact ⟨h0, by omega⟩
    · exact ⟨h0, by omega⟩
  · rintro ⟨h0, h⟩
    refine ⟨h0, ?_⟩
    by_cases h1 : waitsOf T (t : Int) < (m : Int)
    · exact .inl h1
    · have hm : waitsOf T (t : Int) = (m : Int) := by omega
      refine .inr ⟨hm, ?_⟩
      by_cases ht : inT T (t : Int) = true
      · obtain ⟨k, x, ek, hk, hx, hu⟩ := inT_yes ht
        obtain rfl : t = k := by omega
        have hxo := f.th x (List.mem_of_getElem? hx)
        have hml : m < L.length := by have := hxo.2.2; omega
        obtain ⟨y, hy⟩ : ∃ y, L[m]? = some y := ⟨_, List.getElem?_eq_getElem hml⟩
        rw [waiters_of hy]
        exact (f.wt t x hx m y hy).2 (by omega)
      · exfalso
        unfold waitsOf at hm
        rw [if_neg ht] at hm
        omega
theorem cnt_end {T : List Th} {L : List Lk} (f : Fine T L) {N : Nat} (hN : L.length ≤ N) (t : Nat) : cnt T L N 0 t = if 0 ≤ waitsOf T (t : Int) then 1 else 0 := by
  unfold cnt
  congr 1
  simp only [List.take_zero, List.not_mem_nil, and_false, or_false, eq_iff_iff, and_iff_left_iff_imp]
  intro h0
  by_cases ht : inT T (t : Int) = true
  · obtain ⟨k, x, ek, hk, hx, hu⟩ := inT_yes ht
    have hxo := f.th x (List.mem_of_getElem? hx)
    have := hxo.2.2
    omega
  · unfold waitsOf at h0
    rw [if_neg ht] at h0
    omega
theorem sumH_le (L : List Lk) (j : Nat) : ∀ t, sumH L j t ≤ t * j
  | 0 => by simp [sumH]
  | t + 1 => by
    have h1 := sumH_le L j t
    have h2 : (heldTo L (t : Int) j).length ≤ j := by
      unfold heldTo
      rw [List.length_map]
      exact Nat.le_trans (List.length_filter_le _ _) (by simp)
    rw [sumH, Nat.succ_mul]
    omega
theorem cntO_le (L : List Lk) : ∀ j, cntO L j ≤ j
  | 0 => Nat.le_refl _
  | j + 1 => by
    have := cntO_le L j
    rw [cntO]
    split <;> omega
/-- The array of six. -/
def WB (wr : World) (wb : Nat) (c : Nat → Int) : Prop := ∃ A : Array Value, wr.heap[wb]? = some (.cells A 30 (0, 0)) ∧ A.toList = (List.range 6).map (fun t => .int .i64 (c t))
section
variable {w wr w' : World} {wb : Nat} {c : Nat → Int}
theorem WB.lt (h : WB wr wb c) : wb < wr.heap.size := by obtain ⟨A, h1, _⟩ := h; exact (Array.getElem?_eq_some_iff.1 h1).1
theorem WB.below (h : WB wr wb c) (hb : Below wr.heap.size wr w') : WB w' wb c := by
  have hl := h.lt
  obtain ⟨A, h1, h2⟩ := h
  exact ⟨A, (hb.block wb hl).trans h1, h2⟩
theorem WB.at (h : WB wr wb c) {t : Nat} (ht : t < 6) : wr.cell? ⟨wb, t, none⟩ = some (.int .i64 (c t)) := by
  obtain ⟨A, h1, h2⟩ := h
  unfold World.cell?
  simp only [h1]
  rw [← Array.getElem?_toList, h2, List.getElem?_map, List.getElem?_range ht]
  rfl
theorem WB.frozen (h : WB wr wb c) (o : Nat) : wr.frozen? ⟨wb, o, none⟩ = false := by
  obtain ⟨A, h1, h2⟩ := h
  unfold World.frozen?
  simp [h1]
theorem WB.set (h : WB wr wb c) {q : Nat} (hq : q < 6) (v : Int) : WB (wr.setCell ⟨wb, q, none⟩ (.int .i64 v)) wb (fun t => if t = q then v else c t) := by
  obtain ⟨A, h1, h2⟩ := h
  refine ⟨_, Go.Joins.block_setCell h1 (i := q) (.int .i64 v), ?_⟩
  rw [Array.toList_setIfInBounds, h2]
  apply List.ext_getElem?
  intro k
  rw [List.getElem?_set]
  by_cases hk : q = k
  · subst hk
    simp [hq]
  · rw [if_neg hk]
    by_cases h6 : k < 6
    · rw [List.getElem?_map, List.getElem?_map, List.getElem?_range h6]
      simp [Ne.symm hk]
    · rw [List.getElem?_eq_none (by simp; omega), List.getElem?_eq_none (by simp; omega)]
theorem WB.congr {c' : Nat → Int} (h : WB wr wb c) (e : ∀ t, c t = c' t) : WB wr wb c' := by
  have : c = c' := funext e
  rw [← this]
  exact h
theorem WB.new (w : World) : WB (w.alloc (.cells #[.int .i64 0, .int .i64 0, .int .i64 0, .int .i64 0, .int .i64 0, .int .i64 0] 30)) w.heap.size (fun _ => 0) := ⟨_, World.alloc_heap_new w _, rfl⟩
theorem IL.lower {base : Nat} {v : Value} {xs : List Int} (h : IL w base v xs) {b : Nat} (hb : b ≤ base) : IL w b v xs := row_low h hb
theorem IL.seto {base : Nat} {v : Value} {xs : List Int} (h : IL w base v xs) (hb : wb < base) (o : Nat) (u : Value) : IL (w.setCell ⟨wb, o, none⟩ u) base v xs := ownsRow_far h (fun q hq => by
  have hne : q ≠ wb := by have := (ownsRow_blk h hq).1; omega
  exact Below.heap_setCell _ _ _ _ hne)
end
set_option maxRecDepth 100000 in
set_option maxHeartbeats 4000000 in
theorem One_walk (m : Nat) (hm : m < 256) (a : Option Addr) (len cap : Nat) (L : Nat → Dp) (hlen : len < 9223372036854775808) (w : World) (hd : Dps w a len L) :
    Calls Try.prog 4 #[.int .u8 m, .slice a len cap] w fun e w' => e = .returned (.bool true) ∧ Below w.heap.size w w' := by
  have HP := veil (play_ok w m hm a len cap hlen L hd)
  have hn6 : m % 6 + 1 ≤ 6 := by omega
  have hm6 : m / 6 % 6 ≤ 6 := by omega
  clear hd
  go_enter Try.func4, Try.ntmps4
  go_wp2_with (first
    | (go_at_call 14; refine (HP.out).mono ?_; rintro e w1 ⟨g, r, O, D, M, rfl, hB, hsz, hL⟩; have HB := veil hB; have HL := veil hL; have HT6 := veil (show M.T.length ≤ 6 by have := hsz.1; omega); have HL6 := veil (show M.L.length ≤ 6 by have := hsz.2; omega); clear hB hL hsz)
    | (go_at_call 15; refine (live_ok _).mono ?_; rintro e w2 ⟨rfl, hb2⟩; have HP2 := veil (HB.out.below hb2).p; have HL2 := veil (HL.out.trans (hb2.mono HL.out.size)); clear hb2))
  have HFi : Hid (Fine M.T M.L) := HP2.out.f
  have HPk : Hid (∀ W, Below w2.heap.size w2 W → PG W _ O g M) := fun W hb => HP2.out.below hb
  have HLk : Hid (∀ W, Below w2.heap.size w2 W → Below w.heap.size w W) := fun W hb => HL2.out.trans (hb.mono HL2.out.size)
  have HW0 := veil (WB.new w2)
  have HB2 : Hid (Below w2.heap.size w2 (w2.alloc (.cells #[.int .i64 0, .int .i64 0, .int .i64 0, .int .i64 0, .int .i64 0, .int .i64 0] 30))) := (Below.refl _ _).alloc (Nat.le_refl _) _
  clear HP HB HL hn6 hm6 HP2 HL2
  go_loopw [9, 10] (fun hv tv wr => ∃ (t : Nat), t ≤ 6 ∧ tv = .int .i64 t ∧ hv = .int .i64 (sumH M.L M.L.length t : Nat) ∧ WB wr w2.heap.size (fun _ => 0) ∧ Below w2.heap.size w2 wr) (fun _ tv _ => 6 - (intOf tv).toNat)
  case atStart => exact ⟨0, by omega, rfl, rfl, HW0.out, HB2.out⟩
  case round =>
    obtain ⟨t, ht, rfl, rfl, hW, hB⟩ := hrel
    by_cases htl : t < 6
    · have htl' : (t : Int) < 6 := by omega
      have hbs : sumH M.L M.L.length t ≤ 200 := by
        have h1 := sumH_le M.L M.L.length t
        have h2 := HL6.out
        have h3 : t * M.L.length ≤ 6 * 6 := Nat.mul_le_mul ht h2
        omega
      have hhl : (heldA M.T M.L (t : Int)).length ≤ 1024 := heldA_len HFi.out t
      have hhe := (HPk.out wr hB).held (t : Int)
      have HSn : Hid (sumH M.L M.L.length (t + 1) = sumH M.L M.L.length t + (heldA M.T M.L (t : Int)).length) := by
        have e : sumH M.L M.L.length (t + 1) = sumH M.L M.L.length t + (heldA M.T M.L (t : Int)).length := by rw [sumH, heldA_to HFi.out]
        exact e
      generalize heldA M.T M.L (t : Int) = Hl at hhl hhe HSn
      generalize sumH M.L M.L.length t = ss at hbs HSn
      have HHe := veil hhe
      have HW := veil hW
      have HB := veil hB
      clear hhe hW hB
      go_wp2_with (first
        | (go_at_call 17; refine (HHe.out).mono ?_; rintro e w3 ⟨v3, rfl, hil, hb3⟩; obtain ⟨a3, d3, rfl⟩ := hil.slice; have HW3 := veil (HW.out.below hb3); have HB3 := veil (HB.out.trans (hb3.mono HB.out.size)); clear hil hb3))
      refine ⟨⟨t + 1, by omega, by simp, by rw [HSn.out]; simp, HW3.out, HB3.out⟩, ?_⟩
      simp [intOf]
      omega
    · have htl' : ¬ (t : Int) < 6 := by omega
      obtain rfl : t = 6 := by omega
      have HHs : Hid (sumH M.L M.L.length 6 = cntO M.L 6) := by
        have e : sumH M.L M.L.length 6 = cntO M.L 6 := by
          rw [sumH_cnt HFi.out HT6.out _ (Nat.le_refl _), ← cntO_end (6 - M.L.length)]
          congr 1
          have := HL6.out
          omega
        exact e
      generalize sumH M.L M.L.length 6 = ss at HHs
      have HW := veil (hW.congr (fun t => (cnt_start M.T M.L t).symm))
      have HB := veil hB
      clear hW hB
      go_wp2
      go_loopw [11, 12] (fun ov mv wr => ∃ (m' : Nat), m' ≤ 6 ∧ mv = .int .i64 m' ∧ ov = .int .i64 (cntO M.L m' : Nat) ∧ WB wr w2.heap.size (cnt M.T M.L m' 0) ∧ Below w2.heap.size w2 wr) (fun _ mv _ => 6 - (intOf mv).toNat)
      case atStart => exact ⟨0, by omega, rfl, rfl, HW.out, HB.out⟩
      case round =>
        obtain ⟨m', hm', rfl, rfl, hW, hB⟩ := hrel
        clear HW HB HW0 HB2
        have hco := cntO_le M.L m'
        by_cases hml : m' < 6
        · have hml' : (m' : Int) < 6 := by omega
          have how := (HPk.out wr hB).owner (m' : Int)
          have hwa := (HPk.out wr hB).waiters (m' : Int)
          have hwl : (waitersOf M.L (m' : Int)).length ≤ 1024 := by have := waiters_len (M := M) HFi.out (m' : Int); simpa using this
          obtain ⟨oo, hoo⟩ : ∃ oo, ownerOf M.L (m' : Int) = oo := ⟨_, rfl⟩
          obtain ⟨Wl, hWl⟩ : ∃ Wl, Wl = waitersOf M.L (m' : Int) := ⟨_, rfl⟩
          rw [hoo] at how
          rw [← hWl] at hwa hwl
          have HOO := veil hoo
          have HWL := veil hWl
          have HOw := veil how
          have HWa := veil hwa
          have HWb := veil hW
          have HBr := veil hB
          clear how hwa hoo hWl hW hB
          by_cases ho : 0 ≤ oo
          · skip
            have hcn : cntO M.L (m' + 1) = cntO M.L m' + 1 := by rw [cntO, HOO.out, if_pos ho]
            have HCn := veil hcn
            clear hcn
            generalize cntO M.L m' = co at *
            go_wp2_with (first
              | (go_at_call 18; refine (HOw.out).mono ?_; rintro e wx ⟨rfl, hw⟩; replace hw := hw.symm; subst hw)
              | (go_at_call 19; refine (HWa.out).mono ?_; rintro e w5 ⟨wv, rfl, hil5, hb5⟩; have HI5 := veil (hil5.lower (b := w2.heap.size + 1) (by have := HWb.out.lt; omega)); have HW5 := veil (HWb.out.below hb5); have HB5 := veil (HBr.out.trans (hb5.mono HBr.out.size)); clear hil5 hb5))
            obtain ⟨wa, wc, ew⟩ := HI5.out.slice
            rw [List.length_map] at ew
            subst ew
            have HLF : Hid (∀ (i q : Nat), Wl[i]? = some q → q < 6 ∧ waitsOf M.T (q : Int) = (m' : Int) ∧ 0 ≤ oo ∧ (q : Int) ≠ oo ∧ cnt M.T M.L m' i q = 0 ∧ ∀ t, cnt M.T M.L m' (i + 1) t = if t = q then 1 else cnt M.T M.L m' i t) := fun i q hq => by
              rw [HWL.out] at hq
              obtain ⟨h1, h2, h3, h4, _⟩ := line_facts HFi.out hq
              rw [HOO.out] at h3 h4
              exact ⟨Nat.lt_of_lt_of_le h1 HT6.out, h2, h3, h4, cnt_q HFi.out hq, cnt_next HFi.out hq⟩
            clear HOw HWa HWb HBr
            go_loopw [15] (fun iv wr => ∃ (i : Nat), i ≤ Wl.length ∧ iv = .int .i64 i ∧ WB wr w2.heap.size (cnt M.T M.L m' i) ∧ IL wr (w2.heap.size + 1) (.slice wa Wl.length wc) (Wl.map (fun (t : Nat) => (t : Int))) ∧ Below w2.heap.size w2 wr) (fun iv _ => Wl.length - (intOf iv).toNat)
            case atStart => exact ⟨0, by omega, rfl, HW5.out, HI5.out, HB5.out⟩
            case round =>
              obtain ⟨i, hi, rfl, hW, hI, hB⟩ := hrel
              clear HI5 HW5 HB5
              by_cases hil : i < Wl.length
              · have hil' : (i : Int) < (Wl.length : Int) := by omega
                obtain ⟨q, hq⟩ : ∃ q, Wl[i]? = some q := ⟨_, List.getElem?_eq_getElem hil⟩
                obtain ⟨hq6, hqw, hoo, hqo, hc0, hcn⟩ := HLF.out i q hq
                obtain ⟨gw, gc, eg, hgw1, hgw2, hcell⟩ := hI.cells (by intro z; have := congrArg List.length z; simp at this; rw [this] at hil; simp at hil)
                simp only [Value.slice.injEq] at eg
                obtain ⟨rfl, hlw, rfl⟩ := eg
                clear hlw
                have q0 := hcell i (by simpa using hil)
                rw [List.getD_eq_getElem?_getD, List.getElem?_map, hq, Option.map_some, Option.getD_some] at q0
                have hwt := (HPk.out wr hB).waits (q : Int)
                rw [hqw] at hwt
                have hwd := (HPk.out wr.drew hB.drew).waits (q : Int)
                rw [hqw] at hwd
                have HWt := veil hwt
                have HWd := veil hwd
                have z0 := hW.at hq6
                rw [hc0] at z0
                have fz := hW.frozen
                have HQo := veil hqo
                have hqo1 : ((q : Int) == oo) = false := by simpa using hqo
                have hq1 : decide ((q : Int) < 0) = false := by simp
                have hq2 : decide ((6 : Int) ≤ (q : Int)) = false := by simp; omega
                have hq3 : decide (oo < 0) = false := by simp; omega
                have hq4 : (q : Int) < 6 := by omega
                have hq5 : ((m' : Int) != (m' : Int)) = false := by simp
                have HWW := veil ((hW.set hq6 1).congr (fun t => (hcn t).symm))
                have HII := veil (hI.seto (wb := w2.heap.size) (by omega) q (.int .i64 1))
                have HBB := veil (hB.setCell (p := ⟨w2.heap.size, q, none⟩) (Nat.le_refl _) (.int .i64 1))
                have hng : gw ≠ w2.heap.size := by omega
                clear hW hI hB hq hqw hwt hwd hc0 hcn hcell hqo
                go_wp2_with (first
                  | (go_at_call 20; refine (HWt.out).mono ?_; rintro e wx ⟨rfl, hw⟩; replace hw := hw.symm; subst hw))
                go_roundw
                case rel => exact ⟨i + 1, by omega, by go_num, HWW.out, HII.out, HBB.out⟩
                case measure => simp [intOf]; omega
              · have hil' : ¬ (i : Int) < (Wl.length : Int) := by omega
                obtain rfl : i = Wl.length := by omega
                have HWn : Hid (WB wr w2.heap.size (cnt M.T M.L (m' + 1) 0)) := hW.congr (fun t => by rw [HWL.out]; exact cnt_line HFi.out m' t)
                have HBn := veil hB
                clear hW hI hB
                go_wp2
                go_roundw
                case rel => exact ⟨m' + 1, by omega, by go_num, by rw [HCn.out]; simp, HWn.out, HBn.out⟩
                case measure => simp [intOf]; omega
          · skip
            have hcn : cntO M.L (m' + 1) = cntO M.L m' + 0 := by rw [cntO, HOO.out, if_neg ho]
            have HCn := veil hcn
            clear hcn
            generalize cntO M.L m' = co at *
            go_wp2_with (first
              | (go_at_call 18; refine (HOw.out).mono ?_; rintro e wx ⟨rfl, hw⟩; replace hw := hw.symm; subst hw)
              | (go_at_call 19; refine (HWa.out).mono ?_; rintro e w5 ⟨wv, rfl, hil5, hb5⟩; have HI5 := veil (hil5.lower (b := w2.heap.size + 1) (by have := HWb.out.lt; omega)); have HW5 := veil (HWb.out.below hb5); have HB5 := veil (HBr.out.trans (hb5.mono HBr.out.size)); clear hil5 hb5))
            obtain ⟨wa, wc, ew⟩ := HI5.out.slice
            rw [List.length_map] at ew
            subst ew
            have HLF : Hid (∀ (i q : Nat), Wl[i]? = some q → q < 6 ∧ waitsOf M.T (q : Int) = (m' : Int) ∧ 0 ≤ oo ∧ (q : Int) ≠ oo ∧ cnt M.T M.L m' i q = 0 ∧ ∀ t, cnt M.T M.L m' (i + 1) t = if t = q then 1 else cnt M.T M.L m' i t) := fun i q hq => by
              rw [HWL.out] at hq
              obtain ⟨h1, h2, h3, h4, _⟩ := line_facts HFi.out hq
              rw [HOO.out] at h3 h4
              exact ⟨Nat.lt_of_lt_of_le h1 HT6.out, h2, h3, h4, cnt_q HFi.out hq, cnt_next HFi.out hq⟩
            clear HOw HWa HWb HBr
            go_loopw [15] (fun iv wr => ∃ (i : Nat), i ≤ Wl.length ∧ iv = .int .i64 i ∧ WB wr w2.heap.size (cnt M.T M.L m' i) ∧ IL wr (w2.heap.size + 1) (.slice wa Wl.length wc) (Wl.map (fun (t : Nat) => (t : Int))) ∧ Below w2.heap.size w2 wr) (fun iv _ => Wl.length - (intOf iv).toNat)
            case atStart => exact ⟨0, by omega, rfl, HW5.out, HI5.out, HB5.out⟩
            case round =>
              obtain ⟨i, hi, rfl, hW, hI, hB⟩ := hrel
              clear HI5 HW5 HB5
              by_cases hil : i < Wl.length
              · have hil' : (i : Int) < (Wl.length : Int) := by omega
                obtain ⟨q, hq⟩ : ∃ q, Wl[i]? = some q := ⟨_, List.getElem?_eq_getElem hil⟩
                obtain ⟨hq6, hqw, hoo, hqo, hc0, hcn⟩ := HLF.out i q hq
                obtain ⟨gw, gc, eg, hgw1, hgw2, hcell⟩ := hI.cells (by intro z; have := congrArg List.length z; simp at this; rw [this] at hil; simp at hil)
                simp only [Value.slice.injEq] at eg
                obtain ⟨rfl, hlw, rfl⟩ := eg
                clear hlw
                have q0 := hcell i (by simpa using hil)
                rw [List.getD_eq_getElem?_getD, List.getElem?_map, hq, Option.map_some, Option.getD_some] at q0
                have hwt := (HPk.out wr hB).waits (q : Int)
                rw [hqw] at hwt
                have hwd := (HPk.out wr.drew hB.drew).waits (q : Int)
                rw [hqw] at hwd
                have HWt := veil hwt
                have HWd := veil hwd
                have z0 := hW.at hq6
                rw [hc0] at z0
                have fz := hW.frozen
                have HQo := veil hqo
                have hqo1 : ((q : Int) == oo) = false := by simpa using hqo
                have hq1 : decide ((q : Int) < 0) = false := by simp
                have hq2 : decide ((6 : Int) ≤ (q : Int)) = false := by simp; omega
                have hq3 : decide (oo < 0) = false := by simp; omega
                have hq4 : (q : Int) < 6 := by omega
                have hq5 : ((m' : Int) != (m' : Int)) = false := by simp
                have HWW := veil ((hW.set hq6 1).congr (fun t => (hcn t).symm))
                have HII := veil (hI.seto (wb := w2.heap.size) (by omega) q (.int .i64 1))
                have HBB := veil (hB.setCell (p := ⟨w2.heap.size, q, none⟩) (Nat.le_refl _) (.int .i64 1))
                have hng : gw ≠ w2.heap.size := by omega
                clear hW hI hB hq hqw hwt hwd hc0 hcn hcell hqo
                exact absurd hoo (by omega)
              · have hil' : ¬ (i : Int) < (Wl.length : Int) := by omega
                obtain rfl : i = Wl.length := by omega
                have HWn : Hid (WB wr w2.heap.size (cnt M.T M.L (m' + 1) 0)) := hW.congr (fun t => by rw [HWL.out]; exact cnt_line HFi.out m' t)
                have HBn := veil hB
                clear hW hI hB
                go_wp2
                go_roundw
                case rel => exact ⟨m' + 1, by omega, by go_num, by rw [HCn.out]; rfl, HWn.out, HBn.out⟩
                case measure => simp [intOf]; omega
        · have hml' : ¬ (m' : Int) < 6 := by omega
          obtain rfl : m' = 6 := by omega
          have HWn := veil (hW.congr (fun t => cnt_end HFi.out HL6.out t))
          have HBn := veil hB
          clear hW hB
          go_wp2
          generalize hcc : cntO M.L 6 = c6 at *
          go_loopw [16] (fun tv wr => ∃ (t : Nat), t ≤ 6 ∧ tv = .int .i64 t ∧ WB wr w2.heap.size (fun t => if 0 ≤ waitsOf M.T (t : Int) then 1 else 0) ∧ Below w2.heap.size w2 wr) (fun tv _ => 6 - (intOf tv).toNat)
          case atStart => exact ⟨0, by omega, rfl, HWn.out, HBn.out⟩
          case round =>
            obtain ⟨t, ht, rfl, hW, hB⟩ := hrel
            clear HWn HBn
            have HW := veil hW
            have HB := veil hB
            by_cases htl : t < 6
            · have htl' : (t : Int) < 6 := by omega
              have z0 := hW.at htl
              have hwt := (HPk.out wr hB).waits (t : Int)
              have hwd := (HPk.out wr.drew hB.drew).waits (t : Int)
              generalize waitsOf M.T (t : Int) = u at z0 hwt hwd
              have HWd := veil hwd
              clear hwt hwd hW hB
              by_cases hu : 0 ≤ u
              · skip
                rw [if_pos hu] at z0
                have hu2 : decide (0 ≤ u) = true := by simpa using hu
                have hS1 := veil z0
                have hS2 : Hid (wr.drew.cell? ⟨w2.heap.size, t, none⟩ = some (.int .i64 1)) := z0
                go_wp2
                go_region_held3 (fun w' => w'.cell? ⟨w2.heap.size, t, none⟩ = some (.int .i64 1))
                  (first | with_reducible exact hS1.out | with_reducible exact hS2.out)
                  (first
                    | (go_at_call 20; refine (HWd.out).mono ?_; rintro e wx ⟨rfl, hw⟩; replace hw := hw.symm; subst hw))
                all_goals go_wp2
                all_goals go_roundw
                case rel => exact ⟨t + 1, by omega, by go_num, HW.out.below (Below.refl _ wr).drew, HB.out.drew⟩
                case measure => simp [intOf]; omega
              · skip
                rw [if_neg hu] at z0
                have hu2 : decide (0 ≤ u) = false := by simpa using hu
                have hS1 := veil z0
                have hS2 : Hid (wr.drew.cell? ⟨w2.heap.size, t, none⟩ = some (.int .i64 0)) := z0
                go_wp2
                go_region_held3 (fun w' => w'.cell? ⟨w2.heap.size, t, none⟩ = some (.int .i64 0))
                  (first | with_reducible exact hS1.out | with_reducible exact hS2.out)
                  (first
                    | (go_at_call 20; refine (HWd.out).mono ?_; rintro e wx ⟨rfl, hw⟩; replace hw := hw.symm; subst hw))
                all_goals go_wp2
                all_goals go_roundw
                case rel => exact ⟨t + 1, by omega, by go_num, HW.out.below (Below.refl _ wr).drew, HB.out.drew⟩
                case measure => simp [intOf]; omega
            · have htl' : ¬ (t : Int) < 6 := by omega
              have hss : ((ss : Int) == (c6 : Int)) = true := by have := HHs.out; simp; omega
              clear hW hB
              go_wp2
              go_ret
              exact ⟨rfl, HLk.out _ HB.out⟩
end Go.Proofs.Ytbhkgbhgofefjaa
