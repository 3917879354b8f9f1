/- Those behind a thread, place by place. -/
import Derived.Test.YtbhkgbhgofefjaaI20
namespace Go.Proofs.Ytbhkgbhgofefjaa
open Go.RowKit Go.Shelf
set_option linter.unusedVariables false
attribute [local go_sem] Oper.semAt_some
theorem behind_in (nn s : Nat) (t : Int) (w : World) :
    CallsIn Fence.wide nn Try.prog 48 #[.pointer (some ⟨s, 0, none⟩), .int .i64 t] w fun e w' => e = .returned (.func (.func 60) #[] #[.pointer (some ⟨w.heap.size, 0, none⟩), .pointer (some ⟨w.heap.size + 1, 0, none⟩)]) ∧
      w' = (w.alloc (.cells #[.pointer (some ⟨s, 0, none⟩)] 23)).alloc (.cells #[.int .i64 t] 3) := by
  refine callsIn_of_wp Try.func48 rfl trivial ?_ rfl
  simp only [Try.ntmps48, List.size_toArray, List.length_cons, List.length_nil, Nat.reduceAdd, Nat.reduceSub, Array.replicate_succ, Array.replicate_zero, List.push_toArray, List.append_toArray, List.nil_append, List.cons_append]
  gi_wp2
  go_ret
  exact ⟨by simp, rfl⟩
theorem round_in {m m' l' : Nat} {P : Program} {l : Nat} {f : FuncId} {tmps : Array Value} {assign body : Code} {w : World} {R : Ending → World → Prop} (h : RoundIn Fence.wide m P l f tmps assign body w R) : RoundIn (Fence.wide.inRound l') m' P l f tmps assign body w R := ⟨h.1, fun c cs _ => h.2 c cs (fun d q => by cases q)⟩
set_option maxRecDepth 100000 in
set_option maxHeartbeats 2000000 in
theorem behind_places (l B1 B2 s gt ct : Nat) (a : Option Addr) (cap : Nat) (ln : Nat → Option Addr × Nat) (n0 : Nat) (T : List Th) (L : List Lk) (t : Nat) (n1 : Nat) (J : Nat → World → Prop) (S : Nat → Prop) (hL : L.length ≤ 32) (hS : ∀ b, n1 ≤ b → ¬ S b)
    (hJ : ∀ k W, J k W → Boxed W B1 23 (.pointer (some ⟨s, 0, none⟩)) ∧ Boxed W B2 3 (.int .i64 (t : Int)) ∧ Vw n0 W s gt ct a cap ln T L)
    (hA : Abd n1 J)
    (hY : ∀ k W, k < (behind L t).length → J k W → YieldAt Fence.wide 8 Try.prog l #[.int .i64 (((behind L t)[k]?.getD 0 : Nat) : Int)] W fun e W' => e = .returned (.bool true) ∧ J (k + 1) W' ∧ Kk n1 S W W')
    (W : World) (hW : n1 ≤ W.heap.size) (h0 : J 0 W) :
    CallsIn Fence.wide 9 Try.prog 60 #[.func (.yield l) #[] #[], .pointer (some ⟨B1, 0, none⟩), .pointer (some ⟨B2, 0, none⟩)] W fun e W' => (∃ v, e = .returned v) ∧ J (behind L t).length W' := by
  obtain ⟨hb1, hb2, hv⟩ := hJ 0 W h0
  have b1 := hb1.cell
  have b2 := hb2.cell
  have hl1 := hb1.lt
  have hl2 := hb2.lt
  have hn1 : ¬ B1 = W.heap.size := by have := hb1.lt; omega
  have hn2 : ¬ B2 = W.heap.size := by have := hb2.lt; omega
  have HJ := veil hJ
  have HA := veil hA
  have HY := veil hY
  have H0 := veil h0
  clear hJ hA hY h0 hv hb1 hb2
  refine callsIn_of_wp_marks Try.func60 rfl trivial ?_ rfl
  simp only [Try.ntmps60, List.size_toArray, List.length_cons, List.length_nil, Nat.reduceAdd, Nat.reduceSub, Array.replicate_succ, Array.replicate_zero, List.push_toArray, List.append_toArray, List.nil_append, List.cons_append]
  gi_wp2_with (refine ⟨trivial, ?_⟩; gi_at_call 42; refine (held_in _ s (t : Int) _).mono ?_; rintro e w' ⟨rfl, rfl⟩)
  have hsz : ((((W.alloc (.cells #[.func (.yield l) #[] #[]] 63)).alloc (.cells #[.pointer (some ⟨s, 0, none⟩)] 23)).alloc (.cells #[.int .i64 (t : Int)] 3))).heap.size = W.heap.size + 3 := by simp
  have bY := ((Boxed.new W 63 (.func (.yield l) #[] #[])).alloc (.cells #[.pointer (some ⟨s, 0, none⟩)] 23)).alloc (.cells #[.int .i64 (t : Int)] 3)
  have bG := (Boxed.new (W.alloc (.cells #[.func (.yield l) #[] #[]] 63)) 23 (.pointer (some ⟨s, 0, none⟩))).alloc (.cells #[.int .i64 (t : Int)] 3)
  have bT := Boxed.new ((W.alloc (.cells #[.func (.yield l) #[] #[]] 63)).alloc (.cells #[.pointer (some ⟨s, 0, none⟩)] 23)) 3 (.int .i64 (t : Int))
  have hJ0 := HA.out.al 0 _ (.cells #[.int .i64 (t : Int)] 3) (HA.out.al 0 _ (.cells #[.pointer (some ⟨s, 0, none⟩)] 23) (HA.out.al 0 _ (.cells #[.func (.yield l) #[] #[]] 63) H0.out))
  simp only [World.size_alloc] at bG bT ⊢
  generalize ((W.alloc (.cells #[.func (.yield l) #[] #[]] 63)).alloc (.cells #[.pointer (some ⟨s, 0, none⟩)] 23)).alloc (.cells #[.int .i64 (t : Int)] 3) = W0 at hsz bY bG bT hJ0 ⊢
  have HS := veil hS
  clear hS
  have hA2 : Abd W0.heap.size (fun j V => J ((behind (L.take j) t).length) V ∧ Boxed V W.heap.size 63 (.func (.yield l) #[] #[]) ∧ Boxed V (W.heap.size + 1) 23 (.pointer (some ⟨s, 0, none⟩)) ∧ Boxed V (W.heap.size + 1 + 1) 3 (.int .i64 (t : Int))) := by
    refine ⟨fun k V o h => ⟨HA.out.al _ _ _ h.1, h.2.1.alloc _, h.2.2.1.alloc _, h.2.2.2.alloc _⟩, fun k V x o o' hx ho hc h => ⟨HA.out.pu _ _ _ _ _ (by omega) ho hc h.1, box_put h.2.1 ho hc, box_put h.2.2.1 ho hc, box_put h.2.2.2 ho hc⟩⟩
  have HA2 := veil hA2
  have hNo2 : ∀ k (V : World), (∀ y, L[k]? = some y → ¬ y.h = (t : Int)) → (J ((behind (L.take k) t).length) V ∧ Boxed V W.heap.size 63 (.func (.yield l) #[] #[]) ∧ Boxed V (W.heap.size + 1) 23 (.pointer (some ⟨s, 0, none⟩)) ∧ Boxed V (W.heap.size + 1 + 1) 3 (.int .i64 (t : Int))) →
      (J ((behind (L.take (k + 1)) t).length) V ∧ Boxed V W.heap.size 63 (.func (.yield l) #[] #[]) ∧ Boxed V (W.heap.size + 1) 23 (.pointer (some ⟨s, 0, none⟩)) ∧ Boxed V (W.heap.size + 1 + 1) 3 (.int .i64 (t : Int))) := by
    intro k V hn h
    cases hy : L[k]? with
    | none =>
      have hk := List.getElem?_eq_none_iff.1 hy
      rw [List.take_of_length_le (by omega)]
      rw [List.take_of_length_le (by omega)] at h
      exact h
    | some y => rw [beh_no hy (hn y hy)]; exact h
  have hend : (behind (L.take L.length) t).length = (behind L t).length := by rw [List.take_length]
  refine rangeP (gf := 58) (lb := #[.pointer (some ⟨W.heap.size + 1, 0, none⟩), .pointer (some ⟨W.heap.size + 1 + 1, 0, none⟩)]) rfl (enters_of Try.func58 (by kernel_rfl) rfl)
    (fun j V => J ((behind (L.take j) t).length) V ∧ Boxed V W.heap.size 63 (.func (.yield l) #[] #[]) ∧ Boxed V (W.heap.size + 1) 23 (.pointer (some ⟨s, 0, none⟩)) ∧ Boxed V (W.heap.size + 1 + 1) 3 (.int .i64 (t : Int)))
    (fun k => ∀ y, L[k]? = some y → ¬ y.h = (t : Int)) (fun k => ∃ y, L[k]? = some y ∧ y.h = (t : Int)) (fun k => .int .i64 (k : Int)) L.length
    (fun k => { tmps := #[.func (.yield l) #[] #[], .pointer (some ⟨B1, 0, none⟩), .pointer (some ⟨B2, 0, none⟩), .pointer (some ⟨W.heap.size, 0, none⟩), .int .i64 (k : Int), undef, undef, .pointer (some ⟨s, 0, none⟩), .int .i64 (t : Int), .func (.func 58) #[] #[.pointer (some ⟨W.heap.size + 1, 0, none⟩), .pointer (some ⟨W.heap.size + 1 + 1, 0, none⟩)], .int .i64 (k : Int), undef, undef, undef, undef, undef, undef, undef, undef, undef, undef, undef, undef, undef, undef, undef, undef, undef, undef], defers := [] })
    S hA2 hNo2 ⟨by simpa [behind] using hJ0, bY, bG, bT⟩ ?hit ?assign ?body ?done
  case hit =>
    intro l' J' W1 h1 h2 h3 h4 h5 h6
    exact held_places 8 l' _ _ s gt ct a cap ln n0 T L (t : Int) W1.heap.size J' hL (fun k V h => ⟨(h1 k V h).2.2.1.cell, (h1 k V h).2.2.2.cell, (HJ.out _ _ (h1 k V h).1).2.2⟩) (fun k V h => (h1 k V h).2.2.2.lt) h2 h3 (fun k V hk h => (h4 k V hk h).mono (fun e V' q => ⟨q.1, q.2.1⟩)) W1 h5
  case assign =>
    intro l' k V K hK
    gi_wp2
    exact hK
  case body =>
    rintro l' k V ⟨y, hy, hh⟩ ⟨hJk, hbY, hbG, hbT⟩
    obtain ⟨hq1, hq2, hv⟩ := HJ.out _ _ hJk
    have c1 := hv.c1
    have hk := (List.getElem?_eq_some_iff.1 hy).1
    have hk' : (k : Int) < (L.length : Int) := by omega
    have hle := hv.le
    obtain ⟨g, rfl, y0, y1, l1, l2, _⟩ := hv.ce k y hy
    generalize hlv : (ln k).1 = va at y1
    generalize hlc : (ln k).2 = vc at y1 l1 l2
    replace hlv := veil hlv
    replace hlc := veil hlc
    have q1 := hq1.cell
    have HBY := veil hbY
    have HBG := veil hbG
    have HBT := veil hbT
    have HJk := veil hJk
    have HYy := veil hy
    have hT2 : y.l.length ≤ 9223372036854775807 := by have := l2; unfold maxLen at this; omega
    clear hbY hbG hbT hJk hq1 hq2 hv hJ0 bY bG bT
    gi_wp2
    gi_loopw [20] (fun p wr => ∃ (i : Nat), i ≤ y.l.length ∧ p = .int .i64 i ∧ J ((behind (L.take k) t).length + i) wr ∧ Boxed wr W.heap.size 63 (.func (.yield l) #[] #[]) ∧ Boxed wr (W.heap.size + 1) 23 (.pointer (some ⟨s, 0, none⟩)) ∧ Boxed wr (W.heap.size + 1 + 1) 3 (.int .i64 (t : Int)) ∧ Kk W0.heap.size S V wr)
      (fun p _ => y.l.length - (intOf p).toNat)
    case atStart => exact ⟨0, by omega, rfl, HJk.out, HBY.out, HBG.out, HBT.out, Kk.refl _ _ _⟩
    case round =>
      obtain ⟨i, hi, rfl, hJi, hbY, hbG, hbT, hkk⟩ := hrel
      by_cases hil : i < y.l.length
      · have hil' : (i : Int) < (y.l.length : Int) := by omega
        obtain ⟨x, hx⟩ : ∃ x, y.l[i]? = some x := ⟨_, List.getElem?_eq_getElem hil⟩
        have hxb := beh_at HYy.out hh hx
        obtain ⟨_, _, hv⟩ := HJ.out _ _ hJi
        obtain ⟨g2, e2, z0, z1, _, _, hcx⟩ := hv.ce k y HYy.out
        obtain ⟨gg, e3, _, x0⟩ := hcx i x hx
        rw [hlv.out] at e3
        subst e3
        have bY := hbY.cell
        have hplt : (behind (L.take k) t).length + i < (behind L t).length := (List.getElem?_eq_some_iff.1 hxb).1
        obtain ⟨fn, tmps, assign, body, hyy, hR⟩ := HY.out _ wr hplt hJi
        rw [hxb] at hyy
        simp only [Option.getD_some] at hyy
        have HHY := veil hbY
        have HHG := veil hbG
        have HHT := veil hbT
        have HKK := veil hkk
        have HX := veil hx
        have HI := veil (show i + 1 ≤ y.l.length from hil)
        have HM := veil (show y.l.length - (i + 1) < y.l.length - i by omega)
        clear hbY hbG hbT hkk hJi hv hplt hxb z0 z1 e2 hx hcx
        gi_wp2
        refine (round_in hR).mono ?_
        rintro e W3 ⟨rfl, hJ3, hk3⟩
        have HA3 := veil (hk3.box (HS.out _ (by omega)) HHY.out)
        have HB3 := veil (hk3.box (HS.out _ (by omega)) HHG.out)
        have HC3 := veil (hk3.box (HS.out _ (by omega)) HHT.out)
        have HK3 := veil (HKK.out.trans (hk3.wide (by omega)))
        have HJ3 := veil hJ3
        clear hJ3 hk3 hyy hR HY
        gi_wp2
        go_roundw
        case rel => exact ⟨i + 1, HI.out, by go_num, HJ3.out, HA3.out, HB3.out, HC3.out, HK3.out⟩
        case measure => simp [intOf]; omega
      · have hil' : ¬ (i : Int) < (y.l.length : Int) := by omega
        obtain rfl : i = y.l.length := by omega
        have HJi := veil hJi
        have HA5 := veil hbY
        have HB5 := veil hbG
        have HC5 := veil hbT
        have HK5 := veil hkk
        clear hJi hbY hbG hbT hkk
        gi_wp2
        rw [hsz] at HK5
        refine ⟨HK5.out, ?_, HA5.out, HB5.out, HC5.out⟩
        rw [beh_yes HYy.out hh, List.length_append]
        exact HJi.out
  case done =>
    rintro D V hD ⟨hJm, _⟩ hK
    gi_wp2
    refine ⟨by simp, .inl ⟨_, _, rfl, run_takeDeferred hK, ?_⟩⟩
    refine ⟨_, results_none rfl _ _ _, ⟨_, rfl⟩, ?_⟩
    rw [← hend]
    exact HA.out.pu _ _ _ _ _ (by omega) hK rfl hJm
end Go.Proofs.Ytbhkgbhgofefjaa
