/- The holders, as holders yields them. -/
import Derived.Test.YtbhkgbhgofefjaaI10
namespace Go.Proofs.Ytbhkgbhgofefjaa
open Go.RowKit Go.Shelf
set_option linter.unusedVariables false
attribute [local go_sem] Oper.semAt_some
/-- What the yielding reads of the threads. -/
structure RdT (W : World) (s g cap : Nat) (T : List Th) : Prop where
  c0 : W.cell? ⟨s, 0, none⟩ = some (.slice (some ⟨g, 0, none⟩) T.length cap)
  le : T.length ≤ cap ∧ cap ≤ maxLen
  ce : ∀ (j : Nat) x, T[j]? = some x → W.cell? ⟨g, j * 4, none⟩ = some (.bool x.k.e) ∧ W.cell? ⟨g, j * 4 + 1, none⟩ = some (.int .u64 x.k.d) ∧ W.cell? ⟨g, j * 4 + 2, none⟩ = some (.int .u8 x.k.l) ∧ W.cell? ⟨g, j * 4 + 3, none⟩ = some (.int .i64 x.u)
theorem IsG.rdT {w : World} {base s : Nat} {vt vl : Value} {V : List Value} {T : List Th} {L : List Lk} (h : IsG w base s vt vl V T L) : ∃ g cap, vt = .slice (some ⟨g, 0, none⟩) T.length cap ∧ RdT w s g cap T := by
  obtain ⟨g, cap, rfl, h1, h2, _, _, _, hc⟩ := h.tform
  exact ⟨g, cap, rfl, h.c0, ⟨h1, h2⟩, hc⟩
theorem RdT.below {W W' : World} {s g cap n0 : Nat} {T : List Th} (h : RdT W s g cap T) (hb : Below n0 W W') (h1 : s < n0) (h2 : g < n0) : RdT W' s g cap T := by
  refine ⟨(hb.cell (p := ⟨s, 0, none⟩) h1).trans h.c0, h.le, fun j x hx => ?_⟩
  obtain ⟨y0, y1, y2, y3⟩ := h.ce j x hx
  exact ⟨(hb.cell (p := ⟨g, j * 4, none⟩) h2).trans y0, (hb.cell (p := ⟨g, j * 4 + 1, none⟩) h2).trans y1, (hb.cell (p := ⟨g, j * 4 + 2, none⟩) h2).trans y2, (hb.cell (p := ⟨g, j * 4 + 3, none⟩) h2).trans y3⟩
/-- What a round must keep: what lay below, and the box of the graph's pointer. -/
def Kg (n0 B s : Nat) (A B' : World) : Prop := Below n0 A B' ∧ (Boxed A B 23 (.pointer (some ⟨s, 0, none⟩)) → Boxed B' B 23 (.pointer (some ⟨s, 0, none⟩)))
theorem Chn.one {T : List Th} {L : List Lk} {p : Int} {xs : List Int} (h : Chn T L p xs) : ∀ ys, Chn T L p ys → ys = xs := by
  induction h with
  | stop =>
    intro ys h'
    generalize hz : (-1 : Int) = z at h'
    cases h' with
    | stop => rfl
    | on => omega
  | @on m i y x xs hy hi hx hc ih =>
    intro ys h'
    generalize hz : (m : Int) = z at h'
    cases h' with
    | stop => omega
    | @on m' i' y' x' xs' hy' hi' hx' hc' =>
      obtain rfl : m = m' := by omega
      obtain rfl : y = y' := by rw [hy] at hy'; exact Option.some.inj hy'
      obtain rfl : i = i' := by omega
      obtain rfl : x = x' := by rw [hx] at hx'; exact Option.some.inj hx'
      rw [ih _ hc']
open Classical in
noncomputable def chLen (T : List Th) (L : List Lk) (p : Int) : Nat := if h : ∃ xs, Chn T L p xs then h.choose.length else 0
theorem chLen_eq {T : List Th} {L : List Lk} {p : Int} {xs : List Int} (h : Chn T L p xs) : chLen T L p = xs.length := by
  have hh : ∃ xs, Chn T L p xs := ⟨xs, h⟩
  unfold chLen
  rw [dif_pos hh, h.one _ hh.choose_spec]
set_option maxRecDepth 100000 in
set_option maxHeartbeats 2000000 in
theorem holders_yields (nn : Nat) (hn : 1 ≤ nn) (l B1 B2 n0 s gt ct : Nat) (a : Option Addr) (cap : Nat) (T : List Th) (L : List Lk) (m : Int) (ch : List Int) (hch : Chn T L m ch) (J Jx : List Int → World → Prop)
    (hY : ∀ pre x W, J pre W → pre.length < ch.length → YieldAt Fence.wide (nn - 1) Try.prog l #[.int .i64 x] W fun e W' =>
      (e = .returned (.bool true) ∧ J (pre ++ [x]) W' ∧ Kg n0 B2 s W W') ∨ (e = .returned (.bool false) ∧ Jx (pre ++ [x]) W'))
    (W : World) (hb1 : W.cell? ⟨B1, 0, none⟩ = some (.int .i64 m)) (hb2 : Boxed W B2 23 (.pointer (some ⟨s, 0, none⟩))) (hr : RdL W s a cap L) (ht : RdT W s gt ct T) (hT : T.length ≤ 1024) (hL : L.length ≤ 32) (hsn : s < n0) (hgt : gt < n0) (hgn : ∀ g, a = some ⟨g, 0, none⟩ → g < n0) (h0 : J [] W) :
    CallsIn Fence.wide nn Try.prog 63 #[.func (.yield l) #[] #[], .pointer (some ⟨B1, 0, none⟩), .pointer (some ⟨B2, 0, none⟩)] W fun e W' => (∃ v, e = .returned v) ∧
      ((∃ ys, ys = ch ∧ J ys W') ∨ (∃ pre, pre <+: ch ∧ Jx pre W')) := by
  have HR := veil hr
  have HT := veil ht
  have HB2 := veil hb2
  have H0 := veil h0
  have HY := veil hY
  have HC := veil hch
  clear hb2 hr h0 hY ht hch
  refine callsIn_of_wp Try.func63 rfl trivial ?_ rfl
  simp only [Try.ntmps63, List.size_toArray, List.length_cons, List.length_nil, Nat.reduceAdd, Nat.reduceSub, Array.replicate_succ, Array.replicate_zero, List.push_toArray, List.append_toArray, List.nil_append, List.cons_append]
  gi_wp2
  gi_loopw [4] (fun p wr => ∃ (d r : List Int) (q : Int), ch = d ++ r ∧ p = .int .i64 q ∧ Chn T L q r ∧ Below n0 W wr ∧ Boxed wr B2 23 (.pointer (some ⟨s, 0, none⟩)) ∧ J d wr)
    (fun p _ => chLen T L (intOf p))
  case atStart => exact ⟨[], ch, m, rfl, rfl, HC.out, Below.refl _ _, HB2.out, H0.out⟩
  case round =>
    obtain ⟨d, r, q, hd, rfl, hc, hbe, hbx, hJ0⟩ := hrel
    cases hc with
    | stop =>
      have HJ0 := veil hJ0
      have HD := veil hd
      clear hJ0 hbe hbx hd
      gi_wp2
      go_end0
      have e : ch = d := by rw [HD.out]; simp
      exact ⟨⟨_, rfl⟩, .inl ⟨_, e.symm, HJ0.out⟩⟩
    | @on k i y x xs hy hi hx hc' =>
      have hk := (List.getElem?_eq_some_iff.1 hy).1
      have hk' : (k : Int) < (L.length : Int) := by omega
      have hil := (List.getElem?_eq_some_iff.1 hx).1
      have hil' : (i : Int) < (T.length : Int) := by omega
      have hkn : ¬ (k : Int) = -1 := by omega
      have hre := HR.out.below hbe hsn hgn
      obtain ⟨g, va, vn, vc, rfl, y0, y1⟩ := hre.ce k y hy
      rw [hi] at y0
      have c1 := hre.c1
      have b2 := hbx.cell
      have hpl : d.length < ch.length := by rw [hd]; simp
      obtain ⟨fn, tmps, assign, body, hyy, hR⟩ := HY.out d (i : Int) wr hJ0 hpl
      have HM : Hid (chLen T L x.u < chLen T L (k : Int)) := by
        show _ < _
        rw [chLen_eq hc', chLen_eq (.on hy hi hx hc')]
        simp
      have HBe := veil hbe
      have HBx := veil hbx
      have HD := veil hd
      have HX := veil hx
      have HC' := veil hc'
      clear hbe hbx hd hJ0 hre hpl hx hc' hy hi
      gi_wp2
      refine hR.mono ?_
      rintro e W3 (⟨rfl, hJ3, hk3⟩ | ⟨rfl, hJx3⟩)
      · have hbe3 := HBe.out.trans hk3.1
        have HB3 := veil (hk3.2 HBx.out)
        have b3 := HB3.out.cell
        have ht3 := HT.out.below hbe3 hsn hgt
        have c0 := ht3.c0
        obtain ⟨x0, x1, x2, x3⟩ := ht3.ce i x HX.out
        have HBe3 := veil hbe3
        have HJ3 := veil hJ3
        clear hbe3 ht3 hJ3 hk3 hyy hR HY
        gi_wp2
        go_roundw
        case rel => exact ⟨d ++ [(i : Int)], xs, x.u, by rw [HD.out]; simp, rfl, HC'.out, HBe3.out, HB3.out, HJ3.out⟩
        case measure => simpa [intOf] using HM.out
      · have HJx := veil hJx3
        clear hJx3 hyy hR HY
        gi_wp2
        refine bodyPost_ret (results_none rfl _ _ _) rfl ?_
        refine ⟨⟨_, rfl⟩, .inr ⟨_, ?_, HJx.out⟩⟩
        exact ⟨xs, by rw [HD.out]; simp⟩
end Go.Proofs.Ytbhkgbhgofefjaa
