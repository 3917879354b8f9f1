/- What is read of a graph, line by line; held place by place; those behind a thread, through the first locks. -/
import Derived.Test.YtbhkgbhgofefjaaI19
namespace Go.Proofs.Ytbhkgbhgofefjaa
open Go.RowKit Go.Shelf
set_option linter.unusedVariables false
attribute [local go_sem] Oper.semAt_some
/-- What is read of a graph; all of it lies below n0. -/
structure Vw (n0 : Nat) (W : World) (s gt ct : Nat) (a : Option Addr) (cap : Nat) (ln : Nat → Option Addr × Nat) (T : List Th) (L : List Lk) : Prop where
  sl : s < n0
  tl : gt < n0
  al : ∀ g, a = some ⟨g, 0, none⟩ → g < n0
  t : RdT W s gt ct T
  c1 : W.cell? ⟨s, 1, none⟩ = some (.slice a L.length cap)
  le : L.length ≤ cap ∧ cap ≤ maxLen
  ce : ∀ (j : Nat) y, L[j]? = some y → ∃ g, a = some ⟨g, 0, none⟩ ∧ W.cell? ⟨g, j * 2, none⟩ = some (.int .i64 y.h) ∧ W.cell? ⟨g, j * 2 + 1, none⟩ = some (.slice (ln j).1 y.l.length (ln j).2) ∧ y.l.length ≤ (ln j).2 ∧ (ln j).2 ≤ maxLen ∧
    ∀ (i : Nat) (x : Nat), y.l[i]? = some x → ∃ gg, (ln j).1 = some ⟨gg, 0, none⟩ ∧ gg < n0 ∧ W.cell? ⟨gg, i, none⟩ = some (.int .i64 (x : Int))
theorem Vw.rdL {n0 : Nat} {W : World} {s gt ct : Nat} {a : Option Addr} {cap : Nat} {ln : Nat → Option Addr × Nat} {T : List Th} {L : List Lk} (h : Vw n0 W s gt ct a cap ln T L) : RdL W s a cap L :=
  ⟨h.c1, h.le, fun j y hy => by obtain ⟨g, e, y0, y1, _⟩ := h.ce j y hy; exact ⟨g, _, _, _, e, y0, y1⟩⟩
theorem Vw.below {n0 : Nat} {W W' : World} {s gt ct : Nat} {a : Option Addr} {cap : Nat} {ln : Nat → Option Addr × Nat} {T : List Th} {L : List Lk} (h : Vw n0 W s gt ct a cap ln T L) (hb : Below n0 W W') : Vw n0 W' s gt ct a cap ln T L := by
  refine ⟨h.sl, h.tl, h.al, h.t.below hb h.sl h.tl, (hb.cell (p := ⟨s, 1, none⟩) h.sl).trans h.c1, h.le, fun j y hy => ?_⟩
  obtain ⟨g, e, y0, y1, l1, l2, hx⟩ := h.ce j y hy
  refine ⟨g, e, (hb.cell (p := ⟨g, j * 2, none⟩) (h.al g e)).trans y0, (hb.cell (p := ⟨g, j * 2 + 1, none⟩) (h.al g e)).trans y1, l1, l2, fun i x hi => ?_⟩
  obtain ⟨gg, e1, e2, e3⟩ := hx i x hi
  exact ⟨gg, e1, e2, (hb.cell (p := ⟨gg, i, none⟩) e2).trans e3⟩
def lineAt (V : List Value) (j : Nat) : Option Addr × Nat := match V[j]? with
  | some (.slice a _ c) => (a, c)
  | _ => (none, 0)
theorem IsG.vw {w : World} {base s : Nat} {vt vl : Value} {V : List Value} {T : List Th} {L : List Lk} (h : IsG w base s vt vl V T L) : ∃ gt ct a cap, vt = .slice (some ⟨gt, 0, none⟩) T.length ct ∧ vl = .slice a L.length cap ∧ Vw w.heap.size w s gt ct a cap (lineAt V) T L := by
  obtain ⟨gt, ct, e, ht⟩ := h.rdT
  obtain ⟨a, cap, e', hl⟩ := h.rdL
  refine ⟨gt, ct, a, cap, e, e', h.lt, (ownsRow_blk h.tho (k := gt) (by rw [e]; rfl)).2.1, fun g eg => (ownsRow_blk h.lko (k := g) (by rw [e', eg]; rfl)).2.1, ht, hl.c1, hl.le, fun j y hy => ?_⟩
  have hj := (List.getElem?_eq_some_iff.1 hy).1
  obtain ⟨v, hv⟩ := h.line hj
  obtain ⟨g, cap', e2, _, _, _, _, _, hc⟩ := h.lform (by omega)
  rw [e'] at e2
  simp at e2
  obtain ⟨y0, y1⟩ := hc j y v hy hv
  have hown := h.lin j y v hy hv
  obtain ⟨va, vc, rfl, l1, l2⟩ := form_of hown
  have el : lineAt V j = (va, vc) := by unfold lineAt; rw [hv]
  rw [el]
  refine ⟨g, e2.1, y0, y1, l1, l2, fun i x hi => ?_⟩
  have hil := (List.getElem?_eq_some_iff.1 hi).1
  rcases hown.2 with ⟨e3, e0⟩ | ⟨gg, vc', cur, e3, _, hgg, _⟩
  · omega
  · simp at e3
    obtain ⟨e4, rfl⟩ := e3
    refine ⟨gg, e4, (Array.getElem?_eq_some_iff.1 hgg).1, ?_⟩
    subst e4
    rw [hown.cellAt i (by omega)]
    simp [ints, hi]
theorem behind_append (A B : List Lk) (t : Nat) : behind (A ++ B) t = behind A t ++ behind B t := by unfold behind; rw [List.filter_append, List.flatMap_append]
theorem take_snoc {α : Type} {l : List α} {j : Nat} {y : α} (h : l[j]? = some y) : l.take (j + 1) = l.take j ++ [y] := by
  rw [List.take_add_one, h]; rfl
theorem beh_no {L : List Lk} {t j : Nat} {y : Lk} (hy : L[j]? = some y) (h : ¬ y.h = (t : Int)) : behind (L.take (j + 1)) t = behind (L.take j) t := by
  rw [take_snoc hy, behind_append]
  simp [behind, h]
theorem beh_yes {L : List Lk} {t j : Nat} {y : Lk} (hy : L[j]? = some y) (h : y.h = (t : Int)) : behind (L.take (j + 1)) t = behind (L.take j) t ++ y.l := by
  rw [take_snoc hy, behind_append]
  simp [behind, h]
theorem beh_pre (L : List Lk) (t j : Nat) : behind (L.take j) t <+: behind L t := by
  conv => rhs; rw [← List.take_append_drop j L]
  rw [behind_append]
  exact List.prefix_append _ _
theorem beh_at {L : List Lk} {t j i x : Nat} {y : Lk} (hy : L[j]? = some y) (h : y.h = (t : Int)) (hx : y.l[i]? = some x) : (behind L t)[(behind (L.take j) t).length + i]? = some x := by
  obtain ⟨r, hr⟩ := beh_pre L t (j + 1)
  rw [← hr, beh_yes hy h]
  have hi := (List.getElem?_eq_some_iff.1 hx).1
  rw [List.getElem?_append_left (by simp; omega), List.getElem?_append_right (by omega)]
  simpa using hx
set_option maxRecDepth 100000 in
set_option maxHeartbeats 2000000 in
theorem held_places (nn : Nat) (l B1 B2 s gt ct : Nat) (a : Option Addr) (cap : Nat) (ln : Nat → Option Addr × Nat) (n0 : Nat) (T : List Th) (L : List Lk) (t : Int) (n1 : Nat) (J : Nat → World → Prop) (hL : L.length ≤ 32)
    (hJ : ∀ k W, J k W → W.cell? ⟨B1, 0, none⟩ = some (.pointer (some ⟨s, 0, none⟩)) ∧ W.cell? ⟨B2, 0, none⟩ = some (.int .i64 t) ∧ Vw n0 W s gt ct a cap ln T L)
    (hB : ∀ k W, J k W → B2 < W.heap.size)
    (hA : Abd n1 J)
    (hN : ∀ k W, (∀ y, L[k]? = some y → ¬ y.h = t) → J k W → J (k + 1) W)
    (hY : ∀ k W, (∃ y, L[k]? = some y ∧ y.h = t) → J k W → YieldAt Fence.wide (nn - 1) Try.prog l #[.int .i64 (k : Int)] W fun e W' => e = .returned (.bool true) ∧ J (k + 1) W')
    (W : World) (h0 : J 0 W) :
    CallsIn Fence.wide nn Try.prog 58 #[.func (.yield l) #[] #[], .pointer (some ⟨B1, 0, none⟩), .pointer (some ⟨B2, 0, none⟩)] W fun e W' => (∃ v, e = .returned v) ∧ J L.length W' := by
  obtain ⟨b1, _, hv⟩ := hJ 0 W h0
  have c1 := hv.c1
  have hle := hv.le
  have HJ := veil hJ
  have HB := veil hB
  have HA := veil hA
  have HN := veil hN
  have HY := veil hY
  have H0 := veil h0
  clear hJ hA hN hY h0 hv hB
  refine callsIn_of_wp Try.func58 rfl trivial ?_ rfl
  simp only [Try.ntmps58, List.size_toArray, List.length_cons, List.length_nil, Nat.reduceAdd, Nat.reduceSub, Array.replicate_succ, Array.replicate_zero, List.push_toArray, List.append_toArray, List.nil_append, List.cons_append]
  gi_wp2
  gi_loopw [11] (fun p wr => ∃ (j : Nat), j ≤ L.length ∧ p = .int .i64 j ∧ J j wr)
    (fun p _ => L.length - (intOf p).toNat)
  case atStart => exact ⟨0, by omega, rfl, H0.out⟩
  case round =>
    obtain ⟨j, hj, rfl, hJ0⟩ := hrel
    by_cases hjl : j < L.length
    · have hjl' : (j : Int) < (L.length : Int) := by omega
      obtain ⟨y, hy⟩ : ∃ y, L[j]? = some y := ⟨_, List.getElem?_eq_getElem hjl⟩
      obtain ⟨b1', b2, hv⟩ := HJ.out j wr hJ0
      obtain ⟨g, rfl, y0, y1, _⟩ := hv.ce j y hy
      generalize y.l.length = vn at y1
      generalize (ln j).1 = va at y1
      generalize (ln j).2 = vc at y1
      have hlt2 := HB.out j wr hJ0
      have hne2 : ¬ B2 = wr.heap.size := by omega
      have HJ0 := veil hJ0
      have HYJ := veil hy
      clear hJ0 hy hv
      by_cases hh : y.h = t
      · have hh' : (y.h == t) = true := by simp [hh]
        have hJ1 : J j (wr.alloc (.cells #[.int .i64 t, .slice va vn vc] 68)) := HA.out.al _ _ _ HJ0.out
        obtain ⟨fn, tmps, assign, body, hyy, hR⟩ := HY.out j _ ⟨y, HYJ.out, hh⟩ hJ1
        clear hJ1
        gi_wp2
        refine ⟨fun h => (by cases h), hR.mono ?_⟩
        rintro e W3 ⟨rfl, hJ3⟩
        have HJ3 := veil hJ3
        clear hJ3 hyy hR HY
        gi_wp2
        go_roundw
        case rel => exact ⟨j + 1, by omega, by go_num, HJ3.out⟩
        case measure => simp [intOf]; omega
      · have hh' : (y.h == t) = false := by simp [hh]
        have HJ1 : Hid (J (j + 1) (wr.alloc (.cells #[.int .i64 y.h, .slice va vn vc] 68))) := HN.out j _ (fun z hz => by rw [HYJ.out] at hz; obtain rfl := Option.some.inj hz; exact hh) (HA.out.al _ _ _ HJ0.out)
        gi_wp2
        refine ⟨fun _ h => (by cases h), ?_⟩
        gi_wp2
        go_roundw
        case rel => exact ⟨j + 1, by omega, by go_num, HJ1.out⟩
        case measure => simp [intOf]; omega
    · have hjl' : ¬ (j : Int) < (L.length : Int) := by omega
      obtain rfl : j = L.length := by omega
      have HJ0 := veil hJ0
      clear hJ0
      gi_wp2
      go_end0
      exact ⟨⟨_, rfl⟩, HJ0.out⟩
end Go.Proofs.Ytbhkgbhgofefjaa
