/- The locks that a thread holds, as held yields them. -/
import Derived.RangeFuncNested
import Derived.RangeFuncBound
import Derived.RangeFuncCalls
import Derived.RangeFuncLeaves
import Derived.RangeFuncBox
import Derived.Shelf.Abstract
import Derived.Shelf.RegionOpen
import Derived.WalkKit
import Derived.OwnWalkIn
import Derived.TacticsInMore
import Derived.LoopNIn
import Derived.LoopIn
import Derived.Maps.AppendAt
import Derived.Test.YtbhkgbhgofefjaaI6
namespace Go.Proofs.Ytbhkgbhgofefjaa
open Go.RowKit Go.Shelf
set_option linter.unusedVariables false
attribute [local go_sem] Oper.semAt_some
/-- The locks below j that t holds. -/
def heldTo (L : List Lk) (t : Int) (j : Nat) : List Int := ((List.range j).filter (fun m => (L[m]?).map (·.h) == some t)).map (fun m : Nat => (m : Int))
def heldOf (L : List Lk) (t : Int) : List Int := heldTo L t L.length
theorem heldTo_yes {L : List Lk} {t : Int} {j : Nat} {y : Lk} (hy : L[j]? = some y) (h : y.h = t) : heldTo L t (j + 1) = heldTo L t j ++ [(j : Int)] := by
  unfold heldTo
  rw [List.range_succ, List.filter_append, List.map_append]
  simp [hy, h]
theorem heldTo_no {L : List Lk} {t : Int} {j : Nat} {y : Lk} (hy : L[j]? = some y) (h : ¬ y.h = t) : heldTo L t (j + 1) = heldTo L t j := by
  unfold heldTo
  rw [List.range_succ, List.filter_append, List.map_append]
  simp [hy, h]
theorem heldTo_pre {L : List Lk} {t : Int} {i j : Nat} (h : i ≤ j) : heldTo L t i <+: heldTo L t j := by
  unfold heldTo
  obtain ⟨d, rfl⟩ : ∃ d, j = i + d := ⟨j - i, by omega⟩
  rw [List.range_add, List.filter_append, List.map_append]
  exact List.prefix_append _ _
/-- What the yielding reads of a graph. -/
structure RdL (W : World) (s : Nat) (a : Option Addr) (cap : Nat) (L : List Lk) : Prop where
  c1 : W.cell? ⟨s, 1, none⟩ = some (.slice a L.length cap)
  le : L.length ≤ cap ∧ cap ≤ maxLen
  ce : ∀ (j : Nat) y, L[j]? = some y → ∃ g va vn vc, a = some ⟨g, 0, none⟩ ∧ W.cell? ⟨g, j * 2, none⟩ = some (.int .i64 y.h) ∧ W.cell? ⟨g, j * 2 + 1, none⟩ = some (.slice va vn vc)
theorem IsG.rdL {w : World} {base s : Nat} {vt vl : Value} {V : List Value} {T : List Th} {L : List Lk} (h : IsG w base s vt vl V T L) : ∃ a cap, vl = .slice a L.length cap ∧ RdL w s a cap L := by
  obtain ⟨a, cap, rfl, h1, h2⟩ := form_of h.lko
  refine ⟨a, cap, rfl, h.c1, ⟨h1, h2⟩, fun j y hy => ?_⟩
  have hj := (List.getElem?_eq_some_iff.1 hy).1
  obtain ⟨v, hv⟩ := h.line hj
  obtain ⟨g, cap', e, _, _, _, _, _, hc⟩ := h.lform (by omega)
  simp at e
  obtain ⟨y0, y1⟩ := hc j y v hy hv
  obtain ⟨va, vc, rfl, _⟩ := form_of (h.lin j y v hy hv)
  exact ⟨g, va, _, vc, e.1, y0, y1⟩
/-- What a round must keep: what lay below, and the box of the thread's number. -/
def Kh (n0 B2 : Nat) (t : Int) (A B : World) : Prop := Below n0 A B ∧ (Boxed A B2 3 (.int .i64 t) → Boxed B B2 3 (.int .i64 t))
set_option maxRecDepth 100000 in
set_option maxHeartbeats 2000000 in
theorem held_yields (nn : Nat) (hn : 1 ≤ nn) (l B1 B2 n0 s : Nat) (a : Option Addr) (cap : Nat) (L : List Lk) (t : Int) (J Jx : List Int → World → Prop)
    (hY : ∀ pre x W, J pre W → pre.length < (heldOf L t).length → YieldAt Fence.wide (nn - 1) Try.prog l #[.int .i64 x] W fun e W' =>
      (e = .returned (.bool true) ∧ J (pre ++ [x]) W' ∧ Kh n0 B2 t W W') ∨ (e = .returned (.bool false) ∧ Jx (pre ++ [x]) W'))
    (W : World) (hb1 : W.cell? ⟨B1, 0, none⟩ = some (.pointer (some ⟨s, 0, none⟩))) (hb2 : Boxed W B2 3 (.int .i64 t)) (hr : RdL W s a cap L) (hL : L.length ≤ 32) (hgn : ∀ g, a = some ⟨g, 0, none⟩ → g < n0) (n1 : Nat) (hJ : AbidesFrom n1 J) (hn0 : n0 ≤ W.heap.size) (h0 : J [] W) :
    CallsIn Fence.wide nn Try.prog 58 #[.func (.yield l) #[] #[], .pointer (some ⟨B1, 0, none⟩), .pointer (some ⟨B2, 0, none⟩)] W fun e W' => (∃ v, e = .returned v) ∧
      ((∃ ys, ys = heldOf L t ∧ J ys W') ∨ (∃ pre, pre <+: heldOf L t ∧ Jx pre W')) := by
  have c1 := hr.c1
  have HR := veil hr
  have HB2 := veil hb2
  have H0 := veil h0
  have HY := veil hY
  clear hb2 hr h0 hY
  refine callsIn_of_wp Try.func58 rfl trivial ?_ rfl
  simp only [Try.ntmps58, List.size_toArray, List.length_cons, List.length_nil, Nat.reduceAdd, Nat.reduceSub, Array.replicate_succ, Array.replicate_zero, List.push_toArray, List.append_toArray, List.nil_append, List.cons_append]
  gi_wp2
  gi_loopw [11] (fun p wr => ∃ (j : Nat), j ≤ L.length ∧ p = .int .i64 j ∧ n0 ≤ wr.heap.size ∧ Below n0 W wr ∧ Boxed wr B2 3 (.int .i64 t) ∧ J (heldTo L t j) wr)
    (fun p _ => L.length - (intOf p).toNat)
  case atStart => exact ⟨0, by omega, rfl, hn0, Below.refl _ _, HB2.out, H0.out⟩
  case round =>
    obtain ⟨j, hj, rfl, hn1, hbe, hbx, hJ0⟩ := hrel
    by_cases hjl : j < L.length
    · have hjl' : (j : Int) < (L.length : Int) := by omega
      obtain ⟨y, hy⟩ : ∃ y, L[j]? = some y := ⟨_, List.getElem?_eq_getElem hjl⟩
      obtain ⟨g, va, vn, vc, rfl, y0', y1'⟩ := HR.out.ce j y hy
      have y0 := (hbe.cell (p := ⟨g, j * 2, none⟩) (hgn g rfl)).trans y0'
      have y1 := (hbe.cell (p := ⟨g, j * 2 + 1, none⟩) (hgn g rfl)).trans y1'
      have b2 := hbx.cell
      have hlt2 := hbx.lt
      have hne2 : ¬ B2 = wr.heap.size := by omega
      have HBe := veil hbe
      have HBx := veil hbx
      have HJ0 := veil hJ0
      have HYJ := veil hy
      clear y0' y1' hbe hbx hJ0 hy
      by_cases hh : y.h = t
      · have hh' : (y.h == t) = true := by simp [hh]
        have hJ1 : J (heldTo L t j) (wr.alloc (.cells #[.int .i64 t, .slice va vn vc] 68)) := hJ _ wr _ none HJ0.out ⟨rfl, rfl, rfl, by simp, fun k hk _ => Below.heap_alloc _ _ _ hk⟩ (fun r e => by cases e)
        have hpl : (heldTo L t j).length < (heldOf L t).length := by
          have e := heldTo_yes HYJ.out hh
          have p := (heldTo_pre (L := L) (t := t) (show j + 1 ≤ L.length by omega)).length_le
          rw [e] at p
          unfold heldOf
          simp at p
          omega
        obtain ⟨fn, tmps, assign, body, hyy, hR⟩ := HY.out _ (j : Int) _ hJ1 hpl
        have HA : Hid (Boxed (wr.alloc (.cells #[.int .i64 t, .slice va vn vc] 68)) B2 3 (.int .i64 t)) := HBx.out.alloc _
        have HE := veil (heldTo_yes HYJ.out hh)
        have HP := veil (heldTo_pre (L := L) (t := t) (show j + 1 ≤ L.length by omega))
        have HBe2 : Hid (Below n0 W (wr.alloc (.cells #[.int .i64 t, .slice va vn vc] 68))) := HBe.out.alloc hn1 _
        clear hpl hJ1
        gi_wp2
        refine hR.mono ?_
        rintro e W3 (⟨rfl, hJ3, hk3⟩ | ⟨rfl, hJx3⟩)
        · have HB3 := veil (hk3.2 HA.out)
          have HBe3 := veil (HBe2.out.trans hk3.1)
          have hz3 : n0 ≤ W3.heap.size := by have := hk3.1.size; simp at this; omega
          have HJ3 := veil hJ3
          clear hJ3 hk3 hyy hR HY
          gi_wp2
          go_roundw
          case rel =>
            refine ⟨j + 1, by omega, by go_num, hz3, HBe3.out, HB3.out, ?_⟩
            rw [HE.out]
            exact HJ3.out
          case measure => simp [intOf]; omega
        · have HJx := veil hJx3
          clear hJx3 hyy hR HY
          gi_wp2
          refine bodyPost_ret (results_none rfl _ _ _) rfl ?_
          refine ⟨⟨_, rfl⟩, .inr ⟨_, ?_, HJx.out⟩⟩
          have p := HP.out
          rw [HE.out] at p
          exact p
      · have hh' : (y.h == t) = false := by simp [hh]
        have HJ1 : Hid (J (heldTo L t (j + 1)) (wr.alloc (.cells #[.int .i64 y.h, .slice va vn vc] 68))) := by
          show J _ _
          rw [heldTo_no HYJ.out hh]
          exact hJ _ wr _ none HJ0.out ⟨rfl, rfl, rfl, by simp, fun k hk _ => Below.heap_alloc _ _ _ hk⟩ (fun r e => by cases e)
        have HA : Hid (Boxed (wr.alloc (.cells #[.int .i64 y.h, .slice va vn vc] 68)) B2 3 (.int .i64 t)) := HBx.out.alloc _
        have HBe2 : Hid (Below n0 W (wr.alloc (.cells #[.int .i64 y.h, .slice va vn vc] 68))) := HBe.out.alloc hn1 _
        gi_wp2
        refine ⟨fun _ h => (by cases h), ?_⟩
        gi_wp2
        go_roundw
        case rel => exact ⟨j + 1, by omega, by go_num, by simp; omega, HBe2.out, HA.out, HJ1.out⟩
        case measure => simp [intOf]; omega
    · have hjl' : ¬ (j : Int) < (L.length : Int) := by omega
      obtain rfl : j = L.length := by omega
      have HJ0 := veil hJ0
      clear hJ0 hbe hbx
      gi_wp2
      go_end0
      exact ⟨⟨_, rfl⟩, .inl HJ0.out⟩
end Go.Proofs.Ytbhkgbhgofefjaa
