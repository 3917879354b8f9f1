/- Held: the locks of a thread. -/
import Derived.Test.YtbhkgbhgofefjaaI7
namespace Go.Proofs.Ytbhkgbhgofefjaa
open Go.RowKit Go.Shelf
set_option linter.unusedVariables false
attribute [local go_sem] Oper.semAt_some
theorem infoInt : (Try.prog.info? 3).map (fun i => (i.zero, i.size, i.bytes)) = some (some (.int .i64 0), 1, 8) := by kernel_rfl
theorem held_in (nn s : Nat) (t : Int) (w : World) :
    CallsIn Fence.wide nn Try.prog 42 #[.pointer (some ⟨s, 0, none⟩), .int .i64 t] w fun e w' => e = .returned (.func (.func 58) #[] #[.pointer (some ⟨w.heap.size, 0, none⟩), .pointer (some ⟨w.heap.size + 1, 0, none⟩)]) ∧
      w' = (w.alloc (.cells #[.pointer (some ⟨s, 0, none⟩)] 23)).alloc (.cells #[.int .i64 t] 3) := by
  refine callsIn_of_wp Try.func42 rfl trivial ?_ rfl
  simp only [Try.ntmps42, List.size_toArray, List.length_cons, List.length_nil, Nat.reduceAdd, Nat.reduceSub, Array.replicate_succ, Array.replicate_zero, List.push_toArray, List.append_toArray, List.nil_append, List.cons_append]
  gi_wp2
  go_ret
  exact ⟨by simp, rfl⟩
theorem RdL.below {W W' : World} {s : Nat} {a : Option Addr} {cap n0 : Nat} {L : List Lk} (h : RdL W s a cap L) (hb : Below n0 W W') (h1 : s < n0) (h2 : ∀ g, a = some ⟨g, 0, none⟩ → g < n0) : RdL W' s a cap L := by
  refine ⟨(hb.cell (p := ⟨s, 1, none⟩) h1).trans h.c1, h.le, fun j y hy => ?_⟩
  obtain ⟨g, va, vn, vc, e, y0, y1⟩ := h.ce j y hy
  exact ⟨g, va, vn, vc, e, (hb.cell (p := ⟨g, j * 2, none⟩) (h2 g e)).trans y0, (hb.cell (p := ⟨g, j * 2 + 1, none⟩) (h2 g e)).trans y1⟩
theorem held_stops (nn : Nat) (hn : 1 ≤ nn) (B1 B2 n0 s : Nat) (a : Option Addr) (cap : Nat) (L : List Lk) (t : Int) (w : World) (hb1 : Boxed w B1 23 (.pointer (some ⟨s, 0, none⟩))) (hb2 : Boxed w B2 3 (.int .i64 t)) (hr : RdL w s a cap L) (hL : L.length ≤ 32) (hsn : s < n0) (hgn : ∀ g, a = some ⟨g, 0, none⟩ → g < n0) (hn0 : n0 ≤ w.heap.size) :
    SeqStopsK Fence.wide nn Try.prog 58 #[.pointer (some ⟨B1, 0, none⟩), .pointer (some ⟨B2, 0, none⟩)] (fun x : Int => #[Value.int .i64 x]) (Kh n0 B2 t) (fun ys => ys = heldOf L t) (fun pre => pre <+: heldOf L t) (heldOf L t).length w := by
  intro l J Jx W hW hJ hJx hY h0
  exact held_yields nn hn l B1 B2 n0 s a cap L t J Jx hY W ((hW.cell (p := ⟨B1, 0, none⟩) hb1.lt).trans hb1.cell) ((hW.block B2 hb2.lt).trans hb2) (hr.below (hW.mono hn0) hsn hgn) hL hgn _ hJ (Nat.le_trans hn0 hW.size) h0
theorem kh_trans {n0 B2 : Nat} {t : Int} {A B C : World} (h : Kh n0 B2 t A B) (h' : Kh n0 B2 t B C) : Kh n0 B2 t A C := ⟨h.1.trans h'.1, fun q => h'.2 (h.2 q)⟩
theorem kh_put {w : World} {n0 B2 : Nat} {t : Int} (hn : n0 ≤ w.heap.size) (W : World) (l : Nat) (o o' : Obj) (hl : w.heap.size ≤ l) (ho : W.heap[l]? = some o) (hc : o.isCells = false) (hw : o.isWalk = false) : Kh n0 B2 t W (W.putObj l o') := by
  refine ⟨belowK_b hn W l o o' hl ho hc hw, fun q => q.kept (grownBy_putObj' W l o') (fun e => ?_)⟩
  cases e
  rw [show W.heap[B2]? = _ from q] at ho
  cases ho
  cases hc
theorem kh_append {W w1 : World} {n0 B B2 : Nat} {t : Int} {v v' : Value} {k m : Nat} {xs ys : List Value} {tmp : Obj} (hv : Boxed W B 31 v) (hrow : W.ownsRow n0 3 1 v k xs) (hn0 : n0 ≤ W.heap.size) (hB : n0 ≤ B) (hne : B2 ≠ B) (hnr : Boxed W B2 3 (.int .i64 t) → v.ownBlock ≠ some B2)
    (hown' : w1.ownsRow n0 3 1 v' m ys) (hgrow : (W.alloc tmp).grownBy w1 v.ownBlock) : Kh n0 B2 t W (w1.setCell ⟨B, 0, none⟩ v') := by
  refine ⟨(hv.appended (by decide) hrow hn0 hB hown' hgrow).2.2.2.2, fun q => ?_⟩
  have q1 := (q.alloc tmp).kept hgrow (fun e => hnr q e.symm)
  exact q1.kept (grownBy_setCell' w1 B v') (by simp [hne])
end Go.Proofs.Ytbhkgbhgofefjaa
