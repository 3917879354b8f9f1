/- leads: whether who waits for a lock waits for a thread. -/
import Derived.Test.YtbhkgbhgofefjaaI11
namespace Go.Proofs.Ytbhkgbhgofefjaa
open Go.RowKit Go.Shelf
set_option linter.unusedVariables false
attribute [local go_sem] Oper.semAt_some
theorem holders_in (nn s : Nat) (m : Int) (w : World) :
    CallsIn Fence.wide nn Try.prog 61 #[.pointer (some ⟨s, 0, none⟩), .int .i64 m] w fun e w' => e = .returned (.func (.func 63) #[] #[.pointer (some ⟨w.heap.size + 1, 0, none⟩), .pointer (some ⟨w.heap.size, 0, none⟩)]) ∧
      w' = (w.alloc (.cells #[.pointer (some ⟨s, 0, none⟩)] 23)).alloc (.cells #[.int .i64 m] 3) := by
  refine callsIn_of_wp Try.func61 rfl trivial ?_ rfl
  simp only [Try.ntmps61, List.size_toArray, List.length_cons, List.length_nil, Nat.reduceAdd, Nat.reduceSub, Array.replicate_succ, Array.replicate_zero, List.push_toArray, List.append_toArray, List.nil_append, List.cons_append]
  gi_wp2
  go_ret
  exact ⟨by simp, rfl⟩
theorem holders_stops (nn : Nat) (hn : 1 ≤ nn) (B1 B2 n0 s gt ct : Nat) (a : Option Addr) (cap : Nat) (T : List Th) (L : List Lk) (m : Int) (ch : List Int) (hch : Chn T L m ch) (w : World) (hb1 : Boxed w B1 3 (.int .i64 m)) (hb2 : Boxed w B2 23 (.pointer (some ⟨s, 0, none⟩))) (hr : RdL w s a cap L) (ht : RdT w s gt ct T) (hT : T.length ≤ 1024) (hL : L.length ≤ 32) (hsn : s < n0) (hgt : gt < n0) (hgn : ∀ g, a = some ⟨g, 0, none⟩ → g < n0) (hn0 : n0 ≤ w.heap.size) :
    SeqStopsK Fence.wide nn Try.prog 63 #[.pointer (some ⟨B1, 0, none⟩), .pointer (some ⟨B2, 0, none⟩)] (fun x : Int => #[Value.int .i64 x]) (Kg n0 B2 s) (fun ys => ys = ch) (fun pre => pre <+: ch) ch.length w := by
  intro l J Jx W hW hJ hJx hY h0
  exact holders_yields nn hn l B1 B2 n0 s gt ct a cap T L m ch hch J Jx hY W ((hW.cell (p := ⟨B1, 0, none⟩) hb1.lt).trans hb1.cell) ((hW.block B2 hb2.lt).trans hb2) (hr.below (hW.mono hn0) hsn hgn) (ht.below (hW.mono hn0) hsn hgt) hT hL hsn hgt hgn h0
theorem kg_trans {n0 B s : Nat} {A C D : World} (h : Kg n0 B s A C) (h' : Kg n0 B s C D) : Kg n0 B s A D := ⟨h.1.trans h'.1, fun q => h'.2 (h.2 q)⟩
theorem kg_put {w : World} {n0 B s : Nat} (hn : n0 ≤ w.heap.size) (W : World) (l : Nat) (o o' : Obj) (hl : w.heap.size ≤ l) (ho : W.heap[l]? = some o) (hc : o.isCells = false) (hw : o.isWalk = false) : Kg n0 B s W (W.putObj l o') := by
  refine ⟨belowK_b hn W l o o' hl ho hc hw, fun q => q.kept (grownBy_putObj' W l o') (fun e => ?_)⟩
  cases e
  rw [show W.heap[B]? = _ from q] at ho
  cases ho
  cases hc
end Go.Proofs.Ytbhkgbhgofefjaa
