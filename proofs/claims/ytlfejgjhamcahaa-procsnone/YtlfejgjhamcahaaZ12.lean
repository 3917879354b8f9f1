/-
  Best.
-/
import Derived.Test.YtlfejgjhamcahaaZ11
import Derived.Scope
import Derived.ControlIn
namespace Go.Proofs.Ytlfejgjhamcahaa
open Go.RowKit Go.Shelf
set_option linter.unusedVariables false
attribute [local go_sem] Oper.semAt_some

def noDefer (ops : Array Oper) : Bool := ops.all fun o => match o.op with
  | .defer _ => false
  | _ => true
theorem noDefer_at {ops : Array Oper} (h : noDefer ops = true) {i : Nat} {o : Oper} (ho : ops[i]? = some o) : ∀ c, o.op ≠ .defer c := by
  intro c e
  unfold noDefer at h
  rw [Array.all_eq_true'] at h
  have := h o (Array.mem_of_getElem? ho)
  rw [e] at this
  exact absurd this (by simp)
theorem oper_round {P : Program} {o : Oper} {a : Act} {w : World} {K : Act → World → Prop} {Q : Exit → Act → World → Prop} {l n : Nat} (hd : ∀ c, o.op ≠ .defer c) (h : o.wp P a w K Q) : o.wpIn (Fence.wide.inRound l) n P a w K Q := by
  refine ⟨fun _ _ => trivial, ?_⟩
  rw [Oper.semAt_eq _ _ _ hd]
  unfold Oper.wp at h
  revert h
  generalize (execOp a.eval o).run P w = r
  intro h
  match r, h with
  | .ok (.value _) _, h => exact h
  | .ok .skip _, h => exact h
  | .ok (.defer _) _, h => exact h
  | .ok (.enter f args) w', h => exact ⟨fun q => absurd q (by simp [Fence.inRound, Fence.wide]), CallsIn.inRound l (callsIn_wide.2 h)⟩
  | .ok (.row row args) w', h =>
    refine ⟨fun q => absurd q (by simp [Fence.inRound, Fence.wide]), fun c cs _ => ?_⟩
    obtain ⟨v, w'', r1, s⟩ := h c cs
    exact ⟨v, w'', r1, stepsIn_wide.2 s⟩
  | .halt (.panic _) _, h => exact h
theorem any_round {P : Program} {md : Region.Mode} {ops : Array Oper} {Q : Exit → Act → World → Prop} {l n : Nat} (hd : noDefer ops = true) (hlo : ¬ LetsOut Q) : ∀ (fuel : Nat) (listed : Array Bool) (a : Act) (w : World), wpAny P md ops Q fuel listed a w → wpAnyIn (Fence.wide.inRound l) n P md ops Q fuel listed a w
  | 0, _, _, _, h => h
  | fuel + 1, _, a, w, h => ⟨h.1, fun i hi => by
    have h2 := h.2 i hi
    unfold wpOp at h2
    unfold wpOpIn
    cases ho : ops[i]? with
    | none => rw [ho] at h2; exact any_round hd hlo fuel _ _ _ h2
    | some o =>
      rw [ho] at h2
      dsimp only at h2 ⊢
      by_cases hw : Region.wanted o (yielded ops a.tmps) = true
      · rw [if_pos hw] at h2 ⊢
        rcases h2 with h2 | h2
        · exact oper_round (noDefer_at hd ho) (Oper.wp_mono (fun a w q => any_round hd hlo fuel _ a w q) h2)
        · exact absurd h2.2 hlo
      · rw [if_neg hw] at h2 ⊢
        exact ⟨fun _ _ => trivial, any_round hd hlo fuel _ _ _ h2⟩⟩
theorem region_round {P : Program} {id : Nat} {ops : Array Oper} {Q : Exit → Act → World → Prop} {l n : Nat} {a : Act} {w : World} (S : World → Prop) (hm : P.follows .mixedOrders = true) (hd : noDefer ops = true) (hlo : ¬ LetsOut Q) (hS : S w.drew)
    (h : S w.drew → wpAnyH P .any ops Q S ops.size (Array.replicate ops.size false) a w.drew) : (Code.region id ops true).wpIn (Fence.wide.inRound l) n P Q a w :=
  wpIn_region_any hm (any_round hd hlo _ _ _ _ (wpAny_of_held _ _ _ _ (h hS)))
/-- What Best's variables hold. -/
structure BC (W : World) (n0 pb : Nat) (i : Int) (k : Ke.K) (a : Int) (o : Bool) (ah : Int) : Prop where
  b0 : Boxed W n0 28 (.pointer (some ⟨pb, 0, none⟩))
  b1 : Boxed W (n0 + 1) 3 (.int .i64 i)
  b2 : W.heap[n0 + 2]? = some (.cells #[.bool k.e, .int .u64 k.d, .int .u8 k.l] 25 (0, 0))
  b3 : Boxed W (n0 + 3) 3 (.int .i64 a)
  b4 : Boxed W (n0 + 4) 4 (.bool o)
  b5 : Boxed W (n0 + 5) 3 (.int .i64 ah)
abbrev BSt (W : World) (n0 pb : Nat) (H : List Hd) (b : Option Nat) (ah : Int) : Prop := BC W n0 pb (bI H b) (bK H b) (bA b) b.isSome ah
theorem places_mk (nn pb p d : Nat) (w : World) :
    CallsIn Fence.wide nn Try.prog 42 #[.pointer (some ⟨pb, 0, none⟩), .int .i64 (p : Int), .int .u64 (d : Int)] w fun e w' => e = .returned (.func (.func 66) #[] #[.pointer (some ⟨w.heap.size + 1, 0, none⟩), .pointer (some ⟨w.heap.size, 0, none⟩), .pointer (some ⟨w.heap.size + 2, 0, none⟩)]) ∧
      w' = ((w.alloc (.cells #[.pointer (some ⟨pb, 0, none⟩)] 28)).alloc (.cells #[.int .i64 (p : Int)] 3)).alloc (.cells #[.int .u64 (d : Int)] 23) := by
  refine callsIn_of_wp Try.func42 rfl trivial ?_ rfl
  simp only [Try.ntmps42, List.size_toArray, List.length_cons, List.length_nil, Nat.reduceAdd, Nat.reduceSub, Array.replicate_succ, Array.replicate_zero, List.push_toArray, List.append_toArray, List.nil_append, List.cons_append]
  gi_wp2
  go_ret
  exact ⟨by simp, rfl⟩
def vals {np : Nat} (l : List (Pl np)) : List Nat := l.map (·.1)
theorem vals_snoc {np : Nat} (l : List (Pl np)) (x : Pl np) : vals (l ++ [x]) = vals l ++ [x.1] := by unfold vals; rw [List.map_append]; rfl
theorem blk_kept {W W' : World} {B : Nat} {cs : Array Value} {t : TypeId} {c : Nat × Nat} {row : Option Nat} (h : W.heap[B]? = some (.cells cs t c)) (hg : W.grownBy W' row) (hr : ∀ r, row = some r → ∃ o : Obj, W.heap[r]? = some o ∧ o.isCells = false) : W'.heap[B]? = some (.cells cs t c) := by
  rw [hg.block B (Array.getElem?_eq_some_iff.1 h).1 (fun e => ?_)]
  · exact h
  · obtain ⟨o, ho, hc⟩ := hr B e.symm
    rw [h] at ho
    cases ho
    cases hc
theorem BC.kept {W W' : World} {n0 pb : Nat} {i : Int} {k : Ke.K} {a : Int} {o : Bool} {ah : Int} {row : Option Nat} (h : BC W n0 pb i k a o ah) (hg : W.grownBy W' row) (hr : ∀ r, row = some r → ∃ o : Obj, W.heap[r]? = some o ∧ o.isCells = false) : BC W' n0 pb i k a o ah :=
  ⟨blk_kept h.b0 hg hr, blk_kept h.b1 hg hr, blk_kept h.b2 hg hr, blk_kept h.b3 hg hr, blk_kept h.b4 hg hr, blk_kept h.b5 hg hr⟩
theorem BC.below {W W' : World} {n0 pb : Nat} {i : Int} {k : Ke.K} {a : Int} {o : Bool} {ah : Int} (h : BC W n0 pb i k a o ah) (hb : Below W.heap.size W W') : BC W' n0 pb i k a o ah :=
  h.kept (row := none) ⟨hb.os, hb.tape, hb.output, hb.size, fun k hk _ => hb.block k hk⟩ (fun r e => by cases e)
theorem drew_heap {W : World} {B : Nat} {o : Obj} (h : W.heap[B]? = some o) : W.drew.heap[B]? = some o := h
theorem BC.drew {W : World} {n0 pb : Nat} {i : Int} {k : Ke.K} {a : Int} {o : Bool} {ah : Int} (h : BC W n0 pb i k a o ah) : BC W.drew n0 pb i k a o ah := ⟨h.b0, h.b1, h.b2, h.b3, h.b4, h.b5⟩
theorem BC.lt {W : World} {n0 pb : Nat} {i : Int} {k : Ke.K} {a : Int} {o : Bool} {ah : Int} (h : BC W n0 pb i k a o ah) : n0 + 5 < W.heap.size := (Array.getElem?_eq_some_iff.1 h.b5).1
theorem set_other {W : World} {B B' off : Nat} {v : Value} {x : Obj} (h : W.heap[B']? = some x) (hne : B' ≠ B) : (W.setCell ⟨B, off, none⟩ v).heap[B']? = some x := by
  rw [((Fr.refl (fun k => k = B) W).setCell (a := ⟨B, off, none⟩) rfl v).block B' (Array.getElem?_eq_some_iff.1 h).1 hne]
  exact h
section
variable {W : World} {n0 pb : Nat} {i : Int} {k : Ke.K} {a : Int} {o : Bool} {ah : Int}
theorem BC.s1 (h : BC W n0 pb i k a o ah) (i' : Int) : BC (W.setCell ⟨n0 + 1, 0, none⟩ (.int .i64 i')) n0 pb i' k a o ah :=
  ⟨set_other h.b0 (by omega), Go.Joins.block_setCell h.b1 _, set_other h.b2 (by omega), set_other h.b3 (by omega), set_other h.b4 (by omega), set_other h.b5 (by omega)⟩
theorem BC.s2 (h : BC W n0 pb i k a o ah) (k' : Ke.K) : BC (((W.setCell ⟨n0 + 2, 0, none⟩ (.bool k'.e)).setCell ⟨n0 + 2, 1, none⟩ (.int .u64 k'.d)).setCell ⟨n0 + 2, 2, none⟩ (.int .u8 k'.l)) n0 pb i k' a o ah :=
  ⟨set_other (set_other (set_other h.b0 (by omega)) (by omega)) (by omega), set_other (set_other (set_other h.b1 (by omega)) (by omega)) (by omega), Go.Joins.block_setCell (Go.Joins.block_setCell (Go.Joins.block_setCell h.b2 _) _) _, set_other (set_other (set_other h.b3 (by omega)) (by omega)) (by omega), set_other (set_other (set_other h.b4 (by omega)) (by omega)) (by omega), set_other (set_other (set_other h.b5 (by omega)) (by omega)) (by omega)⟩
theorem BC.s3 (h : BC W n0 pb i k a o ah) (a' : Int) : BC (W.setCell ⟨n0 + 3, 0, none⟩ (.int .i64 a')) n0 pb i k a' o ah :=
  ⟨set_other h.b0 (by omega), set_other h.b1 (by omega), set_other h.b2 (by omega), Go.Joins.block_setCell h.b3 _, set_other h.b4 (by omega), set_other h.b5 (by omega)⟩
theorem BC.s4 (h : BC W n0 pb i k a o ah) (o' : Bool) : BC (W.setCell ⟨n0 + 4, 0, none⟩ (.bool o')) n0 pb i k a o' ah :=
  ⟨set_other h.b0 (by omega), set_other h.b1 (by omega), set_other h.b2 (by omega), set_other h.b3 (by omega), Go.Joins.block_setCell h.b4 _, set_other h.b5 (by omega)⟩
theorem BC.s5 (h : BC W n0 pb i k a o ah) (ah' : Int) : BC (W.setCell ⟨n0 + 5, 0, none⟩ (.int .i64 ah')) n0 pb i k a o ah' :=
  ⟨set_other h.b0 (by omega), set_other h.b1 (by omega), set_other h.b2 (by omega), set_other h.b3 (by omega), set_other h.b4 (by omega), Go.Joins.block_setCell h.b5 _⟩
theorem blk_cell {B : Nat} {cs : Array Value} {t : TypeId} (h : W.heap[B]? = some (.cells cs t (0, 0))) (j : Nat) : W.cell? ⟨B, j, none⟩ = cs[j]? ∧ W.frozen? ⟨B, j, none⟩ = false := by
  unfold World.cell? World.frozen?
  simp only [h]
  exact ⟨rfl, rfl⟩
theorem BC.cells (h : BC W n0 pb i k a o ah) : W.cell? ⟨n0, 0, none⟩ = some (.pointer (some ⟨pb, 0, none⟩)) ∧ W.cell? ⟨n0 + 1, 0, none⟩ = some (.int .i64 i) ∧ (W.cell? ⟨n0 + 2, 0, none⟩ = some (.bool k.e) ∧ W.cell? ⟨n0 + 2, 1, none⟩ = some (.int .u64 k.d) ∧ W.cell? ⟨n0 + 2, 2, none⟩ = some (.int .u8 k.l)) ∧ W.cell? ⟨n0 + 3, 0, none⟩ = some (.int .i64 a) ∧ W.cell? ⟨n0 + 4, 0, none⟩ = some (.bool o) ∧ W.cell? ⟨n0 + 5, 0, none⟩ = some (.int .i64 ah) :=
  ⟨(blk_cell h.b0 0).1, (blk_cell h.b1 0).1, ⟨(blk_cell h.b2 0).1, (blk_cell h.b2 1).1, (blk_cell h.b2 2).1⟩, (blk_cell h.b3 0).1, (blk_cell h.b4 0).1, (blk_cell h.b5 0).1⟩
theorem BC.free (h : BC W n0 pb i k a o ah) : W.frozen? ⟨n0 + 1, 0, none⟩ = false ∧ (W.frozen? ⟨n0 + 2, 0, none⟩ = false ∧ W.frozen? ⟨n0 + 2, 1, none⟩ = false ∧ W.frozen? ⟨n0 + 2, 2, none⟩ = false) ∧ W.frozen? ⟨n0 + 3, 0, none⟩ = false ∧ W.frozen? ⟨n0 + 4, 0, none⟩ = false ∧ W.frozen? ⟨n0 + 5, 0, none⟩ = false :=
  ⟨(blk_cell h.b1 0).2, ⟨(blk_cell h.b2 0).2, (blk_cell h.b2 1).2, (blk_cell h.b2 2).2⟩, (blk_cell h.b3 0).2, (blk_cell h.b4 0).2, (blk_cell h.b5 0).2⟩
end
/-- What a round may turn: Best's own variables, and what is new. -/
def SB (n0 k : Nat) : Prop := (n0 + 1 ≤ k ∧ k ≤ n0 + 5) ∨ n0 + 9 ≤ k
theorem places_stops (nn : Nat) (hn : 1 ≤ nn) (B1 B2 B3 pb np p d : Nat) (a : Option Addr) (cap : Nat) (hp : p < np) (hnp : np ≤ 64) (hd : d < 18446744073709551616) (S : Nat → Prop) (hS : ¬ S B1 ∧ ¬ S B2 ∧ ¬ S B3 ∧ ¬ S pb) (w : World) (hR : RdP w B1 B2 B3 pb np p d a cap) :
    SeqStopsK Fence.wide nn Try.prog 66 #[.pointer (some ⟨B1, 0, none⟩), .pointer (some ⟨B2, 0, none⟩), .pointer (some ⟨B3, 0, none⟩)] (fun x : Pl np => #[Value.int .i64 (x.1 : Int)]) (Fr S) (fun ys => vals ys = ords np p d) (fun pre => vals pre <+: ords np p d) (np + 2) w := by
  intro l J Jx W hW hJ hJx hY h0
  refine places_in nn hn l B1 B2 B3 pb np p d a cap hp hnp hd S hS J Jx hY (fun pre W q hj => hJ pre W (W.drewN q) none hj ⟨rfl, rfl, rfl, Nat.le_refl _, fun _ _ _ => rfl⟩ (fun r e => by cases e)) W ?_ h0
  exact hR.fr (S := fun _ => False) ⟨id, id, id, id⟩ (Fr.of_below' hW)
theorem fr_put {S : Nat → Prop} {w : World} {B : Nat} (hS : ∀ k, B ≤ k → S k) (hB : B ≤ w.heap.size) (W : World) (l : Nat) (o o' : Obj) (hl : w.heap.size ≤ l) (ho : W.heap[l]? = some o) (hc : o.isCells = false) (hw : o.isWalk = false) : Fr S W (W.putObj l o') :=
  ⟨rfl, rfl, rfl, by simp, fun k _ hk => World.putObj_heap_other (fun e => hk (hS k (by omega)))⟩
theorem keeps_below' {W W' : World} (h : Below W.heap.size W W') : KeepsOthers W W' := ⟨h.size, fun k o hk _ => (h.block k (Array.getElem?_eq_some_iff.1 hk).1).trans hk⟩
theorem new_at (W : World) (o : Obj) (k : Nat) (hk : W.heap.size = k) : (W.alloc o).heap[k]? = some o := by subst hk; exact World.alloc_heap_new W o
theorem old_at {W : World} (o : Obj) {k : Nat} {x : Obj} (h : W.heap[k]? = some x) : (W.alloc o).heap[k]? = some x := (Below.heap_alloc _ _ _ (Array.getElem?_eq_some_iff.1 h).1).trans h
theorem sumOn_bd {H : List Hd} (h : ∀ x, (MM H x).length ≤ 1024) : ∀ l : List Nat, sumOn H l ≤ l.length * 1024
  | [] => by simp [sumOn]
  | x :: l => by
    have h1 := h x
    have := sumOn_bd h l
    simp only [sumOn, List.map_cons, List.sum_cons, List.length_cons, Nat.add_mul, Nat.one_mul] at this ⊢
    omega
theorem IsP.mm {w : World} {base lo pb mb n np q : Nat} {v : Value} {H : List Hd} (h : IsP w base lo pb mb n np q v H) (x : Nat) : (MM H x).length ≤ 1024 := by
  unfold MM
  cases hx : H[x]? with
  | none => simp
  | some y =>
    have h1 := (h.sets.it x y hx).fit
    have h2 := h.n1
    have : moP np n q x ≤ n := by unfold moP; split <;> omega
    show y.M.length ≤ 1024
    omega
/-- From a round's begin on. -/
structure RW (n0 : Nat) (W W' : World) : Prop where
  fr : Fr (SB n0) W W'
  ko : KeepsOthers W W'
  be : Below n0 W W'
  hz : n0 + 9 ≤ W'.heap.size
section
variable {n0 : Nat} {W W' W'' : World}
theorem RW.refl (h : n0 + 9 ≤ W.heap.size) : RW n0 W W := ⟨Fr.refl _ _, KeepsOthers.refl _, Below.refl _ _, h⟩
theorem RW.below (h : RW n0 W W') (hb : Below W'.heap.size W' W'') : RW n0 W W'' :=
  ⟨h.fr.trans (Fr.of_below' hb), h.ko.trans (keeps_below' hb), h.be.trans (hb.mono (by have := h.hz; omega)), Nat.le_trans h.hz hb.size⟩
theorem RW.set (h : RW n0 W W') {B off : Nat} (h1 : n0 + 1 ≤ B) (h2 : B ≤ n0 + 5) (v : Value) : RW n0 W (W'.setCell ⟨B, off, none⟩ v) :=
  ⟨h.fr.setCell (a := ⟨B, off, none⟩) (.inl ⟨h1, h2⟩) v, h.ko.trans (KeepsOthers.setCell _ _ _), h.be.setCell (p := ⟨B, off, none⟩) (by show n0 ≤ B; omega) v, Nat.le_trans h.hz ((Fr.refl (fun k => k = B) W').setCell (a := ⟨B, off, none⟩) rfl v).size⟩
theorem RW.drew (h : RW n0 W W') : RW n0 W W'.drew := ⟨⟨h.fr.os, h.fr.tape, h.fr.output, h.fr.size, h.fr.block⟩, ⟨h.ko.size, h.ko.same⟩, ⟨h.be.os, h.be.tape, h.be.output, h.be.size, h.be.block⟩, h.hz⟩
end
section
variable {w w' wa wb : World} {base lo pb mb n np q T g cap : Nat} {v : Value} {H : List Hd}
set_option maxRecDepth 100000 in
set_option maxHeartbeats 4000000 in
theorem pbest_in (h : IsP w base lo pb mb n np q (.slice (some ⟨g, 0, none⟩) (np + 1) cap) H) (p d : Nat) (hp : p < np) (hd : d < 18446744073709551616) :
    CallsIn Fence.wide 6 Try.prog 17 #[.pointer (some ⟨pb, 0, none⟩), .int .i64 (p : Int), .int .u64 (d : Int)] w fun e w' => e = .returned (.tuple #[.int .i64 (bI H (bst H (ords np p d))), .agg #[.bool (bK H (bst H (ords np p d))).e, .int .u64 (bK H (bst H (ords np p d))).d, .int .u8 (bK H (bst H (ords np p d))).l], .int .i64 (bA (bst H (ords np p d))), .bool (bst H (ords np p d)).isSome]) ∧ Below w.heap.size w w' := by
  have HP : Hid (∀ W, Below w.heap.size w W → IsP W base lo pb mb n np q (.slice (some ⟨g, 0, none⟩) (np + 1) cap) H) := fun W hW => h.below hW
  have HHAS := veil (fun W hW => (callsIn_wide (n := 5)).2 (phasY (HP.out W hW) p hp))
  have HLEN := veil (fun W hW => (callsIn_wide (n := 5)).2 (plen_ok (HP.out W hW)))
  have hnp := h.np1
  have hlen := h.len
  have hpl := h.pbl
  have hsum := h.sum_le
  refine callsIn_of_wp_marks Try.func17 rfl trivial ?_ rfl
  simp only [Try.ntmps17, List.size_toArray, List.length_cons, List.length_nil, Nat.reduceAdd, Nat.reduceSub, Array.replicate_succ, Array.replicate_zero, List.push_toArray, List.append_toArray, List.nil_append, List.cons_append]
  have hB5 : Below w.heap.size w (((((w.alloc (.cells #[.pointer (some ⟨pb, 0, none⟩)] 28)).alloc (.cells #[.int .i64 0] 3)).alloc (.cells #[.bool false, .int .u64 0, .int .u8 0] 25)).alloc (.cells #[.int .i64 0] 3)).alloc (.cells #[.bool false] 4)) := (((((Below.refl _ w).alloc (Nat.le_refl _) _).alloc (by simp) _).alloc (by simp; omega) _).alloc (by simp; omega) _).alloc (by simp; omega) _
  have HB5 := veil hB5
  have HB9 := veil ((((hB5.alloc (by simp; omega) (.cells #[.int .i64 (sumH H : Int)] 3)).alloc (by simp; omega) (.cells #[.pointer (some ⟨pb, 0, none⟩)] 28)).alloc (by simp; omega) (.cells #[.int .i64 (p : Int)] 3)).alloc (by simp; omega) (.cells #[.int .u64 (d : Int)] 23))
  clear hB5 h
  gi_wp2
  refine wpIn_wide.2 (wp_scope_straight ((wpIn_wide (n := 6)).1 ?_))
  gi_wp2_with (first
    | (refine ⟨trivial, ?_⟩; gi_at_call 41; refine (HHAS.out _ HB5.out).mono ?_; rintro e w1 ⟨rfl, hw1⟩; replace hw1 := hw1.symm; subst hw1)
    | (refine ⟨trivial, ?_⟩; gi_at_call 24; refine (HLEN.out _ HB5.out).mono ?_; rintro e w2 ⟨rfl, hw2⟩; replace hw2 := hw2.symm; subst hw2))
  refine wpIn_wide.2 (wp_label ?_)
  gi_wp2_with (refine ⟨trivial, ?_⟩; gi_at_call 42; refine (places_mk _ pb p d _).mono ?_; rintro e w3 ⟨rfl, hw3⟩; subst hw3)
  simp only [Nat.add_assoc, Nat.reduceAdd]
  obtain ⟨W0, hW0⟩ : ∃ W0, (((((((((w.alloc (.cells #[.pointer (some ⟨pb, 0, none⟩)] 28)).alloc (.cells #[.int .i64 0] 3)).alloc (.cells #[.bool false, .int .u64 0, .int .u8 0] 25)).alloc (.cells #[.int .i64 0] 3)).alloc (.cells #[.bool false] 4)).alloc (.cells #[.int .i64 (sumH H : Int)] 3)).alloc (.cells #[.pointer (some ⟨pb, 0, none⟩)] 28)).alloc (.cells #[.int .i64 (p : Int)] 3)).alloc (.cells #[.int .u64 (d : Int)] 23)) = W0 := ⟨_, rfl⟩
  rw [hW0] at HB9 ⊢
  have hz : W0.heap.size = w.heap.size + 9 := by rw [← hW0]; simp
  have hst : BSt W0 w.heap.size pb H none (sumH H : Int) := by
    rw [← hW0]
    refine ⟨?_, ?_, ?_, ?_, ?_, ?_⟩ <;> (try unfold Boxed) <;> (repeat (first | (refine new_at _ _ _ ?_; simp; done) | refine old_at _ ?_))
  have x6 : Boxed W0 (w.heap.size + 6) 28 (.pointer (some ⟨pb, 0, none⟩)) := by
    rw [← hW0]; unfold Boxed
    repeat (first | (refine new_at _ _ _ ?_; simp; done) | refine old_at _ ?_)
  have x7 : Boxed W0 (w.heap.size + 7) 3 (.int .i64 (p : Int)) := by
    rw [← hW0]; unfold Boxed
    repeat (first | (refine new_at _ _ _ ?_; simp; done) | refine old_at _ ?_)
  have x8 : Boxed W0 (w.heap.size + 8) 23 (.int .u64 (d : Int)) := by
    rw [← hW0]; unfold Boxed
    repeat (first | (refine new_at _ _ _ ?_; simp; done) | refine old_at _ ?_)
  have hrd : RdP W0 (w.heap.size + 7) (w.heap.size + 6) (w.heap.size + 8) pb np p d (some ⟨g, 0, none⟩) cap := ⟨by omega, by omega, by omega, by omega, x7.cell, x6.cell, x8.cell, (HP.out _ HB9.out).c0⟩
  have hS : ¬ SB w.heap.size (w.heap.size + 7) ∧ ¬ SB w.heap.size (w.heap.size + 6) ∧ ¬ SB w.heap.size (w.heap.size + 8) ∧ ¬ SB w.heap.size pb := by
    unfold SB; omega
  clear hW0
  refine wpIn_rangeFunc_ownF rfl (by decide) (gf := 66) (lb := #[.pointer (some ⟨w.heap.size + 7, 0, none⟩), .pointer (some ⟨w.heap.size + 6, 0, none⟩), .pointer (some ⟨w.heap.size + 8, 0, none⟩)]) rfl trivial (enters_of Try.func66 (by kernel_rfl) rfl)
    (places_stops 5 (by decide) (w.heap.size + 7) (w.heap.size + 6) (w.heap.size + 8) pb np p d (some ⟨g, 0, none⟩) cap hp hnp.2 hd (SB w.heap.size) hS W0 hrd) (fun a b => a.trans b) (fr_put (B := w.heap.size + 9) (fun k hk => .inr hk) (by omega)) (Below.refl _ _) (fun _ => rfl)
    (fun (pre : List (Pl np)) (W : World) => (BSt W w.heap.size pb H (bst H (vals pre)) (ahd H (vals pre)) ∧ W0.heap.size ≤ W.heap.size) ∧ Below w.heap.size w W)
    (fun (c : Code) (pre : List (Pl np)) (W : World) => c = .exit 0 ∧ (∃ (pre' : List (Pl np)) (x : Pl np), pre = pre' ++ [x] ∧ ahd H (vals pre') = 0 ∧ BSt W w.heap.size pb H (bst H (vals pre')) 0 ∧ W0.heap.size ≤ W.heap.size) ∧ Below w.heap.size w W)
    (fun s W W' row hs hg hr => ⟨⟨BC.kept hs.1.1 hg (fun r e => (hr r e).2), Nat.le_trans hs.1.2 hg.size⟩, hs.2.grown hg hs.2.size (fun k e => by have := (hr k e).1; omega)⟩)
    (fun c s W W' row hs hg hr => ⟨hs.1, hs.2.1.imp (fun pre' => Exists.imp (fun x q => ⟨q.1, q.2.1, BC.kept q.2.2.1 hg (fun r e => (hr r e).2), Nat.le_trans q.2.2.2 hg.size⟩)), hs.2.2.grown hg hs.2.2.size (fun k e => by have := (hr k e).1; omega)⟩)
    ⟨by have e1 : bst H (vals ([] : List (Pl np))) = none := rfl; have e2 : ahd H (vals ([] : List (Pl np))) = (sumH H : Int) := (by simp [ahd, sumOn, vals]); rw [e1, e2]; exact ⟨hst, Nat.le_refl _⟩, HB9.out⟩
    (fun x => { tmps := #[.pointer (some ⟨pb, 0, none⟩), .int .i64 (p : Int), .int .u64 (d : Int), .pointer (some ⟨w.heap.size, 0, none⟩), undef, undef, .pointer (some ⟨w.heap.size + 1, 0, none⟩), .pointer (some ⟨w.heap.size + 2, 0, none⟩), .pointer (some ⟨w.heap.size + 3, 0, none⟩), .pointer (some ⟨w.heap.size + 4, 0, none⟩), .pointer (some ⟨w.heap.size + 5, 0, none⟩), .int .i64 (x.1 : Int), undef, undef, undef, .pointer (some ⟨pb, 0, none⟩), .int .i64 (p : Int), .bool true, .bool false, undef, .pointer (some ⟨pb, 0, none⟩), .int .i64 (sumH H : Int), .pointer (some ⟨pb, 0, none⟩), .int .i64 (p : Int), .int .u64 (d : Int), .func (.func 66) #[] #[.pointer (some ⟨w.heap.size + 7, 0, none⟩), .pointer (some ⟨w.heap.size + 6, 0, none⟩), .pointer (some ⟨w.heap.size + 8, 0, none⟩)], .int .i64 (x.1 : Int), undef, undef, undef, undef, undef, undef, undef, undef, undef, undef, undef, undef, undef, undef, undef, undef, undef, undef, undef, undef, undef, undef, undef, undef, undef, undef, undef, undef, undef, undef, undef, undef, undef, undef, undef, undef, undef, undef, undef, undef, undef, undef, undef], defers := [] }) ?assign ?body ?done ?stop
  case assign =>
    intro l x W K hK
    gi_wp2
    exact hK
  case body =>
    rintro l pre ⟨x, hx⟩ W ⟨⟨hB, hWz⟩, hbel⟩ hlt
    have hxl : x < H.length := by omega
    obtain ⟨y, hy⟩ : ∃ y, H[x]? = some y := ⟨H[x], List.getElem?_eq_getElem hxl⟩
    have hM := MM_at hy
    have HBS := veil (show bst H (vals (pre ++ [(⟨x, hx⟩ : Pl np)])) = bstep H (bst H (vals pre)) x by rw [vals_snoc, bst_snoc])
    have HAS := veil (show ahd H (vals (pre ++ [(⟨x, hx⟩ : Pl np)])) = ahd H (vals pre) - (y.M.length : Int) by rw [vals_snoc, ahd_snoc, hM])
    dsimp only
    have hlen2 : (vals pre).length ≤ 65 := by unfold vals; rw [List.length_map]; omega
    obtain ⟨c0, _, _, c3, _⟩ := (HP.out _ hbel).view
    have c4 := c3 x y hy
    have HZ : Hid (w.heap.size + 9 ≤ W.heap.size) := by unfold Hid; rw [← hz]; exact hWz
    have a0 := hB.b0.cell
    have HTOP := veil (stop_all ((HP.out _ hbel).sets.it x y hy))
    have HB := veil hB
    have HBEL := veil hbel
    have HY := veil hy
    have hyl : y.M.length ≤ 1024 := by rw [← hM]; exact (HP.out _ hbel).mm x
    have ha1 : -70000 ≤ ahd H (vals pre) ∧ ahd H (vals pre) ≤ 70000 := by
      have h1 := sumOn_bd (HP.out _ hbel).mm (vals pre)
      have h2 : (vals pre).length * 1024 ≤ 65 * 1024 := Nat.mul_le_mul_right _ hlen2
      unfold ahd
      omega
    clear hB hbel c3 hy hM hxl hst hrd hS x6 x7 x8
    have hah : Hid (ahd H (vals pre) = ahd H (vals pre)) := rfl
    generalize hbb : bst H (vals pre) = b at *
    have b1 : (x : Int) < (np : Int) + 1 := by omega
    have b2 : (x : Int) < ((np + 1 : Nat) : Int) := by omega
    have b3 : x < np + 1 := by omega
    have b4 : ¬ (x : Int) < 0 := by omega
    by_cases h0 : ahd H (vals pre) = 0
    · have HA0 := veil h0
      rw [h0] at HB
      clear h0
      gi_wp2_with (refine ⟨trivial, ?_⟩; gi_at_call 43; refine (CallsIn.inRound l (callsIn_wide.2 HTOP.out)).mono ?_; rintro e w1 ⟨rfl, hb1⟩; have HB1 := veil (BC.below HB.out hb1); have HBW := veil hb1; have a5 := HB1.out.b5.cell; have z1 := BC.lt HB1.out; clear hb1)
      have HRW := veil (((RW.refl HZ.out).below HBW.out).below ((Below.refl _ w1).alloc (Nat.le_refl _) (.cells #[.bool (tkK y.M).e, .int .u64 (tkK y.M).d, .int .u8 (tkK y.M).l] 25)))
      refine ⟨HRW.out.ko, rfl, ⟨pre, _, rfl, HA0.out, ?_, by have := HRW.out.hz; omega⟩, HBEL.out.trans HRW.out.be⟩
      rw [hbb]
      exact BC.below HB1.out ((Below.refl _ w1).alloc (Nat.le_refl _) _)
    · have HNE := veil h0
      obtain ⟨ha1, ha2⟩ := ha1
      generalize ahd H (vals pre) = ah at *
      obtain ⟨ln, hln⟩ : ∃ ln, y.M.length = ln := ⟨_, rfl⟩
      rw [hln] at HAS hyl
      have HLN : Hid (∀ V, Below w.heap.size w V → Calls Try.prog 44 #[.pointer (some ⟨y.sb, 0, none⟩)] V fun e w' => e = .returned (.int .i64 (ln : Int)) ∧ Below V.heap.size V w') := fun V hV => by
        rw [← hln]
        exact slenS ((HP.out V hV).sets.it x y HY.out)
      have HMX := veil (MM_at HY.out)
      have ew : IntKind.i64.wrap (ah - (ln : Int)) = ah - (ln : Int) := by simp [IntKind.wrap, IntKind.bits, IntKind.signed]; omega
      clear hln
      cases hM : y.M with
      | nil =>
        rw [hM] at HTOP HMX
        simp only [tkI, tkK, tkO] at HTOP
        have HB2 : Hid (bstep H b x = b) := by unfold Hid bstep; rw [HMX.out]
        clear hM
        gi_wp2_with (refine ⟨trivial, ?_⟩; gi_at_call 43; refine (CallsIn.inRound l (callsIn_wide.2 HTOP.out)).mono ?_; rintro e w1 ⟨rfl, hb1⟩; have HB1 := veil (BC.below HB.out hb1); have HBW := veil hb1; obtain ⟨a10, a11, ⟨a12, a13, a14⟩, a15, a16, a17⟩ := BC.cells HB1.out; have z1 := BC.lt HB1.out; have z2 : w.heap.size < w1.heap.size := (by omega); have z3 : w.heap.size + 1 < w1.heap.size := (by omega); have z4 : w.heap.size + 2 < w1.heap.size := (by omega); have z5 : w.heap.size + 3 < w1.heap.size := (by omega); have z6 : w.heap.size + 4 < w1.heap.size := (by omega); clear hb1)
        all_goals first
          | (rename_i q1 q2; exact absurd q1 (by simp [undef]))
          | skip
        refine ⟨trivial, ?_⟩
        gi_wp2
        have HBC := veil (BC.below HB1.out ((Below.refl _ w1).alloc (Nat.le_refl _) (.cells #[.bool false, .int .u64 0, .int .u8 0] 25)))
        have HRW := veil (((RW.refl HZ.out).below HBW.out).below ((Below.refl _ w1).alloc (Nat.le_refl _) (.cells #[.bool false, .int .u64 0, .int .u8 0] 25)))
        generalize (w1.alloc (.cells #[.bool false, .int .u64 0, .int .u8 0] 25)) = Wc at *
        have HBELc := veil (HBEL.out.trans HRW.out.be)
        obtain ⟨d0, _, _, d3, _⟩ := (HP.out _ HBELc.out).view
        have d4 := d3 x y HY.out
        clear d3
        obtain ⟨e0, _, _, _, _, e5⟩ := BC.cells HBC.out
        refine region_round (fun w' => w'.cell? ⟨w.heap.size, 0, none⟩ = some (.pointer (some ⟨pb, 0, none⟩)) ∧ w'.cell? ⟨pb, 0, none⟩ = some (.slice (some ⟨g, 0, none⟩) (np + 1) cap) ∧ w'.cell? ⟨g, x, none⟩ = some (.pointer (some ⟨y.sb, 0, none⟩))) (by kernel_rfl) (by kernel_rfl) (by rintro ⟨a, w, h⟩; exact (show False from h)) ⟨e0, d0, d4⟩ (fun hHeld => ?_)
        refine wpAnyH_take (i := 1) (v := ?_) rfl (by kernel_rfl) (by kernel_rfl) (by kernel_rfl) (fun _ _ _ h => h) (Or.inl ⟨by rfl, ?v1⟩) (by assumption) ?_
        case v1 => (intro w hSw; (try dsimp only at hSw); go_simp; try with_reducible rfl)
        try simp only [Act.put, List.setIfInBounds_toArray, List.set_cons_zero, List.set_cons_succ, List.getElem_toArray, List.getElem_cons_succ, List.getElem_cons_zero]
        refine wpAnyH_take (i := 2) (v := ?_) rfl (by kernel_rfl) (by kernel_rfl) (by kernel_rfl) (fun _ _ _ h => h) (Or.inl ⟨by rfl, ?v2⟩) (by assumption) ?_
        case v2 => (intro w hSw; (try dsimp only at hSw); go_simp; try with_reducible rfl)
        try simp only [Act.put, List.setIfInBounds_toArray, List.set_cons_zero, List.set_cons_succ, List.getElem_toArray, List.getElem_cons_succ, List.getElem_cons_zero]
        refine wpAnyH_take (i := 3) (v := ?_) rfl (by kernel_rfl) (by kernel_rfl) (by kernel_rfl) (fun _ _ _ h => h) (Or.inl ⟨by rfl, ?v3⟩) (by assumption) ?_
        case v3 => (intro w hSw; (try dsimp only at hSw); go_simp; try with_reducible rfl)
        try simp only [Act.put, List.setIfInBounds_toArray, List.set_cons_zero, List.set_cons_succ, List.getElem_toArray, List.getElem_cons_succ, List.getElem_cons_zero]
        refine wpAnyH_take (i := 4) (v := ?_) rfl (by kernel_rfl) (by kernel_rfl) (by kernel_rfl) (fun _ _ _ h => h) (Or.inl ⟨by rfl, ?v4⟩) (by assumption) ?_
        case v4 => (intro w hSw; (try dsimp only at hSw); go_simp; try with_reducible rfl)
        try simp only [Act.put, List.setIfInBounds_toArray, List.set_cons_zero, List.set_cons_succ, List.getElem_toArray, List.getElem_cons_succ, List.getElem_cons_zero]
        refine wpAnyH_take (i := 5) (v := ?_) rfl (by kernel_rfl) (by kernel_rfl) (by kernel_rfl) (fun _ _ _ h => h) (Or.inl ⟨by rfl, ?v5⟩) (by assumption) ?_
        case v5 => (intro w hSw; (try dsimp only at hSw); go_simp; try with_reducible rfl)
        try simp only [Act.put, List.setIfInBounds_toArray, List.set_cons_zero, List.set_cons_succ, List.getElem_toArray, List.getElem_cons_succ, List.getElem_cons_zero]
        refine wpAnyH_take (i := 6) (v := ?_) rfl (by kernel_rfl) (by kernel_rfl) (by kernel_rfl) (fun _ _ _ h => h) (Or.inl ⟨by rfl, ?v6⟩) (by assumption) ?_
        case v6 => (intro w hSw; (try dsimp only at hSw); go_simp; try with_reducible rfl)
        try simp only [Act.put, List.setIfInBounds_toArray, List.set_cons_zero, List.set_cons_succ, List.getElem_toArray, List.getElem_cons_succ, List.getElem_cons_zero]
        refine wpAnyH_take (i := 7) (v := ?_) rfl (by kernel_rfl) (by kernel_rfl) (by kernel_rfl) (fun _ _ _ h => h) (Or.inl ⟨by rfl, ?v7⟩) (by assumption) ?_
        case v7 => (intro w hSw; (try dsimp only at hSw); go_simp; try with_reducible rfl)
        try simp only [Act.put, List.setIfInBounds_toArray, List.set_cons_zero, List.set_cons_succ, List.getElem_toArray, List.getElem_cons_succ, List.getElem_cons_zero]
        refine wpAnyH_ready (rs := [0, 8]) (by kernel_rfl) (by simp) ?_
        refine AllReadyH.cons rfl (fun K hK => ?_) (AllReadyH.cons rfl (fun K hK => ?_) AllReadyH.nil)
        · skip
          go_simp
          refine hK.out _ _ ?_ (fun hHeld => ?_)
          · exact hHeld
          clear hK K
          try simp only [Act.put, List.setIfInBounds_toArray, List.set_cons_zero, List.set_cons_succ, List.getElem_toArray, List.getElem_cons_succ, List.getElem_cons_zero]
          refine wpAnyH_ready (rs := [8]) (by kernel_rfl) (by simp) ?_
          refine AllReadyH.cons rfl (fun K hK => ?_) AllReadyH.nil
          go_simp
          go_at_call 44
          refine (HLN.out _ (by exact below_post HBELc.out rfl rfl rfl rfl)).mono ?_
          rintro e w5 ⟨rfl, hb5⟩
          have HBW5 := veil (show Below Wc.heap.size Wc w5 from below_pre' hb5 rfl rfl rfl rfl)
          have HBC5 := veil (BC.below HBC.out HBW5.out)
          have HRW5 := veil (HRW.out.below HBW5.out)
          have HV5 := veil (HP.out _ (HBEL.out.trans HRW5.out.be)).view
          obtain ⟨e50, _, _, _, _, e55⟩ := BC.cells HBC5.out
          obtain ⟨_, _, _, _, f55⟩ := BC.free HBC5.out
          clear hb5
          refine hK.out _ _ ?_ (fun hHeld => ?_)
          · exact ⟨e50, HV5.out.1, HV5.out.2.2.2.1 x y HY.out⟩
          clear hK K
          try simp only [Act.put, List.setIfInBounds_toArray, List.set_cons_zero, List.set_cons_succ, List.getElem_toArray, List.getElem_cons_succ, List.getElem_cons_zero]
          refine wpAnyH_take (i := 9) (v := ?_) rfl (by kernel_rfl) (by kernel_rfl) (by kernel_rfl) (fun _ _ _ h => h) (Or.inl ⟨by rfl, ?v9⟩) (by assumption) ?_
          case v9 => (intro w hSw; (try dsimp only at hSw); go_simp; try with_reducible rfl)
          try simp only [Act.put, List.setIfInBounds_toArray, List.set_cons_zero, List.set_cons_succ, List.getElem_toArray, List.getElem_cons_succ, List.getElem_cons_zero]
          refine wpAnyH_ready (rs := [10]) (by kernel_rfl) (by simp) ?_
          refine AllReadyH.cons rfl (fun K hK => ?_) AllReadyH.nil
          go_simp
          have HBC6 := veil (BC.s5 HBC5.out (ah - (ln : Int)))
          have HRW6 := veil (HRW5.out.set (B := w.heap.size + 5) (off := 0) (by omega) (by omega) (.int .i64 (ah - (ln : Int))))
          have HV6 := veil (HP.out _ (HBEL.out.trans HRW6.out.be)).view
          refine hK.out _ _ ?_ (fun hHeld => ?_)
          · exact ⟨(BC.cells HBC6.out).1, HV6.out.1, HV6.out.2.2.2.1 x y HY.out⟩
          clear hK K
          try simp only [Act.put, List.setIfInBounds_toArray, List.set_cons_zero, List.set_cons_succ, List.getElem_toArray, List.getElem_cons_succ, List.getElem_cons_zero]
          refine wpAnyH_done (by kernel_rfl) ?_ _
          gi_wp2
          refine ⟨HRW6.out.ko, HRW6.out.fr, ⟨?_, by have := HRW6.out.hz; omega⟩, HBEL.out.trans HRW6.out.be⟩
          rw [HBS.out, HAS.out, HB2.out]
          exact HBC6.out
        · skip
          go_simp
          go_at_call 44
          refine (HLN.out _ (by exact below_post HBELc.out rfl rfl rfl rfl)).mono ?_
          rintro e w5 ⟨rfl, hb5⟩
          have HBW5 := veil (show Below Wc.heap.size Wc w5 from below_pre' hb5 rfl rfl rfl rfl)
          have HBC5 := veil (BC.below HBC.out HBW5.out)
          have HRW5 := veil (HRW.out.below HBW5.out)
          have HV5 := veil (HP.out _ (HBEL.out.trans HRW5.out.be)).view
          obtain ⟨e50, _, _, _, _, e55⟩ := BC.cells HBC5.out
          obtain ⟨_, _, _, _, f55⟩ := BC.free HBC5.out
          clear hb5
          refine hK.out _ _ ?_ (fun hHeld => ?_)
          · exact ⟨e50, HV5.out.1, HV5.out.2.2.2.1 x y HY.out⟩
          clear hK K
          try simp only [Act.put, List.setIfInBounds_toArray, List.set_cons_zero, List.set_cons_succ, List.getElem_toArray, List.getElem_cons_succ, List.getElem_cons_zero]
          refine wpAnyH_ready (rs := [0]) (by kernel_rfl) (by simp) ?_
          refine AllReadyH.cons rfl (fun K hK => ?_) AllReadyH.nil
          go_simp
          refine hK.out _ _ ?_ (fun hHeld => ?_)
          · exact hHeld
          clear hK K
          try simp only [Act.put, List.setIfInBounds_toArray, List.set_cons_zero, List.set_cons_succ, List.getElem_toArray, List.getElem_cons_succ, List.getElem_cons_zero]
          refine wpAnyH_take (i := 9) (v := ?_) rfl (by kernel_rfl) (by kernel_rfl) (by kernel_rfl) (fun _ _ _ h => h) (Or.inl ⟨by rfl, ?v9⟩) (by assumption) ?_
          case v9 => (intro w hSw; (try dsimp only at hSw); go_simp; try with_reducible rfl)
          try simp only [Act.put, List.setIfInBounds_toArray, List.set_cons_zero, List.set_cons_succ, List.getElem_toArray, List.getElem_cons_succ, List.getElem_cons_zero]
          refine wpAnyH_ready (rs := [10]) (by kernel_rfl) (by simp) ?_
          refine AllReadyH.cons rfl (fun K hK => ?_) AllReadyH.nil
          go_simp
          have HBC6 := veil (BC.s5 HBC5.out (ah - (ln : Int)))
          have HRW6 := veil (HRW5.out.set (B := w.heap.size + 5) (off := 0) (by omega) (by omega) (.int .i64 (ah - (ln : Int))))
          have HV6 := veil (HP.out _ (HBEL.out.trans HRW6.out.be)).view
          refine hK.out _ _ ?_ (fun hHeld => ?_)
          · exact ⟨(BC.cells HBC6.out).1, HV6.out.1, HV6.out.2.2.2.1 x y HY.out⟩
          clear hK K
          try simp only [Act.put, List.setIfInBounds_toArray, List.set_cons_zero, List.set_cons_succ, List.getElem_toArray, List.getElem_cons_succ, List.getElem_cons_zero]
          refine wpAnyH_done (by kernel_rfl) ?_ _
          gi_wp2
          refine ⟨HRW6.out.ko, HRW6.out.fr, ⟨?_, by have := HRW6.out.hz; omega⟩, HBEL.out.trans HRW6.out.be⟩
          rw [HBS.out, HAS.out, HB2.out]
          exact HBC6.out
      | cons z M' =>
        rw [hM] at HTOP HMX
        simp only [tkI, tkK, tkO] at HTOP
        clear hM
        cases b with
        | none =>
          replace HB : Hid (BC W w.heap.size pb 0 ⟨false, 0, 0⟩ 0 false ah) := HB
          have HB2 : Hid (bstep H none x = some x) := by unfold Hid bstep; rw [HMX.out]
          have HXI : Hid (tkI (MM H x) = (z.1 : Int) ∧ tkK (MM H x) = z.2) := by unfold Hid; rw [HMX.out]; exact ⟨rfl, rfl⟩
          gi_wp2_with (refine ⟨trivial, ?_⟩; gi_at_call 43; refine (CallsIn.inRound l (callsIn_wide.2 HTOP.out)).mono ?_; rintro e w1 ⟨rfl, hb1⟩; have HB1 := veil (BC.below HB.out hb1); have HBW := veil hb1; obtain ⟨a10, a11, ⟨a12, a13, a14⟩, a15, a16, a17⟩ := BC.cells HB1.out; have z1 := BC.lt HB1.out; have z2 : w.heap.size < w1.heap.size := (by omega); have z3 : w.heap.size + 1 < w1.heap.size := (by omega); have z4 : w.heap.size + 2 < w1.heap.size := (by omega); have z5 : w.heap.size + 3 < w1.heap.size := (by omega); have z6 : w.heap.size + 4 < w1.heap.size := (by omega); clear hb1)
          refine ⟨trivial, ?_⟩
          gi_wp2
          have HCw := veil (BC.below HB1.out ((Below.refl _ w1).alloc (Nat.le_refl _) (.cells #[.bool z.2.e, .int .u64 z.2.d, .int .u8 z.2.l] 25)))
          have HRw := veil (((RW.refl HZ.out).below HBW.out).below ((Below.refl _ w1).alloc (Nat.le_refl _) (.cells #[.bool z.2.e, .int .u64 z.2.d, .int .u8 z.2.l] 25)))
          have HKw := veil (show (w1.alloc (.cells #[.bool z.2.e, .int .u64 z.2.d, .int .u8 z.2.l] 25)).heap[w1.heap.size]? = some (.cells #[.bool z.2.e, .int .u64 z.2.d, .int .u8 z.2.l] 25) from World.alloc_heap_new w1 _)
          generalize (w1.alloc (.cells #[.bool z.2.e, .int .u64 z.2.d, .int .u8 z.2.l] 25)) = Wd at *
          obtain ⟨_, g1, ⟨g2, g3, g4⟩, g5, g6, _⟩ := BC.cells HCw.out
          obtain ⟨q1, ⟨q2, q3, q4⟩, q5, q6, _⟩ := BC.free HCw.out
          have hkb : w.heap.size + 9 ≤ w1.heap.size := Nat.le_trans HZ.out HBW.out.size
          refine region_round (fun w' => w'.cell? ⟨w1.heap.size, 0, none⟩ = some (.bool z.2.e) ∧ w'.cell? ⟨w1.heap.size, 1, none⟩ = some (.int .u64 z.2.d) ∧ w'.cell? ⟨w1.heap.size, 2, none⟩ = some (.int .u8 z.2.l)) (by kernel_rfl) (by kernel_rfl) (by rintro ⟨a, w, h⟩; exact (show False from h)) ⟨(blk_cell (drew_heap HKw.out) 0).1, (blk_cell (drew_heap HKw.out) 1).1, (blk_cell (drew_heap HKw.out) 2).1⟩ (fun hHeld => ?_)
          refine wpAnyH_take (i := 0) (v := ?_) rfl (by kernel_rfl) (by kernel_rfl) (by kernel_rfl) (fun _ _ _ h => h) (Or.inl ⟨by rfl, ?v0⟩) (by assumption) ?_
          case v0 => (intro w hSw; (try dsimp only at hSw); go_simp; try with_reducible rfl)
          try simp only [Act.put, List.setIfInBounds_toArray, List.set_cons_zero, List.set_cons_succ, List.getElem_toArray, List.getElem_cons_zero]
          refine wpAnyH_take (i := 1) (v := ?_) rfl (by kernel_rfl) (by kernel_rfl) (by kernel_rfl) (fun _ _ _ h => h) (Or.inl ⟨by rfl, ?v1⟩) (by assumption) ?_
          case v1 => (intro w hSw; (try dsimp only at hSw); go_simp; try with_reducible rfl)
          try simp only [Act.put, List.setIfInBounds_toArray, List.set_cons_zero, List.set_cons_succ, List.getElem_toArray, List.getElem_cons_succ, List.getElem_cons_zero]
          refine wpAnyH_take (i := 2) (v := ?_) rfl (by kernel_rfl) (by kernel_rfl) (by kernel_rfl) (fun _ _ _ h => h) (Or.inl ⟨by rfl, ?v2⟩) (by assumption) ?_
          case v2 => (intro w hSw; (try dsimp only at hSw); go_simp; try with_reducible rfl)
          try simp only [Act.put, List.setIfInBounds_toArray, List.set_cons_zero, List.set_cons_succ, List.getElem_toArray, List.getElem_cons_succ, List.getElem_cons_zero]
          refine wpAnyH_ready (rs := [3]) (by kernel_rfl) (by simp) ?_
          refine AllReadyH.cons rfl (fun K hK => ?_) AllReadyH.nil
          go_simp
          have HC3 := veil (BC.s1 HCw.out (z.1 : Int))
          have HR3 := veil (HRw.out.set (B := w.heap.size + 1) (off := 0) (by omega) (by omega) (.int .i64 (z.1 : Int)))
          have HK3 := veil (set_other (B := w.heap.size + 1) (off := 0) (v := .int .i64 (z.1 : Int)) HKw.out (by omega))
          refine hK.out _ _ ?_ (fun hHeld => ?_)
          · exact ⟨(blk_cell (drew_heap HK3.out) 0).1, (blk_cell (drew_heap HK3.out) 1).1, (blk_cell (drew_heap HK3.out) 2).1⟩
          clear hK K
          try simp only [Act.put, List.setIfInBounds_toArray, List.set_cons_zero, List.set_cons_succ, List.getElem_toArray, List.getElem_cons_succ, List.getElem_cons_zero]
          refine wpAnyH_ready (rs := [4]) (by kernel_rfl) (by simp) ?_
          refine AllReadyH.cons rfl (fun K hK => ?_) AllReadyH.nil
          go_simp
          have HC4 := veil (BC.s2 HC3.out z.2)
          have HR4 := veil (((HR3.out.set (B := w.heap.size + 2) (off := 0) (by omega) (by omega) (.bool z.2.e)).set (B := w.heap.size + 2) (off := 1) (by omega) (by omega) (.int .u64 z.2.d)).set (B := w.heap.size + 2) (off := 2) (by omega) (by omega) (.int .u8 z.2.l))
          have HK4 := veil (set_other (B := w.heap.size + 2) (off := 2) (v := .int .u8 z.2.l) (set_other (B := w.heap.size + 2) (off := 1) (v := .int .u64 z.2.d) (set_other (B := w.heap.size + 2) (off := 0) (v := .bool z.2.e) HK3.out (by omega)) (by omega)) (by omega))
          refine hK.out _ _ ?_ (fun hHeld => ?_)
          · exact ⟨(blk_cell (drew_heap HK4.out) 0).1, (blk_cell (drew_heap HK4.out) 1).1, (blk_cell (drew_heap HK4.out) 2).1⟩
          clear hK K
          try simp only [Act.put, List.setIfInBounds_toArray, List.set_cons_zero, List.set_cons_succ, List.getElem_toArray, List.getElem_cons_succ, List.getElem_cons_zero]
          refine wpAnyH_ready (rs := [5]) (by kernel_rfl) (by simp) ?_
          refine AllReadyH.cons rfl (fun K hK => ?_) AllReadyH.nil
          go_simp
          have HC5 := veil (BC.s3 HC4.out (x : Int))
          have HR5 := veil (HR4.out.set (B := w.heap.size + 3) (off := 0) (by omega) (by omega) (.int .i64 (x : Int)))
          have HK5 := veil (set_other (B := w.heap.size + 3) (off := 0) (v := .int .i64 (x : Int)) HK4.out (by omega))
          refine hK.out _ _ ?_ (fun hHeld => ?_)
          · exact ⟨(blk_cell (drew_heap HK5.out) 0).1, (blk_cell (drew_heap HK5.out) 1).1, (blk_cell (drew_heap HK5.out) 2).1⟩
          clear hK K
          try simp only [Act.put, List.setIfInBounds_toArray, List.set_cons_zero, List.set_cons_succ, List.getElem_toArray, List.getElem_cons_succ, List.getElem_cons_zero]
          refine wpAnyH_ready (rs := [6]) (by kernel_rfl) (by simp) ?_
          refine AllReadyH.cons rfl (fun K hK => ?_) AllReadyH.nil
          go_simp
          have HC6 := veil (BC.s4 HC5.out true)
          have HR6 := veil (HR5.out.set (B := w.heap.size + 4) (off := 0) (by omega) (by omega) (.bool true))
          have HK6 := veil (set_other (B := w.heap.size + 4) (off := 0) (v := .bool true) HK5.out (by omega))
          refine hK.out _ _ ?_ (fun hHeld => ?_)
          · exact ⟨(blk_cell (drew_heap HK6.out) 0).1, (blk_cell (drew_heap HK6.out) 1).1, (blk_cell (drew_heap HK6.out) 2).1⟩
          clear hK K
          try simp only [Act.put, List.setIfInBounds_toArray, List.set_cons_zero, List.set_cons_succ, List.getElem_toArray, List.getElem_cons_succ, List.getElem_cons_zero]
          refine wpAnyH_done (by kernel_rfl) ?_ _
          skip
          have HBC := veil (BC.drew HC6.out)
          have HRW := veil HR6.out.drew
          clear g1 g2 g3 g4 g5 g6 q1 q2 q3 q4 q5 q6 HCw
          clear HC3 HC4 HC5 HC6 HR3 HR4 HR5 HR6 HK3 HK4 HK5 HK6 HRw HKw hHeld
          generalize ((((((Wd.setCell ⟨w.heap.size + 1, 0, none⟩ (.int .i64 (z.1 : Int))).setCell ⟨w.heap.size + 2, 0, none⟩ (.bool z.2.e)).setCell ⟨w.heap.size + 2, 1, none⟩ (.int .u64 z.2.d)).setCell ⟨w.heap.size + 2, 2, none⟩ (.int .u8 z.2.l)).setCell ⟨w.heap.size + 3, 0, none⟩ (.int .i64 (x : Int))).setCell ⟨w.heap.size + 4, 0, none⟩ (.bool true)).drew = Wc at *
          gi_wp2
          have HBELc := veil (HBEL.out.trans HRW.out.be)
          obtain ⟨d0, _, _, d3, _⟩ := (HP.out _ HBELc.out).view
          have d4 := d3 x y HY.out
          clear d3
          obtain ⟨e0, _, _, _, _, e5⟩ := BC.cells HBC.out
          refine region_round (fun w' => w'.cell? ⟨w.heap.size, 0, none⟩ = some (.pointer (some ⟨pb, 0, none⟩)) ∧ w'.cell? ⟨pb, 0, none⟩ = some (.slice (some ⟨g, 0, none⟩) (np + 1) cap) ∧ w'.cell? ⟨g, x, none⟩ = some (.pointer (some ⟨y.sb, 0, none⟩))) (by kernel_rfl) (by kernel_rfl) (by rintro ⟨a, w, h⟩; exact (show False from h)) ⟨e0, d0, d4⟩ (fun hHeld => ?_)
          refine wpAnyH_take (i := 1) (v := ?_) rfl (by kernel_rfl) (by kernel_rfl) (by kernel_rfl) (fun _ _ _ h => h) (Or.inl ⟨by rfl, ?v1⟩) (by assumption) ?_
          case v1 => (intro w hSw; (try dsimp only at hSw); go_simp; try with_reducible rfl)
          try simp only [Act.put, List.setIfInBounds_toArray, List.set_cons_zero, List.set_cons_succ, List.getElem_toArray, List.getElem_cons_succ, List.getElem_cons_zero]
          refine wpAnyH_take (i := 2) (v := ?_) rfl (by kernel_rfl) (by kernel_rfl) (by kernel_rfl) (fun _ _ _ h => h) (Or.inl ⟨by rfl, ?v2⟩) (by assumption) ?_
          case v2 => (intro w hSw; (try dsimp only at hSw); go_simp; try with_reducible rfl)
          try simp only [Act.put, List.setIfInBounds_toArray, List.set_cons_zero, List.set_cons_succ, List.getElem_toArray, List.getElem_cons_succ, List.getElem_cons_zero]
          refine wpAnyH_take (i := 3) (v := ?_) rfl (by kernel_rfl) (by kernel_rfl) (by kernel_rfl) (fun _ _ _ h => h) (Or.inl ⟨by rfl, ?v3⟩) (by assumption) ?_
          case v3 => (intro w hSw; (try dsimp only at hSw); go_simp; try with_reducible rfl)
          try simp only [Act.put, List.setIfInBounds_toArray, List.set_cons_zero, List.set_cons_succ, List.getElem_toArray, List.getElem_cons_succ, List.getElem_cons_zero]
          refine wpAnyH_take (i := 4) (v := ?_) rfl (by kernel_rfl) (by kernel_rfl) (by kernel_rfl) (fun _ _ _ h => h) (Or.inl ⟨by rfl, ?v4⟩) (by assumption) ?_
          case v4 => (intro w hSw; (try dsimp only at hSw); go_simp; try with_reducible rfl)
          try simp only [Act.put, List.setIfInBounds_toArray, List.set_cons_zero, List.set_cons_succ, List.getElem_toArray, List.getElem_cons_succ, List.getElem_cons_zero]
          refine wpAnyH_take (i := 5) (v := ?_) rfl (by kernel_rfl) (by kernel_rfl) (by kernel_rfl) (fun _ _ _ h => h) (Or.inl ⟨by rfl, ?v5⟩) (by assumption) ?_
          case v5 => (intro w hSw; (try dsimp only at hSw); go_simp; try with_reducible rfl)
          try simp only [Act.put, List.setIfInBounds_toArray, List.set_cons_zero, List.set_cons_succ, List.getElem_toArray, List.getElem_cons_succ, List.getElem_cons_zero]
          refine wpAnyH_take (i := 6) (v := ?_) rfl (by kernel_rfl) (by kernel_rfl) (by kernel_rfl) (fun _ _ _ h => h) (Or.inl ⟨by rfl, ?v6⟩) (by assumption) ?_
          case v6 => (intro w hSw; (try dsimp only at hSw); go_simp; try with_reducible rfl)
          try simp only [Act.put, List.setIfInBounds_toArray, List.set_cons_zero, List.set_cons_succ, List.getElem_toArray, List.getElem_cons_succ, List.getElem_cons_zero]
          refine wpAnyH_take (i := 7) (v := ?_) rfl (by kernel_rfl) (by kernel_rfl) (by kernel_rfl) (fun _ _ _ h => h) (Or.inl ⟨by rfl, ?v7⟩) (by assumption) ?_
          case v7 => (intro w hSw; (try dsimp only at hSw); go_simp; try with_reducible rfl)
          try simp only [Act.put, List.setIfInBounds_toArray, List.set_cons_zero, List.set_cons_succ, List.getElem_toArray, List.getElem_cons_succ, List.getElem_cons_zero]
          refine wpAnyH_ready (rs := [0, 8]) (by kernel_rfl) (by simp) ?_
          refine AllReadyH.cons rfl (fun K hK => ?_) (AllReadyH.cons rfl (fun K hK => ?_) AllReadyH.nil)
          · skip
            go_simp
            refine hK.out _ _ ?_ (fun hHeld => ?_)
            · exact hHeld
            clear hK K
            try simp only [Act.put, List.setIfInBounds_toArray, List.set_cons_zero, List.set_cons_succ, List.getElem_toArray, List.getElem_cons_succ, List.getElem_cons_zero]
            refine wpAnyH_ready (rs := [8]) (by kernel_rfl) (by simp) ?_
            refine AllReadyH.cons rfl (fun K hK => ?_) AllReadyH.nil
            go_simp
            go_at_call 44
            refine (HLN.out _ (by exact below_post HBELc.out rfl rfl rfl rfl)).mono ?_
            rintro e w5 ⟨rfl, hb5⟩
            have HBW5 := veil (show Below Wc.heap.size Wc w5 from below_pre' hb5 rfl rfl rfl rfl)
            have HBC5 := veil (BC.below HBC.out HBW5.out)
            have HRW5 := veil (HRW.out.below HBW5.out)
            have HV5 := veil (HP.out _ (HBEL.out.trans HRW5.out.be)).view
            obtain ⟨e50, _, _, _, _, e55⟩ := BC.cells HBC5.out
            obtain ⟨_, _, _, _, f55⟩ := BC.free HBC5.out
            clear hb5
            refine hK.out _ _ ?_ (fun hHeld => ?_)
            · exact ⟨e50, HV5.out.1, HV5.out.2.2.2.1 x y HY.out⟩
            clear hK K
            try simp only [Act.put, List.setIfInBounds_toArray, List.set_cons_zero, List.set_cons_succ, List.getElem_toArray, List.getElem_cons_succ, List.getElem_cons_zero]
            refine wpAnyH_take (i := 9) (v := ?_) rfl (by kernel_rfl) (by kernel_rfl) (by kernel_rfl) (fun _ _ _ h => h) (Or.inl ⟨by rfl, ?v9⟩) (by assumption) ?_
            case v9 => (intro w hSw; (try dsimp only at hSw); go_simp; try with_reducible rfl)
            try simp only [Act.put, List.setIfInBounds_toArray, List.set_cons_zero, List.set_cons_succ, List.getElem_toArray, List.getElem_cons_succ, List.getElem_cons_zero]
            refine wpAnyH_ready (rs := [10]) (by kernel_rfl) (by simp) ?_
            refine AllReadyH.cons rfl (fun K hK => ?_) AllReadyH.nil
            go_simp
            have HBC6 := veil (BC.s5 HBC5.out (ah - (ln : Int)))
            have HRW6 := veil (HRW5.out.set (B := w.heap.size + 5) (off := 0) (by omega) (by omega) (.int .i64 (ah - (ln : Int))))
            have HV6 := veil (HP.out _ (HBEL.out.trans HRW6.out.be)).view
            refine hK.out _ _ ?_ (fun hHeld => ?_)
            · exact ⟨(BC.cells HBC6.out).1, HV6.out.1, HV6.out.2.2.2.1 x y HY.out⟩
            clear hK K
            try simp only [Act.put, List.setIfInBounds_toArray, List.set_cons_zero, List.set_cons_succ, List.getElem_toArray, List.getElem_cons_succ, List.getElem_cons_zero]
            refine wpAnyH_done (by kernel_rfl) ?_ _
            gi_wp2
            refine ⟨HRW6.out.ko, HRW6.out.fr, ⟨?_, by have := HRW6.out.hz; omega⟩, HBEL.out.trans HRW6.out.be⟩
            rw [HBS.out, HAS.out, HB2.out]
            show BC _ _ _ (tkI (MM H x)) (tkK (MM H x)) (x : Int) true _
            rw [HXI.out.1, HXI.out.2]
            exact HBC6.out
          · skip
            go_simp
            go_at_call 44
            refine (HLN.out _ (by exact below_post HBELc.out rfl rfl rfl rfl)).mono ?_
            rintro e w5 ⟨rfl, hb5⟩
            have HBW5 := veil (show Below Wc.heap.size Wc w5 from below_pre' hb5 rfl rfl rfl rfl)
            have HBC5 := veil (BC.below HBC.out HBW5.out)
            have HRW5 := veil (HRW.out.below HBW5.out)
            have HV5 := veil (HP.out _ (HBEL.out.trans HRW5.out.be)).view
            obtain ⟨e50, _, _, _, _, e55⟩ := BC.cells HBC5.out
            obtain ⟨_, _, _, _, f55⟩ := BC.free HBC5.out
            clear hb5
            refine hK.out _ _ ?_ (fun hHeld => ?_)
            · exact ⟨e50, HV5.out.1, HV5.out.2.2.2.1 x y HY.out⟩
            clear hK K
            try simp only [Act.put, List.setIfInBounds_toArray, List.set_cons_zero, List.set_cons_succ, List.getElem_toArray, List.getElem_cons_succ, List.getElem_cons_zero]
            refine wpAnyH_ready (rs := [0]) (by kernel_rfl) (by simp) ?_
            refine AllReadyH.cons rfl (fun K hK => ?_) AllReadyH.nil
            go_simp
            refine hK.out _ _ ?_ (fun hHeld => ?_)
            · exact hHeld
            clear hK K
            try simp only [Act.put, List.setIfInBounds_toArray, List.set_cons_zero, List.set_cons_succ, List.getElem_toArray, List.getElem_cons_succ, List.getElem_cons_zero]
            refine wpAnyH_take (i := 9) (v := ?_) rfl (by kernel_rfl) (by kernel_rfl) (by kernel_rfl) (fun _ _ _ h => h) (Or.inl ⟨by rfl, ?v9⟩) (by assumption) ?_
            case v9 => (intro w hSw; (try dsimp only at hSw); go_simp; try with_reducible rfl)
            try simp only [Act.put, List.setIfInBounds_toArray, List.set_cons_zero, List.set_cons_succ, List.getElem_toArray, List.getElem_cons_succ, List.getElem_cons_zero]
            refine wpAnyH_ready (rs := [10]) (by kernel_rfl) (by simp) ?_
            refine AllReadyH.cons rfl (fun K hK => ?_) AllReadyH.nil
            go_simp
            have HBC6 := veil (BC.s5 HBC5.out (ah - (ln : Int)))
            have HRW6 := veil (HRW5.out.set (B := w.heap.size + 5) (off := 0) (by omega) (by omega) (.int .i64 (ah - (ln : Int))))
            have HV6 := veil (HP.out _ (HBEL.out.trans HRW6.out.be)).view
            refine hK.out _ _ ?_ (fun hHeld => ?_)
            · exact ⟨(BC.cells HBC6.out).1, HV6.out.1, HV6.out.2.2.2.1 x y HY.out⟩
            clear hK K
            try simp only [Act.put, List.setIfInBounds_toArray, List.set_cons_zero, List.set_cons_succ, List.getElem_toArray, List.getElem_cons_succ, List.getElem_cons_zero]
            refine wpAnyH_done (by kernel_rfl) ?_ _
            gi_wp2
            refine ⟨HRW6.out.ko, HRW6.out.fr, ⟨?_, by have := HRW6.out.hz; omega⟩, HBEL.out.trans HRW6.out.be⟩
            rw [HBS.out, HAS.out, HB2.out]
            show BC _ _ _ (tkI (MM H x)) (tkK (MM H x)) (x : Int) true _
            rw [HXI.out.1, HXI.out.2]
            exact HBC6.out
        | some c =>
          replace HB : Hid (BC W w.heap.size pb (tkI (MM H c)) (tkK (MM H c)) (c : Int) true ah) := HB
          have HUP := veil (fun W => Ke.above_ok W z.2 (tkK (MM H c)))
          by_cases hup : Ke.up z.2 (tkK (MM H c)) = true
          · rw [hup] at HUP
            have HB2 : Hid (bstep H (some c) x = some x) := by unfold Hid bstep; rw [HMX.out]; simp [hup]
            have HXI : Hid (tkI (MM H x) = (z.1 : Int) ∧ tkK (MM H x) = z.2) := by unfold Hid; rw [HMX.out]; exact ⟨rfl, rfl⟩
            clear hup
            gi_wp2_with (first | (refine ⟨trivial, ?_⟩; gi_at_call 43; refine (CallsIn.inRound l (callsIn_wide.2 HTOP.out)).mono ?_; rintro e w1 ⟨rfl, hb1⟩; have HB1 := veil (BC.below HB.out hb1); have HBW := veil hb1; obtain ⟨a10, a11, ⟨a12, a13, a14⟩, a15, a16, a17⟩ := BC.cells HB1.out; have z1 := BC.lt HB1.out; have z2 : w.heap.size < w1.heap.size := (by omega); have z3 : w.heap.size + 1 < w1.heap.size := (by omega); have z4 : w.heap.size + 2 < w1.heap.size := (by omega); have z5 : w.heap.size + 3 < w1.heap.size := (by omega); have z6 : w.heap.size + 4 < w1.heap.size := (by omega); clear hb1) | (refine ⟨trivial, ?_⟩; gi_at_call 35; refine (CallsIn.inRound l (callsIn_wide.2 (HUP.out _))).mono ?_; rintro e w2 ⟨rfl, hb2⟩; have HBW2 := veil hb2; clear hb2))
            have HCw := veil (BC.below (BC.below HB1.out ((Below.refl _ w1).alloc (Nat.le_refl _) (.cells #[.bool z.2.e, .int .u64 z.2.d, .int .u8 z.2.l] 25))) HBW2.out)
            have HRw := veil ((((RW.refl HZ.out).below HBW.out).below ((Below.refl _ w1).alloc (Nat.le_refl _) (.cells #[.bool z.2.e, .int .u64 z.2.d, .int .u8 z.2.l] 25))).below HBW2.out)
            have HKw := veil (show w2.heap[w1.heap.size]? = some (.cells #[.bool z.2.e, .int .u64 z.2.d, .int .u8 z.2.l] 25) from (HBW2.out.block _ (by simp)).trans (World.alloc_heap_new w1 _))
            obtain ⟨_, g1, ⟨g2, g3, g4⟩, g5, g6, _⟩ := BC.cells HCw.out
            obtain ⟨q1, ⟨q2, q3, q4⟩, q5, q6, _⟩ := BC.free HCw.out
            have hkb : w.heap.size + 9 ≤ w1.heap.size := Nat.le_trans HZ.out HBW.out.size
            refine region_round (fun w' => w'.cell? ⟨w1.heap.size, 0, none⟩ = some (.bool z.2.e) ∧ w'.cell? ⟨w1.heap.size, 1, none⟩ = some (.int .u64 z.2.d) ∧ w'.cell? ⟨w1.heap.size, 2, none⟩ = some (.int .u8 z.2.l)) (by kernel_rfl) (by kernel_rfl) (by rintro ⟨a, w, h⟩; exact (show False from h)) ⟨(blk_cell (drew_heap HKw.out) 0).1, (blk_cell (drew_heap HKw.out) 1).1, (blk_cell (drew_heap HKw.out) 2).1⟩ (fun hHeld => ?_)
            refine wpAnyH_take (i := 0) (v := ?_) rfl (by kernel_rfl) (by kernel_rfl) (by kernel_rfl) (fun _ _ _ h => h) (Or.inl ⟨by rfl, ?v0⟩) (by assumption) ?_
            case v0 => (intro w hSw; (try dsimp only at hSw); go_simp; try with_reducible rfl)
            try simp only [Act.put, List.setIfInBounds_toArray, List.set_cons_zero, List.set_cons_succ, List.getElem_toArray, List.getElem_cons_zero]
            refine wpAnyH_take (i := 1) (v := ?_) rfl (by kernel_rfl) (by kernel_rfl) (by kernel_rfl) (fun _ _ _ h => h) (Or.inl ⟨by rfl, ?v1⟩) (by assumption) ?_
            case v1 => (intro w hSw; (try dsimp only at hSw); go_simp; try with_reducible rfl)
            try simp only [Act.put, List.setIfInBounds_toArray, List.set_cons_zero, List.set_cons_succ, List.getElem_toArray, List.getElem_cons_succ, List.getElem_cons_zero]
            refine wpAnyH_take (i := 2) (v := ?_) rfl (by kernel_rfl) (by kernel_rfl) (by kernel_rfl) (fun _ _ _ h => h) (Or.inl ⟨by rfl, ?v2⟩) (by assumption) ?_
            case v2 => (intro w hSw; (try dsimp only at hSw); go_simp; try with_reducible rfl)
            try simp only [Act.put, List.setIfInBounds_toArray, List.set_cons_zero, List.set_cons_succ, List.getElem_toArray, List.getElem_cons_succ, List.getElem_cons_zero]
            refine wpAnyH_ready (rs := [3]) (by kernel_rfl) (by simp) ?_
            refine AllReadyH.cons rfl (fun K hK => ?_) AllReadyH.nil
            go_simp
            have HC3 := veil (BC.s1 HCw.out (z.1 : Int))
            have HR3 := veil (HRw.out.set (B := w.heap.size + 1) (off := 0) (by omega) (by omega) (.int .i64 (z.1 : Int)))
            have HK3 := veil (set_other (B := w.heap.size + 1) (off := 0) (v := .int .i64 (z.1 : Int)) HKw.out (by omega))
            refine hK.out _ _ ?_ (fun hHeld => ?_)
            · exact ⟨(blk_cell (drew_heap HK3.out) 0).1, (blk_cell (drew_heap HK3.out) 1).1, (blk_cell (drew_heap HK3.out) 2).1⟩
            clear hK K
            try simp only [Act.put, List.setIfInBounds_toArray, List.set_cons_zero, List.set_cons_succ, List.getElem_toArray, List.getElem_cons_succ, List.getElem_cons_zero]
            refine wpAnyH_ready (rs := [4]) (by kernel_rfl) (by simp) ?_
            refine AllReadyH.cons rfl (fun K hK => ?_) AllReadyH.nil
            go_simp
            have HC4 := veil (BC.s2 HC3.out z.2)
            have HR4 := veil (((HR3.out.set (B := w.heap.size + 2) (off := 0) (by omega) (by omega) (.bool z.2.e)).set (B := w.heap.size + 2) (off := 1) (by omega) (by omega) (.int .u64 z.2.d)).set (B := w.heap.size + 2) (off := 2) (by omega) (by omega) (.int .u8 z.2.l))
            have HK4 := veil (set_other (B := w.heap.size + 2) (off := 2) (v := .int .u8 z.2.l) (set_other (B := w.heap.size + 2) (off := 1) (v := .int .u64 z.2.d) (set_other (B := w.heap.size + 2) (off := 0) (v := .bool z.2.e) HK3.out (by omega)) (by omega)) (by omega))
            refine hK.out _ _ ?_ (fun hHeld => ?_)
            · exact ⟨(blk_cell (drew_heap HK4.out) 0).1, (blk_cell (drew_heap HK4.out) 1).1, (blk_cell (drew_heap HK4.out) 2).1⟩
            clear hK K
            try simp only [Act.put, List.setIfInBounds_toArray, List.set_cons_zero, List.set_cons_succ, List.getElem_toArray, List.getElem_cons_succ, List.getElem_cons_zero]
            refine wpAnyH_ready (rs := [5]) (by kernel_rfl) (by simp) ?_
            refine AllReadyH.cons rfl (fun K hK => ?_) AllReadyH.nil
            go_simp
            have HC5 := veil (BC.s3 HC4.out (x : Int))
            have HR5 := veil (HR4.out.set (B := w.heap.size + 3) (off := 0) (by omega) (by omega) (.int .i64 (x : Int)))
            have HK5 := veil (set_other (B := w.heap.size + 3) (off := 0) (v := .int .i64 (x : Int)) HK4.out (by omega))
            refine hK.out _ _ ?_ (fun hHeld => ?_)
            · exact ⟨(blk_cell (drew_heap HK5.out) 0).1, (blk_cell (drew_heap HK5.out) 1).1, (blk_cell (drew_heap HK5.out) 2).1⟩
            clear hK K
            try simp only [Act.put, List.setIfInBounds_toArray, List.set_cons_zero, List.set_cons_succ, List.getElem_toArray, List.getElem_cons_succ, List.getElem_cons_zero]
            refine wpAnyH_ready (rs := [6]) (by kernel_rfl) (by simp) ?_
            refine AllReadyH.cons rfl (fun K hK => ?_) AllReadyH.nil
            go_simp
            have HC6 := veil (BC.s4 HC5.out true)
            have HR6 := veil (HR5.out.set (B := w.heap.size + 4) (off := 0) (by omega) (by omega) (.bool true))
            have HK6 := veil (set_other (B := w.heap.size + 4) (off := 0) (v := .bool true) HK5.out (by omega))
            refine hK.out _ _ ?_ (fun hHeld => ?_)
            · exact ⟨(blk_cell (drew_heap HK6.out) 0).1, (blk_cell (drew_heap HK6.out) 1).1, (blk_cell (drew_heap HK6.out) 2).1⟩
            clear hK K
            try simp only [Act.put, List.setIfInBounds_toArray, List.set_cons_zero, List.set_cons_succ, List.getElem_toArray, List.getElem_cons_succ, List.getElem_cons_zero]
            refine wpAnyH_done (by kernel_rfl) ?_ _
            skip
            have HBC := veil (BC.drew HC6.out)
            have HRW := veil HR6.out.drew
            clear g1 g2 g3 g4 g5 g6 q1 q2 q3 q4 q5 q6 HCw
            clear HC3 HC4 HC5 HC6 HR3 HR4 HR5 HR6 HK3 HK4 HK5 HK6 HRw HKw hHeld
            generalize ((((((w2.setCell ⟨w.heap.size + 1, 0, none⟩ (.int .i64 (z.1 : Int))).setCell ⟨w.heap.size + 2, 0, none⟩ (.bool z.2.e)).setCell ⟨w.heap.size + 2, 1, none⟩ (.int .u64 z.2.d)).setCell ⟨w.heap.size + 2, 2, none⟩ (.int .u8 z.2.l)).setCell ⟨w.heap.size + 3, 0, none⟩ (.int .i64 (x : Int))).setCell ⟨w.heap.size + 4, 0, none⟩ (.bool true)).drew = Wc at *
            gi_wp2
            have HBELc := veil (HBEL.out.trans HRW.out.be)
            obtain ⟨d0, _, _, d3, _⟩ := (HP.out _ HBELc.out).view
            have d4 := d3 x y HY.out
            clear d3
            obtain ⟨e0, _, _, _, _, e5⟩ := BC.cells HBC.out
            refine region_round (fun w' => w'.cell? ⟨w.heap.size, 0, none⟩ = some (.pointer (some ⟨pb, 0, none⟩)) ∧ w'.cell? ⟨pb, 0, none⟩ = some (.slice (some ⟨g, 0, none⟩) (np + 1) cap) ∧ w'.cell? ⟨g, x, none⟩ = some (.pointer (some ⟨y.sb, 0, none⟩))) (by kernel_rfl) (by kernel_rfl) (by rintro ⟨a, w, h⟩; exact (show False from h)) ⟨e0, d0, d4⟩ (fun hHeld => ?_)
            refine wpAnyH_take (i := 1) (v := ?_) rfl (by kernel_rfl) (by kernel_rfl) (by kernel_rfl) (fun _ _ _ h => h) (Or.inl ⟨by rfl, ?v1⟩) (by assumption) ?_
            case v1 => (intro w hSw; (try dsimp only at hSw); go_simp; try with_reducible rfl)
            try simp only [Act.put, List.setIfInBounds_toArray, List.set_cons_zero, List.set_cons_succ, List.getElem_toArray, List.getElem_cons_succ, List.getElem_cons_zero]
            refine wpAnyH_take (i := 2) (v := ?_) rfl (by kernel_rfl) (by kernel_rfl) (by kernel_rfl) (fun _ _ _ h => h) (Or.inl ⟨by rfl, ?v2⟩) (by assumption) ?_
            case v2 => (intro w hSw; (try dsimp only at hSw); go_simp; try with_reducible rfl)
            try simp only [Act.put, List.setIfInBounds_toArray, List.set_cons_zero, List.set_cons_succ, List.getElem_toArray, List.getElem_cons_succ, List.getElem_cons_zero]
            refine wpAnyH_take (i := 3) (v := ?_) rfl (by kernel_rfl) (by kernel_rfl) (by kernel_rfl) (fun _ _ _ h => h) (Or.inl ⟨by rfl, ?v3⟩) (by assumption) ?_
            case v3 => (intro w hSw; (try dsimp only at hSw); go_simp; try with_reducible rfl)
            try simp only [Act.put, List.setIfInBounds_toArray, List.set_cons_zero, List.set_cons_succ, List.getElem_toArray, List.getElem_cons_succ, List.getElem_cons_zero]
            refine wpAnyH_take (i := 4) (v := ?_) rfl (by kernel_rfl) (by kernel_rfl) (by kernel_rfl) (fun _ _ _ h => h) (Or.inl ⟨by rfl, ?v4⟩) (by assumption) ?_
            case v4 => (intro w hSw; (try dsimp only at hSw); go_simp; try with_reducible rfl)
            try simp only [Act.put, List.setIfInBounds_toArray, List.set_cons_zero, List.set_cons_succ, List.getElem_toArray, List.getElem_cons_succ, List.getElem_cons_zero]
            refine wpAnyH_take (i := 5) (v := ?_) rfl (by kernel_rfl) (by kernel_rfl) (by kernel_rfl) (fun _ _ _ h => h) (Or.inl ⟨by rfl, ?v5⟩) (by assumption) ?_
            case v5 => (intro w hSw; (try dsimp only at hSw); go_simp; try with_reducible rfl)
            try simp only [Act.put, List.setIfInBounds_toArray, List.set_cons_zero, List.set_cons_succ, List.getElem_toArray, List.getElem_cons_succ, List.getElem_cons_zero]
            refine wpAnyH_take (i := 6) (v := ?_) rfl (by kernel_rfl) (by kernel_rfl) (by kernel_rfl) (fun _ _ _ h => h) (Or.inl ⟨by rfl, ?v6⟩) (by assumption) ?_
            case v6 => (intro w hSw; (try dsimp only at hSw); go_simp; try with_reducible rfl)
            try simp only [Act.put, List.setIfInBounds_toArray, List.set_cons_zero, List.set_cons_succ, List.getElem_toArray, List.getElem_cons_succ, List.getElem_cons_zero]
            refine wpAnyH_take (i := 7) (v := ?_) rfl (by kernel_rfl) (by kernel_rfl) (by kernel_rfl) (fun _ _ _ h => h) (Or.inl ⟨by rfl, ?v7⟩) (by assumption) ?_
            case v7 => (intro w hSw; (try dsimp only at hSw); go_simp; try with_reducible rfl)
            try simp only [Act.put, List.setIfInBounds_toArray, List.set_cons_zero, List.set_cons_succ, List.getElem_toArray, List.getElem_cons_succ, List.getElem_cons_zero]
            refine wpAnyH_ready (rs := [0, 8]) (by kernel_rfl) (by simp) ?_
            refine AllReadyH.cons rfl (fun K hK => ?_) (AllReadyH.cons rfl (fun K hK => ?_) AllReadyH.nil)
            · skip
              go_simp
              refine hK.out _ _ ?_ (fun hHeld => ?_)
              · exact hHeld
              clear hK K
              try simp only [Act.put, List.setIfInBounds_toArray, List.set_cons_zero, List.set_cons_succ, List.getElem_toArray, List.getElem_cons_succ, List.getElem_cons_zero]
              refine wpAnyH_ready (rs := [8]) (by kernel_rfl) (by simp) ?_
              refine AllReadyH.cons rfl (fun K hK => ?_) AllReadyH.nil
              go_simp
              go_at_call 44
              refine (HLN.out _ (by exact below_post HBELc.out rfl rfl rfl rfl)).mono ?_
              rintro e w5 ⟨rfl, hb5⟩
              have HBW5 := veil (show Below Wc.heap.size Wc w5 from below_pre' hb5 rfl rfl rfl rfl)
              have HBC5 := veil (BC.below HBC.out HBW5.out)
              have HRW5 := veil (HRW.out.below HBW5.out)
              have HV5 := veil (HP.out _ (HBEL.out.trans HRW5.out.be)).view
              obtain ⟨e50, _, _, _, _, e55⟩ := BC.cells HBC5.out
              obtain ⟨_, _, _, _, f55⟩ := BC.free HBC5.out
              clear hb5
              refine hK.out _ _ ?_ (fun hHeld => ?_)
              · exact ⟨e50, HV5.out.1, HV5.out.2.2.2.1 x y HY.out⟩
              clear hK K
              try simp only [Act.put, List.setIfInBounds_toArray, List.set_cons_zero, List.set_cons_succ, List.getElem_toArray, List.getElem_cons_succ, List.getElem_cons_zero]
              refine wpAnyH_take (i := 9) (v := ?_) rfl (by kernel_rfl) (by kernel_rfl) (by kernel_rfl) (fun _ _ _ h => h) (Or.inl ⟨by rfl, ?v9⟩) (by assumption) ?_
              case v9 => (intro w hSw; (try dsimp only at hSw); go_simp; try with_reducible rfl)
              try simp only [Act.put, List.setIfInBounds_toArray, List.set_cons_zero, List.set_cons_succ, List.getElem_toArray, List.getElem_cons_succ, List.getElem_cons_zero]
              refine wpAnyH_ready (rs := [10]) (by kernel_rfl) (by simp) ?_
              refine AllReadyH.cons rfl (fun K hK => ?_) AllReadyH.nil
              go_simp
              have HBC6 := veil (BC.s5 HBC5.out (ah - (ln : Int)))
              have HRW6 := veil (HRW5.out.set (B := w.heap.size + 5) (off := 0) (by omega) (by omega) (.int .i64 (ah - (ln : Int))))
              have HV6 := veil (HP.out _ (HBEL.out.trans HRW6.out.be)).view
              refine hK.out _ _ ?_ (fun hHeld => ?_)
              · exact ⟨(BC.cells HBC6.out).1, HV6.out.1, HV6.out.2.2.2.1 x y HY.out⟩
              clear hK K
              try simp only [Act.put, List.setIfInBounds_toArray, List.set_cons_zero, List.set_cons_succ, List.getElem_toArray, List.getElem_cons_succ, List.getElem_cons_zero]
              refine wpAnyH_done (by kernel_rfl) ?_ _
              gi_wp2
              refine ⟨HRW6.out.ko, HRW6.out.fr, ⟨?_, by have := HRW6.out.hz; omega⟩, HBEL.out.trans HRW6.out.be⟩
              rw [HBS.out, HAS.out, HB2.out]
              show BC _ _ _ (tkI (MM H x)) (tkK (MM H x)) (x : Int) true _
              rw [HXI.out.1, HXI.out.2]
              exact HBC6.out
            · skip
              go_simp
              go_at_call 44
              refine (HLN.out _ (by exact below_post HBELc.out rfl rfl rfl rfl)).mono ?_
              rintro e w5 ⟨rfl, hb5⟩
              have HBW5 := veil (show Below Wc.heap.size Wc w5 from below_pre' hb5 rfl rfl rfl rfl)
              have HBC5 := veil (BC.below HBC.out HBW5.out)
              have HRW5 := veil (HRW.out.below HBW5.out)
              have HV5 := veil (HP.out _ (HBEL.out.trans HRW5.out.be)).view
              obtain ⟨e50, _, _, _, _, e55⟩ := BC.cells HBC5.out
              obtain ⟨_, _, _, _, f55⟩ := BC.free HBC5.out
              clear hb5
              refine hK.out _ _ ?_ (fun hHeld => ?_)
              · exact ⟨e50, HV5.out.1, HV5.out.2.2.2.1 x y HY.out⟩
              clear hK K
              try simp only [Act.put, List.setIfInBounds_toArray, List.set_cons_zero, List.set_cons_succ, List.getElem_toArray, List.getElem_cons_succ, List.getElem_cons_zero]
              refine wpAnyH_ready (rs := [0]) (by kernel_rfl) (by simp) ?_
              refine AllReadyH.cons rfl (fun K hK => ?_) AllReadyH.nil
              go_simp
              refine hK.out _ _ ?_ (fun hHeld => ?_)
              · exact hHeld
              clear hK K
              try simp only [Act.put, List.setIfInBounds_toArray, List.set_cons_zero, List.set_cons_succ, List.getElem_toArray, List.getElem_cons_succ, List.getElem_cons_zero]
              refine wpAnyH_take (i := 9) (v := ?_) rfl (by kernel_rfl) (by kernel_rfl) (by kernel_rfl) (fun _ _ _ h => h) (Or.inl ⟨by rfl, ?v9⟩) (by assumption) ?_
              case v9 => (intro w hSw; (try dsimp only at hSw); go_simp; try with_reducible rfl)
              try simp only [Act.put, List.setIfInBounds_toArray, List.set_cons_zero, List.set_cons_succ, List.getElem_toArray, List.getElem_cons_succ, List.getElem_cons_zero]
              refine wpAnyH_ready (rs := [10]) (by kernel_rfl) (by simp) ?_
              refine AllReadyH.cons rfl (fun K hK => ?_) AllReadyH.nil
              go_simp
              have HBC6 := veil (BC.s5 HBC5.out (ah - (ln : Int)))
              have HRW6 := veil (HRW5.out.set (B := w.heap.size + 5) (off := 0) (by omega) (by omega) (.int .i64 (ah - (ln : Int))))
              have HV6 := veil (HP.out _ (HBEL.out.trans HRW6.out.be)).view
              refine hK.out _ _ ?_ (fun hHeld => ?_)
              · exact ⟨(BC.cells HBC6.out).1, HV6.out.1, HV6.out.2.2.2.1 x y HY.out⟩
              clear hK K
              try simp only [Act.put, List.setIfInBounds_toArray, List.set_cons_zero, List.set_cons_succ, List.getElem_toArray, List.getElem_cons_succ, List.getElem_cons_zero]
              refine wpAnyH_done (by kernel_rfl) ?_ _
              gi_wp2
              refine ⟨HRW6.out.ko, HRW6.out.fr, ⟨?_, by have := HRW6.out.hz; omega⟩, HBEL.out.trans HRW6.out.be⟩
              rw [HBS.out, HAS.out, HB2.out]
              show BC _ _ _ (tkI (MM H x)) (tkK (MM H x)) (x : Int) true _
              rw [HXI.out.1, HXI.out.2]
              exact HBC6.out
          · have hup' : Ke.up z.2 (tkK (MM H c)) = false := by simpa using hup
            rw [hup'] at HUP
            have HB2 : Hid (bstep H (some c) x = some c) := by unfold Hid bstep; rw [HMX.out]; simp [hup']
            clear hup hup'
            gi_wp2_with (first | (refine ⟨trivial, ?_⟩; gi_at_call 43; refine (CallsIn.inRound l (callsIn_wide.2 HTOP.out)).mono ?_; rintro e w1 ⟨rfl, hb1⟩; have HB1 := veil (BC.below HB.out hb1); have HBW := veil hb1; obtain ⟨a10, a11, ⟨a12, a13, a14⟩, a15, a16, a17⟩ := BC.cells HB1.out; have z1 := BC.lt HB1.out; have z2 : w.heap.size < w1.heap.size := (by omega); have z3 : w.heap.size + 1 < w1.heap.size := (by omega); have z4 : w.heap.size + 2 < w1.heap.size := (by omega); have z5 : w.heap.size + 3 < w1.heap.size := (by omega); have z6 : w.heap.size + 4 < w1.heap.size := (by omega); clear hb1) | (refine ⟨trivial, ?_⟩; gi_at_call 35; refine (CallsIn.inRound l (callsIn_wide.2 (HUP.out _))).mono ?_; rintro e w2 ⟨rfl, hb2⟩; have HBW2 := veil hb2; clear hb2))
            have HBC := veil (BC.below (BC.below HB1.out ((Below.refl _ w1).alloc (Nat.le_refl _) (.cells #[.bool z.2.e, .int .u64 z.2.d, .int .u8 z.2.l] 25))) HBW2.out)
            have HRW := veil ((((RW.refl HZ.out).below HBW.out).below ((Below.refl _ w1).alloc (Nat.le_refl _) (.cells #[.bool z.2.e, .int .u64 z.2.d, .int .u8 z.2.l] 25))).below HBW2.out)
            clear HBW2
            generalize w2 = Wc at *
            have HBELc := veil (HBEL.out.trans HRW.out.be)
            obtain ⟨d0, _, _, d3, _⟩ := (HP.out _ HBELc.out).view
            have d4 := d3 x y HY.out
            clear d3
            obtain ⟨e0, _, _, _, _, e5⟩ := BC.cells HBC.out
            refine region_round (fun w' => w'.cell? ⟨w.heap.size, 0, none⟩ = some (.pointer (some ⟨pb, 0, none⟩)) ∧ w'.cell? ⟨pb, 0, none⟩ = some (.slice (some ⟨g, 0, none⟩) (np + 1) cap) ∧ w'.cell? ⟨g, x, none⟩ = some (.pointer (some ⟨y.sb, 0, none⟩))) (by kernel_rfl) (by kernel_rfl) (by rintro ⟨a, w, h⟩; exact (show False from h)) ⟨e0, d0, d4⟩ (fun hHeld => ?_)
            refine wpAnyH_take (i := 1) (v := ?_) rfl (by kernel_rfl) (by kernel_rfl) (by kernel_rfl) (fun _ _ _ h => h) (Or.inl ⟨by rfl, ?v1⟩) (by assumption) ?_
            case v1 => (intro w hSw; (try dsimp only at hSw); go_simp; try with_reducible rfl)
            try simp only [Act.put, List.setIfInBounds_toArray, List.set_cons_zero, List.set_cons_succ, List.getElem_toArray, List.getElem_cons_succ, List.getElem_cons_zero]
            refine wpAnyH_take (i := 2) (v := ?_) rfl (by kernel_rfl) (by kernel_rfl) (by kernel_rfl) (fun _ _ _ h => h) (Or.inl ⟨by rfl, ?v2⟩) (by assumption) ?_
            case v2 => (intro w hSw; (try dsimp only at hSw); go_simp; try with_reducible rfl)
            try simp only [Act.put, List.setIfInBounds_toArray, List.set_cons_zero, List.set_cons_succ, List.getElem_toArray, List.getElem_cons_succ, List.getElem_cons_zero]
            refine wpAnyH_take (i := 3) (v := ?_) rfl (by kernel_rfl) (by kernel_rfl) (by kernel_rfl) (fun _ _ _ h => h) (Or.inl ⟨by rfl, ?v3⟩) (by assumption) ?_
            case v3 => (intro w hSw; (try dsimp only at hSw); go_simp; try with_reducible rfl)
            try simp only [Act.put, List.setIfInBounds_toArray, List.set_cons_zero, List.set_cons_succ, List.getElem_toArray, List.getElem_cons_succ, List.getElem_cons_zero]
            refine wpAnyH_take (i := 4) (v := ?_) rfl (by kernel_rfl) (by kernel_rfl) (by kernel_rfl) (fun _ _ _ h => h) (Or.inl ⟨by rfl, ?v4⟩) (by assumption) ?_
            case v4 => (intro w hSw; (try dsimp only at hSw); go_simp; try with_reducible rfl)
            try simp only [Act.put, List.setIfInBounds_toArray, List.set_cons_zero, List.set_cons_succ, List.getElem_toArray, List.getElem_cons_succ, List.getElem_cons_zero]
            refine wpAnyH_take (i := 5) (v := ?_) rfl (by kernel_rfl) (by kernel_rfl) (by kernel_rfl) (fun _ _ _ h => h) (Or.inl ⟨by rfl, ?v5⟩) (by assumption) ?_
            case v5 => (intro w hSw; (try dsimp only at hSw); go_simp; try with_reducible rfl)
            try simp only [Act.put, List.setIfInBounds_toArray, List.set_cons_zero, List.set_cons_succ, List.getElem_toArray, List.getElem_cons_succ, List.getElem_cons_zero]
            refine wpAnyH_take (i := 6) (v := ?_) rfl (by kernel_rfl) (by kernel_rfl) (by kernel_rfl) (fun _ _ _ h => h) (Or.inl ⟨by rfl, ?v6⟩) (by assumption) ?_
            case v6 => (intro w hSw; (try dsimp only at hSw); go_simp; try with_reducible rfl)
            try simp only [Act.put, List.setIfInBounds_toArray, List.set_cons_zero, List.set_cons_succ, List.getElem_toArray, List.getElem_cons_succ, List.getElem_cons_zero]
            refine wpAnyH_take (i := 7) (v := ?_) rfl (by kernel_rfl) (by kernel_rfl) (by kernel_rfl) (fun _ _ _ h => h) (Or.inl ⟨by rfl, ?v7⟩) (by assumption) ?_
            case v7 => (intro w hSw; (try dsimp only at hSw); go_simp; try with_reducible rfl)
            try simp only [Act.put, List.setIfInBounds_toArray, List.set_cons_zero, List.set_cons_succ, List.getElem_toArray, List.getElem_cons_succ, List.getElem_cons_zero]
            refine wpAnyH_ready (rs := [0, 8]) (by kernel_rfl) (by simp) ?_
            refine AllReadyH.cons rfl (fun K hK => ?_) (AllReadyH.cons rfl (fun K hK => ?_) AllReadyH.nil)
            · skip
              go_simp
              refine hK.out _ _ ?_ (fun hHeld => ?_)
              · exact hHeld
              clear hK K
              try simp only [Act.put, List.setIfInBounds_toArray, List.set_cons_zero, List.set_cons_succ, List.getElem_toArray, List.getElem_cons_succ, List.getElem_cons_zero]
              refine wpAnyH_ready (rs := [8]) (by kernel_rfl) (by simp) ?_
              refine AllReadyH.cons rfl (fun K hK => ?_) AllReadyH.nil
              go_simp
              go_at_call 44
              refine (HLN.out _ (by exact below_post HBELc.out rfl rfl rfl rfl)).mono ?_
              rintro e w5 ⟨rfl, hb5⟩
              have HBW5 := veil (show Below Wc.heap.size Wc w5 from below_pre' hb5 rfl rfl rfl rfl)
              have HBC5 := veil (BC.below HBC.out HBW5.out)
              have HRW5 := veil (HRW.out.below HBW5.out)
              have HV5 := veil (HP.out _ (HBEL.out.trans HRW5.out.be)).view
              obtain ⟨e50, _, _, _, _, e55⟩ := BC.cells HBC5.out
              obtain ⟨_, _, _, _, f55⟩ := BC.free HBC5.out
              clear hb5
              refine hK.out _ _ ?_ (fun hHeld => ?_)
              · exact ⟨e50, HV5.out.1, HV5.out.2.2.2.1 x y HY.out⟩
              clear hK K
              try simp only [Act.put, List.setIfInBounds_toArray, List.set_cons_zero, List.set_cons_succ, List.getElem_toArray, List.getElem_cons_succ, List.getElem_cons_zero]
              refine wpAnyH_take (i := 9) (v := ?_) rfl (by kernel_rfl) (by kernel_rfl) (by kernel_rfl) (fun _ _ _ h => h) (Or.inl ⟨by rfl, ?v9⟩) (by assumption) ?_
              case v9 => (intro w hSw; (try dsimp only at hSw); go_simp; try with_reducible rfl)
              try simp only [Act.put, List.setIfInBounds_toArray, List.set_cons_zero, List.set_cons_succ, List.getElem_toArray, List.getElem_cons_succ, List.getElem_cons_zero]
              refine wpAnyH_ready (rs := [10]) (by kernel_rfl) (by simp) ?_
              refine AllReadyH.cons rfl (fun K hK => ?_) AllReadyH.nil
              go_simp
              have HBC6 := veil (BC.s5 HBC5.out (ah - (ln : Int)))
              have HRW6 := veil (HRW5.out.set (B := w.heap.size + 5) (off := 0) (by omega) (by omega) (.int .i64 (ah - (ln : Int))))
              have HV6 := veil (HP.out _ (HBEL.out.trans HRW6.out.be)).view
              refine hK.out _ _ ?_ (fun hHeld => ?_)
              · exact ⟨(BC.cells HBC6.out).1, HV6.out.1, HV6.out.2.2.2.1 x y HY.out⟩
              clear hK K
              try simp only [Act.put, List.setIfInBounds_toArray, List.set_cons_zero, List.set_cons_succ, List.getElem_toArray, List.getElem_cons_succ, List.getElem_cons_zero]
              refine wpAnyH_done (by kernel_rfl) ?_ _
              gi_wp2
              refine ⟨HRW6.out.ko, HRW6.out.fr, ⟨?_, by have := HRW6.out.hz; omega⟩, HBEL.out.trans HRW6.out.be⟩
              rw [HBS.out, HAS.out, HB2.out]
              exact HBC6.out
            · skip
              go_simp
              go_at_call 44
              refine (HLN.out _ (by exact below_post HBELc.out rfl rfl rfl rfl)).mono ?_
              rintro e w5 ⟨rfl, hb5⟩
              have HBW5 := veil (show Below Wc.heap.size Wc w5 from below_pre' hb5 rfl rfl rfl rfl)
              have HBC5 := veil (BC.below HBC.out HBW5.out)
              have HRW5 := veil (HRW.out.below HBW5.out)
              have HV5 := veil (HP.out _ (HBEL.out.trans HRW5.out.be)).view
              obtain ⟨e50, _, _, _, _, e55⟩ := BC.cells HBC5.out
              obtain ⟨_, _, _, _, f55⟩ := BC.free HBC5.out
              clear hb5
              refine hK.out _ _ ?_ (fun hHeld => ?_)
              · exact ⟨e50, HV5.out.1, HV5.out.2.2.2.1 x y HY.out⟩
              clear hK K
              try simp only [Act.put, List.setIfInBounds_toArray, List.set_cons_zero, List.set_cons_succ, List.getElem_toArray, List.getElem_cons_succ, List.getElem_cons_zero]
              refine wpAnyH_ready (rs := [0]) (by kernel_rfl) (by simp) ?_
              refine AllReadyH.cons rfl (fun K hK => ?_) AllReadyH.nil
              go_simp
              refine hK.out _ _ ?_ (fun hHeld => ?_)
              · exact hHeld
              clear hK K
              try simp only [Act.put, List.setIfInBounds_toArray, List.set_cons_zero, List.set_cons_succ, List.getElem_toArray, List.getElem_cons_succ, List.getElem_cons_zero]
              refine wpAnyH_take (i := 9) (v := ?_) rfl (by kernel_rfl) (by kernel_rfl) (by kernel_rfl) (fun _ _ _ h => h) (Or.inl ⟨by rfl, ?v9⟩) (by assumption) ?_
              case v9 => (intro w hSw; (try dsimp only at hSw); go_simp; try with_reducible rfl)
              try simp only [Act.put, List.setIfInBounds_toArray, List.set_cons_zero, List.set_cons_succ, List.getElem_toArray, List.getElem_cons_succ, List.getElem_cons_zero]
              refine wpAnyH_ready (rs := [10]) (by kernel_rfl) (by simp) ?_
              refine AllReadyH.cons rfl (fun K hK => ?_) AllReadyH.nil
              go_simp
              have HBC6 := veil (BC.s5 HBC5.out (ah - (ln : Int)))
              have HRW6 := veil (HRW5.out.set (B := w.heap.size + 5) (off := 0) (by omega) (by omega) (.int .i64 (ah - (ln : Int))))
              have HV6 := veil (HP.out _ (HBEL.out.trans HRW6.out.be)).view
              refine hK.out _ _ ?_ (fun hHeld => ?_)
              · exact ⟨(BC.cells HBC6.out).1, HV6.out.1, HV6.out.2.2.2.1 x y HY.out⟩
              clear hK K
              try simp only [Act.put, List.setIfInBounds_toArray, List.set_cons_zero, List.set_cons_succ, List.getElem_toArray, List.getElem_cons_succ, List.getElem_cons_zero]
              refine wpAnyH_done (by kernel_rfl) ?_ _
              gi_wp2
              refine ⟨HRW6.out.ko, HRW6.out.fr, ⟨?_, by have := HRW6.out.hz; omega⟩, HBEL.out.trans HRW6.out.be⟩
              rw [HBS.out, HAS.out, HB2.out]
              exact HBC6.out
  case done =>
    rintro D ys W hD hys ⟨⟨hB, hWz⟩, hbel⟩ hK
    rw [hys] at hB
    generalize ahd H (ords np p d) = ah at *
    generalize hbe : bst H (ords np p d) = b at hB
    have HBE := veil hbe
    clear hbe
    gi_wp2
    refine wpIn_wide.2 ?_
    have HCw := veil hB
    have HRw := veil (RW.refl (n0 := w.heap.size) (W := W) (by omega))
    obtain ⟨_, g1, ⟨g2, g3, g4⟩, g5, g6, _⟩ := BC.cells hB
    obtain ⟨q1, ⟨q2, q3, q4⟩, q5, q6, _⟩ := BC.free hB
    have HK := veil hK
    have HBEL := veil hbel
    clear hB hK hbel hst hrd hS x6 x7 x8
    refine wp_region_noPanic ?_
    refine wp_region_held_drew (S := (fun w' => w'.cell? ⟨w.heap.size + 1, 0, none⟩ = some (.int .i64 (bI H b)) ∧ (w'.cell? ⟨w.heap.size + 2, 0, none⟩ = some (.bool (bK H b).e) ∧ w'.cell? ⟨w.heap.size + 2, 1, none⟩ = some (.int .u64 (bK H b).d) ∧ w'.cell? ⟨w.heap.size + 2, 2, none⟩ = some (.int .u8 (bK H b).l)) ∧ w'.cell? ⟨w.heap.size + 3, 0, none⟩ = some (.int .i64 (bA b)) ∧ w'.cell? ⟨w.heap.size + 4, 0, none⟩ = some (.bool b.isSome))) (by kernel_rfl) ?_ (fun hHeld => ?_)
    · exact ⟨g1, ⟨g2, g3, g4⟩, g5, g6⟩
    refine wpAnyH_take (i := 0) (v := ?_) rfl (by kernel_rfl) (by kernel_rfl) (by kernel_rfl) (fun _ _ _ h => h) (Or.inl ⟨by rfl, ?v0⟩) (by assumption) ?_
    case v0 => (intro w hSw; (try dsimp only at hSw); go_simp; try with_reducible rfl)
    try simp only [Act.put, List.setIfInBounds_toArray, List.set_cons_zero, List.set_cons_succ, List.getElem_toArray, List.getElem_cons_zero]
    refine wpAnyH_take (i := 1) (v := ?_) rfl (by kernel_rfl) (by kernel_rfl) (by kernel_rfl) (fun _ _ _ h => h) (Or.inl ⟨by rfl, ?v1⟩) (by assumption) ?_
    case v1 => (intro w hSw; (try dsimp only at hSw); go_simp; try with_reducible rfl)
    try simp only [Act.put, List.setIfInBounds_toArray, List.set_cons_zero, List.set_cons_succ, List.getElem_toArray, List.getElem_cons_succ, List.getElem_cons_zero]
    refine wpAnyH_take (i := 2) (v := ?_) rfl (by kernel_rfl) (by kernel_rfl) (by kernel_rfl) (fun _ _ _ h => h) (Or.inl ⟨by rfl, ?v2⟩) (by assumption) ?_
    case v2 => (intro w hSw; (try dsimp only at hSw); go_simp; try with_reducible rfl)
    try simp only [Act.put, List.setIfInBounds_toArray, List.set_cons_zero, List.set_cons_succ, List.getElem_toArray, List.getElem_cons_succ, List.getElem_cons_zero]
    refine wpAnyH_take (i := 3) (v := ?_) rfl (by kernel_rfl) (by kernel_rfl) (by kernel_rfl) (fun _ _ _ h => h) (Or.inl ⟨by rfl, ?v3⟩) (by assumption) ?_
    case v3 => (intro w hSw; (try dsimp only at hSw); go_simp; try with_reducible rfl)
    try simp only [Act.put, List.setIfInBounds_toArray, List.set_cons_zero, List.set_cons_succ, List.getElem_toArray, List.getElem_cons_succ, List.getElem_cons_zero]
    refine wpAnyH_ready (rs := [4]) (by kernel_rfl) (by simp) ?_
    refine AllReadyH.cons rfl (fun K hK => ?_) AllReadyH.nil
    go_simp
    have HC4 := veil (BC.s1 HCw.out (bI H b))
    have HR4 := veil (HRw.out.set (B := w.heap.size + 1) (off := 0) (by omega) (by omega) (.int .i64 (bI H b)))
    refine hK.out _ _ ?_ (fun hHeld => ?_)
    · exact ⟨(BC.cells (BC.drew HC4.out)).2.1, (BC.cells (BC.drew HC4.out)).2.2.1, (BC.cells (BC.drew HC4.out)).2.2.2.1, (BC.cells (BC.drew HC4.out)).2.2.2.2.1⟩
    clear hK K
    try simp only [Act.put, List.setIfInBounds_toArray, List.set_cons_zero, List.set_cons_succ, List.getElem_toArray, List.getElem_cons_succ, List.getElem_cons_zero]
    refine wpAnyH_ready (rs := [5]) (by kernel_rfl) (by simp) ?_
    refine AllReadyH.cons rfl (fun K hK => ?_) AllReadyH.nil
    go_simp
    have HC5 := veil (BC.s2 HC4.out (bK H b))
    have HR5 := veil (((HR4.out.set (B := w.heap.size + 2) (off := 0) (by omega) (by omega) (.bool (bK H b).e)).set (B := w.heap.size + 2) (off := 1) (by omega) (by omega) (.int .u64 (bK H b).d)).set (B := w.heap.size + 2) (off := 2) (by omega) (by omega) (.int .u8 (bK H b).l))
    refine hK.out _ _ ?_ (fun hHeld => ?_)
    · exact ⟨(BC.cells (BC.drew HC5.out)).2.1, (BC.cells (BC.drew HC5.out)).2.2.1, (BC.cells (BC.drew HC5.out)).2.2.2.1, (BC.cells (BC.drew HC5.out)).2.2.2.2.1⟩
    clear hK K
    try simp only [Act.put, List.setIfInBounds_toArray, List.set_cons_zero, List.set_cons_succ, List.getElem_toArray, List.getElem_cons_succ, List.getElem_cons_zero]
    refine wpAnyH_ready (rs := [6]) (by kernel_rfl) (by simp) ?_
    refine AllReadyH.cons rfl (fun K hK => ?_) AllReadyH.nil
    go_simp
    have HC6 := veil (BC.s3 HC5.out (bA b))
    have HR6 := veil (HR5.out.set (B := w.heap.size + 3) (off := 0) (by omega) (by omega) (.int .i64 (bA b)))
    refine hK.out _ _ ?_ (fun hHeld => ?_)
    · exact ⟨(BC.cells (BC.drew HC6.out)).2.1, (BC.cells (BC.drew HC6.out)).2.2.1, (BC.cells (BC.drew HC6.out)).2.2.2.1, (BC.cells (BC.drew HC6.out)).2.2.2.2.1⟩
    clear hK K
    try simp only [Act.put, List.setIfInBounds_toArray, List.set_cons_zero, List.set_cons_succ, List.getElem_toArray, List.getElem_cons_succ, List.getElem_cons_zero]
    refine wpAnyH_ready (rs := [7]) (by kernel_rfl) (by simp) ?_
    refine AllReadyH.cons rfl (fun K hK => ?_) AllReadyH.nil
    go_simp
    have HC7 := veil (BC.s4 HC6.out b.isSome)
    have HR7 := veil (HR6.out.set (B := w.heap.size + 4) (off := 0) (by omega) (by omega) (.bool b.isSome))
    refine hK.out _ _ ?_ (fun hHeld => ?_)
    · exact ⟨(BC.cells (BC.drew HC7.out)).2.1, (BC.cells (BC.drew HC7.out)).2.2.1, (BC.cells (BC.drew HC7.out)).2.2.2.1, (BC.cells (BC.drew HC7.out)).2.2.2.2.1⟩
    clear hK K
    try simp only [Act.put, List.setIfInBounds_toArray, List.set_cons_zero, List.set_cons_succ, List.getElem_toArray, List.getElem_cons_succ, List.getElem_cons_zero]
    refine wpAnyH_done (by kernel_rfl) ?_ _
    skip
    have HBC := veil (BC.drew HC7.out)
    have HRW := veil HR7.out.drew
    have hK := HRW.out.ko.same D _ HK.out rfl
    clear g1 g2 g3 g4 g5 g6 q1 q2 q3 q4 q5 q6 HC4 HC5 HC6 HC7 HR4 HR5 HR6 HR7 HCw HRw hHeld HK
    generalize ((((((W.setCell ⟨w.heap.size + 1, 0, none⟩ (.int .i64 (bI H b))).setCell ⟨w.heap.size + 2, 0, none⟩ (.bool (bK H b).e)).setCell ⟨w.heap.size + 2, 1, none⟩ (.int .u64 (bK H b).d)).setCell ⟨w.heap.size + 2, 2, none⟩ (.int .u8 (bK H b).l)).setCell ⟨w.heap.size + 3, 0, none⟩ (.int .i64 (bA b))).setCell ⟨w.heap.size + 4, 0, none⟩ (.bool b.isSome)).drew = Wc at *
    have hDn : w.heap.size + 9 ≤ D := by omega
    have hP := BC.kept HBC.out (grownBy_putObj' Wc D (.deferred none)) (fun r e => by cases e; exact ⟨_, hK, rfl⟩)
    obtain ⟨_, g1, ⟨g2, g3, g4⟩, g5, g6, _⟩ := BC.cells hP
    simp only [NoPanic]
    go_wp2
    gi_wp2
    try simp only [Exit.noGoto]
    refine ⟨by simp, .inl ⟨_, _, rfl, run_takeDeferred hK, ?_⟩⟩
    refine ⟨_, ?_, rfl, ?_⟩
    · simp [results, Try.f17, go_sem, g1, g2, g3, g4, g5, g6, HBE.out]
    · exact (HBEL.out.trans HRW.out.be).trans (belowK_b (w := w) (Nat.le_refl _) Wc D _ _ (by omega) hK rfl rfl)
  case stop =>
    rintro D c pre W hD hpre ⟨rfl, ⟨pre', x, rfl, ha, hB, hWz⟩, hbel⟩ hK
    have e := bst_ahead H np p d hp (vals pre') ((show vals pre' <+: vals (pre' ++ [x]) by rw [vals_snoc]; exact List.prefix_append _ _).trans hpre) ha
    rw [← e] at hB
    clear e
    generalize hbe : bst H (ords np p d) = b at hB
    have HBE := veil hbe
    clear hbe
    gi_wp2
    refine wpIn_wide.2 ?_
    have HCw := veil hB
    have HRw := veil (RW.refl (n0 := w.heap.size) (W := W) (by omega))
    obtain ⟨_, g1, ⟨g2, g3, g4⟩, g5, g6, _⟩ := BC.cells hB
    obtain ⟨q1, ⟨q2, q3, q4⟩, q5, q6, _⟩ := BC.free hB
    have HK := veil hK
    have HBEL := veil hbel
    clear hB hK hbel hst hrd hS x6 x7 x8
    refine wp_region_noPanic ?_
    refine wp_region_held_drew (S := (fun w' => w'.cell? ⟨w.heap.size + 1, 0, none⟩ = some (.int .i64 (bI H b)) ∧ (w'.cell? ⟨w.heap.size + 2, 0, none⟩ = some (.bool (bK H b).e) ∧ w'.cell? ⟨w.heap.size + 2, 1, none⟩ = some (.int .u64 (bK H b).d) ∧ w'.cell? ⟨w.heap.size + 2, 2, none⟩ = some (.int .u8 (bK H b).l)) ∧ w'.cell? ⟨w.heap.size + 3, 0, none⟩ = some (.int .i64 (bA b)) ∧ w'.cell? ⟨w.heap.size + 4, 0, none⟩ = some (.bool b.isSome))) (by kernel_rfl) ?_ (fun hHeld => ?_)
    · exact ⟨g1, ⟨g2, g3, g4⟩, g5, g6⟩
    refine wpAnyH_take (i := 0) (v := ?_) rfl (by kernel_rfl) (by kernel_rfl) (by kernel_rfl) (fun _ _ _ h => h) (Or.inl ⟨by rfl, ?v0⟩) (by assumption) ?_
    case v0 => (intro w hSw; (try dsimp only at hSw); go_simp; try with_reducible rfl)
    try simp only [Act.put, List.setIfInBounds_toArray, List.set_cons_zero, List.set_cons_succ, List.getElem_toArray, List.getElem_cons_zero]
    refine wpAnyH_take (i := 1) (v := ?_) rfl (by kernel_rfl) (by kernel_rfl) (by kernel_rfl) (fun _ _ _ h => h) (Or.inl ⟨by rfl, ?v1⟩) (by assumption) ?_
    case v1 => (intro w hSw; (try dsimp only at hSw); go_simp; try with_reducible rfl)
    try simp only [Act.put, List.setIfInBounds_toArray, List.set_cons_zero, List.set_cons_succ, List.getElem_toArray, List.getElem_cons_succ, List.getElem_cons_zero]
    refine wpAnyH_take (i := 2) (v := ?_) rfl (by kernel_rfl) (by kernel_rfl) (by kernel_rfl) (fun _ _ _ h => h) (Or.inl ⟨by rfl, ?v2⟩) (by assumption) ?_
    case v2 => (intro w hSw; (try dsimp only at hSw); go_simp; try with_reducible rfl)
    try simp only [Act.put, List.setIfInBounds_toArray, List.set_cons_zero, List.set_cons_succ, List.getElem_toArray, List.getElem_cons_succ, List.getElem_cons_zero]
    refine wpAnyH_take (i := 3) (v := ?_) rfl (by kernel_rfl) (by kernel_rfl) (by kernel_rfl) (fun _ _ _ h => h) (Or.inl ⟨by rfl, ?v3⟩) (by assumption) ?_
    case v3 => (intro w hSw; (try dsimp only at hSw); go_simp; try with_reducible rfl)
    try simp only [Act.put, List.setIfInBounds_toArray, List.set_cons_zero, List.set_cons_succ, List.getElem_toArray, List.getElem_cons_succ, List.getElem_cons_zero]
    refine wpAnyH_ready (rs := [4]) (by kernel_rfl) (by simp) ?_
    refine AllReadyH.cons rfl (fun K hK => ?_) AllReadyH.nil
    go_simp
    have HC4 := veil (BC.s1 HCw.out (bI H b))
    have HR4 := veil (HRw.out.set (B := w.heap.size + 1) (off := 0) (by omega) (by omega) (.int .i64 (bI H b)))
    refine hK.out _ _ ?_ (fun hHeld => ?_)
    · exact ⟨(BC.cells (BC.drew HC4.out)).2.1, (BC.cells (BC.drew HC4.out)).2.2.1, (BC.cells (BC.drew HC4.out)).2.2.2.1, (BC.cells (BC.drew HC4.out)).2.2.2.2.1⟩
    clear hK K
    try simp only [Act.put, List.setIfInBounds_toArray, List.set_cons_zero, List.set_cons_succ, List.getElem_toArray, List.getElem_cons_succ, List.getElem_cons_zero]
    refine wpAnyH_ready (rs := [5]) (by kernel_rfl) (by simp) ?_
    refine AllReadyH.cons rfl (fun K hK => ?_) AllReadyH.nil
    go_simp
    have HC5 := veil (BC.s2 HC4.out (bK H b))
    have HR5 := veil (((HR4.out.set (B := w.heap.size + 2) (off := 0) (by omega) (by omega) (.bool (bK H b).e)).set (B := w.heap.size + 2) (off := 1) (by omega) (by omega) (.int .u64 (bK H b).d)).set (B := w.heap.size + 2) (off := 2) (by omega) (by omega) (.int .u8 (bK H b).l))
    refine hK.out _ _ ?_ (fun hHeld => ?_)
    · exact ⟨(BC.cells (BC.drew HC5.out)).2.1, (BC.cells (BC.drew HC5.out)).2.2.1, (BC.cells (BC.drew HC5.out)).2.2.2.1, (BC.cells (BC.drew HC5.out)).2.2.2.2.1⟩
    clear hK K
    try simp only [Act.put, List.setIfInBounds_toArray, List.set_cons_zero, List.set_cons_succ, List.getElem_toArray, List.getElem_cons_succ, List.getElem_cons_zero]
    refine wpAnyH_ready (rs := [6]) (by kernel_rfl) (by simp) ?_
    refine AllReadyH.cons rfl (fun K hK => ?_) AllReadyH.nil
    go_simp
    have HC6 := veil (BC.s3 HC5.out (bA b))
    have HR6 := veil (HR5.out.set (B := w.heap.size + 3) (off := 0) (by omega) (by omega) (.int .i64 (bA b)))
    refine hK.out _ _ ?_ (fun hHeld => ?_)
    · exact ⟨(BC.cells (BC.drew HC6.out)).2.1, (BC.cells (BC.drew HC6.out)).2.2.1, (BC.cells (BC.drew HC6.out)).2.2.2.1, (BC.cells (BC.drew HC6.out)).2.2.2.2.1⟩
    clear hK K
    try simp only [Act.put, List.setIfInBounds_toArray, List.set_cons_zero, List.set_cons_succ, List.getElem_toArray, List.getElem_cons_succ, List.getElem_cons_zero]
    refine wpAnyH_ready (rs := [7]) (by kernel_rfl) (by simp) ?_
    refine AllReadyH.cons rfl (fun K hK => ?_) AllReadyH.nil
    go_simp
    have HC7 := veil (BC.s4 HC6.out b.isSome)
    have HR7 := veil (HR6.out.set (B := w.heap.size + 4) (off := 0) (by omega) (by omega) (.bool b.isSome))
    refine hK.out _ _ ?_ (fun hHeld => ?_)
    · exact ⟨(BC.cells (BC.drew HC7.out)).2.1, (BC.cells (BC.drew HC7.out)).2.2.1, (BC.cells (BC.drew HC7.out)).2.2.2.1, (BC.cells (BC.drew HC7.out)).2.2.2.2.1⟩
    clear hK K
    try simp only [Act.put, List.setIfInBounds_toArray, List.set_cons_zero, List.set_cons_succ, List.getElem_toArray, List.getElem_cons_succ, List.getElem_cons_zero]
    refine wpAnyH_done (by kernel_rfl) ?_ _
    skip
    have HBC := veil (BC.drew HC7.out)
    have HRW := veil HR7.out.drew
    have hK := HRW.out.ko.same D _ HK.out rfl
    clear g1 g2 g3 g4 g5 g6 q1 q2 q3 q4 q5 q6 HC4 HC5 HC6 HC7 HR4 HR5 HR6 HR7 HCw HRw hHeld HK
    generalize ((((((W.setCell ⟨w.heap.size + 1, 0, none⟩ (.int .i64 (bI H b))).setCell ⟨w.heap.size + 2, 0, none⟩ (.bool (bK H b).e)).setCell ⟨w.heap.size + 2, 1, none⟩ (.int .u64 (bK H b).d)).setCell ⟨w.heap.size + 2, 2, none⟩ (.int .u8 (bK H b).l)).setCell ⟨w.heap.size + 3, 0, none⟩ (.int .i64 (bA b))).setCell ⟨w.heap.size + 4, 0, none⟩ (.bool b.isSome)).drew = Wc at *
    have hDn : w.heap.size + 9 ≤ D := by omega
    have hP := BC.kept HBC.out (grownBy_putObj' Wc D (.deferred none)) (fun r e => by cases e; exact ⟨_, hK, rfl⟩)
    obtain ⟨_, g1, ⟨g2, g3, g4⟩, g5, g6, _⟩ := BC.cells hP
    simp only [NoPanic]
    go_wp2
    gi_wp2
    try simp only [Exit.noGoto]
    refine ⟨by simp, .inl ⟨_, _, rfl, run_takeDeferred hK, ?_⟩⟩
    refine ⟨_, ?_, rfl, ?_⟩
    · simp [results, Try.f17, go_sem, g1, g2, g3, g4, g5, g6, HBE.out]
    · exact (HBEL.out.trans HRW.out.be).trans (belowK_b (w := w) (Nat.le_refl _) Wc D _ _ (by omega) hK rfl rfl)
theorem pbest_ok (h : IsP w base lo pb mb n np q (.slice (some ⟨g, 0, none⟩) (np + 1) cap) H) (p d : Nat) (hp : p < np) (hd : d < 18446744073709551616) :
    Calls Try.prog 17 #[.pointer (some ⟨pb, 0, none⟩), .int .i64 (p : Int), .int .u64 (d : Int)] w fun e w' => e = .returned (.tuple #[.int .i64 (bI H (bst H (ords np p d))), .agg #[.bool (bK H (bst H (ords np p d))).e, .int .u64 (bK H (bst H (ords np p d))).d, .int .u8 (bK H (bst H (ords np p d))).l], .int .i64 (bA (bst H (ords np p d))), .bool (bst H (ords np p d)).isSome]) ∧ Below w.heap.size w w' :=
  callsIn_wide.1 (pbest_in h p d hp hd)
end
end Go.Proofs.Ytlfejgjhamcahaa
