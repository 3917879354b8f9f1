/-
  cbs: Refill walked: the due ones are filled, and their numbers are answered.
-/
import Derived.Test.YtblickncecpajaaC15
namespace Go.Proofs.Ytblickncecpajaa
open Go.RowKit Go.Lib Go.Shelf
set_option linter.unusedVariables false
attribute [local go_sem] Oper.semAt_some

def noDefer (ops : Array Oper) : Bool := ops.all fun o => match o.op with
  | .defer _ => false
  | _ => true
theorem noDefer_at {ops : Array Oper} (h : noDefer ops = true) {i : Nat} {o : Oper} (ho : ops[i]? = some o) : ∀ c, o.op ≠ .defer c := by
  intro c e
  unfold noDefer at h
  rw [Array.all_eq_true'] at h
  have := h o (Array.mem_of_getElem? ho)
  rw [e] at this
  exact absurd this (by simp)
theorem oper_round {P : Program} {o : Oper} {a : Act} {w : World} {K : Act → World → Prop} {Q : Exit → Act → World → Prop} {l n : Nat} (hd : ∀ c, o.op ≠ .defer c) (h : o.wp P a w K Q) : o.wpIn (Fence.wide.inRound l) n P a w K Q := by
  refine ⟨fun _ _ => trivial, ?_⟩
  rw [Oper.semAt_eq _ _ _ hd]
  unfold Oper.wp at h
  revert h
  generalize (execOp a.eval o).run P w = r
  intro h
  match r, h with
  | .ok (.value _) _, h => exact h
  | .ok .skip _, h => exact h
  | .ok (.defer _) _, h => exact h
  | .ok (.enter f args) w', h => exact ⟨fun q => absurd q (by simp [Fence.inRound, Fence.wide]), CallsIn.inRound l (callsIn_wide.2 h)⟩
  | .ok (.row row args) w', h =>
    refine ⟨fun q => absurd q (by simp [Fence.inRound, Fence.wide]), fun c cs _ => ?_⟩
    obtain ⟨v, w'', r1, s⟩ := h c cs
    exact ⟨v, w'', r1, stepsIn_wide.2 s⟩
  | .halt (.panic _) _, h => exact h
theorem any_round {P : Program} {md : Region.Mode} {ops : Array Oper} {Q : Exit → Act → World → Prop} {l n : Nat} (hd : noDefer ops = true) (hlo : ¬ LetsOut Q) : ∀ (fuel : Nat) (listed : Array Bool) (a : Act) (w : World), wpAny P md ops Q fuel listed a w → wpAnyIn (Fence.wide.inRound l) n P md ops Q fuel listed a w
  | 0, _, _, _, h => h
  | fuel + 1, _, a, w, h => ⟨h.1, fun i hi => by
    have h2 := h.2 i hi
    unfold wpOp at h2
    unfold wpOpIn
    cases ho : ops[i]? with
    | none => rw [ho] at h2; exact any_round hd hlo fuel _ _ _ h2
    | some o =>
      rw [ho] at h2
      dsimp only at h2 ⊢
      by_cases hw : Region.wanted o (yielded ops a.tmps) = true
      · rw [if_pos hw] at h2 ⊢
        rcases h2 with h2 | h2
        · exact oper_round (noDefer_at hd ho) (Oper.wp_mono (fun a w q => any_round hd hlo fuel _ a w q) h2)
        · exact absurd h2.2 hlo
      · rw [if_neg hw] at h2 ⊢
        exact ⟨fun _ _ => trivial, any_round hd hlo fuel _ _ _ h2⟩⟩
theorem region_round {P : Program} {id : Nat} {ops : Array Oper} {Q : Exit → Act → World → Prop} {l n : Nat} {a : Act} {w : World} (S : World → Prop) (hm : P.follows .mixedOrders = true) (hd : noDefer ops = true) (hlo : ¬ LetsOut Q) (hS : S w.drew)
    (h : S w.drew → wpAnyH P .any ops Q S ops.size (Array.replicate ops.size false) a w.drew) : (Code.region id ops true).wpIn (Fence.wide.inRound l) n P Q a w :=
  wpIn_region_any hm (any_round hd hlo _ _ _ _ (wpAny_of_held _ _ _ _ (h hS)))

theorem due_fn (nn s now : Nat) (w : World) : CallsIn Fence.wide nn Try.prog 40 #[.pointer (some ⟨s, 0, none⟩), .int .u64 (now : Int)] w fun e w' => e = .returned (.func (.func 50) #[] #[.pointer (some ⟨w.heap.size, 0, none⟩), .pointer (some ⟨w.heap.size + 1, 0, none⟩)]) ∧ w' = (w.alloc (.cells #[.pointer (some ⟨s, 0, none⟩)] 23)).alloc (.cells #[.int .u64 (now : Int)] 31) := by
  refine callsIn_wide.2 ?_
  go_enter Try.func40, Try.ntmps40
  go_wp2
  go_ret
  exact ⟨by simp, rfl⟩

theorem infoInt : (Try.prog.info? 3).map (fun i => (i.zero, i.size, i.bytes)) = some (some (.int .i64 0), 1, 8) := by kernel_rfl
theorem cell_one_new (w : World) (v : Value) (t : TypeId) : ∀ j u, [v][j]? = some u → (w.alloc (.cells #[v] t)).cell? ((⟨w.heap.size, 0, none⟩ : Addr).add j) = some u := by
  intro j u hu
  have hadd : (⟨w.heap.size, 0, none⟩ : Addr).add j = ⟨w.heap.size, j, none⟩ := by unfold Addr.add; split <;> simp_all
  rw [hadd]
  unfold World.cell?
  simp only [(MapKept.heap_alloc w _).1]
  simpa using hu
theorem keeps_below {W W' : World} (hb : Below W.heap.size W W') : KeepsOthers W W' := ⟨hb.size, fun k o hk _ => (hb.block k (Array.getElem?_eq_some_iff.1 hk).1).trans hk⟩
/-- Refill on its way: the servers, five boxes, the list of numbers. -/
structure Rf (w W : World) (base s P : Nat) (v : Value) (now q0 q1 q2 q3 q4 n5 : Nat) (M : List Srv) (xs : List Nat) (lv : Value) : Prop where
  pep : Pep W base s P v M
  b0 : Boxed W q0 23 (.pointer (some ⟨s, 0, none⟩))
  b1 : Boxed W q1 31 (.int .u64 (now : Int))
  b2 : Boxed W q2 40 lv
  b3 : Boxed W q3 23 (.pointer (some ⟨s, 0, none⟩))
  b4 : Boxed W q4 31 (.int .u64 (now : Int))
  row : W.ownsRow n5 3 1 lv xs.length (intsN xs)
  sz : n5 ≤ W.heap.size
  fr : Fr (fun b => some b = v.ownBlock) w W
section
variable {w W W' : World} {base s P : Nat} {v : Value} {now q0 q1 q2 q3 q4 n5 : Nat} {M : List Srv} {xs : List Nat} {lv : Value}
theorem Rf.below (h : Rf w W base s P v now q0 q1 q2 q3 q4 n5 M xs lv) (hb : Below W.heap.size W W') : Rf w W' base s P v now q0 q1 q2 q3 q4 n5 M xs lv :=
  ⟨h.pep.below hb, (hb.block _ h.b0.lt).trans h.b0, (hb.block _ h.b1.lt).trans h.b1, (hb.block _ h.b2.lt).trans h.b2, (hb.block _ h.b3.lt).trans h.b3, (hb.block _ h.b4.lt).trans h.b4, ownsRow_far h.row (fun b hk => hb.block b (ownsRow_blk h.row hk).2.1), Nat.le_trans h.sz hb.size, h.fr.trans (Fr.of_below' hb)⟩
theorem Rf.alloc (h : Rf w W base s P v now q0 q1 q2 q3 q4 n5 M xs lv) (o : Obj) : Rf w (W.alloc o) base s P v now q0 q1 q2 q3 q4 n5 M xs lv := h.below ((Below.refl _ _).alloc (Nat.le_refl _) _)
theorem boxed_put {W : World} {B l : Nat} {t : TypeId} {u : Value} {o o' : Obj} (h : Boxed W B t u) (hl : W.heap[l]? = some o) (ho : o.isCells = false) : Boxed (W.putObj l o') B t u := by
  refine (World.putObj_heap_other ?_).trans h
  rintro rfl
  rw [show W.heap[B]? = _ from h] at hl
  cases hl
  cases ho
theorem boxed_set {W : World} {B : Nat} {t : TypeId} {u : Value} (h : Boxed W B t u) {a : Addr} (hne : B ≠ a.block) (x : Value) : Boxed (W.setCell a x) B t u := (Below.heap_setCell _ _ _ _ hne).trans h
theorem Rf.put (h : Rf w W base s P v now q0 q1 q2 q3 q4 n5 M xs lv) (hw : w.heap.size ≤ n5) {l : Nat} {o : Obj} (o' : Obj) (hn : n5 ≤ l) (hl : W.heap[l]? = some o) (ho : o.isCells = false) : Rf w (W.putObj l o') base s P v now q0 q1 q2 q3 q4 n5 M xs lv := by
  have hne : ∀ {b : Nat} {c : Array Value} {t : TypeId} {z : Nat × Nat}, W.heap[b]? = some (.cells c t z) → (W.putObj l o').heap[b]? = W.heap[b]? := fun {b c t z} hb => World.putObj_heap_other (by
    rintro rfl
    rw [hb] at hl
    cases hl
    cases ho)
  refine ⟨h.pep.kept (by simp) (hne h.pep.blk) (fun b hb => ?_), boxed_put h.b0 hl ho, boxed_put h.b1 hl ho, boxed_put h.b2 hl ho, boxed_put h.b3 hl ho, boxed_put h.b4 hl ho, ownsRow_far h.row (fun b hb => ?_), by simpa using h.sz, ?_⟩
  · obtain ⟨_, _, cur, hc⟩ := ownsRow_blk h.pep.own hb
    exact hne hc
  · obtain ⟨_, _, cur, hc⟩ := ownsRow_blk h.row hb
    exact hne hc
  · exact ⟨h.fr.os, h.fr.tape, h.fr.output, by simpa using h.fr.size, fun b hb hS => (World.putObj_heap_other (by omega)).trans (h.fr.block b hb hS)⟩
/-- A server anew. -/
theorem Rf.fill (h : Rf w W base s P v now q0 q1 q2 q3 q4 n5 M xs lv) {g cap k : Nat} (hv : v = .slice (some ⟨g, 0, none⟩) M.length cap) (hk : k < M.length) (x : Srv) (hx : x.ok) (hg : g < w.heap.size) (hq : w.heap.size ≤ q0 ∧ w.heap.size ≤ q1 ∧ w.heap.size ≤ q2 ∧ w.heap.size ≤ q3 ∧ w.heap.size ≤ q4) (hw : w.heap.size ≤ n5) :
    Rf w ((((W.setCell ⟨g, k * 4, none⟩ (.int .u64 (x.b : Int))).setCell ⟨g, k * 4 + 1, none⟩ (.int .u64 (x.p : Int))).setCell ⟨g, k * 4 + 2, none⟩ (.int .u64 (x.l : Int))).setCell ⟨g, k * 4 + 3, none⟩ (.int .u64 (x.d : Int))) base s P v now q0 q1 q2 q3 q4 n5 (M.set k x) xs lv := by
  obtain ⟨h0, h1, h2, h3, h4⟩ := hq
  have bs : ∀ {B : Nat} {t : TypeId} {u : Value} (u0 u1 u2 u3 : Value), w.heap.size ≤ B → Boxed W B t u → Boxed ((((W.setCell ⟨g, k * 4, none⟩ u0).setCell ⟨g, k * 4 + 1, none⟩ u1).setCell ⟨g, k * 4 + 2, none⟩ u2).setCell ⟨g, k * 4 + 3, none⟩ u3) B t u :=
    fun u0 u1 u2 u3 hB hb => boxed_set (boxed_set (boxed_set (boxed_set hb (by simp; omega) _) (by simp; omega) _) (by simp; omega) _) (by simp; omega) _
  refine ⟨h.pep.put hv hk x hx, bs _ _ _ _ h0 h.b0, bs _ _ _ _ h1 h.b1, bs _ _ _ _ h2 h.b2, bs _ _ _ _ h3 h.b3, bs _ _ _ _ h4 h.b4, ?_, by simpa using h.sz, ?_⟩
  · exact ownsRow_setCell_below (ownsRow_setCell_below (ownsRow_setCell_below (ownsRow_setCell_below h.row (by simp; omega) _) (by simp; omega) _) (by simp; omega) _) (by simp; omega) _
  · exact (((h.fr.setCell (a := ⟨g, k * 4, none⟩) (by rw [hv]; rfl) _).setCell (a := ⟨g, k * 4 + 1, none⟩) (by rw [hv]; rfl) _).setCell (a := ⟨g, k * 4 + 2, none⟩) (by rw [hv]; rfl) _).setCell (a := ⟨g, k * 4 + 3, none⟩) (by rw [hv]; rfl) _
/-- One number more. -/
theorem Rf.more (h : Rf w W base s P v now q0 q1 q2 q3 q4 n5 M xs lv) {w1 : World} {k : Nat} {v' : Value} {tmp : Obj} (hs : s < w.heap.size) (hg : ∀ b, v.ownBlock = some b → b < w.heap.size)
    (hq : w.heap.size ≤ q0 ∧ w.heap.size ≤ q1 ∧ w.heap.size ≤ q2 ∧ w.heap.size ≤ q3 ∧ w.heap.size ≤ q4) (hq5 : q0 < n5 ∧ q1 < n5 ∧ q2 < n5 ∧ q3 < n5 ∧ q4 < n5) (hne : q0 ≠ q2 ∧ q1 ≠ q2 ∧ q3 ≠ q2 ∧ q4 ≠ q2)
    (hown : w1.ownsRow n5 3 1 v' (xs.length + 1) (intsN xs ++ [.int .i64 (k : Int)])) (hgrow : (W.alloc tmp).grownBy w1 lv.ownBlock) :
    Boxed w1 q2 40 lv ∧ Rf w (w1.setCell ⟨q2, 0, none⟩ v') base s P v now q0 q1 q2 q3 q4 n5 M (xs ++ [k]) v' ∧ KeepsOthers W (w1.setCell ⟨q2, 0, none⟩ v') := by
  obtain ⟨h0, h1, h2, h3, h4⟩ := hq
  obtain ⟨p0, p1, p2, p3, p4⟩ := hq5
  obtain ⟨e0, e1, e3, e4⟩ := hne
  have hb : Below n5 W w1 := ((Below.refl n5 W).alloc h.sz tmp).grown hgrow (by have := h.sz; simp; omega) (fun j ej => (h.row.lt j ej).1)
  have hs5 := Nat.le_trans h.sz hb.size
  have bx : ∀ {B : Nat} {t : TypeId} {u : Value}, B < n5 → Boxed W B t u → Boxed w1 B t u := fun hB hx => (hb.block _ hB).trans hx
  have hpw : Pep w1 base s P v M := h.pep.kept hb.size (hb.block s (by omega)) (fun b hk => hb.block b (by have := hg b hk; omega))
  refine ⟨bx p2 h.b2, ⟨hpw.kept (by simp) (Below.heap_setCell _ _ _ _ (by simp; omega)) (fun b hk => Below.heap_setCell _ _ _ _ (by have := hg b hk; simp; omega)), boxed_set (bx p0 h.b0) e0 _, boxed_set (bx p1 h.b1) e1 _, (bx p2 h.b2).set v', boxed_set (bx p3 h.b3) e3 _, boxed_set (bx p4 h.b4) e4 _, ?_, by simpa using hs5, ?_⟩, ?_⟩
  · have : intsN (xs ++ [k]) = intsN xs ++ [.int .i64 (k : Int)] := by simp [intsN]
    rw [this, List.length_append]
    exact ownsRow_setCell_below hown p2 _
  · have hf : Fr (fun b => some b = v.ownBlock) w w1 := ⟨hb.os.trans h.fr.os, hb.tape.trans h.fr.tape, hb.output.trans h.fr.output, Nat.le_trans h.fr.size hb.size, fun b hbw hS => (hb.block b (by omega)).trans (h.fr.block b hbw hS)⟩
    exact ⟨hf.os, hf.tape, hf.output, by simpa using hf.size, fun b hbw hS => (Below.heap_setCell _ _ _ _ (by simp; omega)).trans (hf.block b hbw hS)⟩
  · refine ((KeepsOthers.alloc W tmp).trans (KeepsOthers.of_grownBy hgrow fun j o ej hj => ?_)).trans (KeepsOthers.setCell _ _ _)
    obtain ⟨_, _, cur, hc⟩ := ownsRow_blk (h.row.alloc tmp) ej
    rw [hc] at hj
    cases hj
    rfl
end
set_option maxRecDepth 100000 in
set_option maxHeartbeats 4000000 in
theorem refill_in {w : World} {base s P : Nat} {v : Value} {L : List Srv} (h : Pep w base s P v L) (now : Nat) (hn : now < 18446744073709551616) :
    CallsIn Fence.wide 4 Try.prog 16 #[.pointer (some ⟨s, 0, none⟩), .int .u64 (now : Int)] w fun e w' => ∃ lv, e = .returned lv ∧ w'.ownsRow w.heap.size 3 1 lv (dueN L now L.length).length (intsN (dueN L now L.length)) ∧ Pep w' base s P v (L.map (refS now)) ∧ Fr (fun b => some b = v.ownBlock) w w' := by
  obtain ⟨i0, hi, hz0, hz1, hz2⟩ := info_parts infoInt
  obtain ⟨a, cap, hv, hc1, hc2⟩ := h.form
  have hlen := h.f.len
  have hs := h.lt
  have hvw : ∀ b, v.ownBlock = some b → b < w.heap.size := fun b hb => (ownsRow_blk h.own hb).2.1
  refine callsIn_of_wp_marks Try.func16 rfl trivial ?_ rfl
  simp only [Try.ntmps16, List.size_toArray, List.length_cons, List.length_nil, Nat.reduceAdd, Nat.reduceSub, Array.replicate_succ, Array.replicate_zero, List.push_toArray, List.append_toArray, List.nil_append, List.cons_append]
  gi_wp2_with (refine ⟨trivial, ?_⟩; gi_at_call 40; refine (due_fn _ s now _).mono ?_; rintro e w' ⟨rfl, rfl⟩)
  obtain ⟨W0, hW0⟩ : ∃ W0, (((((w.alloc (.cells #[.pointer (some ⟨s, 0, none⟩)] 23)).alloc (.cells #[.int .u64 (now : Int)] 31)).alloc (.cells #[.slice none 0 0] 40)).alloc (.cells #[.pointer (some ⟨s, 0, none⟩)] 23)).alloc (.cells #[.int .u64 (now : Int)] 31)) = W0 := ⟨_, rfl⟩
  have hR0 : Rf w W0 base s P v now w.heap.size (w.heap.size + 1) (w.heap.size + 1 + 1) (w.heap.size + 1 + 1 + 1) (w.heap.size + 1 + 1 + 1 + 1) W0.heap.size (fillN L now 0) (dueN L now 0) (.slice none 0 0) := by
    have hbw : Below w.heap.size w W0 := by rw [← hW0]; exact (((((Below.refl _ w).alloc (Nat.le_refl _) _).alloc (by simp) _).alloc (by simp; omega) _).alloc (by simp; omega) _).alloc (by simp; omega) _
    have x0 := Boxed.new w 23 (.pointer (some ⟨s, 0, none⟩))
    have x1 := Boxed.new (w.alloc (.cells #[.pointer (some ⟨s, 0, none⟩)] 23)) 31 (.int .u64 (now : Int))
    have x2 := Boxed.new ((w.alloc (.cells #[.pointer (some ⟨s, 0, none⟩)] 23)).alloc (.cells #[.int .u64 (now : Int)] 31)) 40 (.slice none 0 0)
    have x3 := Boxed.new (((w.alloc (.cells #[.pointer (some ⟨s, 0, none⟩)] 23)).alloc (.cells #[.int .u64 (now : Int)] 31)).alloc (.cells #[.slice none 0 0] 40)) 23 (.pointer (some ⟨s, 0, none⟩))
    have x4 := Boxed.new ((((w.alloc (.cells #[.pointer (some ⟨s, 0, none⟩)] 23)).alloc (.cells #[.int .u64 (now : Int)] 31)).alloc (.cells #[.slice none 0 0] 40)).alloc (.cells #[.pointer (some ⟨s, 0, none⟩)] 23)) 31 (.int .u64 (now : Int))
    simp only [World.size_alloc] at x1 x2 x3 x4
    rw [fillN_zero L now |>.symm] at h
    refine ⟨h.below hbw, ?_, ?_, ?_, ?_, ?_, World.ownsRow_nil _ _ _ _, Nat.le_refl _, Fr.of_below' hbw⟩
    · rw [← hW0]; exact (((x0.alloc _).alloc _).alloc _).alloc _
    · rw [← hW0]; exact ((x1.alloc _).alloc _).alloc _
    · rw [← hW0]; exact (x2.alloc _).alloc _
    · rw [← hW0]; exact x3.alloc _
    · rw [← hW0]; exact x4
  have hs0 : W0.heap.size = w.heap.size + 1 + 1 + 1 + 1 + 1 := by rw [← hW0]; simp
  rw [hW0]
  refine range_places (gf := 50) (lb := #[.pointer (some ⟨w.heap.size + 1 + 1 + 1, 0, none⟩), .pointer (some ⟨w.heap.size + 1 + 1 + 1 + 1, 0, none⟩)]) rfl (enters_of Try.func50 (by kernel_rfl) rfl)
    (fun k W => ∃ lv, Rf w W base s P v now w.heap.size (w.heap.size + 1) (w.heap.size + 1 + 1) (w.heap.size + 1 + 1 + 1) (w.heap.size + 1 + 1 + 1 + 1) W0.heap.size (fillN L now k) (dueN L now k) lv)
    (fun k => ∃ x, L[k]? = some x ∧ dueB now x = false) (fun k => ∃ x, L[k]? = some x ∧ dueB now x = true) (fun k => .int .i64 (k : Int)) L.length
    (fun k => { tmps := #[.pointer (some ⟨s, 0, none⟩), .int .u64 (now : Int), .pointer (some ⟨w.heap.size, 0, none⟩), .pointer (some ⟨w.heap.size + 1, 0, none⟩), .slice none 0 0, .pointer (some ⟨w.heap.size + 1 + 1, 0, none⟩), .int .i64 (k : Int), .pointer (some ⟨s, 0, none⟩), .bool false, .pointer (some ⟨s, 0, none⟩), .int .u64 (now : Int), .func (.func 50) #[] #[.pointer (some ⟨w.heap.size + 1 + 1 + 1, 0, none⟩), .pointer (some ⟨w.heap.size + 1 + 1 + 1 + 1, 0, none⟩)], .int .i64 (k : Int), undef, undef, undef, undef, undef, undef, undef, undef, undef, undef, undef, undef, undef, undef, undef, undef, undef, undef, undef, undef], defers := [] })
    (fun k W o ⟨lv, hh⟩ => ⟨lv, hh.alloc o⟩) (fun k W l o o' hl ho hc ⟨lv, hh⟩ => ⟨lv, hh.put (by omega) o' hl ho hc⟩) ?no ⟨_, hR0⟩ ?iter ?assign ?body ?done
  case no =>
    rintro k W ⟨x, hx, hd⟩ ⟨lv, hh⟩
    refine ⟨lv, ?_⟩
    have e1 := fillN_no hx hd
    have e2 := dueN_no hx hd
    exact ⟨by rw [e1]; exact hh.pep, hh.b0, hh.b1, hh.b2, hh.b3, hh.b4, by rw [e2]; exact hh.row, hh.sz, hh.fr⟩
  case iter =>
    intro l J' W hJ hA hN hY h0
    obtain ⟨lv0, hh0⟩ := hJ 0 W h0
    refine due_in 3 (by decide) l (w.heap.size + 1 + 1 + 1) (w.heap.size + 1 + 1 + 1 + 1) s cap now a L hlen J' hA (fun k W hk => ?_) (fun k x W hx hd hk => hN k W ⟨x, hx, hd⟩ hk) (fun k x W hx hd hk => hY k W ⟨x, hx, hd⟩ hk) W (by rw [← hv]; exact hh0.pep.c1) h0
    obtain ⟨lv, hh⟩ := hJ k W hk
    refine ⟨hh.b3, hh.b4, fun i x hki hx => ?_⟩
    have hil : i < L.length := (List.getElem?_eq_some_iff.1 hx).1
    obtain ⟨g, cap', hv', _, _, _, _, _, hcs⟩ := hh.pep.cells (by rw [fillN_len]; omega)
    rw [hv] at hv'
    simp at hv'
    exact ⟨g, hv'.1, hcs i x (by rw [fillN_at hki (by omega)]; exact hx)⟩
  case assign =>
    intro l k W K hK
    gi_wp2
    simpa using hK
  case body =>
    rintro l k W ⟨x, hx, hd⟩ ⟨lv, hh⟩
    have hkl : k < L.length := (List.getElem?_eq_some_iff.1 hx).1
    have hxM : (fillN L now k)[k]? = some x := by rw [fillN_at (Nat.le_refl _) (by omega)]; exact hx
    have hok : x.ok := hh.pep.f.all x (List.mem_of_getElem? hxM)
    have hlM : (fillN L now k).length = L.length := fillN_len L now k
    obtain ⟨g, cap', hv', _, _, hgW, hgs, hfz, hcs⟩ := hh.pep.cells (by omega)
    obtain ⟨y0, y1, y2, y3⟩ := hcs k x hxM
    have hgw : g < w.heap.size := hvw g (by rw [hv']; rfl)
    have c1 := hh.pep.c1
    have HV := veil hv'
    rw [hv'] at c1
    have hkl' : (k : Int) < ((fillN L now k).length : Int) := by omega
    generalize hMM : fillN L now k = M at *
    have a0 := hh.b0.cell
    have a1 := hh.b1.cell
    have HFL := veil (fun w => filled_ok w x now hok hn)
    have HH := veil hh
    have HX := veil (fill_ok hok now)
    have HKM : Hid (k < M.length) := by unfold Hid; omega
    have HLM := veil hlM
    have HMM := veil hMM
    have HXL := veil hx
    have HD := veil hd
    clear hh hcs hfz hok hlM hMM hd hx hc1 hc2 hv' hv hR0 hW0 h hkl
    gi_wp2
    refine region_round (fun w' => w'.cell? ⟨w.heap.size, 0, none⟩ = some (.pointer (some ⟨s, 0, none⟩)) ∧ w'.cell? ⟨w.heap.size + 1, 0, none⟩ = some (.int .u64 (now : Int)) ∧ w'.cell? ⟨s, 1, none⟩ = some (.slice (some ⟨g, 0, none⟩) M.length cap')) (by kernel_rfl) (by kernel_rfl) (by rintro ⟨a, w, h⟩; exact absurd (show Exit.outgrown = Exit.normal from h.1) (by simp)) ⟨a0, a1, c1⟩ (fun hHeld => ?_)
    refine wpAnyH_take (i := 0) (v := ?_) rfl (by kernel_rfl) (by kernel_rfl) (by kernel_rfl) (fun _ _ _ h => h) (Or.inl ⟨by rfl, ?v0⟩) (by assumption) ?_
    case v0 => (intro w hSw; (try dsimp only at hSw); go_simp; try with_reducible rfl)
    try simp only [Act.put, List.setIfInBounds_toArray, List.set_cons_zero, List.set_cons_succ, List.getElem_toArray, List.getElem_cons_zero]
    refine wpAnyH_take (i := 1) (v := ?_) rfl (by kernel_rfl) (by kernel_rfl) (by kernel_rfl) (fun _ _ _ h => h) (Or.inl ⟨by rfl, ?v1⟩) (by assumption) ?_
    case v1 => (intro w hSw; (try dsimp only at hSw); go_simp; try with_reducible rfl)
    try simp only [Act.put, List.setIfInBounds_toArray, List.set_cons_zero, List.set_cons_succ, List.getElem_toArray, List.getElem_cons_succ, List.getElem_cons_zero]
    refine wpAnyH_take (i := 2) (v := ?_) rfl (by kernel_rfl) (by kernel_rfl) (by kernel_rfl) (fun _ _ _ h => h) (Or.inl ⟨by rfl, ?v2⟩) (by assumption) ?_
    case v2 => (intro w hSw; (try dsimp only at hSw); go_simp; try with_reducible rfl)
    try simp only [Act.put, List.setIfInBounds_toArray, List.set_cons_zero, List.set_cons_succ, List.getElem_toArray, List.getElem_cons_succ, List.getElem_cons_zero]
    refine wpAnyH_take (i := 3) (v := ?_) rfl (by kernel_rfl) (by kernel_rfl) (by kernel_rfl) (fun _ _ _ h => h) (Or.inl ⟨by rfl, ?v3⟩) (by assumption) ?_
    case v3 => (intro w hSw; (try dsimp only at hSw); go_simp; try with_reducible rfl)
    try simp only [Act.put, List.setIfInBounds_toArray, List.set_cons_zero, List.set_cons_succ, List.getElem_toArray, List.getElem_cons_succ, List.getElem_cons_zero]
    refine wpAnyH_take (i := 4) (v := ?_) rfl (by kernel_rfl) (by kernel_rfl) (by kernel_rfl) (fun _ _ _ h => h) (Or.inl ⟨by rfl, ?v4⟩) (by assumption) ?_
    case v4 => (intro w hSw; (try dsimp only at hSw); go_simp; try with_reducible rfl)
    try simp only [Act.put, List.setIfInBounds_toArray, List.set_cons_zero, List.set_cons_succ, List.getElem_toArray, List.getElem_cons_succ, List.getElem_cons_zero]
    refine wpAnyH_take (i := 5) (v := ?_) rfl (by kernel_rfl) (by kernel_rfl) (by kernel_rfl) (fun _ _ _ h => h) (Or.inl ⟨by rfl, ?v5⟩) (by assumption) ?_
    case v5 => (intro w hSw; (try dsimp only at hSw); go_simp; try with_reducible rfl)
    try simp only [Act.put, List.setIfInBounds_toArray, List.set_cons_zero, List.set_cons_succ, List.getElem_toArray, List.getElem_cons_succ, List.getElem_cons_zero]
    refine wpAnyH_take (i := 6) (v := ?_) rfl (by kernel_rfl) (by kernel_rfl) (by kernel_rfl) (fun _ _ _ h => h) (Or.inl ⟨by rfl, ?v6⟩) (by assumption) ?_
    case v6 => (intro w hSw; (try dsimp only at hSw); go_simp; try with_reducible rfl)
    try simp only [Act.put, List.setIfInBounds_toArray, List.set_cons_zero, List.set_cons_succ, List.getElem_toArray, List.getElem_cons_succ, List.getElem_cons_zero]
    refine wpAnyH_take (i := 7) (v := ?_) rfl (by kernel_rfl) (by kernel_rfl) (by kernel_rfl) (fun _ _ _ h => h) (Or.inl ⟨by rfl, ?v7⟩) (by assumption) ?_
    case v7 => (intro w hSw; (try dsimp only at hSw); go_simp; try with_reducible rfl)
    try simp only [Act.put, List.setIfInBounds_toArray, List.set_cons_zero, List.set_cons_succ, List.getElem_toArray, List.getElem_cons_succ, List.getElem_cons_zero]
    refine wpAnyH_take (i := 8) (v := ?_) rfl (by kernel_rfl) (by kernel_rfl) (by kernel_rfl) (fun _ _ _ h => h) (Or.inl ⟨by rfl, ?v8⟩) (by assumption) ?_
    case v8 => (intro w hSw; (try dsimp only at hSw); go_simp; try with_reducible rfl)
    try simp only [Act.put, List.setIfInBounds_toArray, List.set_cons_zero, List.set_cons_succ, List.getElem_toArray, List.getElem_cons_succ, List.getElem_cons_zero]
    refine wpAnyH_take (i := 9) (v := ?_) rfl (by kernel_rfl) (by kernel_rfl) (by kernel_rfl) (fun _ _ _ h => h) (Or.inl ⟨by rfl, ?v9⟩) (by assumption) ?_
    case v9 => (intro w hSw; (try dsimp only at hSw); go_simp; try with_reducible rfl)
    try simp only [Act.put, List.setIfInBounds_toArray, List.set_cons_zero, List.set_cons_succ, List.getElem_toArray, List.getElem_cons_succ, List.getElem_cons_zero]
    refine wpAnyH_take (i := 10) (v := ?_) rfl (by kernel_rfl) (by kernel_rfl) (by kernel_rfl) (fun _ _ _ h => h) (Or.inl ⟨by rfl, ?v10⟩) (by assumption) ?_
    case v10 => (intro w hSw; (try dsimp only at hSw); go_simp; try with_reducible rfl)
    try simp only [Act.put, List.setIfInBounds_toArray, List.set_cons_zero, List.set_cons_succ, List.getElem_toArray, List.getElem_cons_succ, List.getElem_cons_zero]
    refine wpAnyH_take (i := 12) (v := ?_) rfl (by kernel_rfl) (by kernel_rfl) (by kernel_rfl) (fun _ _ _ h => h) (Or.inl ⟨by rfl, ?v12⟩) (by assumption) ?_
    case v12 => (intro w hSw; (try dsimp only at hSw); go_simp; try with_reducible rfl)
    try simp only [Act.put, List.setIfInBounds_toArray, List.set_cons_zero, List.set_cons_succ, List.getElem_toArray, List.getElem_cons_succ, List.getElem_cons_zero]
    refine wpAnyH_ready (rs := [11]) (by kernel_rfl) (by simp) ?_
    refine AllReadyH.cons rfl (fun K hK => ?_) AllReadyH.nil
    go_simp
    refine hK.out _ _ ?_ (fun hHeld => ?_)
    · exact hHeld
    clear hK K
    try simp only [Act.put, List.setIfInBounds_toArray, List.set_cons_zero, List.set_cons_succ, List.getElem_toArray, List.getElem_cons_succ, List.getElem_cons_zero]
    refine wpAnyH_ready (rs := [13]) (by kernel_rfl) (by simp) ?_
    refine AllReadyH.cons rfl (fun K hK => ?_) AllReadyH.nil
    go_simp
    refine (HFL.out _).mono ?_
    rintro e w1 ⟨rfl, c', c2, hw⟩
    have hb : Below W.heap.size W w1 := by rw [hw]; exact ((((Below.refl _ W).drew).alloc (Nat.le_refl _) _).alloc (by simp) _).drew
    clear hw
    have HBW := veil hb
    have hh1 := HH.out.below hb
    have HH1 := veil hh1
    obtain ⟨g', cap'', hv2, _, _, _, _, hfz', hcs'⟩ := hh1.pep.cells (by have := HKM.out; omega)
    rw [HV.out] at hv2
    simp only [Value.slice.injEq, Option.some.injEq, Addr.mk.injEq, and_true, true_and] at hv2
    obtain ⟨rfl, rfl⟩ := hv2
    obtain ⟨y0', y1', y2', y3'⟩ := hcs' k x hxM
    have f0' := hfz' (k * 4)
    have f1' := hfz' (k * 4 + 1)
    have f2' := hfz' (k * 4 + 2)
    have f3' := hfz' (k * 4 + 3)
    clear hcs' hfz' hh1
    go_wp2_with fail
    refine hK.out _ _ ?_ (fun hHeld => ?_)
    · exact ⟨HH1.out.b0.cell, HH1.out.b1.cell, by have := HH1.out.pep.c1; rwa [HV.out] at this⟩
    clear hK K
    try simp only [Act.put, List.setIfInBounds_toArray, List.set_cons_zero, List.set_cons_succ, List.getElem_toArray, List.getElem_cons_succ, List.getElem_cons_zero]
    refine wpAnyH_take (i := 14) (v := ?_) rfl (by kernel_rfl) (by kernel_rfl) (by kernel_rfl) (fun _ _ _ h => h) (Or.inl ⟨by rfl, ?v14⟩) (by assumption) ?_
    case v14 => (intro w hSw; (try dsimp only at hSw); go_simp; try with_reducible rfl)
    try simp only [Act.put, List.setIfInBounds_toArray, List.set_cons_zero, List.set_cons_succ, List.getElem_toArray, List.getElem_cons_succ, List.getElem_cons_zero]
    refine wpAnyH_ready (rs := [15]) (by kernel_rfl) (by simp) ?_
    refine AllReadyH.cons rfl (fun K hK => ?_) AllReadyH.nil
    go_simp
    have hh2 := HH1.out.fill HV.out HKM.out (fillS x now) HX.out hgw ⟨Nat.le_refl _, by omega, by omega, by omega, by omega⟩ (by omega)
    refine hK.out _ _ ?_ (fun hHeld => ?_)
    · exact ⟨hh2.b0.cell, hh2.b1.cell, by have := hh2.pep.c1; rwa [HV.out] at this⟩
    clear hK K
    try simp only [Act.put, List.setIfInBounds_toArray, List.set_cons_zero, List.set_cons_succ, List.getElem_toArray, List.getElem_cons_succ, List.getElem_cons_zero]
    refine wpAnyH_done (by kernel_rfl) ?_ _
    skip
    have HH2 := veil hh2
    have hsz2 := hh2.sz
    have HK2 : Hid (KeepsOthers W ((((w1.setCell ⟨g, k * 4, none⟩ (.int .u64 ((fillS x now).b : Int))).setCell ⟨g, k * 4 + 1, none⟩ (.int .u64 ((fillS x now).p : Int))).setCell ⟨g, k * 4 + 2, none⟩ (.int .u64 ((fillS x now).l : Int))).setCell ⟨g, k * 4 + 3, none⟩ (.int .u64 ((fillS x now).d : Int)))) := ((((keeps_below HBW.out).trans (KeepsOthers.setCell _ _ _)).trans (KeepsOthers.setCell _ _ _)).trans (KeepsOthers.setCell _ _ _)).trans (KeepsOthers.setCell _ _ _)
    generalize (((w1.setCell ⟨g, k * 4, none⟩ (.int .u64 ((fillS x now).b : Int))).setCell ⟨g, k * 4 + 1, none⟩ (.int .u64 ((fillS x now).p : Int))).setCell ⟨g, k * 4 + 2, none⟩ (.int .u64 ((fillS x now).l : Int))).setCell ⟨g, k * 4 + 3, none⟩ (.int .u64 ((fillS x now).d : Int)) = W2 at HH2 hsz2 hh2 HK2 ⊢
    have r2 := hh2.b2.cell
    have hdl := dueN_len L now k
    have hk32 : k < 32 := by have := HKM.out; have := HLM.out; omega
    clear hh2 f0' f1' f2' f3' y0' y1' y2' y3'
    gi_wp2_with (gi_at_builtin; refine wpListIn_append_own _ rfl _ _ 40 rfl W0.heap.size 3 i0 (.int .i64 0) 1 8 Try.underlying40 hi hz0 hz1 hz2 rfl (by decide) _ _ _ rfl (HH2.out.row.alloc _) ⟨W2.heap.size, 0, none⟩ 1 1 [.int .i64 (k : Int)] rfl rfl (cell_one_new _ _ _) (by simp [Value.oneCell']) (by unfold maxLen; omega) (by omega) (by simp; omega) ?_; intro v' w3 hown hgrow _; obtain ⟨g9, cap9, rfl⟩ := ownsRow_succ hown; have hX := HH2.out.more hs hvw ⟨Nat.le_refl _, by omega, by omega, by omega, by omega⟩ ⟨by omega, by omega, by omega, by omega, by omega⟩ ⟨by omega, by omega, by omega, by omega⟩ hown hgrow; have HXX := veil hX; obtain ⟨hbx, _, _⟩ := hX; have hc1 := hbx.cell; have hf1 := hbx.frozen; clear hown hgrow hbx)
    refine ⟨(HK2.out.trans HXX.out.2.2).from _, ?_⟩
    have e1 := fillN_yes HXL.out HD.out
    have e2 := dueN_yes HXL.out HD.out
    have hz := HXX.out.2.1
    rw [← HMM.out] at hz
    rw [e1, e2]
    first | exact ⟨_, hz⟩ | (rw [hs0] at hz; exact ⟨_, hz⟩)
  case done =>
    rintro D W hD ⟨lv, hh⟩ hK
    have hc := hh.b2.cell
    gi_wp2
    have hh2 := hh.put (by omega) (.deferred none) hD hK rfl
    refine ⟨by simp, .inl ⟨_, _, rfl, run_takeDeferred hK, ?_⟩⟩
    refine ⟨_, results_tmp rfl _ _ _, lv, rfl, ?_, ?_, hh2.fr⟩
    · have := hh2.row
      rcases this.2 with e | ⟨g, cap, cur, e, hb, rest⟩
      · exact ⟨this.1, .inl e⟩
      · exact ⟨this.1, .inr ⟨g, cap, cur, e, by omega, rest⟩⟩
    · rw [← fillN_all]
      exact hh2.pep
theorem refill_ok {w : World} {base s P : Nat} {v : Value} {L : List Srv} (h : Pep w base s P v L) (now : Nat) (hn : now < 18446744073709551616) :
    Calls Try.prog 16 #[.pointer (some ⟨s, 0, none⟩), .int .u64 (now : Int)] w fun e w' => ∃ lv, e = .returned lv ∧ w'.ownsRow w.heap.size 3 1 lv (dueN L now L.length).length (intsN (dueN L now L.length)) ∧ Pep w' base s P v (L.map (refS now)) ∧ Fr (fun b => some b = v.ownBlock) w w' :=
  callsIn_wide.1 (refill_in h now hn)
end Go.Proofs.Ytblickncecpajaa
