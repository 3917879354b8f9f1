/-
  The walk of the document's set: put.
-/
import Derived.Test.YtlfejgjhamcahaaX2
namespace Go.Proofs.Ytlfejgjhamcahaa.Dc
open Go.RowKit Go.Lib
attribute [local go_sem ↓] Go.wp_at_zero Go.wp_at_succ

theorem put_at (x : En) : ∀ R : List En, ∃ J, J ≤ R.length ∧ (∀ j it, j < J → R[j]? = some it → Ke.up x.2 it.2 = false) ∧ (∀ it, R[J]? = some it → Ke.up x.2 it.2 = true) ∧ put x R = R.take J ++ x :: R.drop J
  | [] => ⟨0, by simp, by simp, by simp, rfl⟩
  | y :: R => by
    cases h : Ke.up x.2 y.2 with
    | true =>
      refine ⟨0, by simp, fun j it hj => by omega, fun it hit => ?_, by simp [put, h]⟩
      simp at hit
      rw [← hit]
      exact h
    | false =>
      obtain ⟨J, h1, h2, h3, h4⟩ := put_at x R
      refine ⟨J + 1, by simp; omega, fun j it hj hit => ?_, fun it hit => h3 it (by simpa using hit), by simp [put, h, h4]⟩
      cases j with
      | zero => simp at hit; rw [← hit]; exact h
      | succ j => exact h2 j it (by omega) (by simpa using hit)

theorem cell_fresh (w : World) (i : Nat) (c : Array Value) (t : TypeId) : (w.alloc (.cells c t)).cell? ⟨w.heap.size, i, none⟩ = c[i]? := by
  unfold World.cell?
  simp only [(MapKept.heap_alloc w (.cells c t)).1]
  rfl
/-- append of nothing at all, in a region that draws no order. -/
theorem wpList_append_none {P : Program} (w : World) {ops : Array Oper} {rest : List Oper} {o : Oper} {a : Act} {Q : Exit → Act → World → Prop} (hgd : o.guard = none) (s x : Operand) (t : TypeId)
    (ho : o.op = .call { callee := .builtin .append, args := #[s, x], argTypes := #[t, t] })
    (base : Nat) (e : TypeId) (i : TypeInfo) (size : Nat) (ht : P.underlying t = some (.slice e)) (hi : P.info? e = some i)
    (v : Value) (n : Nat) (xs : List Value) (hs : a.eval s = v) (hown : w.ownsRow base e size v n xs) (hx : a.eval x = .slice none 0 0)
    (h : wpList P ops Q rest (a.put o.dst v) w) : wpList P ops Q (o :: rest) a w := by
  refine wpList_plain hgd fun K hK => ?_
  have hr := run_append_owned_none (P := P) w base t o.type e i size ht hi v n xs hown
  unfold Oper.wp execOp
  simp only [ho, resolve, invoke, builtin, Sem.run_bind, Sem.run_pure, Result.andThen_ok, List.map_toArray, List.map_cons, List.map_nil, hs, hx, hr]
  exact hK _ _ h
theorem news_x (w : World) (x : En) : ∀ j u, ([.int .i64 (x.1 : Int), .bool x.2.e, .int .u64 x.2.d, .int .u8 x.2.l] : List Value)[j]? = some u → (w.alloc (.cells #[.int .i64 (x.1 : Int), .bool x.2.e, .int .u64 x.2.d, .int .u8 x.2.l] 112)).cell? ((⟨w.heap.size, 0, none⟩ : Addr).add j) = some u :=
  World.news_of_block (cs := #[.int .i64 (x.1 : Int), .bool x.2.e, .int .u64 x.2.d, .int .u8 x.2.l]) (t := 112) (fr := (0, 0)) (heap_alloc_new w _)
theorem news_grown {w w1 : World} (x : En) (hg : (w.alloc (.cells #[.int .i64 (x.1 : Int), .bool x.2.e, .int .u64 x.2.d, .int .u8 x.2.l] 112)).grownBy w1 (Value.ownBlock (.slice none 0 0))) : ∀ j u, ([.int .i64 (x.1 : Int), .bool x.2.e, .int .u64 x.2.d, .int .u8 x.2.l] : List Value)[j]? = some u → w1.cell? ((⟨w.heap.size, 0, none⟩ : Addr).add j) = some u := by
  intro j u hj
  have hadd : (⟨w.heap.size, 0, none⟩ : Addr).add j = ⟨w.heap.size, j, none⟩ := by unfold Addr.add; split <;> simp_all
  have := news_x w x j u hj
  rw [hadd] at this ⊢
  exact (hg.cell_far ⟨w.heap.size, j, none⟩ (by simp) (by simp [Value.ownBlock])).trans this
set_option maxHeartbeats 4000000 in
set_option maxRecDepth 100000 in
theorem rput_ok {w : World} {base rb n most : Nat} {v : Value} {R : List En} (h : IsR w base rb n most v R) (x : En) (hx : x.1 < n) (hno : ∀ y ∈ R, y.1 ≠ x.1) (hl : R.length < most) :
    Calls Try.prog 98 #[.pointer (some ⟨rb, 0, none⟩), .agg #[.int .i64 (x.1 : Int), .bool x.2.e, .int .u64 x.2.d, .int .u8 x.2.l]] w fun e w' => e = .returned (.tuple #[]) ∧ (∃ v', IsR w' base rb n most v' (put x R)) ∧ Fr (fun k => k = rb) w w' := by
  obtain ⟨i0, hi0, hz0, hz1, hz2⟩ := info_parts infoItem
  obtain ⟨a, cap, rfl, hcap, hcm⟩ := h.form
  have hform : (a = none ∧ R.length = 0 ∧ cap = 0) ∨ ∃ g, a = some ⟨g, 0, none⟩ := by
    rcases h.own.2 with ⟨e, e0⟩ | ⟨g, cap', cur, e, _⟩
    · injection e with q1 q2 q3
      exact .inl ⟨q1, e0, q3⟩
    · injection e with q1 q2 q3
      exact .inr ⟨g, q1⟩
  have hlen := h.len_le
  have hrb := h.lt
  obtain ⟨J, j1, j2, j3, j4⟩ := put_at x R
  have HJ2 := veil j2
  have HJ3 := veil j3
  have HJ4 := veil j4
  clear j2 j3 j4
  have HH := veil h
  have C1 : Hid (∀ wr : World, Below (w.heap.size + 1) (w.alloc (.cells #[.int .i64 (x.1 : Int), .bool x.2.e, .int .u64 x.2.d, .int .u8 x.2.l] 112)) wr → wr.cell? ⟨rb, 2, none⟩ = some (.slice a R.length cap) ∧ wr.frozen? ⟨rb, 2, none⟩ = false ∧ wr.cell? ⟨w.heap.size, 0, none⟩ = some (.int .i64 (x.1 : Int)) ∧ wr.cell? ⟨w.heap.size, 1, none⟩ = some (.bool x.2.e) ∧ wr.cell? ⟨w.heap.size, 2, none⟩ = some (.int .u64 x.2.d) ∧ wr.cell? ⟨w.heap.size, 3, none⟩ = some (.int .u8 x.2.l) ∧ Below w.heap.size w wr ∧ w.heap.size + 1 ≤ wr.heap.size) := by
    intro wr hb
    have hb0 : Below w.heap.size w wr := ((Below.refl _ _).alloc (Nat.le_refl _) _).trans (hb.mono (by omega))
    refine ⟨(hb0.cell (p := ⟨rb, 2, none⟩) hrb).trans h.c2, ?_, ?_, ?_, ?_, ?_, hb0, ?_⟩
    · rw [World.frozen?_of_block (a := ⟨rb, 2, none⟩) (hb0.block rb hrb)]
      unfold World.frozen?
      simp [h.blk]
    · rw [hb.cell (p := ⟨w.heap.size, 0, none⟩) (by simp), cell_fresh]; rfl
    · rw [hb.cell (p := ⟨w.heap.size, 1, none⟩) (by simp), cell_fresh]; rfl
    · rw [hb.cell (p := ⟨w.heap.size, 2, none⟩) (by simp), cell_fresh]; rfl
    · rw [hb.cell (p := ⟨w.heap.size, 3, none⟩) (by simp), cell_fresh]; rfl
    · have := hb.size
      simpa using this
  have C2 : Hid (∀ (wr : World) (j : Nat) (it : En), Below (w.heap.size + 1) (w.alloc (.cells #[.int .i64 (x.1 : Int), .bool x.2.e, .int .u64 x.2.d, .int .u8 x.2.l] 112)) wr → R[j]? = some it → ∃ g, a = some ⟨g, 0, none⟩ ∧ wr.cell? ⟨g, j * 4, none⟩ = some (.int .i64 (it.1 : Int)) ∧ wr.cell? ⟨g, j * 4 + 1, none⟩ = some (.bool it.2.e) ∧ wr.cell? ⟨g, j * 4 + 2, none⟩ = some (.int .u64 it.2.d) ∧ wr.cell? ⟨g, j * 4 + 3, none⟩ = some (.int .u8 it.2.l)) := by
    intro wr j it hb hj
    have hb0 : Below w.heap.size w wr := ((Below.refl _ _).alloc (Nat.le_refl _) _).trans (hb.mono (by omega))
    obtain ⟨g, cap', hv, h1, h2, h3, h4, h5⟩ := h.cells (by intro e; subst e; simp at hj)
    simp at hv
    obtain ⟨z1, z2, z3, z4⟩ := h5 j it hj
    exact ⟨g, hv.1, (hb0.cell (p := ⟨g, j * 4, none⟩) h3).trans z1, (hb0.cell (p := ⟨g, j * 4 + 1, none⟩) h3).trans z2, (hb0.cell (p := ⟨g, j * 4 + 2, none⟩) h3).trans z3, (hb0.cell (p := ⟨g, j * 4 + 3, none⟩) h3).trans z4⟩
  have HU := veil Try.underlying101
  have HFIN : Hid (∀ (W : World) (v3 : Value), Below (w.heap.size + 1) (w.alloc (.cells #[.int .i64 (x.1 : Int), .bool x.2.e, .int .u64 x.2.d, .int .u8 x.2.l] 112)) W → W.ownsRow (w.heap.size + 1) 112 4 v3 (put x R).length (itemCells (put x R)) → (∃ v', IsR (W.setCell ⟨rb, 2, none⟩ v3) base rb n most v' (put x R)) ∧ Fr (fun k => k = rb) w (W.setCell ⟨rb, 2, none⟩ v3)) := by
    intro W v3 hb ho
    have hb0 : Below w.heap.size w W := ((Below.refl _ _).alloc (Nat.le_refl _) _).trans (hb.mono (by omega))
    refine ⟨⟨v3, IsR.stored ((hb0.block rb hrb).trans h.blk) (ownsRow_base ho (Nat.le_trans h.bs (by omega))) (fun q => ?_) h.nle h.mle (by rw [len_put]; omega) (nd_put h.nd hno) (fun y hy => ?_) (Nat.le_trans h.bs hb0.size)⟩, (Fr.setCell (S := fun k => k = rb) (a := ⟨rb, 2, none⟩) (Fr.of_below' hb0) rfl _)⟩
    · have := (World.ownsRow.lt ho rb q).1
      omega
    · rcases mem_put.1 hy with rfl | q
      · exact hx
      · exact h.rng y q
  have KC : Hid (∀ W : World, Below (w.heap.size + 1) (w.alloc (.cells #[.int .i64 (x.1 : Int), .bool x.2.e, .int .u64 x.2.d, .int .u8 x.2.l] 112)) W → W.cell? ⟨rb, 2, none⟩ = some (.slice a R.length cap) ∧ W.cell? ⟨w.heap.size, 0, none⟩ = some (.int .i64 (x.1 : Int)) ∧ W.cell? ⟨w.heap.size, 1, none⟩ = some (.bool x.2.e) ∧ W.cell? ⟨w.heap.size, 2, none⟩ = some (.int .u64 x.2.d) ∧ W.cell? ⟨w.heap.size, 3, none⟩ = some (.int .u8 x.2.l)) := fun W hW => by
    obtain ⟨q1, _, q2, q3, q4, q5, _⟩ := C1.out W hW
    exact ⟨q1, q2, q3, q4, q5⟩
  clear h hno hx
  go_enter Try.func98, Try.ntmps98
  go_wp2
  go_loopw [4] (fun i wr => ∃ j : Nat, j ≤ J ∧ i = .int .i64 (j : Int) ∧ Below (w.heap.size + 1) (w.alloc (.cells #[.int .i64 (x.1 : Int), .bool x.2.e, .int .u64 x.2.d, .int .u8 x.2.l] 112)) wr) (fun i _ => J - (intOf i).toNat)
  case atStart => exact ⟨0, by omega, rfl, Below.refl _ _⟩
  case round =>
    obtain ⟨j, hj, rfl, hbel⟩ := hrel
    obtain ⟨e1, f1, x0, x1, x2, x3, hb0, hsz⟩ := C1.out _ hbel
    have HBE := veil hbel
    have HB0 := veil hb0
    by_cases hjl : j < R.length
    · obtain ⟨it, hit⟩ : ∃ it, R[j]? = some it := ⟨_, List.getElem?_eq_getElem hjl⟩
      obtain ⟨g, rfl, y0, y1, y2, y3⟩ := C2.out wr j it hbel hit
      have hjl' : (j : Int) < (R.length : Int) := by omega
      have hjb : decide ((j : Int) < (R.length : Int)) = true := by simp; omega
      have HIT := veil hit
      have HA : Hid (∀ W, _) := fun W => Ke.rabove_ok W x.2 it.2
      clear hbel hb0 hit
      by_cases hjJ : j < J
      · have hu := HJ2.out j it hjJ HIT.out
        rw [hu] at HA
        go_wp2
        go_region_held3 (fun w' => w'.cell? ⟨rb, 2, none⟩ = some (.slice (some ⟨g, 0, none⟩) R.length cap) ∧ w'.cell? ⟨w.heap.size, 1, none⟩ = some (.bool x.2.e) ∧ w'.cell? ⟨w.heap.size, 2, none⟩ = some (.int .u64 x.2.d) ∧ w'.cell? ⟨w.heap.size, 3, none⟩ = some (.int .u8 x.2.l) ∧ w'.cell? ⟨g, j * 4 + 1, none⟩ = some (.bool it.2.e) ∧ w'.cell? ⟨g, j * 4 + 2, none⟩ = some (.int .u64 it.2.d) ∧ w'.cell? ⟨g, j * 4 + 3, none⟩ = some (.int .u8 it.2.l))
          (first | go_keep | exact HK2.out)
          (first | (go_at_call 22; refine (HA.out _).mono ?_; rintro e w2 ⟨rfl, hb2⟩; have HB2 := veil (show Below (w.heap.size + 1) _ w2 from HBE.out.drew.trans (hb2.mono hsz)); obtain ⟨ee1, ff1, _, xx1, xx2, xx3, _, _⟩ := C1.out _ HB2.out; obtain ⟨gg, hgg, _, yy1, yy2, yy3⟩ := C2.out w2 j it HB2.out HIT.out; injection hgg with hgg; injection hgg with hgg; subst hgg; have HK2 := veil (And.intro ee1 (And.intro xx1 (And.intro xx2 (And.intro xx3 (And.intro yy1 (And.intro yy2 yy3)))))); clear hb2))
        clear e1 f1 x0 x1 x2 x3 y0 y1 y2 y3 HK2 HA
        go_wp2
        go_roundw
        case rel => exact ⟨j + 1, by omega, by go_num, HB2.out⟩
        case measure => simp [intOf]; omega
      · have hjJ' : j = J := by omega
        subst hjJ'
        have hu := HJ3.out it HIT.out
        rw [hu] at HA
        go_wp2
        go_region_held3 (fun w' => w'.cell? ⟨rb, 2, none⟩ = some (.slice (some ⟨g, 0, none⟩) R.length cap) ∧ w'.cell? ⟨w.heap.size, 1, none⟩ = some (.bool x.2.e) ∧ w'.cell? ⟨w.heap.size, 2, none⟩ = some (.int .u64 x.2.d) ∧ w'.cell? ⟨w.heap.size, 3, none⟩ = some (.int .u8 x.2.l) ∧ w'.cell? ⟨g, j * 4 + 1, none⟩ = some (.bool it.2.e) ∧ w'.cell? ⟨g, j * 4 + 2, none⟩ = some (.int .u64 it.2.d) ∧ w'.cell? ⟨g, j * 4 + 3, none⟩ = some (.int .u8 it.2.l))
          (first | go_keep | exact HK2.out)
          (first | (go_at_call 22; refine (HA.out _).mono ?_; rintro e w2 ⟨rfl, hb2⟩; have HB2 := veil (show Below (w.heap.size + 1) _ w2 from HBE.out.drew.trans (hb2.mono hsz)); obtain ⟨ee1, ff1, _, xx1, xx2, xx3, _, _⟩ := C1.out _ HB2.out; obtain ⟨gg, hgg, _, yy1, yy2, yy3⟩ := C2.out w2 j it HB2.out HIT.out; injection hgg with hgg; injection hgg with hgg; subst hgg; have HK2 := veil (And.intro ee1 (And.intro xx1 (And.intro xx2 (And.intro xx3 (And.intro yy1 (And.intro yy2 yy3)))))); clear hb2))
        clear e1 f1 x0 x1 x2 x3 y0 y1 y2 y3 HK2 HA
        go_wp2
        clear ee1 ff1 xx1 xx2 xx3 yy1 yy2 yy3 hu
        have hjc : j ≤ cap := by omega
        have C3 : Hid (∀ W, Below (w.heap.size + 1) (w.alloc (.cells #[.int .i64 (x.1 : Int), .bool x.2.e, .int .u64 x.2.d, .int .u8 x.2.l] 112)) W → ∀ i y, R[i]? = some y → W.cell? ⟨g, i * 4, none⟩ = some (.int .i64 (y.1 : Int)) ∧ W.cell? ⟨g, i * 4 + 1, none⟩ = some (.bool y.2.e) ∧ W.cell? ⟨g, i * 4 + 2, none⟩ = some (.int .u64 y.2.d) ∧ W.cell? ⟨g, i * 4 + 3, none⟩ = some (.int .u8 y.2.l)) := fun W hW i y hi => by
          obtain ⟨g', hg', z⟩ := C2.out W i y hW hi
          injection hg' with hg'
          injection hg' with hg'
          subst hg'
          exact z
        have N1 : Hid (∀ W, Below (w.heap.size + 1) (w.alloc (.cells #[.int .i64 (x.1 : Int), .bool x.2.e, .int .u64 x.2.d, .int .u8 x.2.l] 112)) W → ∀ i u, (itemCells (R.take j))[i]? = some u → W.cell? ((⟨g, 0, none⟩ : Addr).add i) = some u) := fun W hW => by
          have := items_from (C3.out W hW) 0 (R.take j) (fun i hi => by rw [Nat.zero_add, List.getElem?_take_of_lt (by simp at hi; omega)])
          simpa using this
        have N2 : Hid (∀ W, Below (w.heap.size + 1) (w.alloc (.cells #[.int .i64 (x.1 : Int), .bool x.2.e, .int .u64 x.2.d, .int .u8 x.2.l] 112)) W → ∀ i u, (itemCells (R.drop j))[i]? = some u → W.cell? ((⟨g, j * 4, none⟩ : Addr).add i) = some u) := fun W hW =>
          items_from (C3.out W hW) j (R.drop j) (fun i hi => by rw [List.getElem?_drop])
        have l1 : (itemCells (R.take j)).length = j * 4 := by rw [itemCells_length, List.length_take]; omega
        have l2 : (itemCells (R.drop j)).length = (R.length - j) * 4 := by rw [itemCells_length, List.length_drop]
        have o1 := itemCells_one (R.take j)
        have o2 := itemCells_one (R.drop j)
        have HEQ : Hid (itemCells (put x R) = itemCells (R.take j) ++ [.int .i64 (x.1 : Int), .bool x.2.e, .int .u64 x.2.d, .int .u8 x.2.l] ++ itemCells (R.drop j) ∧ (put x R).length = j + 1 + (R.length - j)) := by
          refine ⟨?_, by rw [len_put]; omega⟩
          rw [HJ4.out, itemCells_append, itemCells_cons, List.append_assoc]
          rfl
        have hsz2 : w.heap.size + 1 ≤ w2.heap.size := (C1.out _ HB2.out).2.2.2.2.2.2.2
        generalize itemCells (R.take j) = c1 at *
        generalize itemCells (R.drop j) = c2 at *
        generalize hm : R.length - j = m at *
        go_region_held3 (fun w' => w'.cell? ⟨rb, 2, none⟩ = some (.slice (some ⟨g, 0, none⟩) R.length cap) ∧ w'.cell? ⟨w.heap.size, 0, none⟩ = some (.int .i64 (x.1 : Int)) ∧ w'.cell? ⟨w.heap.size, 1, none⟩ = some (.bool x.2.e) ∧ w'.cell? ⟨w.heap.size, 2, none⟩ = some (.int .u64 x.2.d) ∧ w'.cell? ⟨w.heap.size, 3, none⟩ = some (.int .u8 x.2.l))
          (first | exact KC.out _ HB3.out | exact KC.out _ HB1.out | exact KC.out _ (HB1.out.alloc (by simpa using hsz1) _) | exact KC.out _ HB2.out.drew | exact KC.out _ (HB2.out.drew.alloc (by simpa using hsz2) _))
          (first
            | (refine step_append_any _ (by rfl) _ _ _ (by rfl) (w.heap.size + 1) 112 i0 (.agg #[.int .i64 0, .bool false, .int .u64 0, .int .u8 0]) 4 32 HU.out hi0 hz0 hz1 hz2 rfl (by omega) v1 (0 + j) ([] ++ c1) (by rfl) (World.ownsRow.alloc HO1.out _) ⟨w1.heap.size, 0, none⟩ 1 1 [.int .i64 (x.1 : Int), .bool x.2.e, .int .u64 x.2.d, .int .u8 x.2.l] (by rfl) rfl (news_x _ x) (by simp [Value.oneCell']) (by unfold maxLen; omega) (by omega) (by simp; omega) ?_; intro v2 w3 ho2 hg2; have HO2 := veil ho2; have HB3 := veil ((HB1.out.alloc (by simpa using hsz1) (.cells #[.int .i64 (x.1 : Int), .bool x.2.e, .int .u64 x.2.d, .int .u8 x.2.l] 112)).grown (show World.grownBy _ w3 v1.ownBlock from ⟨hg2.os, hg2.tape, hg2.output, hg2.size, hg2.block⟩) (by simp; omega) (fun k hk => (World.ownsRow.lt HO1.out k hk).1)); clear ho2 hg2)
            | (refine step_append_any _ (by rfl) _ _ _ (by rfl) (w.heap.size + 1) 112 i0 (.agg #[.int .i64 0, .bool false, .int .u64 0, .int .u8 0]) 4 32 HU.out hi0 hz0 hz1 hz2 rfl (by omega) v1 (0 + j) ([] ++ c1) (by rfl) HO1.out ⟨w2.heap.size, 0, none⟩ 1 1 [.int .i64 (x.1 : Int), .bool x.2.e, .int .u64 x.2.d, .int .u8 x.2.l] (by rfl) rfl (news_grown x HG1.out) (by simp [Value.oneCell']) (by unfold maxLen; omega) (by omega) hsz1 ?_; intro v2 w3 ho2 hg2; have HO2 := veil ho2; have HB3 := veil (HB1.out.grown (show w1.grownBy w3 v1.ownBlock from ⟨hg2.os, hg2.tape, hg2.output, hg2.size, hg2.block⟩) hsz1 (fun k hk => (World.ownsRow.lt HO1.out k hk).1)); clear ho2 hg2)
            | (refine step_append_any _ (by rfl) _ _ _ (by rfl) (w.heap.size + 1) 112 i0 (.agg #[.int .i64 0, .bool false, .int .u64 0, .int .u8 0]) 4 32 HU.out hi0 hz0 hz1 hz2 rfl (by omega) (.slice none 0 0) 0 [] (by rfl) (World.ownsRow_nil _ _ _ _) ⟨g, 0, none⟩ j cap c1 (by rfl) l1 (N1.out w2.drew HB2.out.drew) o1 (by unfold maxLen; omega) (by omega) (by simpa using hsz2) ?_; intro v1 w1 ho1 hg1; have HO1 := veil ho1; have HB1 := veil (HB2.out.drew.grown hg1 (by simpa using hsz2) (fun k hk => by simp [Value.ownBlock] at hk)); have hsz1 : w.heap.size + 1 ≤ w1.heap.size := (C1.out _ HB1.out).2.2.2.2.2.2.2; clear ho1 hg1)
            | (refine step_append_any _ (by rfl) _ _ _ (by rfl) (w.heap.size + 1) 112 i0 (.agg #[.int .i64 0, .bool false, .int .u64 0, .int .u8 0]) 4 32 HU.out hi0 hz0 hz1 hz2 rfl (by omega) (.slice none 0 0) 0 [] (by rfl) (World.ownsRow_nil _ _ _ _) ⟨g, 0, none⟩ j cap c1 (by rfl) l1 (N1.out _ (HB2.out.drew.alloc (by simpa using hsz2) _)) o1 (by unfold maxLen; omega) (by omega) (by simp; omega) ?_; intro v1 w1 ho1 hg1; have HO1 := veil ho1; have HG1 : Hid ((w2.alloc (.cells #[.int .i64 (x.1 : Int), .bool x.2.e, .int .u64 x.2.d, .int .u8 x.2.l] 112)).grownBy w1 (Value.ownBlock (.slice none 0 0))) := ⟨hg1.os, hg1.tape, hg1.output, hg1.size, hg1.block⟩; have HB1 := veil ((HB2.out.alloc (by simpa using hsz2) _).grown HG1.out (by simp; omega) (fun k hk => by simp [Value.ownBlock] at hk)); have hsz1 : w.heap.size + 1 ≤ w1.heap.size := (C1.out _ HB1.out).2.2.2.2.2.2.2; clear ho1 hg1))
        all_goals
          obtain ⟨a2, d2, rfl⟩ := owns_slice HO2.out
          obtain ⟨e3, f3, _, _, _, _, _, hsz3⟩ := C1.out _ HB3.out
          have hc3 : (R.length : Int) ≤ (cap : Int) := by omega
          have hj3 : (j : Int) ≤ (R.length : Int) := by omega
          have hj0 : ¬ cap = j := by omega
          clear HO1 HB1 hsz1
          go_wp2_with (at_builtin; refine wpList_append_own _ rfl _ _ 101 rfl (w.heap.size + 1) 112 i0 (.agg #[.int .i64 0, .bool false, .int .u64 0, .int .u8 0]) 4 32 Try.underlying101 hi0 hz0 hz1 hz2 rfl (by decide) _ _ _ rfl HO2.out ⟨g, j * 4, none⟩ m _ c2 (by first | rfl | (rw [← hm]; rfl)) l2 (N2.out w3 HB3.out) o2 (by unfold maxLen; omega) (by omega) hsz3 ?_; intro v4 w4 ho4 hg4 _; have HO4 := veil ho4; have HB4 := veil (HB3.out.grown hg4 hsz3 (fun k hk => (World.ownsRow.lt HO2.out k hk).1)); obtain ⟨a4, d4, rfl⟩ := owns_slice ho4; obtain ⟨e4, f4, _⟩ := C1.out _ HB4.out; have HX := veil (HFIN.out w4 _ HB4.out (by rw [HEQ.out.1, HEQ.out.2]; simpa using HO4.out)); clear ho4 hg4)
          go_wp2
          go_end0
          exact ⟨rfl, HX.out.1, HX.out.2⟩
    · have hjl' : ¬ (j : Int) < (R.length : Int) := by omega
      have hjb : decide ((j : Int) < (R.length : Int)) = false := by simp; omega
      have hjJ' : j = J := by omega
      subst hjJ'
      clear hbel hb0
      have HFO := veil hform
      clear hform
      go_wp2
      go_quiet (fail)
      have HB2 := veil (below_drewN HBE.out nq)
      clear e1 f1 x0 x1 x2 x3 HBE HB0
      generalize wr.drewN nq = w2 at *
      go_wp2
      rcases HFO.out with ⟨rfl, hR0, rfl⟩ | ⟨g, rfl⟩
      · have hRe : R = [] := List.length_eq_zero_iff.1 hR0
        subst hRe
        obtain rfl : j = 0 := by simp at j1; omega
        have hsz2 : w.heap.size + 1 ≤ w2.heap.size := (C1.out _ HB2.out).2.2.2.2.2.2.2
        have KN : Hid (∀ W : World, Below (w.heap.size + 1) (w.alloc (.cells #[.int .i64 (x.1 : Int), .bool x.2.e, .int .u64 x.2.d, .int .u8 x.2.l] 112)) W → W.cell? ⟨rb, 2, none⟩ = some (.slice none 0 0) ∧ W.cell? ⟨w.heap.size, 0, none⟩ = some (.int .i64 (x.1 : Int)) ∧ W.cell? ⟨w.heap.size, 1, none⟩ = some (.bool x.2.e) ∧ W.cell? ⟨w.heap.size, 2, none⟩ = some (.int .u64 x.2.d) ∧ W.cell? ⟨w.heap.size, 3, none⟩ = some (.int .u8 x.2.l)) := KC.out
        go_region_held3 (fun w' => w'.cell? ⟨rb, 2, none⟩ = some (.slice none 0 0) ∧ w'.cell? ⟨w.heap.size, 0, none⟩ = some (.int .i64 (x.1 : Int)) ∧ w'.cell? ⟨w.heap.size, 1, none⟩ = some (.bool x.2.e) ∧ w'.cell? ⟨w.heap.size, 2, none⟩ = some (.int .u64 x.2.d) ∧ w'.cell? ⟨w.heap.size, 3, none⟩ = some (.int .u8 x.2.l))
          (first | exact KN.out _ HB3.out | exact KN.out _ HB2.out.drew | exact KN.out _ (HB2.out.alloc (by simpa using hsz2) _) | exact KN.out _ (HB2.out.drew.alloc (by simpa using hsz2) _))
          (first
            | (refine step_append_any _ (by rfl) _ _ _ (by rfl) (w.heap.size + 1) 112 i0 (.agg #[.int .i64 0, .bool false, .int .u64 0, .int .u8 0]) 4 32 HU.out hi0 hz0 hz1 hz2 rfl (by omega) (.slice none 0 0) 0 [] (by rfl) (World.ownsRow_nil _ _ _ _) ⟨w2.heap.size, 0, none⟩ 1 1 [.int .i64 (x.1 : Int), .bool x.2.e, .int .u64 x.2.d, .int .u8 x.2.l] (by rfl) rfl (news_x w2 x) (by simp [Value.oneCell']) (by unfold maxLen; omega) (by omega) (by simp; omega) ?_; intro v2 w3 ho2 hg2; have HO2 := veil ho2; have HB3 := veil ((HB2.out.alloc (by simpa using hsz2) (.cells #[.int .i64 (x.1 : Int), .bool x.2.e, .int .u64 x.2.d, .int .u8 x.2.l] 112)).grown (show World.grownBy _ w3 (Value.ownBlock (.slice none 0 0)) from ⟨hg2.os, hg2.tape, hg2.output, hg2.size, hg2.block⟩) (by simp; omega) (fun k hk => by simp [Value.ownBlock] at hk)); clear ho2 hg2)
            | (refine step_append_nil _ (by rfl) _ _ _ (by rfl) (w.heap.size + 1) 112 i0 4 HU.out hi0 (.slice none 0 0) 0 [] (by rfl) (World.ownsRow_nil _ _ _ _) (by rfl) ?_))
        all_goals
          obtain ⟨a2, d2, rfl⟩ := owns_slice HO2.out
          obtain ⟨e3, f3, _, _, _, _, _, hsz3⟩ := C1.out _ HB3.out
          have HX := veil (HFIN.out w3 _ HB3.out (by simpa [put, itemCells] using HO2.out))
          go_wp2_with (at_builtin; refine wpList_append_none _ rfl _ _ 101 rfl (w.heap.size + 1) 112 i0 4 Try.underlying101 hi0 _ _ _ rfl HO2.out rfl ?_)
          go_end0
          exact ⟨rfl, HX.out.1, HX.out.2⟩
      · by_cases hj0 : cap = j
        · have hjc : j ≤ cap := by omega
          have HJ0 := veil hj0
          clear hj0
          have C3 : Hid (∀ W, Below (w.heap.size + 1) (w.alloc (.cells #[.int .i64 (x.1 : Int), .bool x.2.e, .int .u64 x.2.d, .int .u8 x.2.l] 112)) W → ∀ i y, R[i]? = some y → W.cell? ⟨g, i * 4, none⟩ = some (.int .i64 (y.1 : Int)) ∧ W.cell? ⟨g, i * 4 + 1, none⟩ = some (.bool y.2.e) ∧ W.cell? ⟨g, i * 4 + 2, none⟩ = some (.int .u64 y.2.d) ∧ W.cell? ⟨g, i * 4 + 3, none⟩ = some (.int .u8 y.2.l)) := fun W hW i y hi => by
            obtain ⟨g', hg', z⟩ := C2.out W i y hW hi
            injection hg' with hg'
            injection hg' with hg'
            subst hg'
            exact z
          have N1 : Hid (∀ W, Below (w.heap.size + 1) (w.alloc (.cells #[.int .i64 (x.1 : Int), .bool x.2.e, .int .u64 x.2.d, .int .u8 x.2.l] 112)) W → ∀ i u, (itemCells (R.take j))[i]? = some u → W.cell? ((⟨g, 0, none⟩ : Addr).add i) = some u) := fun W hW => by
            have := items_from (C3.out W hW) 0 (R.take j) (fun i hi => by rw [Nat.zero_add, List.getElem?_take_of_lt (by simp at hi; omega)])
            simpa using this
          have hde : R.drop j = [] := List.drop_eq_nil_of_le (by omega)
          have N2 : Hid (∀ W, Below (w.heap.size + 1) (w.alloc (.cells #[.int .i64 (x.1 : Int), .bool x.2.e, .int .u64 x.2.d, .int .u8 x.2.l] 112)) W → ∀ i u, (itemCells (R.drop j))[i]? = some u → W.cell? ((⟨g, 0, none⟩ : Addr).add i) = some u) := fun W hW i u hu => by
            rw [hde] at hu
            simp [itemCells] at hu
          have l1 : (itemCells (R.take j)).length = j * 4 := by rw [itemCells_length, List.length_take]; omega
          have l2 : (itemCells (R.drop j)).length = (R.length - j) * 4 := by rw [itemCells_length, List.length_drop]
          have o1 := itemCells_one (R.take j)
          have o2 := itemCells_one (R.drop j)
          have HEQ : Hid (itemCells (put x R) = itemCells (R.take j) ++ [.int .i64 (x.1 : Int), .bool x.2.e, .int .u64 x.2.d, .int .u8 x.2.l] ++ itemCells (R.drop j) ∧ (put x R).length = j + 1 + (R.length - j)) := by
            refine ⟨?_, by rw [len_put]; omega⟩
            rw [HJ4.out, itemCells_append, itemCells_cons, List.append_assoc]
            rfl
          have hsz2 : w.heap.size + 1 ≤ w2.heap.size := (C1.out _ HB2.out).2.2.2.2.2.2.2
          generalize itemCells (R.take j) = c1 at *
          generalize itemCells (R.drop j) = c2 at *
          generalize hm : R.length - j = m at *
          clear hde
          go_region_held3 (fun w' => w'.cell? ⟨rb, 2, none⟩ = some (.slice (some ⟨g, 0, none⟩) R.length cap) ∧ w'.cell? ⟨w.heap.size, 0, none⟩ = some (.int .i64 (x.1 : Int)) ∧ w'.cell? ⟨w.heap.size, 1, none⟩ = some (.bool x.2.e) ∧ w'.cell? ⟨w.heap.size, 2, none⟩ = some (.int .u64 x.2.d) ∧ w'.cell? ⟨w.heap.size, 3, none⟩ = some (.int .u8 x.2.l))
            (first | exact KC.out _ HB3.out | exact KC.out _ HB1.out | exact KC.out _ (HB1.out.alloc (by simpa using hsz1) _) | exact KC.out _ HB2.out.drew | exact KC.out _ (HB2.out.drew.alloc (by simpa using hsz2) _))
            (first
              | (refine step_append_any _ (by rfl) _ _ _ (by rfl) (w.heap.size + 1) 112 i0 (.agg #[.int .i64 0, .bool false, .int .u64 0, .int .u8 0]) 4 32 HU.out hi0 hz0 hz1 hz2 rfl (by omega) v1 (0 + j) ([] ++ c1) (by rfl) (World.ownsRow.alloc HO1.out _) ⟨w1.heap.size, 0, none⟩ 1 1 [.int .i64 (x.1 : Int), .bool x.2.e, .int .u64 x.2.d, .int .u8 x.2.l] (by rfl) rfl (news_x _ x) (by simp [Value.oneCell']) (by unfold maxLen; omega) (by omega) (by simp; omega) ?_; intro v2 w3 ho2 hg2; have HO2 := veil ho2; have HB3 := veil ((HB1.out.alloc (by simpa using hsz1) (.cells #[.int .i64 (x.1 : Int), .bool x.2.e, .int .u64 x.2.d, .int .u8 x.2.l] 112)).grown (show World.grownBy _ w3 v1.ownBlock from ⟨hg2.os, hg2.tape, hg2.output, hg2.size, hg2.block⟩) (by simp; omega) (fun k hk => (World.ownsRow.lt HO1.out k hk).1)); clear ho2 hg2)
              | (refine step_append_any _ (by rfl) _ _ _ (by rfl) (w.heap.size + 1) 112 i0 (.agg #[.int .i64 0, .bool false, .int .u64 0, .int .u8 0]) 4 32 HU.out hi0 hz0 hz1 hz2 rfl (by omega) v1 (0 + j) ([] ++ c1) (by rfl) HO1.out ⟨w2.heap.size, 0, none⟩ 1 1 [.int .i64 (x.1 : Int), .bool x.2.e, .int .u64 x.2.d, .int .u8 x.2.l] (by rfl) rfl (news_grown x HG1.out) (by simp [Value.oneCell']) (by unfold maxLen; omega) (by omega) hsz1 ?_; intro v2 w3 ho2 hg2; have HO2 := veil ho2; have HB3 := veil (HB1.out.grown (show w1.grownBy w3 v1.ownBlock from ⟨hg2.os, hg2.tape, hg2.output, hg2.size, hg2.block⟩) hsz1 (fun k hk => (World.ownsRow.lt HO1.out k hk).1)); clear ho2 hg2)
              | (refine step_append_any _ (by rfl) _ _ _ (by rfl) (w.heap.size + 1) 112 i0 (.agg #[.int .i64 0, .bool false, .int .u64 0, .int .u8 0]) 4 32 HU.out hi0 hz0 hz1 hz2 rfl (by omega) (.slice none 0 0) 0 [] (by rfl) (World.ownsRow_nil _ _ _ _) ⟨g, 0, none⟩ j cap c1 (by rfl) l1 (N1.out w2.drew HB2.out.drew) o1 (by unfold maxLen; omega) (by omega) (by simpa using hsz2) ?_; intro v1 w1 ho1 hg1; have HO1 := veil ho1; have HB1 := veil (HB2.out.drew.grown hg1 (by simpa using hsz2) (fun k hk => by simp [Value.ownBlock] at hk)); have hsz1 : w.heap.size + 1 ≤ w1.heap.size := (C1.out _ HB1.out).2.2.2.2.2.2.2; clear ho1 hg1)
              | (refine step_append_any _ (by rfl) _ _ _ (by rfl) (w.heap.size + 1) 112 i0 (.agg #[.int .i64 0, .bool false, .int .u64 0, .int .u8 0]) 4 32 HU.out hi0 hz0 hz1 hz2 rfl (by omega) (.slice none 0 0) 0 [] (by rfl) (World.ownsRow_nil _ _ _ _) ⟨g, 0, none⟩ j cap c1 (by rfl) l1 (N1.out _ (HB2.out.drew.alloc (by simpa using hsz2) _)) o1 (by unfold maxLen; omega) (by omega) (by simp; omega) ?_; intro v1 w1 ho1 hg1; have HO1 := veil ho1; have HG1 : Hid ((w2.alloc (.cells #[.int .i64 (x.1 : Int), .bool x.2.e, .int .u64 x.2.d, .int .u8 x.2.l] 112)).grownBy w1 (Value.ownBlock (.slice none 0 0))) := ⟨hg1.os, hg1.tape, hg1.output, hg1.size, hg1.block⟩; have HB1 := veil ((HB2.out.alloc (by simpa using hsz2) _).grown HG1.out (by simp; omega) (fun k hk => by simp [Value.ownBlock] at hk)); have hsz1 : w.heap.size + 1 ≤ w1.heap.size := (C1.out _ HB1.out).2.2.2.2.2.2.2; clear ho1 hg1))
          all_goals
            obtain ⟨a2, d2, rfl⟩ := owns_slice HO2.out
            obtain ⟨e3, f3, _, _, _, _, _, hsz3⟩ := C1.out _ HB3.out
            have hc3 : (R.length : Int) ≤ (cap : Int) := by omega
            have hj3 : (j : Int) ≤ (R.length : Int) := by omega
            have hj0 := HJ0.out
            clear HO1 HB1 hsz1
            go_wp2_with (at_builtin; refine wpList_append_own _ rfl _ _ 101 rfl (w.heap.size + 1) 112 i0 (.agg #[.int .i64 0, .bool false, .int .u64 0, .int .u8 0]) 4 32 Try.underlying101 hi0 hz0 hz1 hz2 rfl (by decide) _ _ _ rfl HO2.out ⟨g, 0, none⟩ m _ c2 (by first | rfl | (rw [← hm]; rfl)) l2 (N2.out w3 HB3.out) o2 (by unfold maxLen; omega) (by omega) hsz3 ?_; intro v4 w4 ho4 hg4 _; have HO4 := veil ho4; have HB4 := veil (HB3.out.grown hg4 hsz3 (fun k hk => (World.ownsRow.lt HO2.out k hk).1)); obtain ⟨a4, d4, rfl⟩ := owns_slice ho4; obtain ⟨e4, f4, _⟩ := C1.out _ HB4.out; have HX := veil (HFIN.out w4 _ HB4.out (by rw [HEQ.out.1, HEQ.out.2]; simpa using HO4.out)); clear ho4 hg4)
            go_wp2
            go_end0
            exact ⟨rfl, HX.out.1, HX.out.2⟩
        · have hjc : j ≤ cap := by omega
          have C3 : Hid (∀ W, Below (w.heap.size + 1) (w.alloc (.cells #[.int .i64 (x.1 : Int), .bool x.2.e, .int .u64 x.2.d, .int .u8 x.2.l] 112)) W → ∀ i y, R[i]? = some y → W.cell? ⟨g, i * 4, none⟩ = some (.int .i64 (y.1 : Int)) ∧ W.cell? ⟨g, i * 4 + 1, none⟩ = some (.bool y.2.e) ∧ W.cell? ⟨g, i * 4 + 2, none⟩ = some (.int .u64 y.2.d) ∧ W.cell? ⟨g, i * 4 + 3, none⟩ = some (.int .u8 y.2.l)) := fun W hW i y hi => by
            obtain ⟨g', hg', z⟩ := C2.out W i y hW hi
            injection hg' with hg'
            injection hg' with hg'
            subst hg'
            exact z
          have N1 : Hid (∀ W, Below (w.heap.size + 1) (w.alloc (.cells #[.int .i64 (x.1 : Int), .bool x.2.e, .int .u64 x.2.d, .int .u8 x.2.l] 112)) W → ∀ i u, (itemCells (R.take j))[i]? = some u → W.cell? ((⟨g, 0, none⟩ : Addr).add i) = some u) := fun W hW => by
            have := items_from (C3.out W hW) 0 (R.take j) (fun i hi => by rw [Nat.zero_add, List.getElem?_take_of_lt (by simp at hi; omega)])
            simpa using this
          have N2 : Hid (∀ W, Below (w.heap.size + 1) (w.alloc (.cells #[.int .i64 (x.1 : Int), .bool x.2.e, .int .u64 x.2.d, .int .u8 x.2.l] 112)) W → ∀ i u, (itemCells (R.drop j))[i]? = some u → W.cell? ((⟨g, j * 4, none⟩ : Addr).add i) = some u) := fun W hW =>
            items_from (C3.out W hW) j (R.drop j) (fun i hi => by rw [List.getElem?_drop])
          have l1 : (itemCells (R.take j)).length = j * 4 := by rw [itemCells_length, List.length_take]; omega
          have l2 : (itemCells (R.drop j)).length = (R.length - j) * 4 := by rw [itemCells_length, List.length_drop]
          have o1 := itemCells_one (R.take j)
          have o2 := itemCells_one (R.drop j)
          have HEQ : Hid (itemCells (put x R) = itemCells (R.take j) ++ [.int .i64 (x.1 : Int), .bool x.2.e, .int .u64 x.2.d, .int .u8 x.2.l] ++ itemCells (R.drop j) ∧ (put x R).length = j + 1 + (R.length - j)) := by
            refine ⟨?_, by rw [len_put]; omega⟩
            rw [HJ4.out, itemCells_append, itemCells_cons, List.append_assoc]
            rfl
          have hsz2 : w.heap.size + 1 ≤ w2.heap.size := (C1.out _ HB2.out).2.2.2.2.2.2.2
          generalize itemCells (R.take j) = c1 at *
          generalize itemCells (R.drop j) = c2 at *
          generalize hm : R.length - j = m at *
          go_region_held3 (fun w' => w'.cell? ⟨rb, 2, none⟩ = some (.slice (some ⟨g, 0, none⟩) R.length cap) ∧ w'.cell? ⟨w.heap.size, 0, none⟩ = some (.int .i64 (x.1 : Int)) ∧ w'.cell? ⟨w.heap.size, 1, none⟩ = some (.bool x.2.e) ∧ w'.cell? ⟨w.heap.size, 2, none⟩ = some (.int .u64 x.2.d) ∧ w'.cell? ⟨w.heap.size, 3, none⟩ = some (.int .u8 x.2.l))
            (first | exact KC.out _ HB3.out | exact KC.out _ HB1.out | exact KC.out _ (HB1.out.alloc (by simpa using hsz1) _) | exact KC.out _ HB2.out.drew | exact KC.out _ (HB2.out.drew.alloc (by simpa using hsz2) _))
            (first
              | (refine step_append_any _ (by rfl) _ _ _ (by rfl) (w.heap.size + 1) 112 i0 (.agg #[.int .i64 0, .bool false, .int .u64 0, .int .u8 0]) 4 32 HU.out hi0 hz0 hz1 hz2 rfl (by omega) v1 (0 + j) ([] ++ c1) (by rfl) (World.ownsRow.alloc HO1.out _) ⟨w1.heap.size, 0, none⟩ 1 1 [.int .i64 (x.1 : Int), .bool x.2.e, .int .u64 x.2.d, .int .u8 x.2.l] (by rfl) rfl (news_x _ x) (by simp [Value.oneCell']) (by unfold maxLen; omega) (by omega) (by simp; omega) ?_; intro v2 w3 ho2 hg2; have HO2 := veil ho2; have HB3 := veil ((HB1.out.alloc (by simpa using hsz1) (.cells #[.int .i64 (x.1 : Int), .bool x.2.e, .int .u64 x.2.d, .int .u8 x.2.l] 112)).grown (show World.grownBy _ w3 v1.ownBlock from ⟨hg2.os, hg2.tape, hg2.output, hg2.size, hg2.block⟩) (by simp; omega) (fun k hk => (World.ownsRow.lt HO1.out k hk).1)); clear ho2 hg2)
              | (refine step_append_any _ (by rfl) _ _ _ (by rfl) (w.heap.size + 1) 112 i0 (.agg #[.int .i64 0, .bool false, .int .u64 0, .int .u8 0]) 4 32 HU.out hi0 hz0 hz1 hz2 rfl (by omega) v1 (0 + j) ([] ++ c1) (by rfl) HO1.out ⟨w2.heap.size, 0, none⟩ 1 1 [.int .i64 (x.1 : Int), .bool x.2.e, .int .u64 x.2.d, .int .u8 x.2.l] (by rfl) rfl (news_grown x HG1.out) (by simp [Value.oneCell']) (by unfold maxLen; omega) (by omega) hsz1 ?_; intro v2 w3 ho2 hg2; have HO2 := veil ho2; have HB3 := veil (HB1.out.grown (show w1.grownBy w3 v1.ownBlock from ⟨hg2.os, hg2.tape, hg2.output, hg2.size, hg2.block⟩) hsz1 (fun k hk => (World.ownsRow.lt HO1.out k hk).1)); clear ho2 hg2)
              | (refine step_append_any _ (by rfl) _ _ _ (by rfl) (w.heap.size + 1) 112 i0 (.agg #[.int .i64 0, .bool false, .int .u64 0, .int .u8 0]) 4 32 HU.out hi0 hz0 hz1 hz2 rfl (by omega) (.slice none 0 0) 0 [] (by rfl) (World.ownsRow_nil _ _ _ _) ⟨g, 0, none⟩ j cap c1 (by rfl) l1 (N1.out w2.drew HB2.out.drew) o1 (by unfold maxLen; omega) (by omega) (by simpa using hsz2) ?_; intro v1 w1 ho1 hg1; have HO1 := veil ho1; have HB1 := veil (HB2.out.drew.grown hg1 (by simpa using hsz2) (fun k hk => by simp [Value.ownBlock] at hk)); have hsz1 : w.heap.size + 1 ≤ w1.heap.size := (C1.out _ HB1.out).2.2.2.2.2.2.2; clear ho1 hg1)
              | (refine step_append_any _ (by rfl) _ _ _ (by rfl) (w.heap.size + 1) 112 i0 (.agg #[.int .i64 0, .bool false, .int .u64 0, .int .u8 0]) 4 32 HU.out hi0 hz0 hz1 hz2 rfl (by omega) (.slice none 0 0) 0 [] (by rfl) (World.ownsRow_nil _ _ _ _) ⟨g, 0, none⟩ j cap c1 (by rfl) l1 (N1.out _ (HB2.out.drew.alloc (by simpa using hsz2) _)) o1 (by unfold maxLen; omega) (by omega) (by simp; omega) ?_; intro v1 w1 ho1 hg1; have HO1 := veil ho1; have HG1 : Hid ((w2.alloc (.cells #[.int .i64 (x.1 : Int), .bool x.2.e, .int .u64 x.2.d, .int .u8 x.2.l] 112)).grownBy w1 (Value.ownBlock (.slice none 0 0))) := ⟨hg1.os, hg1.tape, hg1.output, hg1.size, hg1.block⟩; have HB1 := veil ((HB2.out.alloc (by simpa using hsz2) _).grown HG1.out (by simp; omega) (fun k hk => by simp [Value.ownBlock] at hk)); have hsz1 : w.heap.size + 1 ≤ w1.heap.size := (C1.out _ HB1.out).2.2.2.2.2.2.2; clear ho1 hg1))
          all_goals
            obtain ⟨a2, d2, rfl⟩ := owns_slice HO2.out
            obtain ⟨e3, f3, _, _, _, _, _, hsz3⟩ := C1.out _ HB3.out
            have hc3 : (R.length : Int) ≤ (cap : Int) := by omega
            have hj3 : (j : Int) ≤ (R.length : Int) := by omega
            clear HO1 HB1 hsz1
            go_wp2_with (at_builtin; refine wpList_append_own _ rfl _ _ 101 rfl (w.heap.size + 1) 112 i0 (.agg #[.int .i64 0, .bool false, .int .u64 0, .int .u8 0]) 4 32 Try.underlying101 hi0 hz0 hz1 hz2 rfl (by decide) _ _ _ rfl HO2.out ⟨g, j * 4, none⟩ m _ c2 (by first | rfl | (rw [← hm]; rfl)) l2 (N2.out w3 HB3.out) o2 (by unfold maxLen; omega) (by omega) hsz3 ?_; intro v4 w4 ho4 hg4 _; have HO4 := veil ho4; have HB4 := veil (HB3.out.grown hg4 hsz3 (fun k hk => (World.ownsRow.lt HO2.out k hk).1)); obtain ⟨a4, d4, rfl⟩ := owns_slice ho4; obtain ⟨e4, f4, _⟩ := C1.out _ HB4.out; have HX := veil (HFIN.out w4 _ HB4.out (by rw [HEQ.out.1, HEQ.out.2]; simpa using HO4.out)); clear ho4 hg4)
            go_wp2
            go_end0
            exact ⟨rfl, HX.out.1, HX.out.2⟩
end Go.Proofs.Ytlfejgjhamcahaa.Dc
