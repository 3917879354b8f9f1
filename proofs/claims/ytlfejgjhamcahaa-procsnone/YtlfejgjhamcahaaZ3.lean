/-
  The walk of procs.New.
-/
import Derived.Test.YtlfejgjhamcahaaZ2
namespace Go.Proofs.Ytlfejgjhamcahaa
open Go.RowKit Go.Lib
set_option linter.unusedVariables false
attribute [local go_sem ↓] Go.wp_at_zero Go.wp_at_succ

theorem info_partsP {P : Program} {e : TypeId} {z : Value} {n m : Nat} (h : (P.info? e).map (fun i => (i.zero, i.size, i.bytes)) = some (some z, n, m)) : ∃ i, P.info? e = some i ∧ i.zero = some z ∧ i.size = n ∧ i.bytes = m := by
  cases hh : P.info? e with
  | none => rw [hh] at h; cases h
  | some i =>
    rw [hh] at h
    simp at h
    exact ⟨i, rfl, h.1, h.2.1, h.2.2⟩
theorem infoSetP : (Try.prog.info? 73).map (fun i => (i.zero, i.size, i.bytes)) = some (some (.pointer none), 1, 8) := by kernel_rfl
theorem step_append_at {P : Program} (w : World) {ops : Array Oper} {o : Oper} {a : Act} {K : Act → World → Prop} {Q : Exit → Act → World → Prop} {E : Prop} (hgd : o.guard = none) (s x : Operand) (t : TypeId)
    (ho : o.op = .call { callee := .builtin .append, args := #[s, x], argTypes := #[t, t] })
    (base : Nat) (e : TypeId) (i : TypeInfo) (z : Value) (size bytes : Nat) (ht : P.underlying t = some (.slice e)) (hi : P.info? e = some i) (hz : i.zero = some z)
    (hsize : i.size = size) (hby : i.bytes = bytes) (hzs : z.cells.size = size) (hsz : 0 < size)
    (v : Value) (n : Nat) (xs : List Value) (hs : a.eval s = v) (hown : w.ownsRow base e size v n xs)
    (ad : Addr) (m c : Nat) (news : List Value) (hx : a.eval x = .slice (some ad) m c) (hl : news.length = m * size) (hnews : ∀ j u, news[j]? = some u → w.cell? (ad.add j) = some u) (h1 : ∀ u ∈ news, u.oneCell' = true)
    (h63 : n + m ≤ maxLen) (hbytes : (n + m) * bytes ≤ 140737488355328) (hbase : base ≤ w.heap.size)
    (h : ∀ v' w', w'.ownsRow base e size v' (n + m) (xs ++ news) → w.grownBy w' v.ownBlock → (v'.ownBlock = v.ownBlock ∨ v'.ownBlock = some w.heap.size) → K (a.put o.dst v') w') :
    if Region.wanted o (yielded ops a.tmps) = true then Oper.wp P o a w K Q else E := by
  have hw : Region.wanted o (yielded ops a.tmps) = true := by simp [Region.wanted, hgd]
  rw [if_pos hw]
  obtain ⟨v', w', hr, h2, h3, h4, h5⟩ := run_append_own_at (P := P) w base t o.type e i z size bytes ht hi hz hsize hby hzs hsz v n xs hown ad m c news hl hnews h1 h63 hbytes hbase
  unfold Oper.wp execOp
  simp only [ho, resolve, invoke, builtin, Sem.run_bind, Sem.run_pure, Result.andThen_ok, List.map_toArray, List.map_cons, List.map_nil, hs, hx, hr]
  exact h v' w' h2 h3 h5
theorem below_pre' {B : Nat} {w0 w w' : World} (h : Below B w w') (a : w.heap = w0.heap) (b : w.os = w0.os) (c : w.tape = w0.tape) (d : w.output = w0.output) : Below B w0 w' :=
  ⟨h.os.trans b, h.tape.trans c, h.output.trans d, by rw [← a]; exact h.size, fun k hk => (h.block k hk).trans (by rw [a])⟩
/-- All that is wanted of the way behind a ready.New. -/
def After (w0 wr : World) (n : Nat) (mo : Nat → Nat) (a : Option Addr) (c : Nat) (H : List Hd) (most : Nat) : Prop :=
  ∀ (w1 : World) (x : Hd), x.is w1 n most → x.M = [] ∧ x.turn = 0 → (∀ k, x.own k → wr.heap.size ≤ k) → Below wr.heap.size wr w1 →
    w1.cell? ⟨w0.heap.size + 1, 0, none⟩ = some (.slice a H.length c) ∧ (∀ o, (w1.alloc o).cell? ⟨w0.heap.size + 1, 0, none⟩ = some (.slice a H.length c)) ∧
    Hid (∀ W : World, W.heap = (w1.alloc (.cells #[.pointer (some ⟨x.sb, 0, none⟩)] 73)).heap → W.ownsRow (w0.heap.size + 2) 73 1 (.slice a H.length c) H.length (ptrs H)) ∧
    Hid (∀ W : World, W.heap = (w1.alloc (.cells #[.pointer (some ⟨x.sb, 0, none⟩)] 73)).heap → w0.heap.size + 2 ≤ W.heap.size) ∧
    Hid (∀ (W w3 : World) (v' : Value), W = w1.alloc (.cells #[.pointer (some ⟨x.sb, 0, none⟩)] 73) → w3.ownsRow (w0.heap.size + 2) 73 1 v' (H.length + 1) (ptrs H ++ [.pointer (some ⟨x.sb, 0, none⟩)]) → W.grownBy w3 (Value.ownBlock (.slice a H.length c)) → (v'.ownBlock = Value.ownBlock (.slice a H.length c) ∨ v'.ownBlock = some W.heap.size) →
      w3.cell? ⟨w0.heap.size + 1, 0, none⟩ = some (.slice a H.length c) ∧ w3.frozen? ⟨w0.heap.size + 1, 0, none⟩ = false ∧ Bld w0 (w3.setCell ⟨w0.heap.size + 1, 0, none⟩ v') n mo v' (H ++ [x]))
theorem Bld.after {w0 wr : World} {n : Nat} {mo : Nat → Nat} {a : Option Addr} {c : Nat} {H : List Hd} (h : Bld w0 wr n mo (.slice a H.length c) H) (most : Nat) (hm : mo H.length = most) : After w0 wr n mo a c H most := by
  intro w1 x hx hx0 ho hb
  have hba := fun o => hb.alloc hb.size o
  refine ⟨h.cell hb, fun o => h.cell (hba o), fun W hW => ?_, fun W hW => ?_, fun W w3 v' hW hr hg hat => ?_⟩
  · have := h.rowB (hba (.cells #[.pointer (some ⟨x.sb, 0, none⟩)] 73))
    refine ⟨this.1, ?_⟩
    rcases this.2 with q | ⟨g, cap, cur, e, e1, e2, e3⟩
    · exact .inl q
    · exact .inr ⟨g, cap, cur, e, e1, by rw [hW]; exact e2, e3⟩
  · rw [hW]
    have := h.big
    have := (hba (.cells #[.pointer (some ⟨x.sb, 0, none⟩)] 73)).size
    omega
  · subst hW
    exact h.step (by rw [hm]; exact hx) hx0 ho hb _ hr hg hat
def moP (np n q : Nat) : Nat → Nat := fun i => if i < np then min q n else n
set_option maxHeartbeats 4000000 in
theorem pnew_ok (np n q : Nat) (w : World) (h1 : 1 ≤ np) (h2 : np ≤ 64) (h3 : 1 ≤ n) (h4 : n ≤ 1024) (h5 : 1 ≤ q) (h6 : q ≤ 256) :
    Calls Try.prog 31 #[.int .i64 np, .int .i64 n, .int .i64 q] w fun e w' => ∃ v H, e = .returned (.pointer (some ⟨w.heap.size + 1, 0, none⟩)) ∧ H.length = np + 1 ∧ Bld w w' n (moP np n q) v H := by
  obtain ⟨i0, hi0, hz0, hz1, hz2⟩ := info_partsP infoSetP
  have hmm := @run_makeMap Try.prog
  have e1 : ¬ (np : Int) < 1 := by omega
  have e2 : ¬ (64 : Int) < (np : Int) := by omega
  have e3 : ¬ (n : Int) < 1 := by omega
  have e4 : ¬ (1024 : Int) < (n : Int) := by omega
  have e5 : ¬ (q : Int) < 1 := by omega
  have e6 : ¬ (256 : Int) < (q : Int) := by omega
  have HB0 : Hid (Bld w ((w.alloc (.map #[] 0)).alloc (.cells #[.slice none 0 0, .map (some w.heap.size), .int .i64 (n : Int)] 77)) n (moP np n q) (.slice none 0 0) []) := by
    have hz : (w.alloc (.map #[] 0)).heap.size = w.heap.size + 1 := by simp
    refine ⟨?_, World.ownsRow_nil _ _ _ _, Sets.nil _ _ _ _, by simp, ?_, by simp, ((Below.refl _ _).alloc (Nat.le_refl _) _).alloc (by simp) _, by simp⟩
    · rw [← hz]; exact heap_alloc_new _ _
    · exact (IsM.made w).block (Below.heap_alloc _ _ _ (by simp))
  go_enter Try.func31, Try.ntmps31
  go_wp2
  go_loopw [35] (fun i wr => ∃ (j : Nat) (v : Value) (H : List Hd), j ≤ np ∧ H.length = j ∧ i = .int .i64 j ∧ Bld w wr n (moP np n q) v H) (fun i _ => np - (intOf i).toNat)
  case atStart => exact ⟨0, _, _, by omega, rfl, rfl, HB0.out⟩
  case round =>
    obtain ⟨j, v, H, hj, hH, rfl, hB⟩ := hrel
    obtain ⟨a, c, rfl⟩ := Dc.owns_slice hB.row
    by_cases hjl : j < np
    · have hjl' : (j : Int) < (np : Int) := by omega
      have c0 := hB.cell (Below.refl _ _)
      have HNEW : Hid (∀ W, Calls Try.prog 60 #[.int .i64 n, .int .i64 (if n < q then (n : Int) else (q : Int))] W fun e w' => ∃ sb qb gq hb gh, e = .returned (.pointer (some ⟨sb, 0, none⟩)) ∧ (∀ k, OwnS sb qb gq hb gh k → W.heap.size ≤ k) ∧ IsS w' sb qb gq hb gh n (min q n) 0 [] ∧ Below W.heap.size W w') := fun W => by
        have e : (if n < q then (n : Int) else (q : Int)) = ((min q n : Nat) : Int) := by split <;> omega
        rw [e]
        exact new_isS n (min q n) W h3 h4 (by omega) (by omega)
      have HAF := veil (hB.after (min q n) (by unfold moP; rw [if_pos (by omega)]))
      have HHj := veil hH
      have hl64 : H.length ≤ 64 := by omega
      clear hB hH
      go_wp2
      refine wp_region_held_drew (S := (fun _ => True)) (by kernel_rfl) ?_ (fun hHeld => ?_)
      · trivial
      refine wpAnyH_take (i := 0) (v := ?_) rfl (by kernel_rfl) (by kernel_rfl) (by kernel_rfl) (fun _ _ _ h => h) (Or.inl ⟨by rfl, ?v0⟩) (by assumption) ?_
      case v0 => (intro w hSw; (try dsimp only at hSw); go_simp; try with_reducible rfl)
      try simp only [Act.put, List.setIfInBounds_toArray, List.set_cons_zero, List.set_cons_succ, List.getElem_toArray, List.getElem_cons_zero]
      refine wpAnyH_take (i := 1) (v := ?_) rfl (by kernel_rfl) (by kernel_rfl) (by kernel_rfl) (fun _ _ _ h => h) (Or.inl ⟨by rfl, ?v1⟩) (by assumption) ?_
      case v1 => (intro w hSw; (try dsimp only at hSw); go_simp; try with_reducible rfl)
      try simp only [Act.put, List.setIfInBounds_toArray, List.set_cons_zero, List.set_cons_succ, List.getElem_toArray, List.getElem_cons_succ, List.getElem_cons_zero]
      refine wpAnyH_take (i := 2) (v := ?_) rfl (by kernel_rfl) (by kernel_rfl) (by kernel_rfl) (fun _ _ _ h => h) (Or.inl ⟨by rfl, ?v2⟩) (by assumption) ?_
      case v2 => (intro w hSw; (try dsimp only at hSw); go_simp; try with_reducible rfl)
      try simp only [Act.put, List.setIfInBounds_toArray, List.set_cons_zero, List.set_cons_succ, List.getElem_toArray, List.getElem_cons_succ, List.getElem_cons_zero]
      refine wpAnyH_take (i := 3) (v := ?_) rfl (by kernel_rfl) (by kernel_rfl) (by kernel_rfl) (fun _ _ _ h => h) (Or.inl ⟨by rfl, ?v3⟩) (by assumption) ?_
      case v3 => (intro w hSw; (try dsimp only at hSw); go_simp; try with_reducible rfl)
      try simp only [Act.put, List.setIfInBounds_toArray, List.set_cons_zero, List.set_cons_succ, List.getElem_toArray, List.getElem_cons_succ, List.getElem_cons_zero]
      refine wpAnyH_take (i := 5) (v := ?_) rfl (by kernel_rfl) (by kernel_rfl) (by kernel_rfl) (fun _ _ _ h => h) (Or.inl ⟨by rfl, ?v5⟩) (by assumption) ?_
      case v5 => (intro w hSw; (try dsimp only at hSw); go_simp; try with_reducible rfl)
      try simp only [Act.put, List.setIfInBounds_toArray, List.set_cons_zero, List.set_cons_succ, List.getElem_toArray, List.getElem_cons_succ, List.getElem_cons_zero]
      refine wpAnyH_take (i := 6) (v := ?_) rfl (by kernel_rfl) (by kernel_rfl) (by kernel_rfl) (fun _ _ _ h => h) (Or.inl ⟨by rfl, ?v6⟩) (by assumption) ?_
      case v6 => (intro w hSw; (try dsimp only at hSw); go_simp; try with_reducible rfl)
      try simp only [Act.put, List.setIfInBounds_toArray, List.set_cons_zero, List.set_cons_succ, List.getElem_toArray, List.getElem_cons_succ, List.getElem_cons_zero]
      refine wpAnyH_take (i := 7) (v := ?_) rfl (by kernel_rfl) (by kernel_rfl) (by kernel_rfl) (fun _ _ _ h => h) (Or.inl ⟨by rfl, ?v7⟩) (by assumption) ?_
      case v7 => (intro w hSw; (try dsimp only at hSw); go_simp; try with_reducible rfl)
      try simp only [Act.put, List.setIfInBounds_toArray, List.set_cons_zero, List.set_cons_succ, List.getElem_toArray, List.getElem_cons_succ, List.getElem_cons_zero]
      refine wpAnyH_take (i := 8) (v := ?_) rfl (by kernel_rfl) (by kernel_rfl) (by kernel_rfl) (fun _ _ _ h => h) (Or.inl ⟨by rfl, ?v8⟩) (by assumption) ?_
      case v8 => (intro w hSw; (try dsimp only at hSw); go_simp; try with_reducible rfl)
      try simp only [Act.put, List.setIfInBounds_toArray, List.set_cons_zero, List.set_cons_succ, List.getElem_toArray, List.getElem_cons_succ, List.getElem_cons_zero]
      refine wpAnyH_ready (rs := [4, 9]) (by kernel_rfl) (by simp) ?_
      refine AllReadyH.cons rfl (fun K hK => ?_) (AllReadyH.cons rfl (fun K hK => ?_) AllReadyH.nil)
      · skip
        go_simp
        refine hK.out _ _ ?_ (fun hHeld => ?_)
        · trivial
        clear hK K
        try simp only [Act.put, List.setIfInBounds_toArray, List.set_cons_zero, List.set_cons_succ, List.getElem_toArray, List.getElem_cons_succ, List.getElem_cons_zero]
        refine wpAnyH_ready (rs := [9]) (by kernel_rfl) (by simp) ?_
        refine AllReadyH.cons rfl (fun K hK => ?_) AllReadyH.nil
        go_simp
        go_at_call 60
        refine (HNEW.out _).mono ?_
        rintro e w1 ⟨sb, qb, gq, hb, gh, rfl, ho, hq, hb1⟩
        obtain ⟨k1, k2, HROW, HSZ, HST⟩ := HAF.out w1 ⟨sb, qb, gq, hb, gh, 0, []⟩ hq ⟨rfl, rfl⟩ ho (by exact below_pre' hb1 rfl rfl rfl rfl)
        clear ho hq hb1
        refine hK.out _ _ ?_ (fun hHeld => ?_)
        · trivial
        clear hK K
        try simp only [Act.put, List.setIfInBounds_toArray, List.set_cons_zero, List.set_cons_succ, List.getElem_toArray, List.getElem_cons_succ, List.getElem_cons_zero]
        refine wpAnyH_ready (rs := [10]) (by kernel_rfl) (by simp) ?_
        refine AllReadyH.cons rfl (fun K hK => ?_) AllReadyH.nil
        go_simp
        refine hK.out _ _ ?_ (fun hHeld => ?_)
        · trivial
        clear hK K
        try simp only [Act.put, List.setIfInBounds_toArray, List.set_cons_zero, List.set_cons_succ, List.getElem_toArray, List.getElem_cons_succ, List.getElem_cons_zero]
        refine wpAnyH_ready (rs := [11]) (by kernel_rfl) (by simp) ?_
        refine AllReadyH.cons rfl (fun K hK => ?_) AllReadyH.nil
        refine step_append_at _ (by rfl) _ _ _ (by rfl) (w.heap.size + 2) 73 i0 (.pointer none) 1 8 Try.underlying74 hi0 hz0 hz1 hz2 rfl (by omega) (.slice a H.length c) H.length (ptrs H) (by rfl) (by exact HROW.out _ rfl) ⟨w1.heap.size, 0, none⟩ 1 1 [.pointer (some ⟨sb, 0, none⟩)] (by rfl) rfl (by exact cell_one_new _ _ _) (by intro u hu; simp at hu; rw [hu]; rfl) (by unfold maxLen; omega) (by omega) (by exact HSZ.out _ rfl) ?_
        intro v' w3 hr3 hg3 hat3
        obtain ⟨z1, z2, z3⟩ := HST.out _ w3 v' rfl hr3 hg3 hat3
        have HX := veil z3
        obtain ⟨a', c', rfl⟩ := Dc.owns_slice hr3
        clear z3 hr3 hg3 hat3
        refine hK.out _ _ ?_ (fun hHeld => ?_)
        · trivial
        clear hK K
        try simp only [Act.put, List.setIfInBounds_toArray, List.set_cons_zero, List.set_cons_succ, List.getElem_toArray, List.getElem_cons_succ, List.getElem_cons_zero]
        refine wpAnyH_take (i := 12) (v := ?_) rfl (by kernel_rfl) (by kernel_rfl) (by kernel_rfl) (fun _ _ _ h => h) (Or.inl ⟨by rfl, ?v12⟩) (by assumption) ?_
        case v12 => (intro w hSw; (try dsimp only at hSw); go_simp; try with_reducible rfl)
        try simp only [Act.put, List.setIfInBounds_toArray, List.set_cons_zero, List.set_cons_succ, List.getElem_toArray, List.getElem_cons_succ, List.getElem_cons_zero]
        refine wpAnyH_take (i := 13) (v := ?_) rfl (by kernel_rfl) (by kernel_rfl) (by kernel_rfl) (fun _ _ _ h => h) (Or.inl ⟨by rfl, ?v13⟩) (by assumption) ?_
        case v13 => (intro w hSw; (try dsimp only at hSw); go_simp; try with_reducible rfl)
        try simp only [Act.put, List.setIfInBounds_toArray, List.set_cons_zero, List.set_cons_succ, List.getElem_toArray, List.getElem_cons_succ, List.getElem_cons_zero]
        refine wpAnyH_ready (rs := [14]) (by kernel_rfl) (by simp) ?_
        refine AllReadyH.cons rfl (fun K hK => ?_) AllReadyH.nil
        go_simp
        refine hK.out _ _ ?_ (fun hHeld => ?_)
        · trivial
        clear hK K
        try simp only [Act.put, List.setIfInBounds_toArray, List.set_cons_zero, List.set_cons_succ, List.getElem_toArray, List.getElem_cons_succ, List.getElem_cons_zero]
        refine wpAnyH_done (by kernel_rfl) ?_ _
        go_wp2
        go_roundw
        case rel => exact ⟨j + 1, _, _, by omega, by have := HHj.out; simp; omega, by go_num, HX.out⟩
        case measure => simp [intOf]; omega
      · skip
        go_simp
        go_at_call 60
        refine (HNEW.out _).mono ?_
        rintro e w1 ⟨sb, qb, gq, hb, gh, rfl, ho, hq, hb1⟩
        obtain ⟨k1, k2, HROW, HSZ, HST⟩ := HAF.out w1 ⟨sb, qb, gq, hb, gh, 0, []⟩ hq ⟨rfl, rfl⟩ ho (by exact below_pre' hb1 rfl rfl rfl rfl)
        clear ho hq hb1
        refine hK.out _ _ ?_ (fun hHeld => ?_)
        · trivial
        clear hK K
        try simp only [Act.put, List.setIfInBounds_toArray, List.set_cons_zero, List.set_cons_succ, List.getElem_toArray, List.getElem_cons_succ, List.getElem_cons_zero]
        refine wpAnyH_ready (rs := [4, 10]) (by kernel_rfl) (by simp) ?_
        refine AllReadyH.cons rfl (fun K hK => ?_) (AllReadyH.cons rfl (fun K hK => ?_) AllReadyH.nil)
        · skip
          go_simp
          refine hK.out _ _ ?_ (fun hHeld => ?_)
          · trivial
          clear hK K
          try simp only [Act.put, List.setIfInBounds_toArray, List.set_cons_zero, List.set_cons_succ, List.getElem_toArray, List.getElem_cons_succ, List.getElem_cons_zero]
          refine wpAnyH_ready (rs := [10]) (by kernel_rfl) (by simp) ?_
          refine AllReadyH.cons rfl (fun K hK => ?_) AllReadyH.nil
          go_simp
          refine hK.out _ _ ?_ (fun hHeld => ?_)
          · trivial
          clear hK K
          try simp only [Act.put, List.setIfInBounds_toArray, List.set_cons_zero, List.set_cons_succ, List.getElem_toArray, List.getElem_cons_succ, List.getElem_cons_zero]
          refine wpAnyH_ready (rs := [11]) (by kernel_rfl) (by simp) ?_
          refine AllReadyH.cons rfl (fun K hK => ?_) AllReadyH.nil
          refine step_append_at _ (by rfl) _ _ _ (by rfl) (w.heap.size + 2) 73 i0 (.pointer none) 1 8 Try.underlying74 hi0 hz0 hz1 hz2 rfl (by omega) (.slice a H.length c) H.length (ptrs H) (by rfl) (by exact HROW.out _ rfl) ⟨w1.heap.size, 0, none⟩ 1 1 [.pointer (some ⟨sb, 0, none⟩)] (by rfl) rfl (by exact cell_one_new _ _ _) (by intro u hu; simp at hu; rw [hu]; rfl) (by unfold maxLen; omega) (by omega) (by exact HSZ.out _ rfl) ?_
          intro v' w3 hr3 hg3 hat3
          obtain ⟨z1, z2, z3⟩ := HST.out _ w3 v' rfl hr3 hg3 hat3
          have HX := veil z3
          obtain ⟨a', c', rfl⟩ := Dc.owns_slice hr3
          clear z3 hr3 hg3 hat3
          refine hK.out _ _ ?_ (fun hHeld => ?_)
          · trivial
          clear hK K
          try simp only [Act.put, List.setIfInBounds_toArray, List.set_cons_zero, List.set_cons_succ, List.getElem_toArray, List.getElem_cons_succ, List.getElem_cons_zero]
          refine wpAnyH_take (i := 12) (v := ?_) rfl (by kernel_rfl) (by kernel_rfl) (by kernel_rfl) (fun _ _ _ h => h) (Or.inl ⟨by rfl, ?v12⟩) (by assumption) ?_
          case v12 => (intro w hSw; (try dsimp only at hSw); go_simp; try with_reducible rfl)
          try simp only [Act.put, List.setIfInBounds_toArray, List.set_cons_zero, List.set_cons_succ, List.getElem_toArray, List.getElem_cons_succ, List.getElem_cons_zero]
          refine wpAnyH_take (i := 13) (v := ?_) rfl (by kernel_rfl) (by kernel_rfl) (by kernel_rfl) (fun _ _ _ h => h) (Or.inl ⟨by rfl, ?v13⟩) (by assumption) ?_
          case v13 => (intro w hSw; (try dsimp only at hSw); go_simp; try with_reducible rfl)
          try simp only [Act.put, List.setIfInBounds_toArray, List.set_cons_zero, List.set_cons_succ, List.getElem_toArray, List.getElem_cons_succ, List.getElem_cons_zero]
          refine wpAnyH_ready (rs := [14]) (by kernel_rfl) (by simp) ?_
          refine AllReadyH.cons rfl (fun K hK => ?_) AllReadyH.nil
          go_simp
          refine hK.out _ _ ?_ (fun hHeld => ?_)
          · trivial
          clear hK K
          try simp only [Act.put, List.setIfInBounds_toArray, List.set_cons_zero, List.set_cons_succ, List.getElem_toArray, List.getElem_cons_succ, List.getElem_cons_zero]
          refine wpAnyH_done (by kernel_rfl) ?_ _
          go_wp2
          go_roundw
          case rel => exact ⟨j + 1, _, _, by omega, by have := HHj.out; simp; omega, by go_num, HX.out⟩
          case measure => simp [intOf]; omega
        · skip
          go_simp
          refine hK.out _ _ ?_ (fun hHeld => ?_)
          · trivial
          clear hK K
          try simp only [Act.put, List.setIfInBounds_toArray, List.set_cons_zero, List.set_cons_succ, List.getElem_toArray, List.getElem_cons_succ, List.getElem_cons_zero]
          refine wpAnyH_ready (rs := [4]) (by kernel_rfl) (by simp) ?_
          refine AllReadyH.cons rfl (fun K hK => ?_) AllReadyH.nil
          go_simp
          refine hK.out _ _ ?_ (fun hHeld => ?_)
          · trivial
          clear hK K
          try simp only [Act.put, List.setIfInBounds_toArray, List.set_cons_zero, List.set_cons_succ, List.getElem_toArray, List.getElem_cons_succ, List.getElem_cons_zero]
          refine wpAnyH_ready (rs := [11]) (by kernel_rfl) (by simp) ?_
          refine AllReadyH.cons rfl (fun K hK => ?_) AllReadyH.nil
          refine step_append_at _ (by rfl) _ _ _ (by rfl) (w.heap.size + 2) 73 i0 (.pointer none) 1 8 Try.underlying74 hi0 hz0 hz1 hz2 rfl (by omega) (.slice a H.length c) H.length (ptrs H) (by rfl) (by exact HROW.out _ rfl) ⟨w1.heap.size, 0, none⟩ 1 1 [.pointer (some ⟨sb, 0, none⟩)] (by rfl) rfl (by exact cell_one_new _ _ _) (by intro u hu; simp at hu; rw [hu]; rfl) (by unfold maxLen; omega) (by omega) (by exact HSZ.out _ rfl) ?_
          intro v' w3 hr3 hg3 hat3
          obtain ⟨z1, z2, z3⟩ := HST.out _ w3 v' rfl hr3 hg3 hat3
          have HX := veil z3
          obtain ⟨a', c', rfl⟩ := Dc.owns_slice hr3
          clear z3 hr3 hg3 hat3
          refine hK.out _ _ ?_ (fun hHeld => ?_)
          · trivial
          clear hK K
          try simp only [Act.put, List.setIfInBounds_toArray, List.set_cons_zero, List.set_cons_succ, List.getElem_toArray, List.getElem_cons_succ, List.getElem_cons_zero]
          refine wpAnyH_take (i := 12) (v := ?_) rfl (by kernel_rfl) (by kernel_rfl) (by kernel_rfl) (fun _ _ _ h => h) (Or.inl ⟨by rfl, ?v12⟩) (by assumption) ?_
          case v12 => (intro w hSw; (try dsimp only at hSw); go_simp; try with_reducible rfl)
          try simp only [Act.put, List.setIfInBounds_toArray, List.set_cons_zero, List.set_cons_succ, List.getElem_toArray, List.getElem_cons_succ, List.getElem_cons_zero]
          refine wpAnyH_take (i := 13) (v := ?_) rfl (by kernel_rfl) (by kernel_rfl) (by kernel_rfl) (fun _ _ _ h => h) (Or.inl ⟨by rfl, ?v13⟩) (by assumption) ?_
          case v13 => (intro w hSw; (try dsimp only at hSw); go_simp; try with_reducible rfl)
          try simp only [Act.put, List.setIfInBounds_toArray, List.set_cons_zero, List.set_cons_succ, List.getElem_toArray, List.getElem_cons_succ, List.getElem_cons_zero]
          refine wpAnyH_ready (rs := [14]) (by kernel_rfl) (by simp) ?_
          refine AllReadyH.cons rfl (fun K hK => ?_) AllReadyH.nil
          go_simp
          refine hK.out _ _ ?_ (fun hHeld => ?_)
          · trivial
          clear hK K
          try simp only [Act.put, List.setIfInBounds_toArray, List.set_cons_zero, List.set_cons_succ, List.getElem_toArray, List.getElem_cons_succ, List.getElem_cons_zero]
          refine wpAnyH_done (by kernel_rfl) ?_ _
          go_wp2
          go_roundw
          case rel => exact ⟨j + 1, _, _, by omega, by have := HHj.out; simp; omega, by go_num, HX.out⟩
          case measure => simp [intOf]; omega
    · have hjl' : ¬ (j : Int) < (np : Int) := by omega
      have c0 := hB.cell (Below.refl _ _)
      have HNEW := veil (fun W => new_isS n n W h3 h4 (by omega) (by omega))
      have HAF := veil (hB.after n (by unfold moP; rw [if_neg (by omega)]))
      have HHj := veil hH
      have hl64 : H.length ≤ 64 := by omega
      clear hB hH
      go_wp2
      refine wp_region_held_drew (S := (fun _ => True)) (by kernel_rfl) ?_ (fun hHeld => ?_)
      · trivial
      refine wpAnyH_take (i := 0) (v := ?_) rfl (by kernel_rfl) (by kernel_rfl) (by kernel_rfl) (fun _ _ _ h => h) (Or.inl ⟨by rfl, ?v0⟩) (by assumption) ?_
      case v0 => (intro w hSw; (try dsimp only at hSw); go_simp; try with_reducible rfl)
      try simp only [Act.put, List.setIfInBounds_toArray, List.set_cons_zero, List.set_cons_succ, List.getElem_toArray, List.getElem_cons_zero]
      refine wpAnyH_take (i := 1) (v := ?_) rfl (by kernel_rfl) (by kernel_rfl) (by kernel_rfl) (fun _ _ _ h => h) (Or.inl ⟨by rfl, ?v1⟩) (by assumption) ?_
      case v1 => (intro w hSw; (try dsimp only at hSw); go_simp; try with_reducible rfl)
      try simp only [Act.put, List.setIfInBounds_toArray, List.set_cons_zero, List.set_cons_succ, List.getElem_toArray, List.getElem_cons_succ, List.getElem_cons_zero]
      refine wpAnyH_take (i := 2) (v := ?_) rfl (by kernel_rfl) (by kernel_rfl) (by kernel_rfl) (fun _ _ _ h => h) (Or.inl ⟨by rfl, ?v2⟩) (by assumption) ?_
      case v2 => (intro w hSw; (try dsimp only at hSw); go_simp; try with_reducible rfl)
      try simp only [Act.put, List.setIfInBounds_toArray, List.set_cons_zero, List.set_cons_succ, List.getElem_toArray, List.getElem_cons_succ, List.getElem_cons_zero]
      refine wpAnyH_take (i := 3) (v := ?_) rfl (by kernel_rfl) (by kernel_rfl) (by kernel_rfl) (fun _ _ _ h => h) (Or.inl ⟨by rfl, ?v3⟩) (by assumption) ?_
      case v3 => (intro w hSw; (try dsimp only at hSw); go_simp; try with_reducible rfl)
      try simp only [Act.put, List.setIfInBounds_toArray, List.set_cons_zero, List.set_cons_succ, List.getElem_toArray, List.getElem_cons_succ, List.getElem_cons_zero]
      refine wpAnyH_take (i := 5) (v := ?_) rfl (by kernel_rfl) (by kernel_rfl) (by kernel_rfl) (fun _ _ _ h => h) (Or.inl ⟨by rfl, ?v5⟩) (by assumption) ?_
      case v5 => (intro w hSw; (try dsimp only at hSw); go_simp; try with_reducible rfl)
      try simp only [Act.put, List.setIfInBounds_toArray, List.set_cons_zero, List.set_cons_succ, List.getElem_toArray, List.getElem_cons_succ, List.getElem_cons_zero]
      refine wpAnyH_take (i := 6) (v := ?_) rfl (by kernel_rfl) (by kernel_rfl) (by kernel_rfl) (fun _ _ _ h => h) (Or.inl ⟨by rfl, ?v6⟩) (by assumption) ?_
      case v6 => (intro w hSw; (try dsimp only at hSw); go_simp; try with_reducible rfl)
      try simp only [Act.put, List.setIfInBounds_toArray, List.set_cons_zero, List.set_cons_succ, List.getElem_toArray, List.getElem_cons_succ, List.getElem_cons_zero]
      refine wpAnyH_ready (rs := [4, 7]) (by kernel_rfl) (by simp) ?_
      refine AllReadyH.cons rfl (fun K hK => ?_) (AllReadyH.cons rfl (fun K hK => ?_) AllReadyH.nil)
      · skip
        go_simp
        refine hK.out _ _ ?_ (fun hHeld => ?_)
        · trivial
        clear hK K
        try simp only [Act.put, List.setIfInBounds_toArray, List.set_cons_zero, List.set_cons_succ, List.getElem_toArray, List.getElem_cons_succ, List.getElem_cons_zero]
        refine wpAnyH_ready (rs := [7]) (by kernel_rfl) (by simp) ?_
        refine AllReadyH.cons rfl (fun K hK => ?_) AllReadyH.nil
        go_simp
        go_at_call 60
        refine (HNEW.out _).mono ?_
        rintro e w1 ⟨sb, qb, gq, hb, gh, rfl, ho, hq, hb1⟩
        obtain ⟨k1, k2, HROW, HSZ, HST⟩ := HAF.out w1 ⟨sb, qb, gq, hb, gh, 0, []⟩ hq ⟨rfl, rfl⟩ ho (by exact below_pre' hb1 rfl rfl rfl rfl)
        clear ho hq hb1
        refine hK.out _ _ ?_ (fun hHeld => ?_)
        · trivial
        clear hK K
        try simp only [Act.put, List.setIfInBounds_toArray, List.set_cons_zero, List.set_cons_succ, List.getElem_toArray, List.getElem_cons_succ, List.getElem_cons_zero]
        refine wpAnyH_ready (rs := [8]) (by kernel_rfl) (by simp) ?_
        refine AllReadyH.cons rfl (fun K hK => ?_) AllReadyH.nil
        go_simp
        refine hK.out _ _ ?_ (fun hHeld => ?_)
        · trivial
        clear hK K
        try simp only [Act.put, List.setIfInBounds_toArray, List.set_cons_zero, List.set_cons_succ, List.getElem_toArray, List.getElem_cons_succ, List.getElem_cons_zero]
        refine wpAnyH_ready (rs := [9]) (by kernel_rfl) (by simp) ?_
        refine AllReadyH.cons rfl (fun K hK => ?_) AllReadyH.nil
        refine step_append_at _ (by rfl) _ _ _ (by rfl) (w.heap.size + 2) 73 i0 (.pointer none) 1 8 Try.underlying74 hi0 hz0 hz1 hz2 rfl (by omega) (.slice a H.length c) H.length (ptrs H) (by rfl) (by exact HROW.out _ rfl) ⟨w1.heap.size, 0, none⟩ 1 1 [.pointer (some ⟨sb, 0, none⟩)] (by rfl) rfl (by exact cell_one_new _ _ _) (by intro u hu; simp at hu; rw [hu]; rfl) (by unfold maxLen; omega) (by omega) (by exact HSZ.out _ rfl) ?_
        intro v' w3 hr3 hg3 hat3
        obtain ⟨z1, z2, z3⟩ := HST.out _ w3 v' rfl hr3 hg3 hat3
        have HX := veil z3
        obtain ⟨a', c', rfl⟩ := Dc.owns_slice hr3
        clear z3 hr3 hg3 hat3
        refine hK.out _ _ ?_ (fun hHeld => ?_)
        · trivial
        clear hK K
        try simp only [Act.put, List.setIfInBounds_toArray, List.set_cons_zero, List.set_cons_succ, List.getElem_toArray, List.getElem_cons_succ, List.getElem_cons_zero]
        refine wpAnyH_take (i := 10) (v := ?_) rfl (by kernel_rfl) (by kernel_rfl) (by kernel_rfl) (fun _ _ _ h => h) (Or.inl ⟨by rfl, ?v10⟩) (by assumption) ?_
        case v10 => (intro w hSw; (try dsimp only at hSw); go_simp; try with_reducible rfl)
        try simp only [Act.put, List.setIfInBounds_toArray, List.set_cons_zero, List.set_cons_succ, List.getElem_toArray, List.getElem_cons_succ, List.getElem_cons_zero]
        refine wpAnyH_take (i := 11) (v := ?_) rfl (by kernel_rfl) (by kernel_rfl) (by kernel_rfl) (fun _ _ _ h => h) (Or.inl ⟨by rfl, ?v11⟩) (by assumption) ?_
        case v11 => (intro w hSw; (try dsimp only at hSw); go_simp; try with_reducible rfl)
        try simp only [Act.put, List.setIfInBounds_toArray, List.set_cons_zero, List.set_cons_succ, List.getElem_toArray, List.getElem_cons_succ, List.getElem_cons_zero]
        refine wpAnyH_ready (rs := [12]) (by kernel_rfl) (by simp) ?_
        refine AllReadyH.cons rfl (fun K hK => ?_) AllReadyH.nil
        go_simp
        refine hK.out _ _ ?_ (fun hHeld => ?_)
        · trivial
        clear hK K
        try simp only [Act.put, List.setIfInBounds_toArray, List.set_cons_zero, List.set_cons_succ, List.getElem_toArray, List.getElem_cons_succ, List.getElem_cons_zero]
        refine wpAnyH_done (by kernel_rfl) ?_ _
        go_wp2
        go_ret
        first | exact ⟨_, _, rfl, (by have := HHj.out; simp; omega), HX.out⟩ | exact ⟨_, rfl, _, _, rfl, (by have := HHj.out; simp; omega), HX.out⟩ | exact ⟨rfl, _, _, (by have := HHj.out; simp; omega), HX.out⟩ | exact ⟨_, _, (by have := HHj.out; simp; omega), HX.out⟩ | exact ⟨_, rfl, _, (by have := HHj.out; simp; omega), HX.out⟩
      · skip
        go_simp
        go_at_call 60
        refine (HNEW.out _).mono ?_
        rintro e w1 ⟨sb, qb, gq, hb, gh, rfl, ho, hq, hb1⟩
        obtain ⟨k1, k2, HROW, HSZ, HST⟩ := HAF.out w1 ⟨sb, qb, gq, hb, gh, 0, []⟩ hq ⟨rfl, rfl⟩ ho (by exact below_pre' hb1 rfl rfl rfl rfl)
        clear ho hq hb1
        refine hK.out _ _ ?_ (fun hHeld => ?_)
        · trivial
        clear hK K
        try simp only [Act.put, List.setIfInBounds_toArray, List.set_cons_zero, List.set_cons_succ, List.getElem_toArray, List.getElem_cons_succ, List.getElem_cons_zero]
        refine wpAnyH_ready (rs := [4, 8]) (by kernel_rfl) (by simp) ?_
        refine AllReadyH.cons rfl (fun K hK => ?_) (AllReadyH.cons rfl (fun K hK => ?_) AllReadyH.nil)
        · skip
          go_simp
          refine hK.out _ _ ?_ (fun hHeld => ?_)
          · trivial
          clear hK K
          try simp only [Act.put, List.setIfInBounds_toArray, List.set_cons_zero, List.set_cons_succ, List.getElem_toArray, List.getElem_cons_succ, List.getElem_cons_zero]
          refine wpAnyH_ready (rs := [8]) (by kernel_rfl) (by simp) ?_
          refine AllReadyH.cons rfl (fun K hK => ?_) AllReadyH.nil
          go_simp
          refine hK.out _ _ ?_ (fun hHeld => ?_)
          · trivial
          clear hK K
          try simp only [Act.put, List.setIfInBounds_toArray, List.set_cons_zero, List.set_cons_succ, List.getElem_toArray, List.getElem_cons_succ, List.getElem_cons_zero]
          refine wpAnyH_ready (rs := [9]) (by kernel_rfl) (by simp) ?_
          refine AllReadyH.cons rfl (fun K hK => ?_) AllReadyH.nil
          refine step_append_at _ (by rfl) _ _ _ (by rfl) (w.heap.size + 2) 73 i0 (.pointer none) 1 8 Try.underlying74 hi0 hz0 hz1 hz2 rfl (by omega) (.slice a H.length c) H.length (ptrs H) (by rfl) (by exact HROW.out _ rfl) ⟨w1.heap.size, 0, none⟩ 1 1 [.pointer (some ⟨sb, 0, none⟩)] (by rfl) rfl (by exact cell_one_new _ _ _) (by intro u hu; simp at hu; rw [hu]; rfl) (by unfold maxLen; omega) (by omega) (by exact HSZ.out _ rfl) ?_
          intro v' w3 hr3 hg3 hat3
          obtain ⟨z1, z2, z3⟩ := HST.out _ w3 v' rfl hr3 hg3 hat3
          have HX := veil z3
          obtain ⟨a', c', rfl⟩ := Dc.owns_slice hr3
          clear z3 hr3 hg3 hat3
          refine hK.out _ _ ?_ (fun hHeld => ?_)
          · trivial
          clear hK K
          try simp only [Act.put, List.setIfInBounds_toArray, List.set_cons_zero, List.set_cons_succ, List.getElem_toArray, List.getElem_cons_succ, List.getElem_cons_zero]
          refine wpAnyH_take (i := 10) (v := ?_) rfl (by kernel_rfl) (by kernel_rfl) (by kernel_rfl) (fun _ _ _ h => h) (Or.inl ⟨by rfl, ?v10⟩) (by assumption) ?_
          case v10 => (intro w hSw; (try dsimp only at hSw); go_simp; try with_reducible rfl)
          try simp only [Act.put, List.setIfInBounds_toArray, List.set_cons_zero, List.set_cons_succ, List.getElem_toArray, List.getElem_cons_succ, List.getElem_cons_zero]
          refine wpAnyH_take (i := 11) (v := ?_) rfl (by kernel_rfl) (by kernel_rfl) (by kernel_rfl) (fun _ _ _ h => h) (Or.inl ⟨by rfl, ?v11⟩) (by assumption) ?_
          case v11 => (intro w hSw; (try dsimp only at hSw); go_simp; try with_reducible rfl)
          try simp only [Act.put, List.setIfInBounds_toArray, List.set_cons_zero, List.set_cons_succ, List.getElem_toArray, List.getElem_cons_succ, List.getElem_cons_zero]
          refine wpAnyH_ready (rs := [12]) (by kernel_rfl) (by simp) ?_
          refine AllReadyH.cons rfl (fun K hK => ?_) AllReadyH.nil
          go_simp
          refine hK.out _ _ ?_ (fun hHeld => ?_)
          · trivial
          clear hK K
          try simp only [Act.put, List.setIfInBounds_toArray, List.set_cons_zero, List.set_cons_succ, List.getElem_toArray, List.getElem_cons_succ, List.getElem_cons_zero]
          refine wpAnyH_done (by kernel_rfl) ?_ _
          go_wp2
          go_ret
          first | exact ⟨_, _, rfl, (by have := HHj.out; simp; omega), HX.out⟩ | exact ⟨_, rfl, _, _, rfl, (by have := HHj.out; simp; omega), HX.out⟩ | exact ⟨rfl, _, _, (by have := HHj.out; simp; omega), HX.out⟩ | exact ⟨_, _, (by have := HHj.out; simp; omega), HX.out⟩ | exact ⟨_, rfl, _, (by have := HHj.out; simp; omega), HX.out⟩
        · skip
          go_simp
          refine hK.out _ _ ?_ (fun hHeld => ?_)
          · trivial
          clear hK K
          try simp only [Act.put, List.setIfInBounds_toArray, List.set_cons_zero, List.set_cons_succ, List.getElem_toArray, List.getElem_cons_succ, List.getElem_cons_zero]
          refine wpAnyH_ready (rs := [4]) (by kernel_rfl) (by simp) ?_
          refine AllReadyH.cons rfl (fun K hK => ?_) AllReadyH.nil
          go_simp
          refine hK.out _ _ ?_ (fun hHeld => ?_)
          · trivial
          clear hK K
          try simp only [Act.put, List.setIfInBounds_toArray, List.set_cons_zero, List.set_cons_succ, List.getElem_toArray, List.getElem_cons_succ, List.getElem_cons_zero]
          refine wpAnyH_ready (rs := [9]) (by kernel_rfl) (by simp) ?_
          refine AllReadyH.cons rfl (fun K hK => ?_) AllReadyH.nil
          refine step_append_at _ (by rfl) _ _ _ (by rfl) (w.heap.size + 2) 73 i0 (.pointer none) 1 8 Try.underlying74 hi0 hz0 hz1 hz2 rfl (by omega) (.slice a H.length c) H.length (ptrs H) (by rfl) (by exact HROW.out _ rfl) ⟨w1.heap.size, 0, none⟩ 1 1 [.pointer (some ⟨sb, 0, none⟩)] (by rfl) rfl (by exact cell_one_new _ _ _) (by intro u hu; simp at hu; rw [hu]; rfl) (by unfold maxLen; omega) (by omega) (by exact HSZ.out _ rfl) ?_
          intro v' w3 hr3 hg3 hat3
          obtain ⟨z1, z2, z3⟩ := HST.out _ w3 v' rfl hr3 hg3 hat3
          have HX := veil z3
          obtain ⟨a', c', rfl⟩ := Dc.owns_slice hr3
          clear z3 hr3 hg3 hat3
          refine hK.out _ _ ?_ (fun hHeld => ?_)
          · trivial
          clear hK K
          try simp only [Act.put, List.setIfInBounds_toArray, List.set_cons_zero, List.set_cons_succ, List.getElem_toArray, List.getElem_cons_succ, List.getElem_cons_zero]
          refine wpAnyH_take (i := 10) (v := ?_) rfl (by kernel_rfl) (by kernel_rfl) (by kernel_rfl) (fun _ _ _ h => h) (Or.inl ⟨by rfl, ?v10⟩) (by assumption) ?_
          case v10 => (intro w hSw; (try dsimp only at hSw); go_simp; try with_reducible rfl)
          try simp only [Act.put, List.setIfInBounds_toArray, List.set_cons_zero, List.set_cons_succ, List.getElem_toArray, List.getElem_cons_succ, List.getElem_cons_zero]
          refine wpAnyH_take (i := 11) (v := ?_) rfl (by kernel_rfl) (by kernel_rfl) (by kernel_rfl) (fun _ _ _ h => h) (Or.inl ⟨by rfl, ?v11⟩) (by assumption) ?_
          case v11 => (intro w hSw; (try dsimp only at hSw); go_simp; try with_reducible rfl)
          try simp only [Act.put, List.setIfInBounds_toArray, List.set_cons_zero, List.set_cons_succ, List.getElem_toArray, List.getElem_cons_succ, List.getElem_cons_zero]
          refine wpAnyH_ready (rs := [12]) (by kernel_rfl) (by simp) ?_
          refine AllReadyH.cons rfl (fun K hK => ?_) AllReadyH.nil
          go_simp
          refine hK.out _ _ ?_ (fun hHeld => ?_)
          · trivial
          clear hK K
          try simp only [Act.put, List.setIfInBounds_toArray, List.set_cons_zero, List.set_cons_succ, List.getElem_toArray, List.getElem_cons_succ, List.getElem_cons_zero]
          refine wpAnyH_done (by kernel_rfl) ?_ _
          go_wp2
          go_ret
          first | exact ⟨_, _, rfl, (by have := HHj.out; simp; omega), HX.out⟩ | exact ⟨_, rfl, _, _, rfl, (by have := HHj.out; simp; omega), HX.out⟩ | exact ⟨rfl, _, _, (by have := HHj.out; simp; omega), HX.out⟩ | exact ⟨_, _, (by have := HHj.out; simp; omega), HX.out⟩ | exact ⟨_, rfl, _, (by have := HHj.out; simp; omega), HX.out⟩
end Go.Proofs.Ytlfejgjhamcahaa
