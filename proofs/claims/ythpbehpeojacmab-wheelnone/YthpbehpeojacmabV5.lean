/-
  The walk of sweep, as far as a small wheel asks it.
-/
import Derived.Test.YthpbehpeojacmabV4
import Derived.Laws.OwnMore
import Derived.Laws.IdiomCopy
namespace Go.Proofs.Ythpbehpeojacmab
open Go.RowKit
attribute [local go_sem ↓] Go.wp_at_zero Go.wp_at_succ

/-- append of nothing, in a plain region. -/
theorem wpList_append_nil {P : Program} (w : World) {ops : Array Oper} {rest : List Oper} {o : Oper} {a : Act} {Q : Exit → Act → World → Prop} (hgd : o.guard = none) (s x : Operand) (t : TypeId)
    (ho : o.op = .call { callee := .builtin .append, args := #[s, x], argTypes := #[t, t] })
    (base : Nat) (e : TypeId) (i : TypeInfo) (size : Nat) (ht : P.underlying t = some (.slice e)) (hi : P.info? e = some i)
    (v : Value) (n : Nat) (xs : List Value) (hs : a.eval s = v) (hown : w.ownsRow base e size v n xs) (hx : a.eval x = .slice none 0 0)
    (h : wpList P ops Q rest (a.put o.dst v) w) : wpList P ops Q (o :: rest) a w := by
  refine wpList_plain hgd fun K hK => ?_
  have hr := run_append_owned_none (P := P) w base t o.type e i size ht hi v n xs hown
  unfold Oper.wp execOp
  simp only [ho, resolve, invoke, builtin, Sem.run_bind, Sem.run_pure, Result.andThen_ok, List.map_toArray, List.map_cons, List.map_nil, hs, hx, hr]
  exact hK _ _ h

theorem own_one {w : World} {base : Nat} {e : TypeId} {v : Value} {xs : List Value} (h : w.ownsRow base e 1 v 1 xs) : ∃ g c, v = .slice (some ⟨g, 0, none⟩) 1 c := by
  rcases h.2 with ⟨_, h0⟩ | ⟨g', cap, cur, e, _⟩
  · omega
  · exact ⟨_, _, e⟩
section
variable {w : World} {b g n nw ct : Nat} {fm : Value} {F L A B E : Nat → Nat} {T : Nat → Bool}
/-- The first five lists made empty. -/
theorem clear_rep (h : Rep w b g n nw ct fm F L A B E T) : ∃ W1, (∀ ty, (Builtin.clear_ #[91] ty #[.slice (some ⟨b, 1, none⟩) 5 64]).run Try.prog w = .ok (.tuple #[]) W1) ∧ Rep W1 b g n nw ct fm (upd (upd (upd (upd (upd F 0 0) 1 0) 2 0) 3 0) 4 0) (upd (upd (upd (upd (upd L 0 0) 1 0) 2 0) 3 0) 4 0) A B E T ∧ Only b g w W1 := by
  refine ⟨w.setCells b 1 (List.replicate 10 (.int .i64 0)), fun ty => ?_, ?_, ?_⟩
  · have hst := run_storeCells_cells (P := Try.prog) b 1 (List.replicate 10 (.int .i64 0)) 0 w (fun j hj => by
        simp at hj
        by_cases e : j % 2 = 0
        · rw [show 1 + 0 + j = 1 + j / 2 * 2 by omega, h.sf (j / 2) (by omega)]; rfl
        · rw [show 1 + 0 + j = 1 + j / 2 * 2 + 1 by omega, h.sl (j / 2) (by omega)]; rfl) (fun j _ => h.fb _) (fun v hv => by rw [List.eq_of_mem_replicate hv]; rfl)
    have hz : ∀ w, (zeroValue 66).run Try.prog w = .ok (.agg #[.int .i64 0, .int .i64 0]) w := fun w => by kernel_rfl
    have hc : (Builtin.zeroCells (Value.agg #[.int .i64 0, .int .i64 0]).cells 5).toList = [.int .i64 0, .int .i64 0, .int .i64 0, .int .i64 0, .int .i64 0, .int .i64 0, .int .i64 0, .int .i64 0, .int .i64 0, .int .i64 0] := by kernel_rfl
    have hst' : (storeCells ⟨b, 1, none⟩ [.int .i64 0, .int .i64 0, .int .i64 0, .int .i64 0, .int .i64 0, .int .i64 0, .int .i64 0, .int .i64 0, .int .i64 0, .int .i64 0]).run Try.prog w = .ok () (w.setCells b 1 (List.replicate 10 (.int .i64 0))) := hst
    clear hst
    generalize w.setCells b 1 (List.replicate 10 (.int .i64 0)) = W1 at *
    simp [Builtin.clear_, run_underlying Try.underlying91, hz, hc, hst']
  · have := (((((((((h.setF 0 (by omega) 0).setL 0 (by omega) 0).setF 1 (by omega) 0).setL 1 (by omega) 0).setF 2 (by omega) 0).setL 2 (by omega) 0).setF 3 (by omega) 0).setL 3 (by omega) 0).setF 4 (by omega) 0).setL 4 (by omega) 0
    exact this
  · have := (((((((((((Only.refl b g w).set ⟨b, 1, none⟩ (.int .i64 0) (Or.inl rfl)).set ⟨b, 2, none⟩ (.int .i64 0) (Or.inl rfl)).set ⟨b, 3, none⟩ (.int .i64 0) (Or.inl rfl)).set ⟨b, 4, none⟩ (.int .i64 0) (Or.inl rfl)).set ⟨b, 5, none⟩ (.int .i64 0) (Or.inl rfl)).set ⟨b, 6, none⟩ (.int .i64 0) (Or.inl rfl)).set ⟨b, 7, none⟩ (.int .i64 0) (Or.inl rfl)).set ⟨b, 8, none⟩ (.int .i64 0) (Or.inl rfl)).set ⟨b, 9, none⟩ (.int .i64 0) (Or.inl rfl)).set ⟨b, 10, none⟩ (.int .i64 0) (Or.inl rfl))
    exact this
set_option maxHeartbeats 4000000 in
set_option maxRecDepth 100000 in
/-- A wheel at time 0 with one that is due at 3, and none ahead of it or at 4: swept to 4. -/
theorem sweep_four (h : Rep w b g n 0 ct fm F L A B E T) (hn : n ≤ 1024) (x : Nat) (hx : 1 ≤ x) (hxn : x ≤ n) (f0 : F 0 = 0) (f1 : F 1 = 0) (f2 : F 2 = 0) (f3 : F 3 = x) (f4 : F 4 = 0) (b0 : B x = 0) :
    Calls Try.prog 34 #[.pointer (some ⟨b, 0, none⟩), .int .u64 4] w fun e w' => (∃ v, e = .returned v ∧ (∃ a c, v = .slice a 1 c) ∧ w'.ownsRow w.heap.size 3 1 v 1 [.int .i64 ((x : Int) - 1)]) ∧ Rep w' b g n 0 ct fm (upd (upd (upd (upd (upd F 0 0) 1 0) 2 0) 3 0) 4 0) (upd (upd (upd (upd (upd L 0 0) 1 0) 2 0) 3 0) 4 0) A B E T ∧ Only b g w w' := by
  obtain ⟨i0, hi, hz0, hz1, hz2⟩ := info_parts infoInt
  have e0 := h.tn
  have hbb := h.lt_b
  have hgl := h.lt_g
  have HT1 : Hid (∀ w, Calls Try.prog 35 #[.int .u64 4] w fun e w' => e = .returned (.int .u64 0) ∧ w' = w) := fun w => turn_ok 4 (by decide) w
  have HT2 : Hid (∀ w, Calls Try.prog 35 #[.int .u64 0] w fun e w' => e = .returned (.int .u64 0) ∧ w' = w) := fun w => turn_ok 0 (by decide) w
  have HB : Hid (∀ w1, Below w.heap.size w w1 → Rep w1 b g n 0 ct fm F L A B E T) := fun w1 hb => h.below hb
  have e0' : w.cell? ⟨b, 0, none⟩ = some (.int .u64 0) := e0
  clear h e0
  go_enter Try.func34, Try.ntmps34
  go_wp2
  go_region_held3 (fun w' => w'.cell? ⟨b, 0, none⟩ = some (.int .u64 0)) (go_keep)
    (first
      | (go_at_call 35; first
          | (refine (HT1.out _).mono ?_; rintro e w1 ⟨rfl, hw⟩; subst hw)
          | (refine (HT2.out _).mono ?_; rintro e w1 ⟨rfl, hw⟩; subst hw)))
  go_wp2
  go_loopw [6, 30] (fun o i wr => ∃ j : Nat, j ≤ 5 ∧ i = .int .i64 j ∧ Below w.heap.size w wr ∧ ((j ≤ 3 ∧ o = .slice none 0 0) ∨ (4 ≤ j ∧ (∃ a c, o = .slice a 1 c) ∧ wr.ownsRow w.heap.size 3 1 o 1 [.int .i64 ((x : Int) - 1)]))) (fun _ i _ => 5 - (intOf i).toNat)
  case atStart => exact ⟨0, by omega, rfl, (Below.refl _ _).drew, .inl ⟨by omega, rfl⟩⟩
  case round =>
    obtain ⟨j, hj, rfl, hbel, hcase⟩ := hrel
    by_cases hj5 : j < 5
    · have hr := HB.out _ hbel
      have e1 := hr.sf j (by omega)
      have e2 := hr.sl j (by omega)
      have hbb2 := hr.lt_b
      have y1 : ¬ b = wr.heap.size := by omega
      have HR := veil hr
      have HBE := veil hbel
      have hsz := hbel.size
      clear hr hbel
      by_cases hj3 : j = 3
      · subst hj3
        have ho := (hcase.resolve_right (fun q => by omega)).2
        subst ho
        rw [f3] at e1
        have HI := veil (fun w1 hr => ids_one (w := w1) (b := b) (g := g) (n := n) (nw := 0) (ct := ct) (fm := fm) (F := F) (L := L) (A := A) (B := B) (E := E) (T := T) hr x (L 3) hx hxn hn b0)
        clear hcase
        go_wp2_with (first
          | (go_at_call 46; refine (HI.out _ (by exact HR.out.alloc _)).mono ?_; rintro e w5 ⟨⟨v5, rfl, ho5⟩, hb5⟩; obtain ⟨g5, c5, rfl⟩ := own_one ho5; have HO5 := veil ho5; have HB5 := veil ((HBE.out.alloc HBE.out.size _).trans (hb5.mono (by simp; omega))); clear ho5 hb5)
          | (at_builtin; refine wpList_append_own _ rfl _ _ 33 rfl w.heap.size 3 i0 (.int .i64 0) 1 8 Try.underlying33 hi hz0 hz1 hz2 rfl (by decide) (.slice none 0 0) 0 [] rfl (World.ownsRow_nil _ _ _ _) ⟨g5, 0, none⟩ 1 c5 [.int .i64 ((x : Int) - 1)] rfl rfl (HO5.out.cells rfl) (by simp [Value.oneCell']) (by unfold maxLen; omega) (by omega) HB5.out.size ?_; intro v' w6 hown' hgrow _; have HO := veil hown'; have HB6 := veil (HB5.out.grown hgrow HB5.out.size (fun k hk => by simp [Value.ownBlock] at hk)); clear hown' hgrow))
        go_roundw
        case rel =>
          refine ⟨4, by omega, by go_num, HB6.out, .inr ⟨by omega, ?_, by simpa using HO.out⟩⟩
          rcases HO.out.2 with ⟨_, h0⟩ | ⟨g', cap, cur, e, _⟩
          · omega
          · exact ⟨_, _, by simpa using e⟩
        case measure => simp [intOf]
      · have hf : F j = 0 := by
          have : j = 0 ∨ j = 1 ∨ j = 2 ∨ j = 4 := by omega
          rcases this with rfl | rfl | rfl | rfl <;> assumption
        rw [hf] at e1
        have e1' : wr.cell? ⟨b, 1 + j * 2, none⟩ = some (.int .i64 0) := e1
        clear hf e1
        rcases hcase with ⟨h1, rfl⟩ | ⟨h1, ⟨a, c, rfl⟩, ho⟩
        · go_wp2_with (first
            | (go_at_call 46; refine (ids_none _ b (L j)).mono ?_; rintro e w5 ⟨rfl, hb5⟩; have HB5 := veil ((HBE.out.alloc HBE.out.size _).trans (hb5.mono (by simp; omega))); clear hb5)
            | (at_builtin; refine wpList_append_nil _ rfl _ _ 33 rfl w.heap.size 3 i0 1 Try.underlying33 hi (.slice none 0 0) 0 [] rfl (World.ownsRow_nil _ _ _ _) rfl ?_))
          go_roundw
          case rel => exact ⟨j + 1, by omega, by go_num, HB5.out, .inl ⟨by omega, rfl⟩⟩
          case measure => simp [intOf]; omega
        · have HO := veil ho
          clear ho
          go_wp2_with (first
            | (go_at_call 46; refine (ids_none _ b (L j)).mono ?_; rintro e w5 ⟨rfl, hb5⟩; have HO5 := veil ((HO.out.alloc _).kept (w' := w5) (row := none) ⟨hb5.os, hb5.tape, hb5.output, hb5.size, fun k hk _ => hb5.block k hk⟩ (by cases Value.ownBlock (.slice a 1 c) <;> simp)); have HB5 := veil ((HBE.out.alloc HBE.out.size _).trans (hb5.mono (by simp; omega))); clear hb5)
            | (at_builtin; refine wpList_append_nil _ rfl _ _ 33 rfl w.heap.size 3 i0 1 Try.underlying33 hi (.slice a 1 c) 1 [.int .i64 ((x : Int) - 1)] rfl HO5.out rfl ?_))
          go_roundw
          case rel => exact ⟨j + 1, by omega, by go_num, HB5.out, .inr ⟨by omega, ⟨_, _, rfl⟩, HO5.out⟩⟩
          case measure => simp [intOf]; omega
    · have hj' : j = 5 := by omega
      subst hj'
      obtain ⟨_, ⟨a, c, rfl⟩, ho⟩ := hcase.resolve_left (fun q => by omega)
      obtain ⟨W1, hcl, hr1, ho1⟩ := clear_rep (HB.out _ hbel)
      have HX : Hid (W1.ownsRow w.heap.size 3 1 (.slice a 1 c) 1 [.int .i64 ((x : Int) - 1)] ∧ Rep W1 b g n 0 ct fm (upd (upd (upd (upd (upd F 0 0) 1 0) 2 0) 3 0) 4 0) (upd (upd (upd (upd (upd L 0 0) 1 0) 2 0) 3 0) 4 0) A B E T ∧ Only b g w W1) := by
        refine ⟨?_, hr1, (Only.of_below hbel).trans ho1⟩
        refine ⟨ho.1, ?_⟩
        rcases ho.2 with hn | ⟨g', cap, cur, e, hb', hgg, rest⟩
        · exact .inl hn
        · refine .inr ⟨g', cap, cur, e, hb', ?_, rest⟩
          rw [ho1.block g' (Array.getElem?_eq_some_iff.1 hgg).1 (by omega) (by have := hgl; omega)]
          exact hgg
      have hcl' := hcl
      clear hbel ho hr1 ho1 hcase hcl
      go_wp2
      go_ret
      exact ⟨⟨_, rfl, ⟨_, _, rfl⟩, HX.out.1⟩, HX.out.2⟩
end
end Go.Proofs.Ythpbehpeojacmab
