/-
  For every deed and number GtabNone answers true: a nil table answers so, and sizes that may not be are refused. The package variable gtab.follows holds what the program's text lays (the card ties it).
-/
import Derived.Test.YtfhnepoegdhjmaaDoorCards
import Derived.Test.YtfhnepoegdhjmaaDoorTie
import Derived.Test.YtfhnepoegdhjmaaDoorT15
import Derived.WalkKit
import Derived.ProofKit
import Derived.OpenShut
import Derived.RowKit3
import Derived.ChangeOld
import Derived.Below
import Derived.Carry
import Derived.Deep.DeepHandedRow
import Derived.Lib.SmallJoins
namespace Go.Proofs.YtfhnepoegdhjmaaDoor.gtabNone
open Go.ChangeShapes Go.WideShapes Go.ChangeAt Go.RowKit
set_option linter.unusedVariables false

theorem own : ownKnob Tryd.prog.godebug = none := by kernel_rfl
theorem laidOut : laidOutB Tryd.prog = true := by kernel_rfl
/-- What stays as it is while a nil table is asked: the deed's box, and that of Alloc's answer. -/
structure Inv (w : World) (p q s : Int) (A : Nat) (w' : World) : Prop where
  b : Below w.heap.size w w'
  lw : w.heap.size < w'.heap.size
  la : A < w'.heap.size
  c1 : w'.cell? ⟨w.heap.size, 1, none⟩ = some (.int .i64 p)
  c2 : w'.cell? ⟨w.heap.size, 2, none⟩ = some (.int .u32 q)
  c3 : w'.cell? ⟨w.heap.size, 3, none⟩ = some (.int .i64 s)
  a0 : w'.cell? ⟨A, 0, none⟩ = some (.int .i64 0)
  a1 : w'.cell? ⟨A, 1, none⟩ = some (.int .u32 0)
theorem Inv.below {w w' w'' : World} {p q s : Int} {A : Nat} (h : Inv w p q s A w') (hb : Below w'.heap.size w' w'') : Inv w p q s A w'' :=
  ⟨h.b.trans (hb.mono h.b.size), Nat.lt_of_lt_of_le h.lw hb.size, Nat.lt_of_lt_of_le h.la hb.size, (hb.cell (p := ⟨w.heap.size, 1, none⟩) h.lw).trans h.c1, (hb.cell (p := ⟨w.heap.size, 2, none⟩) h.lw).trans h.c2, (hb.cell (p := ⟨w.heap.size, 3, none⟩) h.lw).trans h.c3, (hb.cell (p := ⟨A, 0, none⟩) h.la).trans h.a0, (hb.cell (p := ⟨A, 1, none⟩) h.la).trans h.a1⟩
theorem Inv.start {w w1 : World} {k p q s : Int} (h : Below (w.alloc (.cells #[.int .i64 k, .int .i64 p, .int .u32 q, .int .i64 s] 45)).heap.size (w.alloc (.cells #[.int .i64 k, .int .i64 p, .int .u32 q, .int .i64 s] 45)) w1) :
    Inv w p q s w1.heap.size (w1.alloc (.cells #[.int .i64 0, .int .u32 0] 25)) := by
  have hs := h.size
  simp at hs
  have hb : Below w.heap.size w w1 := ((Below.refl _ _).alloc (Nat.le_refl _) _).trans (h.mono (by simp))
  refine ⟨hb.alloc hb.size _, by simp; omega, by simp, ?_, ?_, ?_, by rw [cell_new]; rfl, by rw [cell_new]; rfl⟩
  · rw [World.cell?_alloc_lt _ _ _ (by simp; omega), h.cell (p := ⟨w.heap.size, 1, none⟩) (by simp), cell_new]; rfl
  · rw [World.cell?_alloc_lt _ _ _ (by simp; omega), h.cell (p := ⟨w.heap.size, 2, none⟩) (by simp), cell_new]; rfl
  · rw [World.cell?_alloc_lt _ _ _ (by simp; omega), h.cell (p := ⟨w.heap.size, 3, none⟩) (by simp), cell_new]; rfl
set_option maxHeartbeats 8000000 in
theorem way1 (k p s n : Int) (q : Nat) (w : World) (hX : (decide (n < 1) || decide (1024 < n)) = true) (hN : ∀ w, Calls Tryd.prog 25 #[.int .i64 n] w fun e w' => e = .returned (.pointer none) ∧ w' = w) :
    Calls Tryd.prog 8 #[.agg #[.int .i64 k, .int .i64 p, .int .u32 (q : Int), .int .i64 s], .int .i64 n] w fun e w' => e = .returned (.bool true) ∧ Below w.heap.size w w' := by
  have HN := veil hN
  clear hN
  go_enter Tryd.func8, Tryd.ntmps8
  go_wp2_with (first
    | (go_at_call 24; refine (alloc_nil _).mono ?_; rintro e w1 ⟨rfl, hb⟩; have HI1 := veil (Inv.start hb); have i1 := HI1.out; have c11 := i1.c1; have c21 := i1.c2; have c31 := i1.c3; have a01 := i1.a0; have a11 := i1.a1; clear hb i1)
    | (go_at_call 18; refine (state_nil _ _ _).mono ?_; rintro e w2 ⟨rfl, hb⟩; have HI2 := veil (HI1.out.below hb); have i2 := HI2.out; have c12 := i2.c1; have c22 := i2.c2; have c32 := i2.c3; have a02 := i2.a0; have a12 := i2.a1; clear hb i2)
    | (go_at_call 12; refine (live_law _).mono ?_; rintro e w3 ⟨rfl, hb⟩; have HI3 := veil (HI2.out.below hb); have i3 := HI3.out; have c13 := i3.c1; have c23 := i3.c2; have c33 := i3.c3; have a03 := i3.a0; have a13 := i3.a1; clear hb i3)
    | (go_at_call 17; refine (release_nil _ _ _).mono ?_; rintro e w4 ⟨rfl, hb⟩; have HI4 := veil (HI3.out.below hb); have i4 := HI4.out; have c14 := i4.c1; have c24 := i4.c2; have c34 := i4.c3; have a04 := i4.a0; have a14 := i4.a1; clear hb i4)
    | (go_at_call 19; refine (move_nil _ _ _ _).mono ?_; rintro e w5 ⟨rfl, hb⟩; have HI5 := veil (HI4.out.below hb); have i5 := HI5.out; have c15 := i5.c1; have c25 := i5.c2; have c35 := i5.c3; have a05 := i5.a0; have a15 := i5.a1; clear hb i5)
    | (go_at_call 16; refine (live_nil _).mono ?_; rintro e w6 ⟨rfl, hb⟩; have HI6 := veil (HI5.out.below hb); have i6 := HI6.out; have c16 := i6.c1; have c26 := i6.c2; have c36 := i6.c3; have a06 := i6.a0; have a16 := i6.a1; clear hb i6)
    | (go_at_call 20; refine (len_nil _).mono ?_; rintro e w9 ⟨rfl, hw⟩; replace hw := hw.symm; subst hw)
    | (go_at_call 21; refine (fork_nil _).mono ?_; rintro e w9 ⟨rfl, hw⟩; replace hw := hw.symm; subst hw)
    | (go_at_call 25; refine (HN.out _).mono ?_; rintro e w9 ⟨rfl, hw⟩; replace hw := hw.symm; subst hw))
  all_goals go_ret
  all_goals exact ⟨by simp, HI6.out.b⟩
set_option maxHeartbeats 8000000 in
theorem way2 (k p s n : Int) (q : Nat) (w : World) (h1 : ¬ n < 1) (h2 : ¬ 1024 < n) (hN : ∀ w, Calls Tryd.prog 25 #[.int .i64 n] w fun e w' => (∃ b, e = .returned (.pointer (some ⟨b, 0, none⟩))) ∧ Below w.heap.size w w') :
    Calls Tryd.prog 8 #[.agg #[.int .i64 k, .int .i64 p, .int .u32 (q : Int), .int .i64 s], .int .i64 n] w fun e w' => e = .returned (.bool true) ∧ Below w.heap.size w w' := by
  have HN := veil hN
  clear hN
  go_enter Tryd.func8, Tryd.ntmps8
  go_wp2_with (first
    | (go_at_call 24; refine (alloc_nil _).mono ?_; rintro e w1 ⟨rfl, hb⟩; have HI1 := veil (Inv.start hb); have i1 := HI1.out; have c11 := i1.c1; have c21 := i1.c2; have c31 := i1.c3; have a01 := i1.a0; have a11 := i1.a1; clear hb i1)
    | (go_at_call 18; refine (state_nil _ _ _).mono ?_; rintro e w2 ⟨rfl, hb⟩; have HI2 := veil (HI1.out.below hb); have i2 := HI2.out; have c12 := i2.c1; have c22 := i2.c2; have c32 := i2.c3; have a02 := i2.a0; have a12 := i2.a1; clear hb i2)
    | (go_at_call 12; refine (live_law _).mono ?_; rintro e w3 ⟨rfl, hb⟩; have HI3 := veil (HI2.out.below hb); have i3 := HI3.out; have c13 := i3.c1; have c23 := i3.c2; have c33 := i3.c3; have a03 := i3.a0; have a13 := i3.a1; clear hb i3)
    | (go_at_call 17; refine (release_nil _ _ _).mono ?_; rintro e w4 ⟨rfl, hb⟩; have HI4 := veil (HI3.out.below hb); have i4 := HI4.out; have c14 := i4.c1; have c24 := i4.c2; have c34 := i4.c3; have a04 := i4.a0; have a14 := i4.a1; clear hb i4)
    | (go_at_call 19; refine (move_nil _ _ _ _).mono ?_; rintro e w5 ⟨rfl, hb⟩; have HI5 := veil (HI4.out.below hb); have i5 := HI5.out; have c15 := i5.c1; have c25 := i5.c2; have c35 := i5.c3; have a05 := i5.a0; have a15 := i5.a1; clear hb i5)
    | (go_at_call 16; refine (live_nil _).mono ?_; rintro e w6 ⟨rfl, hb⟩; have HI6 := veil (HI5.out.below hb); have i6 := HI6.out; have c16 := i6.c1; have c26 := i6.c2; have c36 := i6.c3; have a06 := i6.a0; have a16 := i6.a1; clear hb i6)
    | (go_at_call 20; refine (len_nil _).mono ?_; rintro e w9 ⟨rfl, hw⟩; replace hw := hw.symm; subst hw)
    | (go_at_call 21; refine (fork_nil _).mono ?_; rintro e w9 ⟨rfl, hw⟩; replace hw := hw.symm; subst hw)
    | (go_at_call 25; refine (HN.out _).mono ?_; rintro e w7 ⟨⟨bq, rfl⟩, hb⟩; have HI7 := veil (HI6.out.below hb); clear hb))
  all_goals go_ret
  all_goals exact ⟨by simp; omega, HI7.out.b⟩

set_option maxHeartbeats 1000000 in
theorem walk (k0 p0 : Int) (q0 : Nat) (s0 : Int) (a1 : Int) (w : World) (ht : Tab w) (w0 : (Lit.int .i64 k0).wf = true) (x0 : (Lit.int .i64 p0).wf = true) (u0 : q0 < 4294967296) (y0 : (Lit.int .i64 s0).wf = true) (w1 : (Lit.int .i64 a1).wf = true) :
    Calls Tryd.prog 8 #[.agg #[.int .i64 k0, .int .i64 p0, .int .u32 (q0 : Int), .int .i64 s0], .int .i64 a1] w fun e w' => e = .returned (.bool true) ∧ Below w.heap.size w w' := by
  obtain ⟨l1, m1⟩ := bounds_i64 w1
  by_cases hn : a1 < 1 ∨ 1024 < a1
  · exact way1 k0 p0 s0 a1 q0 w (by rcases hn with h | h <;> simp [h]) (fun w => new_not a1 w hn)
  · refine way2 k0 p0 s0 a1 q0 w (by omega) (by omega) (fun w => ?_)
    obtain ⟨N, rfl⟩ := Int.eq_ofNat_of_zero_le (show 0 ≤ a1 by omega)
    refine (new_ok N w (by omega) (by omega)).mono ?_
    rintro e w' ⟨he, _, hb⟩
    exact ⟨⟨_, he⟩, hb⟩

set_option maxHeartbeats 1000000 in
set_option maxRecDepth 100000 in
theorem contract (H : Type) (enc : TypeId × Value → H) (W : World) (base : Nat) (args : Array Value) (ds gs : List (DataW H)) (before : List MemPlace)
    (hval : ∀ (j : Nat) t v, Tryd.f8.params[j]? = some t → args[j]? = some v → Value.okWide Tryd.prog W .any base t v)
    (hW : DataW.Whole enc Tryd.prog Tryd.f8.params.toList Rows.gtabNoneSpec.vars false W args.toList ds gs before) (hL : laidMetH Tryd.prog Rows.gtabNoneRow.laid W) :
    Calls Tryd.prog 8 args W fun e W' => ∃ v, e = .returned v ∧ Rows.gtabNoneSpec.post enc Tryd.prog Tryd.f8 false true false false W args v W' := by
  have hW' := hW
  obtain ⟨p, q, hA0, hV, rfl, hfz, hnd⟩ := hW
  have hA : DataW.TrodAll enc Tryd.prog W 0 (fun _ => true) true Tryd.f8.params.toList args.toList ds p := hA0
  rw [Tryd.params8] at hA hval
  obtain ⟨v0, vs0, d0, ds0, p0', q0', hargs, rfl, rfl, h0, r0⟩ := trodAll_cons hA
  obtain ⟨v1, vs1, d1, ds1, p1', q1', rfl, rfl, rfl, h1, r1⟩ := trodAll_cons r0
  obtain ⟨rfl, rfl, rfl⟩ := trodAll_nil r1
  obtain rfl : args = #[v0, v1] := by cases args; simp_all
  obtain ⟨rfl, rfl⟩ := trodVars_none hV
  have kk0 := h0
  have lt0 : ∀ x ∈ p0', x.block < W.heap.size := by obtain ⟨m, hm⟩ := kk0; exact DataW.trod_lt m _ _ _ hm
  obtain ⟨k0, p0, q0, s0, rfl, w0, x0, u0, y0⟩ := open_deed (hval 0 45 v0 rfl rfl) h0
  have kk1 := h1
  have lt1 : ∀ x ∈ p1', x.block < W.heap.size := by obtain ⟨m, hm⟩ := kk1; exact DataW.trod_lt m _ _ _ hm
  obtain ⟨a1, rfl, rfl, rfl, w1⟩ := open_int Tryd.underlying3 (hval 1 3 v1 rfl rfl) h1
  clear hA0
  refine (walk k0 p0 q0 s0 a1 W (tab_of_laid hL) w0 x0 u0 y0 w1).mono fun e W' ⟨he, bel⟩ => ?_
  subst he
  exact ⟨_, rfl, _, _, _, [], _, [], hW', trodAll_mk1 (shut_bool Tryd.underlying4 _), (trodAll_cons_mk (Below.trod laidOut (by kernel_rfl) (of_decide_eq_true (by kernel_rfl)) kk0 bel lt0) (trodAll_cons_mk (Below.trod laidOut (by kernel_rfl) (of_decide_eq_true (by kernel_rfl)) kk1 bel lt1) trodAll_mk0)), rfl, bel.frame _, fun h => by cases h⟩

/-- A world for the witness: the table holds what its initialiser lays. -/
noncomputable def laidWorld (os : Os) : World :=
  { World.holding Tryd.prog os ⟨#[], #[], []⟩ with heap := (World.holding Tryd.prog os ⟨#[], #[], []⟩).heap.modify 0 fun
      | .cells _ t frozen => .cells #[.bool false, .bool false, .bool false, .bool false, .bool false, .bool false, .bool false, .bool true, .bool false, .bool false, .bool false, .bool true, .bool false, .bool true, .bool true, .bool false, .bool true, .bool false, .bool false, .bool false, .bool false, .bool true, .bool false, .bool false, .bool false] t frozen
      | o => o }
theorem laid_met (os : Os) : laidMet Tryd.prog Rows.gtabNoneRow.laid ((laidWorld os).forCall (fun _ _ => 0) ⟨#[], #[.agg #[.int .i64 0, .int .i64 0, .int .u32 0, .int .i64 0], .int .i64 0], []⟩).memory :=
  laidMet_of_run' 8 (by kernel_rfl) (by kernel_rfl)
theorem reads (os : Os) {H : Type} (enc : TypeId × Value → H) : ∃ places, DataW.whole enc Tryd.prog ((laidWorld os).forCall (fun _ _ => 0) ⟨#[], #[.agg #[.int .i64 0, .int .i64 0, .int .u32 0, .int .i64 0], .int .i64 0], []⟩).memory Tryd.f8.params.toList Rows.gtabNoneSpec.vars false (#[.agg #[.int .i64 0, .int .i64 0, .int .u32 0, .int .i64 0], .int .i64 0] : Array Value).toList 8 = some ([.agg [.lit (.int .i64 0), .agg [.lit (.int .i64 0), .lit (.int .u32 0)], .lit (.int .i64 0)], .lit (.int .i64 0)], [], places) :=
  ⟨[], by kernel_rfl⟩

set_option maxRecDepth 100000 in
theorem lifted (os : Os) (started : os.Started) (H : Type) (enc : TypeId × Value → H) (F : Stop.Interp) :
    ReturnsInHanded {} Tryd.checked os 8 .any ((OpenSpec.ofChange Rows.gtabNoneSpec).preRow enc Tryd.prog Tryd.f8 Rows.gtabNoneRow.domain false Rows.gtabNoneRow.laid) (((OpenSpec.ofChange Rows.gtabNoneSpec).at F).post enc Tryd.prog Tryd.f8 false true false false) := by
  obtain ⟨places, hx⟩ := reads os enc
  refine returnsInHanded_of_row (C := Tryd.checked) (s := OpenSpec.ofChange Rows.gtabNoneSpec) own started (by kernel_rfl) Tryd.func8
    (witness_row_at (enc := enc) (C := Tryd.checked) false (laidWorld os) #[.agg #[.int .i64 0, .int .i64 0, .int .u32 0, .int .i64 0], .int .i64 0] rfl (by kernel_rfl) (by kernel_rfl) (by kernel_rfl)
      (OpenSpec.preRow_of_cond 8 hx (by kernel_rfl) (fun k hk => by cases hk) (by kernel_rfl) (laid_met os))) ?_
  intro W base args ds gs before hval hW _ _ _ hL _ _
  exact contract H enc W base args ds gs before hval hW hL

theorem said : Rows.GtabNoneSaid :=
  OpenClaim.holds_of_cond 8 Tryd.f8 rfl rfl rfl rfl rfl rfl rfl ⟨rfl, rfl, rfl, rfl, rfl⟩ rfl rfl rfl rfl rfl (by kernel_rfl) Tryd.func8 (by kernel_rfl)
    (of_decide_eq_true (by kernel_rfl)) (by unfold Func.isWrapper; first | (rw [if_pos (by decide +kernel)]; kernel_rfl) | (rw [if_neg (by decide +kernel)]; exact ⟨rfl, rfl⟩))
    (fun os started H enc _ F => by rw [OpenClaim.pre_eq_preRow]; exact lifted os started H enc F)

theorem plain (f : FuncId) (fn : Func) (hf : Tryd.pinned.checked.prog.funcNamed "boatswain/boatswainlaw06.GtabNone" = some f) (hfn : Tryd.pinned.checked.prog.funcs[f]? = some fn) :
    false = Tryd.pinned.checked.prog.looks [] ∧ ∀ (j : Nat) t, fn.params[j]? = some t → Tryd.pinned.checked.prog.wantsStandIn t = false := by
  obtain rfl : f = 8 := Option.some.inj ((show Tryd.prog.funcNamed "boatswain/boatswainlaw06.GtabNone" = some 8 by kernel_rfl).symm.trans hf) |>.symm
  obtain rfl : fn = Tryd.f8 := (Option.some.inj (Tryd.func8.symm.trans hfn)).symm
  refine ⟨by kernel_rfl, fun j t ht => ?_⟩
  rw [Tryd.params8] at ht
  have hm : t ∈ [45, 3] := by simpa using Array.mem_of_getElem? ht
  have hall : ([45, 3].all fun u => !Tryd.prog.wantsStandIn u) = true := by kernel_rfl
  exact (show Tryd.prog.wantsStandIn t = false by simpa using List.all_eq_true.1 hall t hm)
end Go.Proofs.YtfhnepoegdhjmaaDoor.gtabNone
namespace Go.Proofs.YtfhnepoegdhjmaaDoor
/-- The statement: the card. -/
theorem gtabNone_holds : Rows.GtabNoneCardSaid :=
  Claim7.holds_tied_plain_at .later [] _ _ _ _ gtabNone.said (fun _ h => by cases h) (by kernel_rfl) (fun _ h => by cases h) gtabNone_row_tie rfl ⟨rfl, rfl⟩ (by kernel_rfl) rfl gtabNone.plain (by kernel_rfl)
#print axioms gtabNone_holds
end Go.Proofs.YtfhnepoegdhjmaaDoor
