/-
  For every size, every deeds, an id and a state GtabMoves answers true: a state changes only as it may, and of that thread alone. The package variable gtab.follows holds what the program's text lays (the card ties it).
-/
import Derived.Test.YtfhnepoegdhjmaaDoorCards
import Derived.Test.YtfhnepoegdhjmaaDoorTie
import Derived.Test.YtfhnepoegdhjmaaDoorT20
import Derived.WalkKit
import Derived.ProofKit
import Derived.OpenShut
import Derived.RowKit3
import Derived.ChangeOld
import Derived.Below
import Derived.Carry
import Derived.Deep.DeepHandedRow
import Derived.Lib.SmallJoins
namespace Go.Proofs.YtfhnepoegdhjmaaDoor.gtabMoves
open Go.ChangeShapes Go.WideShapes Go.ChangeAt Go.RowKit
set_option linter.unusedVariables false

theorem own : ownKnob Tryd.prog.godebug = none := by kernel_rfl
theorem laidOut : laidOutB Tryd.prog = true := by kernel_rfl
open Go.Lib
theorem may_some {a s : Int} (h : mayB a s = true) : s ≠ 0 := by
  rintro rfl
  unfold mayB fol at h
  simp at h
theorem cases (p s : Int) (q : Nat) (n : Nat) (G S : Nat → Nat) (hS : ∀ j, j < n → S j ≤ 4) : ∃ (was e is : Int) (there ok : Bool) (S' : Nat → Nat),
      (∀ (w : World) (b g : Nat), Rep w b g n G S → Calls Tryd.prog 18 #[.pointer (some ⟨b, 0, none⟩), .agg #[.int .i64 p, .int .u32 (q : Int)]] w fun e w' => e = .returned (.tuple #[.int .i64 was, .bool there]) ∧ Below w.heap.size w w') ∧
      DoesT 19 [.agg #[.int .i64 p, .int .u32 (q : Int)], .int .i64 s] n G S (.int .i64 e) G S' ∧
      (∀ (w : World) (b g : Nat), Rep w b g n G S' → Calls Tryd.prog 18 #[.pointer (some ⟨b, 0, none⟩), .agg #[.int .i64 p, .int .u32 (q : Int)]] w fun e w' => e = .returned (.tuple #[.int .i64 is, .bool ok]) ∧ Below w.heap.size w w') ∧
      (∀ y, y < n → (S' y ≠ 0 → S y ≠ 0) ∧ (S' y ≠ S y → (y : Int) = p ∧ G y = q)) ∧
      ((there = false ∧ e = 6) ∨ (there = true ∧ mayB was s = true ∧ e = 0 ∧ is = s) ∨ (there = true ∧ mayB was s = false ∧ e = 11 ∧ is = was)) := by
  by_cases hh : hasB n G S p q = true
  · obtain ⟨x, rfl, hx, hs, hg⟩ := hasB_some hh
    by_cases hm : mayB (S x) s = true
    · obtain ⟨m0, m1⟩ := may_bound hm
      have hs0 := may_some hm
      obtain ⟨y, rfl⟩ := Int.eq_ofNat_of_zero_le m0
      refine ⟨S x, 0, y, true, true, upd S x y, fun w b g h => state_some h x q hx hs hg, fun w b g h ht => move_some h ht x q y hx hs hg hm, fun w b g h => ?_, fun z hz => ⟨fun h => ?_, fun h => ?_⟩, .inr (.inl ⟨rfl, hm, rfl, rfl⟩)⟩
      · have := state_some h x q hx (by rw [upd_same]; omega) hg
        rw [upd_same] at this
        exact this
      · by_cases e : z = x
        · subst e; exact hs
        · rw [upd_other _ _ _ _ e] at h; exact h
      · by_cases e : z = x
        · subst e; exact ⟨rfl, hg⟩
        · rw [upd_other _ _ _ _ e] at h; exact absurd rfl h
    · have hm' : mayB (S x) s = false := by simpa using hm
      refine ⟨S x, 11, S x, true, true, S, fun w b g h => state_some h x q hx hs hg, fun w b g h ht => (move_state h ht x q s hx hs hg hm').mono ?_, fun w b g h => state_some h x q hx hs hg, fun z hz => ⟨id, fun h => absurd rfl h⟩, .inr (.inr ⟨rfl, hm', rfl, rfl⟩)⟩
      rintro e w' ⟨he, hb⟩
      exact ⟨he, h.below hb, Fr.of_below' hb⟩
  · have hh' : hasB n G S p q = false := by simpa using hh
    refine ⟨0, 6, 0, false, false, S, fun w b g h => state_none h p q hh', fun w b g h _ => (move_none h p s q hh').mono ?_, fun w b g h => state_none h p q hh', fun z hz => ⟨id, fun h => absurd rfl h⟩, .inl ⟨rfl, rfl⟩⟩
    rintro e w' ⟨he, hb⟩
    exact ⟨he, h.below hb, Fr.of_below' hb⟩

set_option maxHeartbeats 1000000 in
theorem walk (a0 : Int) (a1 : Option Addr) (len1 cap1 : Nat) (K1 P1 : Nat → Int) (Q1 : Nat → Nat) (T1 : Nat → Int) (k2 p2 : Int) (q2 : Nat) (s2 : Int) (w : World) (ht : Tab w) (w0 : (Lit.int .u8 a0).wf = true) (n1 : len1 < 9223372036854775808) (w1 : Deeds w a1 len1 K1 P1 Q1 T1) (w2 : (Lit.int .i64 k2).wf = true) (x2 : (Lit.int .i64 p2).wf = true) (u2 : q2 < 4294967296) (y2 : (Lit.int .i64 s2).wf = true) :
    Calls Tryd.prog 6 #[.int .u8 a0, .slice a1 len1 cap1, .agg #[.int .i64 k2, .int .i64 p2, .int .u32 (q2 : Int), .int .i64 s2]] w fun e w' => e = .returned (.bool true) ∧ Below w.heap.size w w' := by
  obtain ⟨l0, m0⟩ := bounds_u8 w0
  obtain ⟨M, rfl⟩ := Int.eq_ofNat_of_zero_le l0
  exact moves_way M (by omega) a1 len1 cap1 K1 P1 Q1 T1 k2 p2 s2 q2 w ht n1 w1 (cases p2 s2 q2)

set_option maxHeartbeats 1000000 in
set_option maxRecDepth 100000 in
theorem contract (H : Type) (enc : TypeId × Value → H) (W : World) (base : Nat) (args : Array Value) (ds gs : List (DataW H)) (before : List MemPlace)
    (hval : ∀ (j : Nat) t v, Tryd.f6.params[j]? = some t → args[j]? = some v → Value.okWide Tryd.prog W .any base t v)
    (hW : DataW.Whole enc Tryd.prog Tryd.f6.params.toList Rows.gtabMovesSpec.vars false W args.toList ds gs before) (hL : laidMetH Tryd.prog Rows.gtabMovesRow.laid W) :
    Calls Tryd.prog 6 args W fun e W' => ∃ v, e = .returned v ∧ Rows.gtabMovesSpec.post enc Tryd.prog Tryd.f6 false true false false W args v W' := by
  have hW' := hW
  obtain ⟨p, q, hA0, hV, rfl, hfz, hnd⟩ := hW
  have hA : DataW.TrodAll enc Tryd.prog W 0 (fun _ => true) true Tryd.f6.params.toList args.toList ds p := hA0
  rw [Tryd.params6] at hA hval
  obtain ⟨v0, vs0, d0, ds0, p0', q0', hargs, rfl, rfl, h0, r0⟩ := trodAll_cons hA
  obtain ⟨v1, vs1, d1, ds1, p1', q1', rfl, rfl, rfl, h1, r1⟩ := trodAll_cons r0
  obtain ⟨v2, vs2, d2, ds2, p2', q2', rfl, rfl, rfl, h2, r2⟩ := trodAll_cons r1
  obtain ⟨rfl, rfl, rfl⟩ := trodAll_nil r2
  obtain rfl : args = #[v0, v1, v2] := by cases args; simp_all
  obtain ⟨rfl, rfl⟩ := trodVars_none hV
  have kk0 := h0
  have lt0 : ∀ x ∈ p0', x.block < W.heap.size := by obtain ⟨m, hm⟩ := kk0; exact DataW.trod_lt m _ _ _ hm
  obtain ⟨a0, rfl, rfl, rfl, w0⟩ := open_int Tryd.underlying5 (hval 0 5 v0 rfl rfl) h0
  have kk1 := h1
  have lt1 : ∀ x ∈ p1', x.block < W.heap.size := by obtain ⟨m, hm⟩ := kk1; exact DataW.trod_lt m _ _ _ hm
  obtain ⟨a1, len1, cap1, rfl⟩ := okWide_slice Tryd.underlying22 (hval 1 22 v1 rfl rfl)
  obtain ⟨n1, K1, P1, Q1, T1, w1⟩ : len1 < 9223372036854775808 ∧ ∃ (K P : Nat → Int) (Q : Nat → Nat) (T : Nat → Int), Deeds W a1 len1 K P Q T := by
    obtain ⟨fuel, hf⟩ := h1
    exact open_deeds hf
  have kk2 := h2
  have lt2 : ∀ x ∈ p2', x.block < W.heap.size := by obtain ⟨m, hm⟩ := kk2; exact DataW.trod_lt m _ _ _ hm
  obtain ⟨k2, p2, q2, s2, rfl, w2, x2, u2, y2⟩ := open_deed (hval 2 45 v2 rfl rfl) h2
  clear hA0
  refine (walk a0 a1 len1 cap1 K1 P1 Q1 T1 k2 p2 q2 s2 W (tab_of_laid hL) w0 n1 w1 w2 x2 u2 y2).mono fun e W' ⟨he, bel⟩ => ?_
  subst he
  exact ⟨_, rfl, _, _, _, [], _, [], hW', trodAll_mk1 (shut_bool Tryd.underlying4 _), (trodAll_cons_mk (Below.trod laidOut (by kernel_rfl) (of_decide_eq_true (by kernel_rfl)) kk0 bel lt0) (trodAll_cons_mk (Below.trod laidOut (by kernel_rfl) (of_decide_eq_true (by kernel_rfl)) kk1 bel lt1) (trodAll_cons_mk (Below.trod laidOut (by kernel_rfl) (of_decide_eq_true (by kernel_rfl)) kk2 bel lt2) trodAll_mk0))), rfl, bel.frame _, fun h => by cases h⟩

/-- A world for the witness: the table holds what its initialiser lays. -/
noncomputable def laidWorld (os : Os) : World :=
  { World.holding Tryd.prog os ⟨#[], #[], []⟩ with heap := (World.holding Tryd.prog os ⟨#[], #[], []⟩).heap.modify 0 fun
      | .cells _ t frozen => .cells #[.bool false, .bool false, .bool false, .bool false, .bool false, .bool false, .bool false, .bool true, .bool false, .bool false, .bool false, .bool true, .bool false, .bool true, .bool true, .bool false, .bool true, .bool false, .bool false, .bool false, .bool false, .bool true, .bool false, .bool false, .bool false] t frozen
      | o => o }
theorem laid_met (os : Os) : laidMet Tryd.prog Rows.gtabMovesRow.laid ((laidWorld os).forCall (fun _ _ => 0) ⟨#[], #[.int .u8 0, .slice none 0 0, .agg #[.int .i64 0, .int .i64 0, .int .u32 0, .int .i64 0]], []⟩).memory :=
  laidMet_of_run' 8 (by kernel_rfl) (by kernel_rfl)
theorem reads (os : Os) {H : Type} (enc : TypeId × Value → H) : ∃ places, DataW.whole enc Tryd.prog ((laidWorld os).forCall (fun _ _ => 0) ⟨#[], #[.int .u8 0, .slice none 0 0, .agg #[.int .i64 0, .int .i64 0, .int .u32 0, .int .i64 0]], []⟩).memory Tryd.f6.params.toList Rows.gtabMovesSpec.vars false (#[.int .u8 0, .slice none 0 0, .agg #[.int .i64 0, .int .i64 0, .int .u32 0, .int .i64 0]] : Array Value).toList 8 = some ([.lit (.int .u8 0), .nil, .agg [.lit (.int .i64 0), .agg [.lit (.int .i64 0), .lit (.int .u32 0)], .lit (.int .i64 0)]], [], places) :=
  ⟨[], by kernel_rfl⟩

set_option maxRecDepth 100000 in
theorem lifted (os : Os) (started : os.Started) (H : Type) (enc : TypeId × Value → H) (F : Stop.Interp) :
    ReturnsInHanded {} Tryd.checked os 6 .any ((OpenSpec.ofChange Rows.gtabMovesSpec).preRow enc Tryd.prog Tryd.f6 Rows.gtabMovesRow.domain false Rows.gtabMovesRow.laid) (((OpenSpec.ofChange Rows.gtabMovesSpec).at F).post enc Tryd.prog Tryd.f6 false true false false) := by
  obtain ⟨places, hx⟩ := reads os enc
  refine returnsInHanded_of_row (C := Tryd.checked) (s := OpenSpec.ofChange Rows.gtabMovesSpec) own started (by kernel_rfl) Tryd.func6
    (witness_row_at (enc := enc) (C := Tryd.checked) false (laidWorld os) #[.int .u8 0, .slice none 0 0, .agg #[.int .i64 0, .int .i64 0, .int .u32 0, .int .i64 0]] rfl (by kernel_rfl) (by kernel_rfl) (by kernel_rfl)
      (OpenSpec.preRow_of_cond 8 hx (by kernel_rfl) (fun k hk => by cases hk) (by kernel_rfl) (laid_met os))) ?_
  intro W base args ds gs before hval hW _ _ _ hL _ _
  exact contract H enc W base args ds gs before hval hW hL

theorem said : Rows.GtabMovesSaid :=
  OpenClaim.holds_of_cond 6 Tryd.f6 rfl rfl rfl rfl rfl rfl rfl ⟨rfl, rfl, rfl, rfl, rfl⟩ rfl rfl rfl rfl rfl (by kernel_rfl) Tryd.func6 (by kernel_rfl)
    (of_decide_eq_true (by kernel_rfl)) (by unfold Func.isWrapper; first | (rw [if_pos (by decide +kernel)]; kernel_rfl) | (rw [if_neg (by decide +kernel)]; exact ⟨rfl, rfl⟩))
    (fun os started H enc _ F => by rw [OpenClaim.pre_eq_preRow]; exact lifted os started H enc F)

theorem plain (f : FuncId) (fn : Func) (hf : Tryd.pinned.checked.prog.funcNamed "boatswain/boatswainlaw06.GtabMoves" = some f) (hfn : Tryd.pinned.checked.prog.funcs[f]? = some fn) :
    false = Tryd.pinned.checked.prog.looks [] ∧ ∀ (j : Nat) t, fn.params[j]? = some t → Tryd.pinned.checked.prog.wantsStandIn t = false := by
  obtain rfl : f = 6 := Option.some.inj ((show Tryd.prog.funcNamed "boatswain/boatswainlaw06.GtabMoves" = some 6 by kernel_rfl).symm.trans hf) |>.symm
  obtain rfl : fn = Tryd.f6 := (Option.some.inj (Tryd.func6.symm.trans hfn)).symm
  refine ⟨by kernel_rfl, fun j t ht => ?_⟩
  rw [Tryd.params6] at ht
  have hm : t ∈ [5, 22, 45] := by simpa using Array.mem_of_getElem? ht
  have hall : ([5, 22, 45].all fun u => !Tryd.prog.wantsStandIn u) = true := by kernel_rfl
  exact (show Tryd.prog.wantsStandIn t = false by simpa using List.all_eq_true.1 hall t hm)
end Go.Proofs.YtfhnepoegdhjmaaDoor.gtabMoves
namespace Go.Proofs.YtfhnepoegdhjmaaDoor
/-- The statement: the card. -/
theorem gtabMoves_holds : Rows.GtabMovesCardSaid :=
  Claim7.holds_tied_plain_at .later [] _ _ _ _ gtabMoves.said (fun _ h => by cases h) (by kernel_rfl) (fun _ h => by cases h) gtabMoves_row_tie rfl ⟨rfl, rfl⟩ (by kernel_rfl) rfl gtabMoves.plain (by kernel_rfl)
#print axioms gtabMoves_holds
end Go.Proofs.YtfhnepoegdhjmaaDoor
