/-
  For every number TopLife answers true: a thread's life goes round, and its place is given out anew. The package variable gtab.follows holds what the program's text lays (the card ties it).
-/
import Derived.Test.YtfhnepoegdhjmaaDoorCards
import Derived.Test.YtfhnepoegdhjmaaDoorTie
import Derived.Test.YtfhnepoegdhjmaaDoorT12
import Derived.WalkKit
import Derived.ProofKit
import Derived.OpenShut
import Derived.RowKit3
import Derived.ChangeOld
import Derived.Below
import Derived.Carry
import Derived.Deep.DeepHandedRow
import Derived.Lib.SmallJoins
namespace Go.Proofs.YtfhnepoegdhjmaaDoor.topLife
open Go.ChangeShapes Go.WideShapes Go.ChangeAt Go.RowKit
set_option linter.unusedVariables false

theorem own : ownKnob Tryd.prog.godebug = none := by kernel_rfl
theorem laidOut : laidOutB Tryd.prog = true := by kernel_rfl
open Go.Lib
/-- In the midst of a round: the table, and the id's box at B. -/
structure Mid (w : World) (b g B i : Nat) (G S : Nat → Nat) (w' : World) : Prop where
  p : Rep w' b g 3 G S
  t : Tab w'
  l : Below w.heap.size w w'
  hB : B < w'.heap.size
  c0 : w'.cell? ⟨B, 0, none⟩ = some (.int .i64 0)
  c1 : w'.cell? ⟨B, 1, none⟩ = some (.int .u32 ((i : Int) + 1))
theorem Mid.step {w w' w'' : World} {b g B i : Nat} {G S S' : Nat → Nat} (h : Mid w b g B i G S w') (hp : Rep w'' b g 3 G S') (hf : Fr (fun k => k = g) w' w'') (hg : w.heap.size ≤ g) (h0 : 0 < g) (hgB : g ≠ B) : Mid w b g B i G S' w'' :=
  ⟨hp, h.t.frame hf (by omega), h.l.trans (hf.below h.l.size (fun k e => by omega)), Nat.lt_of_lt_of_le h.hB hf.size, (hf.cell (a := ⟨B, 0, none⟩) h.hB (fun e => hgB e.symm)).trans h.c0, (hf.cell (a := ⟨B, 1, none⟩) h.hB (fun e => hgB e.symm)).trans h.c1⟩
theorem Mid.below {w w' w'' : World} {b g B i : Nat} {G S : Nat → Nat} (h : Mid w b g B i G S w') (hb : Below w'.heap.size w' w'') : Mid w b g B i G S w'' :=
  ⟨h.p.below hb, h.t.below hb, h.l.trans (hb.mono h.l.size), Nat.lt_of_lt_of_le h.hB hb.size, (hb.cell (p := ⟨B, 0, none⟩) h.hB).trans h.c0, (hb.cell (p := ⟨B, 1, none⟩) h.hB).trans h.c1⟩
theorem move_yes {b g B i : Nat} {G S : Nat → Nat} {w w' : World} (h : Mid w b g B i G S w') (hG : G 0 = i + 1) (x : Nat) (yi : Int) (y : Nat) (hy : yi = y) (hx : S 0 = x) (hx0 : x ≠ 0) (hm : mayB x y = true) (hg : w.heap.size ≤ g) (h0 : 0 < g) (hgB : g ≠ B) :
    Calls Tryd.prog 19 #[.pointer (some ⟨b, 0, none⟩), .agg #[.int .i64 0, .int .u32 ((i : Int) + 1)], .int .i64 yi] w' fun e w'' => e = .returned (.int .i64 0) ∧ Mid w b g B i G (upd S 0 y) w'' := by
  subst hy
  have := move_some h.p h.t 0 (i + 1) y (by omega) (by omega) hG (by rw [hx]; exact hm)
  rw [show ((i + 1 : Nat) : Int) = (i : Int) + 1 by omega] at this
  refine this.mono ?_
  rintro e w'' ⟨he, hr, hf⟩
  exact ⟨he, h.step hr hf hg h0 hgB⟩
theorem move_not {b g B i : Nat} {G S : Nat → Nat} {w w' : World} (h : Mid w b g B i G S w') (hG : G 0 = i + 1) (x : Nat) (y : Int) (hx : S 0 = x) (hx0 : x ≠ 0) (hm : mayB x y = false) :
    Calls Tryd.prog 19 #[.pointer (some ⟨b, 0, none⟩), .agg #[.int .i64 0, .int .u32 ((i : Int) + 1)], .int .i64 y] w' fun e w'' => e = .returned (.int .i64 11) ∧ Mid w b g B i G S w'' := by
  have := move_state h.p h.t 0 (i + 1) y (by omega) (by omega) hG (by rw [hx]; exact hm)
  rw [show ((i + 1 : Nat) : Int) = (i : Int) + 1 by omega] at this
  refine this.mono ?_
  rintro e w'' ⟨he, hb⟩
  exact ⟨he, h.below hb⟩
theorem rel_yes {b g B i : Nat} {G S : Nat → Nat} {w w' : World} (h : Mid w b g B i G S w') (hG : G 0 = i + 1) (hx : S 0 ≠ 0) (hg : w.heap.size ≤ g) (h0 : 0 < g) (hgB : g ≠ B) :
    Calls Tryd.prog 17 #[.pointer (some ⟨b, 0, none⟩), .agg #[.int .i64 0, .int .u32 ((i : Int) + 1)]] w' fun e w'' => e = .returned (.int .i64 0) ∧ Mid w b g B i G (upd S 0 0) w'' := by
  have := release_some h.p 0 (i + 1) (by omega) hx hG
  rw [show ((i + 1 : Nat) : Int) = (i : Int) + 1 by omega] at this
  refine this.mono ?_
  rintro e w'' ⟨he, hr, hf⟩
  exact ⟨he, h.step hr hf hg h0 hgB⟩
theorem upd_le' {S : Nat → Nat} {n x v m : Nat} (h : ∀ j, j < n → S j ≤ m) (hv : v ≤ m) : ∀ j, j < n → upd S x v j ≤ m := by
  intro j hj
  unfold upd
  split
  · exact hv
  · exact h j hj
/-- Between two rounds. -/
structure Idle (w : World) (b g i : Nat) (w' : World) : Prop where
  ex : ∃ G S, Rep w' b g 3 G S ∧ G 0 = i ∧ (∀ j, j < 3 → G j ≤ 256) ∧ ∀ j, j < 3 → S j = 0
  t : Tab w'
  l : Below w.heap.size w w'
theorem alloc_yes {w w' : World} {b g i : Nat} (h : Idle w b g i w') (hg : w.heap.size ≤ g) (h0 : 0 < g) (hi : i < 256) :
    Calls Tryd.prog 24 #[.pointer (some ⟨b, 0, none⟩)] w' fun e w'' => e = .returned (.tuple #[.agg #[.int .i64 0, .int .u32 ((i : Int) + 1)], .int .i64 0]) ∧ g < w''.heap.size ∧ ∃ G S, G 0 = i + 1 ∧ (∀ j, j < 3 → G j ≤ 256) ∧ S 0 = 1 ∧ (∀ j, j < 3 → j ≠ 0 → S j = 0) ∧ Mid w b g w''.heap.size i G S (w''.alloc (.cells #[.int .i64 0, .int .u32 ((i : Int) + 1)] 25)) := by
  obtain ⟨G, S, hr, hG0, hG, hS⟩ := h.ex
  refine (alloc_some hr (fun x hx => by have := hG x hx; omega) 0 (by omega) (hS 0 (by omega)) (fun j hj => by omega)).mono ?_
  rintro e w'' ⟨he, hr', hf⟩
  have hb : Below w.heap.size w w'' := h.l.trans (hf.below h.l.size (fun k e => by omega))
  refine ⟨by rw [he, hG0]; simp, hr'.lt_g, upd G 0 (G 0 + 1), upd S 0 1, by rw [upd_same, hG0], upd_le' hG (by omega), upd_same _ _ _, fun j hj hne => by rw [upd_other _ _ _ _ hne]; exact hS j hj, hr'.alloc _, (h.t.frame hf (by omega)).below ((Below.refl _ _).alloc (Nat.le_refl _) _), hb.alloc hb.size _, by simp, by rw [cell_new]; rfl, by rw [cell_new]; rfl⟩
theorem len_one {w : World} {b g : Nat} {G S : Nat → Nat} (h : Rep w b g 3 G S) (h0 : S 0 = 1) (h1 : S 1 = 0) (h2 : S 2 = 0) :
    Calls Tryd.prog 20 #[.pointer (some ⟨b, 0, none⟩)] w fun e w' => e = .returned (.int .i64 1) ∧ Below w.heap.size w w' := by
  refine (len_ok h).mono ?_
  rintro e w' ⟨he, hb⟩
  refine ⟨?_, hb⟩
  rw [he]
  simp [pl, h0, h1, h2]
set_option maxHeartbeats 8000000 in
theorem way (n : Nat) (hn : n < 256) (w : World) (ht : Tab w) :
    Calls Tryd.prog 10 #[.int .u8 n] w fun e w' => e = .returned (.bool true) ∧ Below w.heap.size w w' := by
  have HN : Hid (Calls Tryd.prog 25 #[.int .i64 3] w fun e w' => e = .returned (.pointer (some ⟨w.heap.size + 1, 0, none⟩)) ∧ Idle w (w.heap.size + 1) w.heap.size 0 w') := by
    refine (new_ok 3 w (by omega) (by omega)).mono ?_
    rintro e w' ⟨he, hr, hb⟩
    exact ⟨he, ⟨_, _, hr, rfl, fun _ _ => by simp, fun _ _ => rfl⟩, ht.below hb, hb⟩
  have hpos := ht.pos
  clear ht
  go_enter Tryd.func10, Tryd.ntmps10
  go_wp2_with (go_at_call 25; refine (HN.out).mono ?_; rintro e w1 ⟨rfl, hI⟩; have HI := veil hI; clear hI)
  go_loopw [4] (fun i wr => ∃ j : Nat, j ≤ n ∧ i = .int .i64 j ∧ Idle w (w.heap.size + 1) w.heap.size j wr) (fun i _ => n - (intOf i).toNat)
  case atStart => exact ⟨0, by omega, rfl, HI.out⟩
  case round =>
    obtain ⟨j, hj, rfl, hId⟩ := hrel
    have HId := veil hId
    clear hId
    by_cases hjn : j < n
    · have HA := veil (alloc_yes HId.out (Nat.le_refl _) hpos (by omega))
      go_wp2_with (first
        | (go_at_call 24; refine (HA.out).mono ?_; rintro e w2 ⟨rfl, hgs, G, S, g1, g2, s1, s2, hM⟩; have c0 := hM.c0; have c1 := hM.c1; have HM := veil hM; have hgB : w.heap.size ≠ w2.heap.size := (by omega); clear hM)
        | (go_at_call 19; refine (move_not HM.out g1 1 4 s1 (by decide) rfl).mono ?_; rintro e v1 ⟨rfl, hM⟩; have x00 := hM.c0; have x01 := hM.c1; have HM1 := veil hM; clear hM HM)
        | (go_at_call 19; refine (move_yes HM1.out g1 1 2 2 rfl s1 (by decide) rfl (Nat.le_refl _) hpos hgB).mono ?_; rintro e v2 ⟨rfl, hM⟩; have x10 := hM.c0; have x11 := hM.c1; have HM2 := veil hM; clear hM HM1)
        | (go_at_call 19; refine (move_yes HM2.out g1 2 4 4 rfl (upd_same _ _ _) (by decide) rfl (Nat.le_refl _) hpos hgB).mono ?_; rintro e v3 ⟨rfl, hM⟩; have x20 := hM.c0; have x21 := hM.c1; have HM3 := veil hM; clear hM HM2)
        | (go_at_call 19; refine (move_not HM3.out g1 4 2 (upd_same _ _ _) (by decide) rfl).mono ?_; rintro e v4 ⟨rfl, hM⟩; have x30 := hM.c0; have x31 := hM.c1; have HM4 := veil hM; clear hM HM3)
        | (go_at_call 19; refine (move_yes HM4.out g1 4 1 1 rfl (upd_same _ _ _) (by decide) rfl (Nat.le_refl _) hpos hgB).mono ?_; rintro e v5 ⟨rfl, hM⟩; have x40 := hM.c0; have x41 := hM.c1; have HM5 := veil hM; clear hM HM4)
        | (go_at_call 17; refine (rel_yes HM5.out g1 (by rw [upd_same]; decide) (Nat.le_refl _) hpos hgB).mono ?_; rintro e v6 ⟨rfl, hM⟩; have HM6 := veil hM; clear hM HM5))
      go_roundw
      case rel =>
        refine ⟨j + 1, by omega, by go_num, ⟨_, _, HM6.out.p, g1, g2, fun k hk => ?_⟩, HM6.out.t, HM6.out.l⟩
        by_cases e : k = 0
        · subst e; rw [upd_same]
        · rw [upd_other _ _ _ _ e, upd_other _ _ _ _ e, upd_other _ _ _ _ e, upd_other _ _ _ _ e]; exact s2 k hk e
      case measure => simp [intOf]; omega
    · have hj' : j = n := by omega
      subst hj'
      have HA := veil (alloc_yes HId.out (Nat.le_refl _) hpos (by omega))
      go_wp2_with (first
        | (go_at_call 24; refine (HA.out).mono ?_; rintro e w2 ⟨rfl, hgs, G, S, g1, g2, s1, s2, hM⟩; have c0 := hM.c0; have c1 := hM.c1; have HM := veil hM; clear hM)
        | (go_at_call 20; refine (len_one HM.out.p s1 (s2 1 (by omega) (by omega)) (s2 2 (by omega) (by omega))).mono ?_; rintro e w3 ⟨rfl, hb⟩; have HL := veil (HM.out.l.trans (hb.mono HM.out.l.size)); clear hb))
      go_ret
      exact ⟨by simp, HL.out⟩

set_option maxHeartbeats 1000000 in
theorem walk (a0 : Int) (w : World) (ht : Tab w) (w0 : (Lit.int .u8 a0).wf = true) :
    Calls Tryd.prog 10 #[.int .u8 a0] w fun e w' => e = .returned (.bool true) ∧ Below w.heap.size w w' := by
  obtain ⟨l0, m0⟩ := bounds_u8 w0
  obtain ⟨M, rfl⟩ := Int.eq_ofNat_of_zero_le l0
  exact way M (by omega) w ht

set_option maxHeartbeats 1000000 in
set_option maxRecDepth 100000 in
theorem contract (H : Type) (enc : TypeId × Value → H) (W : World) (base : Nat) (args : Array Value) (ds gs : List (DataW H)) (before : List MemPlace)
    (hval : ∀ (j : Nat) t v, Tryd.f10.params[j]? = some t → args[j]? = some v → Value.okWide Tryd.prog W .any base t v)
    (hW : DataW.Whole enc Tryd.prog Tryd.f10.params.toList Rows.topLifeSpec.vars false W args.toList ds gs before) (hL : laidMetH Tryd.prog Rows.topLifeRow.laid W) :
    Calls Tryd.prog 10 args W fun e W' => ∃ v, e = .returned v ∧ Rows.topLifeSpec.post enc Tryd.prog Tryd.f10 false true false false W args v W' := by
  have hW' := hW
  obtain ⟨p, q, hA0, hV, rfl, hfz, hnd⟩ := hW
  have hA : DataW.TrodAll enc Tryd.prog W 0 (fun _ => true) true Tryd.f10.params.toList args.toList ds p := hA0
  rw [Tryd.params10] at hA hval
  obtain ⟨v0, vs0, d0, ds0, p0', q0', hargs, rfl, rfl, h0, r0⟩ := trodAll_cons hA
  obtain ⟨rfl, rfl, rfl⟩ := trodAll_nil r0
  obtain rfl : args = #[v0] := by cases args; simp_all
  obtain ⟨rfl, rfl⟩ := trodVars_none hV
  have kk0 := h0
  have lt0 : ∀ x ∈ p0', x.block < W.heap.size := by obtain ⟨m, hm⟩ := kk0; exact DataW.trod_lt m _ _ _ hm
  obtain ⟨a0, rfl, rfl, rfl, w0⟩ := open_int Tryd.underlying5 (hval 0 5 v0 rfl rfl) h0
  clear hA0
  refine (walk a0 W (tab_of_laid hL) w0).mono fun e W' ⟨he, bel⟩ => ?_
  subst he
  exact ⟨_, rfl, _, _, _, [], _, [], hW', trodAll_mk1 (shut_bool Tryd.underlying4 _), (trodAll_cons_mk (Below.trod laidOut (by kernel_rfl) (of_decide_eq_true (by kernel_rfl)) kk0 bel lt0) trodAll_mk0), rfl, bel.frame _, fun h => by cases h⟩

/-- A world for the witness: the table holds what its initialiser lays. -/
noncomputable def laidWorld (os : Os) : World :=
  { World.holding Tryd.prog os ⟨#[], #[], []⟩ with heap := (World.holding Tryd.prog os ⟨#[], #[], []⟩).heap.modify 0 fun
      | .cells _ t frozen => .cells #[.bool false, .bool false, .bool false, .bool false, .bool false, .bool false, .bool false, .bool true, .bool false, .bool false, .bool false, .bool true, .bool false, .bool true, .bool true, .bool false, .bool true, .bool false, .bool false, .bool false, .bool false, .bool true, .bool false, .bool false, .bool false] t frozen
      | o => o }
theorem laid_met (os : Os) : laidMet Tryd.prog Rows.topLifeRow.laid ((laidWorld os).forCall (fun _ _ => 0) ⟨#[], #[.int .u8 0], []⟩).memory :=
  laidMet_of_run' 8 (by kernel_rfl) (by kernel_rfl)
theorem reads (os : Os) {H : Type} (enc : TypeId × Value → H) : ∃ places, DataW.whole enc Tryd.prog ((laidWorld os).forCall (fun _ _ => 0) ⟨#[], #[.int .u8 0], []⟩).memory Tryd.f10.params.toList Rows.topLifeSpec.vars false (#[.int .u8 0] : Array Value).toList 8 = some ([.lit (.int .u8 0)], [], places) :=
  ⟨[], by kernel_rfl⟩

set_option maxRecDepth 100000 in
theorem lifted (os : Os) (started : os.Started) (H : Type) (enc : TypeId × Value → H) (F : Stop.Interp) :
    ReturnsInHanded {} Tryd.checked os 10 .any ((OpenSpec.ofChange Rows.topLifeSpec).preRow enc Tryd.prog Tryd.f10 Rows.topLifeRow.domain false Rows.topLifeRow.laid) (((OpenSpec.ofChange Rows.topLifeSpec).at F).post enc Tryd.prog Tryd.f10 false true false false) := by
  obtain ⟨places, hx⟩ := reads os enc
  refine returnsInHanded_of_row (C := Tryd.checked) (s := OpenSpec.ofChange Rows.topLifeSpec) own started (by kernel_rfl) Tryd.func10
    (witness_row_at (enc := enc) (C := Tryd.checked) false (laidWorld os) #[.int .u8 0] rfl (by kernel_rfl) (by kernel_rfl) (by kernel_rfl)
      (OpenSpec.preRow_of_cond 8 hx (by kernel_rfl) (fun k hk => by cases hk) (by kernel_rfl) (laid_met os))) ?_
  intro W base args ds gs before hval hW _ _ _ hL _ _
  exact contract H enc W base args ds gs before hval hW hL

theorem said : Rows.TopLifeSaid :=
  OpenClaim.holds_of_cond 10 Tryd.f10 rfl rfl rfl rfl rfl rfl rfl ⟨rfl, rfl, rfl, rfl, rfl⟩ rfl rfl rfl rfl rfl (by kernel_rfl) Tryd.func10 (by kernel_rfl)
    (of_decide_eq_true (by kernel_rfl)) (by unfold Func.isWrapper; first | (rw [if_pos (by decide +kernel)]; kernel_rfl) | (rw [if_neg (by decide +kernel)]; exact ⟨rfl, rfl⟩))
    (fun os started H enc _ F => by rw [OpenClaim.pre_eq_preRow]; exact lifted os started H enc F)

theorem plain (f : FuncId) (fn : Func) (hf : Tryd.pinned.checked.prog.funcNamed "boatswain/boatswaintop.TopLife" = some f) (hfn : Tryd.pinned.checked.prog.funcs[f]? = some fn) :
    false = Tryd.pinned.checked.prog.looks [] ∧ ∀ (j : Nat) t, fn.params[j]? = some t → Tryd.pinned.checked.prog.wantsStandIn t = false := by
  obtain rfl : f = 10 := Option.some.inj ((show Tryd.prog.funcNamed "boatswain/boatswaintop.TopLife" = some 10 by kernel_rfl).symm.trans hf) |>.symm
  obtain rfl : fn = Tryd.f10 := (Option.some.inj (Tryd.func10.symm.trans hfn)).symm
  refine ⟨by kernel_rfl, fun j t ht => ?_⟩
  rw [Tryd.params10] at ht
  have hm : t ∈ [5] := by simpa using Array.mem_of_getElem? ht
  have hall : ([5].all fun u => !Tryd.prog.wantsStandIn u) = true := by kernel_rfl
  exact (show Tryd.prog.wantsStandIn t = false by simpa using List.all_eq_true.1 hall t hm)
end Go.Proofs.YtfhnepoegdhjmaaDoor.topLife
namespace Go.Proofs.YtfhnepoegdhjmaaDoor
/-- The statement: the card. -/
theorem topLife_holds : Rows.TopLifeCardSaid :=
  Claim7.holds_tied_plain_at .later [] _ _ _ _ topLife.said (fun _ h => by cases h) (by kernel_rfl) (fun _ h => by cases h) topLife_row_tie rfl ⟨rfl, rfl⟩ (by kernel_rfl) rfl topLife.plain (by kernel_rfl)
#print axioms topLife_holds
end Go.Proofs.YtfhnepoegdhjmaaDoor
