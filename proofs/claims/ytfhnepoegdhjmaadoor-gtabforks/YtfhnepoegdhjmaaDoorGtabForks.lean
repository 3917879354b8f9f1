/-
  For every deeds and more of them GtabForks answers true: what becomes of a Fork changes nothing of the table that it came from. The package variable gtab.follows holds what the program's text lays (the card ties it).
-/
import Derived.Test.YtfhnepoegdhjmaaDoorCards
import Derived.Test.YtfhnepoegdhjmaaDoorTie
import Derived.Test.YtfhnepoegdhjmaaDoorT17
import Derived.WalkKit
import Derived.ProofKit
import Derived.OpenShut
import Derived.RowKit3
import Derived.ChangeOld
import Derived.Below
import Derived.Carry
import Derived.Deep.DeepHandedRow
import Derived.Lib.SmallJoins
namespace Go.Proofs.YtfhnepoegdhjmaaDoor.gtabForks
open Go.ChangeShapes Go.WideShapes Go.ChangeAt Go.RowKit
set_option linter.unusedVariables false

theorem own : ownKnob Tryd.prog.godebug = none := by kernel_rfl
theorem laidOut : laidOutB Tryd.prog = true := by kernel_rfl
open Go.Lib
set_option maxHeartbeats 8000000 in
theorem way (a : Option Addr) (len cap : Nat) (K P : Nat → Int) (Q : Nat → Nat) (T : Nat → Int) (a' : Option Addr) (len' cap' : Nat) (K' P' : Nat → Int) (Q' : Nat → Nat) (T' : Nat → Int) (w : World) (ht : Tab w) (hlen : len < 9223372036854775808) (hd : Deeds w a len K P Q T) (hlen' : len' < 9223372036854775808) (hd' : Deeds w a' len' K' P' Q' T') :
    Calls Tryd.prog 7 #[.slice a len cap, .slice a' len' cap'] w fun e w' => e = .returned (.bool true) ∧ Below w.heap.size w w' := by
  have HP : Hid (Calls Tryd.prog 11 #[.int .u8 3, .slice a len cap] w (Played w 4)) := play_ok w ht 3 (by omega) a len cap hlen K P Q T hd
  have HD := veil hd'
  have hpos := ht.pos
  clear hd hd' ht
  go_enter Tryd.func7, Tryd.ntmps7
  go_wp2_with (first
    | (go_at_call 11; refine (HP.out).mono ?_; rintro e w1 ⟨b, g, rb, sb, gb, G, S, rfl, hh, hB, hG, hL⟩; have HB := veil hB; have HL := veil hL; have HG := veil hG; clear hB hL hG)
    | (go_at_call 12; refine (live_law _).mono ?_; rintro e w2 ⟨rfl, hb2⟩; have HB2 := veil (HB.out.below hb2); have HL2 := veil (HL.out.trans (hb2.mono HL.out.size)); clear hb2)
    | (go_at_call 21; refine (fork_ok HB2.out.p).mono ?_; rintro e w3 ⟨b', g', rfl, k1, k2, hr3, hb3⟩; have HR3 := veil hr3; have HB3 := veil (HB2.out.below hb3); have HL3 := veil (HL2.out.trans (hb3.mono HL2.out.size)); have hs3 := hb3.size; have h2s := HL2.out.size; clear hr3 hb3)
    | (go_at_call 22; refine (rfork_ok HB3.out.r).mono ?_; rintro e w4 ⟨rb', sb', gb', rfl, k3, k4, k5, hr4, hb4⟩; have HR4 := veil hr4; have HR34 := veil (HR3.out.below hb4); have HB4 := veil (HB3.out.below hb4); have HL4 := veil (HL3.out.trans (hb4.mono HL3.out.size)); clear hr4 hb4))
  have l1 := HR3.out.lt_b
  have l2 := HR3.out.lt_g
  have q1 := HB2.out.p.lt_b
  have q2 := HB2.out.p.lt_g
  have q3 := HB2.out.r.lt_r
  have q4 := HB2.out.r.lt_s
  have q5 := HB2.out.r.lt_g
  have HF0 : Hid (Both w4 b' g' rb' sb' gb' 4 G S) :=
    ⟨HR34.out, HR4.out, HB4.out.t, HB4.out.s4, by omega, by omega, by omega, by omega, by omega, by omega, by omega, by omega, by omega⟩
  clear HB HL HB2 HL2 HR3 HB3 HL3 HR4 HR34 HP
  go_loopw [10] (fun i wr => ∃ (j : Nat) (G' S' : Nat → Nat), j ≤ len' ∧ j ≤ 30 ∧ i = .int .i64 j ∧ Both wr b' g' rb' sb' gb' 4 G' S' ∧ Both wr b g rb sb gb 4 G S ∧ (∀ k, k < 4 → G' k ≤ 100 + j) ∧ Below w.heap.size w wr) (fun i _ => len' - (intOf i).toNat)
  case atStart => exact ⟨0, G, S, by omega, by omega, rfl, HF0.out, HB4.out, HG.out, HL4.out⟩
  case round =>
    obtain ⟨j, G', S', hj, hj1, rfl, hF, hB, hGj, hbel⟩ := hrel
    by_cases hjl : j < len'
    · have hjl' : (j : Int) < (len' : Int) := by omega
      by_cases hj2 : j < 30
      · rcases HD.out with h0 | ⟨lb, off, rfl, hlb, hc⟩
        · omega
        · obtain ⟨z1, z2, z3, z4⟩ := hc j hjl
          have y1 := (hbel.cell (p := ⟨lb, off + j * 4, none⟩) hlb).trans z1
          have y2 := (hbel.cell (p := ⟨lb, off + j * 4 + 1, none⟩) hlb).trans z2
          have y3 := (hbel.cell (p := ⟨lb, off + j * 4 + 2, none⟩) hlb).trans z3
          have y4 := (hbel.cell (p := ⟨lb, off + j * 4 + 3, none⟩) hlb).trans z4
          have HO := veil (do_ok hF (100 + j) (by omega) hGj (K' j) (P' j) (T' j) (Q' j))
          have HS : Hid (∀ w'', Fr (fun k => k = g' ∨ k = sb' ∨ k = gb') wr w'' → Below w.heap.size w w'' ∧ Both w'' b g rb sb gb 4 G S) := by
            intro w'' hf
            refine ⟨hF.step (Nat.le_refl _) hbel (by omega) (by omega) (by omega) hf, hB.frame hf ?_ ?_ ?_ ?_ ?_ ?_⟩ <;> omega
          clear hc z1 z2 z3 z4 hF hB hbel hGj
          go_wp2_with (go_at_call 23; refine (HO.out).mono ?_; rintro e w5 ⟨rfl, hb5, hf5⟩; have HB5 := veil hb5; have HF5 := veil (HS.out _ hf5); clear hb5 hf5)
          go_roundw
          case rel =>
            obtain ⟨G'', S'', hb', hg'⟩ := HB5.out
            exact ⟨j + 1, G'', S'', by omega, by omega, by go_num, hb', HF5.out.2, fun k hk => by have := hg' k hk; omega, HF5.out.1⟩
          case measure => simp [intOf]; omega
      · have HF4 := veil hF
        have HB5 := veil hB
        have HL5 := veil hbel
        clear hF hB hbel hGj
        go_wp2_with (first
          | (go_at_call 13; refine (same_ok HB5.out 0 1).mono ?_; rintro e w6 ⟨rfl, hb6⟩; have HF6 := veil (HF4.out.below hb6); have HL6 := veil (HL5.out.trans (hb6.mono HL5.out.size)); clear hb6 HB5)
          | (go_at_call 13; refine (same_ok HF6.out 0 1).mono ?_; rintro e w7 ⟨rfl, hb7⟩; have HL7 := veil (HL6.out.trans (hb7.mono HL6.out.size)); clear hb7))
        go_ret
        exact ⟨by simp, HL7.out⟩
    · have HF4 := veil hF
      have HB5 := veil hB
      have HL5 := veil hbel
      have hjl' : ¬ (j : Int) < (len' : Int) := by omega
      clear hF hB hbel hGj
      go_wp2_with (first
        | (go_at_call 13; refine (same_ok HB5.out 0 1).mono ?_; rintro e w6 ⟨rfl, hb6⟩; have HF6 := veil (HF4.out.below hb6); have HL6 := veil (HL5.out.trans (hb6.mono HL5.out.size)); clear hb6 HB5)
        | (go_at_call 13; refine (same_ok HF6.out 0 1).mono ?_; rintro e w7 ⟨rfl, hb7⟩; have HL7 := veil (HL6.out.trans (hb7.mono HL6.out.size)); clear hb7))
      go_ret
      exact ⟨by simp, HL7.out⟩

set_option maxHeartbeats 1000000 in
theorem walk (a0 : Option Addr) (len0 cap0 : Nat) (K0 P0 : Nat → Int) (Q0 : Nat → Nat) (T0 : Nat → Int) (a1 : Option Addr) (len1 cap1 : Nat) (K1 P1 : Nat → Int) (Q1 : Nat → Nat) (T1 : Nat → Int) (w : World) (ht : Tab w) (n0 : len0 < 9223372036854775808) (w0 : Deeds w a0 len0 K0 P0 Q0 T0) (n1 : len1 < 9223372036854775808) (w1 : Deeds w a1 len1 K1 P1 Q1 T1) :
    Calls Tryd.prog 7 #[.slice a0 len0 cap0, .slice a1 len1 cap1] w fun e w' => e = .returned (.bool true) ∧ Below w.heap.size w w' := by
  exact way a0 len0 cap0 K0 P0 Q0 T0 a1 len1 cap1 K1 P1 Q1 T1 w ht n0 w0 n1 w1

set_option maxHeartbeats 1000000 in
set_option maxRecDepth 100000 in
theorem contract (H : Type) (enc : TypeId × Value → H) (W : World) (base : Nat) (args : Array Value) (ds gs : List (DataW H)) (before : List MemPlace)
    (hval : ∀ (j : Nat) t v, Tryd.f7.params[j]? = some t → args[j]? = some v → Value.okWide Tryd.prog W .any base t v)
    (hW : DataW.Whole enc Tryd.prog Tryd.f7.params.toList Rows.gtabForksSpec.vars false W args.toList ds gs before) (hL : laidMetH Tryd.prog Rows.gtabForksRow.laid W) :
    Calls Tryd.prog 7 args W fun e W' => ∃ v, e = .returned v ∧ Rows.gtabForksSpec.post enc Tryd.prog Tryd.f7 false true false false W args v W' := by
  have hW' := hW
  obtain ⟨p, q, hA0, hV, rfl, hfz, hnd⟩ := hW
  have hA : DataW.TrodAll enc Tryd.prog W 0 (fun _ => true) true Tryd.f7.params.toList args.toList ds p := hA0
  rw [Tryd.params7] at hA hval
  obtain ⟨v0, vs0, d0, ds0, p0', q0', hargs, rfl, rfl, h0, r0⟩ := trodAll_cons hA
  obtain ⟨v1, vs1, d1, ds1, p1', q1', rfl, rfl, rfl, h1, r1⟩ := trodAll_cons r0
  obtain ⟨rfl, rfl, rfl⟩ := trodAll_nil r1
  obtain rfl : args = #[v0, v1] := by cases args; simp_all
  obtain ⟨rfl, rfl⟩ := trodVars_none hV
  have kk0 := h0
  have lt0 : ∀ x ∈ p0', x.block < W.heap.size := by obtain ⟨m, hm⟩ := kk0; exact DataW.trod_lt m _ _ _ hm
  obtain ⟨a0, len0, cap0, rfl⟩ := okWide_slice Tryd.underlying22 (hval 0 22 v0 rfl rfl)
  obtain ⟨n0, K0, P0, Q0, T0, w0⟩ : len0 < 9223372036854775808 ∧ ∃ (K P : Nat → Int) (Q : Nat → Nat) (T : Nat → Int), Deeds W a0 len0 K P Q T := by
    obtain ⟨fuel, hf⟩ := h0
    exact open_deeds hf
  have kk1 := h1
  have lt1 : ∀ x ∈ p1', x.block < W.heap.size := by obtain ⟨m, hm⟩ := kk1; exact DataW.trod_lt m _ _ _ hm
  obtain ⟨a1, len1, cap1, rfl⟩ := okWide_slice Tryd.underlying22 (hval 1 22 v1 rfl rfl)
  obtain ⟨n1, K1, P1, Q1, T1, w1⟩ : len1 < 9223372036854775808 ∧ ∃ (K P : Nat → Int) (Q : Nat → Nat) (T : Nat → Int), Deeds W a1 len1 K P Q T := by
    obtain ⟨fuel, hf⟩ := h1
    exact open_deeds hf
  clear hA0
  refine (walk a0 len0 cap0 K0 P0 Q0 T0 a1 len1 cap1 K1 P1 Q1 T1 W (tab_of_laid hL) n0 w0 n1 w1).mono fun e W' ⟨he, bel⟩ => ?_
  subst he
  exact ⟨_, rfl, _, _, _, [], _, [], hW', trodAll_mk1 (shut_bool Tryd.underlying4 _), (trodAll_cons_mk (Below.trod laidOut (by kernel_rfl) (of_decide_eq_true (by kernel_rfl)) kk0 bel lt0) (trodAll_cons_mk (Below.trod laidOut (by kernel_rfl) (of_decide_eq_true (by kernel_rfl)) kk1 bel lt1) trodAll_mk0)), rfl, bel.frame _, fun h => by cases h⟩

/-- A world for the witness: the table holds what its initialiser lays. -/
noncomputable def laidWorld (os : Os) : World :=
  { World.holding Tryd.prog os ⟨#[], #[], []⟩ with heap := (World.holding Tryd.prog os ⟨#[], #[], []⟩).heap.modify 0 fun
      | .cells _ t frozen => .cells #[.bool false, .bool false, .bool false, .bool false, .bool false, .bool false, .bool false, .bool true, .bool false, .bool false, .bool false, .bool true, .bool false, .bool true, .bool true, .bool false, .bool true, .bool false, .bool false, .bool false, .bool false, .bool true, .bool false, .bool false, .bool false] t frozen
      | o => o }
theorem laid_met (os : Os) : laidMet Tryd.prog Rows.gtabForksRow.laid ((laidWorld os).forCall (fun _ _ => 0) ⟨#[], #[.slice none 0 0, .slice none 0 0], []⟩).memory :=
  laidMet_of_run' 8 (by kernel_rfl) (by kernel_rfl)
theorem reads (os : Os) {H : Type} (enc : TypeId × Value → H) : ∃ places, DataW.whole enc Tryd.prog ((laidWorld os).forCall (fun _ _ => 0) ⟨#[], #[.slice none 0 0, .slice none 0 0], []⟩).memory Tryd.f7.params.toList Rows.gtabForksSpec.vars false (#[.slice none 0 0, .slice none 0 0] : Array Value).toList 8 = some ([.nil, .nil], [], places) :=
  ⟨[], by kernel_rfl⟩

set_option maxRecDepth 100000 in
theorem lifted (os : Os) (started : os.Started) (H : Type) (enc : TypeId × Value → H) (F : Stop.Interp) :
    ReturnsInHanded {} Tryd.checked os 7 .any ((OpenSpec.ofChange Rows.gtabForksSpec).preRow enc Tryd.prog Tryd.f7 Rows.gtabForksRow.domain false Rows.gtabForksRow.laid) (((OpenSpec.ofChange Rows.gtabForksSpec).at F).post enc Tryd.prog Tryd.f7 false true false false) := by
  obtain ⟨places, hx⟩ := reads os enc
  refine returnsInHanded_of_row (C := Tryd.checked) (s := OpenSpec.ofChange Rows.gtabForksSpec) own started (by kernel_rfl) Tryd.func7
    (witness_row_at (enc := enc) (C := Tryd.checked) false (laidWorld os) #[.slice none 0 0, .slice none 0 0] rfl (by kernel_rfl) (by kernel_rfl) (by kernel_rfl)
      (OpenSpec.preRow_of_cond 8 hx (by kernel_rfl) (fun k hk => by cases hk) (by kernel_rfl) (laid_met os))) ?_
  intro W base args ds gs before hval hW _ _ _ hL _ _
  exact contract H enc W base args ds gs before hval hW hL

theorem said : Rows.GtabForksSaid :=
  OpenClaim.holds_of_cond 7 Tryd.f7 rfl rfl rfl rfl rfl rfl rfl ⟨rfl, rfl, rfl, rfl, rfl⟩ rfl rfl rfl rfl rfl (by kernel_rfl) Tryd.func7 (by kernel_rfl)
    (of_decide_eq_true (by kernel_rfl)) (by unfold Func.isWrapper; first | (rw [if_pos (by decide +kernel)]; kernel_rfl) | (rw [if_neg (by decide +kernel)]; exact ⟨rfl, rfl⟩))
    (fun os started H enc _ F => by rw [OpenClaim.pre_eq_preRow]; exact lifted os started H enc F)

theorem plain (f : FuncId) (fn : Func) (hf : Tryd.pinned.checked.prog.funcNamed "boatswain/boatswainlaw06.GtabForks" = some f) (hfn : Tryd.pinned.checked.prog.funcs[f]? = some fn) :
    false = Tryd.pinned.checked.prog.looks [] ∧ ∀ (j : Nat) t, fn.params[j]? = some t → Tryd.pinned.checked.prog.wantsStandIn t = false := by
  obtain rfl : f = 7 := Option.some.inj ((show Tryd.prog.funcNamed "boatswain/boatswainlaw06.GtabForks" = some 7 by kernel_rfl).symm.trans hf) |>.symm
  obtain rfl : fn = Tryd.f7 := (Option.some.inj (Tryd.func7.symm.trans hfn)).symm
  refine ⟨by kernel_rfl, fun j t ht => ?_⟩
  rw [Tryd.params7] at ht
  have hm : t ∈ [22, 22] := by simpa using Array.mem_of_getElem? ht
  have hall : ([22, 22].all fun u => !Tryd.prog.wantsStandIn u) = true := by kernel_rfl
  exact (show Tryd.prog.wantsStandIn t = false by simpa using List.all_eq_true.1 hall t hm)
end Go.Proofs.YtfhnepoegdhjmaaDoor.gtabForks
namespace Go.Proofs.YtfhnepoegdhjmaaDoor
/-- The statement: the card. -/
theorem gtabForks_holds : Rows.GtabForksCardSaid :=
  Claim7.holds_tied_plain_at .later [] _ _ _ _ gtabForks.said (fun _ h => by cases h) (by kernel_rfl) (fun _ h => by cases h) gtabForks_row_tie rfl ⟨rfl, rfl⟩ (by kernel_rfl) rfl gtabForks.plain (by kernel_rfl)
#print axioms gtabForks_holds
end Go.Proofs.YtfhnepoegdhjmaaDoor
