/-
  For every size and every deeds GtabReleases answers true: what was released is no more. The package variable gtab.follows holds what the program's text lays (the card ties it).
-/
import Derived.Test.YtfhnepoegdhjmaaDoorCards
import Derived.Test.YtfhnepoegdhjmaaDoorTie
import Derived.Test.YtfhnepoegdhjmaaDoorT18
import Derived.WalkKit
import Derived.ProofKit
import Derived.OpenShut
import Derived.RowKit3
import Derived.ChangeOld
import Derived.Below
import Derived.Carry
import Derived.Deep.DeepHandedRow
import Derived.Lib.SmallJoins
namespace Go.Proofs.YtfhnepoegdhjmaaDoor.gtabReleases
open Go.ChangeShapes Go.WideShapes Go.ChangeAt Go.RowKit
set_option linter.unusedVariables false

theorem own : ownKnob Tryd.prog.godebug = none := by kernel_rfl
theorem laidOut : laidOutB Tryd.prog = true := by kernel_rfl
open Go.Lib
/-- Between two rounds: the first j of the ids are released. -/
structure At (w : World) (b g n base K : Nat) (v : Value) (G : Nat → Nat) (L : List (Fin n)) (j : Nat) (S : Nat → Nat) (wr : World) : Prop where
  p : Rep wr b g n G S
  t : Tab wr
  i : IdsAt wr base v K (idCells G L)
  c : (pl S false n n).length = K - j
  s : ∀ k (hk : k < L.length), j ≤ k → S (L[k]).val ≠ 0
  l : Below w.heap.size w wr
theorem At.below {w wr w' : World} {b g n base K : Nat} {v : Value} {G : Nat → Nat} {L : List (Fin n)} {j : Nat} {S : Nat → Nat} (h : At w b g n base K v G L j S wr) (hb : Below wr.heap.size wr w') : At w b g n base K v G L j S w' :=
  ⟨h.p.below hb, h.t.below hb, h.i.below hb, h.c, h.s, h.l.trans (hb.mono h.l.size)⟩
theorem At.cells {w wr : World} {b g n base K : Nat} {v : Value} {G : Nat → Nat} {L : List (Fin n)} {j : Nat} {S : Nat → Nat} (h : At w b g n base K v G L j S wr) (hK : K = L.length) {a : Nat} {c : Nat} (hv : v = .slice (some ⟨a, 0, none⟩) K c) (k : Nat) (hk : k < L.length) :
    wr.cell? ⟨a, k * 2, none⟩ = some (.int .i64 ((L[k]).val : Int)) ∧ wr.cell? ⟨a, k * 2 + 1, none⟩ = some (.int .u32 (G (L[k]).val : Int)) := by
  obtain ⟨_, a', c', hv', h0 | ⟨a2, ha, _, _, hc⟩⟩ := h.i
  · omega
  · rw [hv] at hv'
    simp only [Value.slice.injEq] at hv'
    obtain ⟨q, _, _⟩ := hv'
    rw [ha] at q
    simp only [Option.some.injEq, Addr.mk.injEq, and_true] at q
    subst q
    obtain ⟨z0, z1⟩ := idCells_at G L k hk
    exact ⟨(hc (k * 2) (by omega)).trans z0, (hc (k * 2 + 1) (by omega)).trans z1⟩
set_option maxHeartbeats 16000000 in
theorem way (m : Nat) (hm : m < 256) (a : Option Addr) (len cap : Nat) (K P : Nat → Int) (Q : Nat → Nat) (T : Nat → Int) (w : World) (ht : Tab w) (hlen : len < 9223372036854775808) (hd : Deeds w a len K P Q T) :
    Calls Tryd.prog 5 #[.int .u8 m, .slice a len cap] w fun e w' => e = .returned (.bool true) ∧ Below w.heap.size w w' := by
  have HP := veil (play_ok w ht m hm a len cap hlen K P Q T hd)
  clear hd ht
  have hN : 1 ≤ m % 6 + 1 ∧ m % 6 + 1 ≤ 6 := by omega
  generalize m % 6 + 1 = n at *
  go_enter Tryd.func5, Tryd.ntmps5
  go_wp2_with (first
    | (go_at_call 11; refine (HP.out).mono ?_; rintro e w1 ⟨b, g, rb, sb, gb, G, S, rfl, hh, hB, hG, hL⟩; have HB := veil hB; have HL := veil hL; clear hB hL hG)
    | (go_at_call 12; refine (live_law _).mono ?_; rintro e w2 ⟨rfl, hb2⟩; have HB2 := veil (HB.out.below hb2); have HL2 := veil (HL.out.trans (hb2.mono HL.out.size)); clear hb2)
    | (go_at_call 16; refine (live_ok HB2.out.p).mono ?_; rintro e w3 ⟨v, rfl, ho, hb3⟩; have HI3 := veil (idsAt_of ho); have HB3 := veil (HB2.out.below hb3); have HL3 := veil (HL2.out.trans (hb3.mono HL2.out.size)); obtain ⟨a0, c0, hv0⟩ := owns_slice ho; clear ho hb3))
  have hg2 := HB2.out.p.lt_g
  have hz := HB2.out.z1
  have hlenL := pl_len S false n n
  have HA0 : Hid (At w b g n w2.heap.size (pl S false n n).length v G (pl S false n n) 0 S w3) :=
    ⟨HB3.out.p, HB3.out.t, HI3.out, rfl, fun k hk _ => by
      have := (pl_below n (Nat.le_refl _) (List.getElem_mem hk)).2
      simpa using this, HL3.out⟩
  have HND := veil (pl_nodup (S := S) (fr := false) (n := n) n (Nat.le_refl _))
  have hgw : w.heap.size ≤ g := hh.2.1
  clear HB HL HB2 HL2 HI3 HB3 HL3 HP
  generalize hLL : pl S false n n = L at *
  generalize hKK : L.length = KK at *
  subst hv0
  have HKK := veil hKK
  clear hKK hLL
  go_loopw [9] (fun i wr => ∃ (j : Nat) (S' : Nat → Nat), j ≤ KK ∧ i = .int .i64 j ∧ At w b g n w2.heap.size KK (.slice a0 KK c0) G L j S' wr) (fun i _ => KK - (intOf i).toNat)
  case atStart => exact ⟨0, S, by omega, rfl, HA0.out⟩
  case round =>
    obtain ⟨j, S', hj, rfl, hA⟩ := hrel
    have HA := veil hA
    clear hA
    by_cases hjk : j < KK
    · obtain ⟨ab, rfl⟩ : ∃ ab, a0 = some ⟨ab, 0, none⟩ := by
        obtain ⟨_, a', c', hv', h0 | ⟨a2, ha, _⟩⟩ := HA.out.i
        · omega
        · simp only [Value.slice.injEq] at hv'
          exact ⟨a2, hv'.1.trans ha⟩
      have hjL : j < L.length := by rw [HKK.out]; exact hjk
      obtain ⟨y0, y1⟩ := HA.out.cells HKK.out.symm rfl j hjL
      have hs := HA.out.s j hjL (Nat.le_refl _)
      have hxn := (L[j]).isLt
      have HR1 : Hid (∀ x, x = (L[j]).val → Calls Tryd.prog 17 #[.pointer (some ⟨b, 0, none⟩), .agg #[.int .i64 (x : Int), .int .u32 (G x : Int)]] wr fun e w' => e = .returned (.int .i64 0) ∧ At w b g n w2.heap.size KK (.slice (some ⟨ab, 0, none⟩) KK c0) G L (j + 1) (upd S' x 0) w' ∧ hasB n G (upd S' x 0) x (G x) = false) := by
        rintro x rfl
        refine (release_some HA.out.p (L[j]).val (G (L[j]).val) hxn hs rfl).mono ?_
        rintro e w' ⟨he, hr, hf⟩
        refine ⟨he, ⟨hr, HA.out.t.frame hf (by omega), HA.out.i.frame hf (fun k hk q => by omega), ?_, fun k hk hjk' => ?_, HA.out.l.trans (hf.below HA.out.l.size (fun k q => by omega))⟩, ?_⟩
        · have := pl_drop (n := n) hs n (Nat.le_refl _) hxn
          have := HA.out.c
          omega
        · have hne : (L[k]).val ≠ (L[j]).val := by
            intro q
            exact (List.pairwise_iff_getElem.1 HND.out j k hjL hk (by omega)) (Fin.ext q).symm
          rw [upd_other _ _ _ _ hne]
          exact HA.out.s k hk (by omega)
        · unfold hasB
          simp [upd_same]
      generalize hx : (L[j]).val = x at *
      have HR2 := veil (HR1.out x rfl)
      have hxx : x < n := hxn
      clear HR1 hs
      go_wp2_with (first
        | (go_at_call 17; refine (HR2.out).mono ?_; rintro e w4 ⟨rfl, hA4, hh4⟩; obtain ⟨y40, y41⟩ := hA4.cells HKK.out.symm rfl j hjL; rw [hx] at y40 y41; have HA4 := veil hA4; have HH := veil hh4; clear hA4 hh4 HR2)
        | (go_at_call 18; refine (state_none HA4.out.p _ _ HH.out).mono ?_; rintro e w5 ⟨rfl, hb⟩; have HA5 := veil (HA4.out.below hb); obtain ⟨y50, y51⟩ := HA5.out.cells HKK.out.symm rfl j hjL; rw [hx] at y50 y51; clear hb HA4)
        | (go_at_call 19; refine (move_none HA5.out.p _ _ _ HH.out).mono ?_; rintro e w6 ⟨rfl, hb⟩; have HA6 := veil (HA5.out.below hb); obtain ⟨y60, y61⟩ := HA6.out.cells HKK.out.symm rfl j hjL; rw [hx] at y60 y61; clear hb HA5)
        | (go_at_call 17; refine (release_none HA6.out.p _ _ HH.out).mono ?_; rintro e w7 ⟨rfl, hb⟩; have HA7 := veil (HA6.out.below hb); clear hb HA6)
        | (go_at_call 20; refine (len_ok HA7.out.p).mono ?_; rintro e w8 ⟨rfl, hb⟩; have HA8 := veil (HA7.out.below hb); have hcnt := HA7.out.c; have hcnt2 : (((pl (upd S' x 0) false n n).length : Nat) : Int) = (KK : Int) - 1 - j := (by omega); clear hb HA7 hcnt))
      go_roundw
      case rel => exact ⟨j + 1, upd S' x 0, by omega, by go_num, HA8.out⟩
      case measure => simp [intOf]; omega
    · have hc0 : (pl S' false n n).length = 0 := by have := HA.out.c; omega
      have hi0 : (((pl S' false n n).length : Nat) : Int) = 0 := by omega
      go_wp2_with (first
        | (go_at_call 20; refine (len_ok HA.out.p).mono ?_; rintro e w4 ⟨rfl, hb⟩; have HA4 := veil (HA.out.below hb); clear hb)
        | (go_at_call 16; refine (live_ok HA4.out.p).mono ?_; rintro e w5 ⟨v5, rfl, ho, hb⟩; have HA5 := veil (HA4.out.below hb); obtain ⟨a5, c5, rfl⟩ := owns_slice ho; clear ho hb))
      go_ret
      exact ⟨by simp, HA5.out.l⟩

set_option maxHeartbeats 1000000 in
theorem walk (a0 : Int) (a1 : Option Addr) (len1 cap1 : Nat) (K1 P1 : Nat → Int) (Q1 : Nat → Nat) (T1 : Nat → Int) (w : World) (ht : Tab w) (w0 : (Lit.int .u8 a0).wf = true) (n1 : len1 < 9223372036854775808) (w1 : Deeds w a1 len1 K1 P1 Q1 T1) :
    Calls Tryd.prog 5 #[.int .u8 a0, .slice a1 len1 cap1] w fun e w' => e = .returned (.bool true) ∧ Below w.heap.size w w' := by
  obtain ⟨l0, m0⟩ := bounds_u8 w0
  obtain ⟨M, rfl⟩ := Int.eq_ofNat_of_zero_le l0
  exact way M (by omega) a1 len1 cap1 K1 P1 Q1 T1 w ht n1 w1

set_option maxHeartbeats 1000000 in
set_option maxRecDepth 100000 in
theorem contract (H : Type) (enc : TypeId × Value → H) (W : World) (base : Nat) (args : Array Value) (ds gs : List (DataW H)) (before : List MemPlace)
    (hval : ∀ (j : Nat) t v, Tryd.f5.params[j]? = some t → args[j]? = some v → Value.okWide Tryd.prog W .any base t v)
    (hW : DataW.Whole enc Tryd.prog Tryd.f5.params.toList Rows.gtabReleasesSpec.vars false W args.toList ds gs before) (hL : laidMetH Tryd.prog Rows.gtabReleasesRow.laid W) :
    Calls Tryd.prog 5 args W fun e W' => ∃ v, e = .returned v ∧ Rows.gtabReleasesSpec.post enc Tryd.prog Tryd.f5 false true false false W args v W' := by
  have hW' := hW
  obtain ⟨p, q, hA0, hV, rfl, hfz, hnd⟩ := hW
  have hA : DataW.TrodAll enc Tryd.prog W 0 (fun _ => true) true Tryd.f5.params.toList args.toList ds p := hA0
  rw [Tryd.params5] at hA hval
  obtain ⟨v0, vs0, d0, ds0, p0', q0', hargs, rfl, rfl, h0, r0⟩ := trodAll_cons hA
  obtain ⟨v1, vs1, d1, ds1, p1', q1', rfl, rfl, rfl, h1, r1⟩ := trodAll_cons r0
  obtain ⟨rfl, rfl, rfl⟩ := trodAll_nil r1
  obtain rfl : args = #[v0, v1] := by cases args; simp_all
  obtain ⟨rfl, rfl⟩ := trodVars_none hV
  have kk0 := h0
  have lt0 : ∀ x ∈ p0', x.block < W.heap.size := by obtain ⟨m, hm⟩ := kk0; exact DataW.trod_lt m _ _ _ hm
  obtain ⟨a0, rfl, rfl, rfl, w0⟩ := open_int Tryd.underlying5 (hval 0 5 v0 rfl rfl) h0
  have kk1 := h1
  have lt1 : ∀ x ∈ p1', x.block < W.heap.size := by obtain ⟨m, hm⟩ := kk1; exact DataW.trod_lt m _ _ _ hm
  obtain ⟨a1, len1, cap1, rfl⟩ := okWide_slice Tryd.underlying22 (hval 1 22 v1 rfl rfl)
  obtain ⟨n1, K1, P1, Q1, T1, w1⟩ : len1 < 9223372036854775808 ∧ ∃ (K P : Nat → Int) (Q : Nat → Nat) (T : Nat → Int), Deeds W a1 len1 K P Q T := by
    obtain ⟨fuel, hf⟩ := h1
    exact open_deeds hf
  clear hA0
  refine (walk a0 a1 len1 cap1 K1 P1 Q1 T1 W (tab_of_laid hL) w0 n1 w1).mono fun e W' ⟨he, bel⟩ => ?_
  subst he
  exact ⟨_, rfl, _, _, _, [], _, [], hW', trodAll_mk1 (shut_bool Tryd.underlying4 _), (trodAll_cons_mk (Below.trod laidOut (by kernel_rfl) (of_decide_eq_true (by kernel_rfl)) kk0 bel lt0) (trodAll_cons_mk (Below.trod laidOut (by kernel_rfl) (of_decide_eq_true (by kernel_rfl)) kk1 bel lt1) trodAll_mk0)), rfl, bel.frame _, fun h => by cases h⟩

/-- A world for the witness: the table holds what its initialiser lays. -/
noncomputable def laidWorld (os : Os) : World :=
  { World.holding Tryd.prog os ⟨#[], #[], []⟩ with heap := (World.holding Tryd.prog os ⟨#[], #[], []⟩).heap.modify 0 fun
      | .cells _ t frozen => .cells #[.bool false, .bool false, .bool false, .bool false, .bool false, .bool false, .bool false, .bool true, .bool false, .bool false, .bool false, .bool true, .bool false, .bool true, .bool true, .bool false, .bool true, .bool false, .bool false, .bool false, .bool false, .bool true, .bool false, .bool false, .bool false] t frozen
      | o => o }
theorem laid_met (os : Os) : laidMet Tryd.prog Rows.gtabReleasesRow.laid ((laidWorld os).forCall (fun _ _ => 0) ⟨#[], #[.int .u8 0, .slice none 0 0], []⟩).memory :=
  laidMet_of_run' 8 (by kernel_rfl) (by kernel_rfl)
theorem reads (os : Os) {H : Type} (enc : TypeId × Value → H) : ∃ places, DataW.whole enc Tryd.prog ((laidWorld os).forCall (fun _ _ => 0) ⟨#[], #[.int .u8 0, .slice none 0 0], []⟩).memory Tryd.f5.params.toList Rows.gtabReleasesSpec.vars false (#[.int .u8 0, .slice none 0 0] : Array Value).toList 8 = some ([.lit (.int .u8 0), .nil], [], places) :=
  ⟨[], by kernel_rfl⟩

set_option maxRecDepth 100000 in
theorem lifted (os : Os) (started : os.Started) (H : Type) (enc : TypeId × Value → H) (F : Stop.Interp) :
    ReturnsInHanded {} Tryd.checked os 5 .any ((OpenSpec.ofChange Rows.gtabReleasesSpec).preRow enc Tryd.prog Tryd.f5 Rows.gtabReleasesRow.domain false Rows.gtabReleasesRow.laid) (((OpenSpec.ofChange Rows.gtabReleasesSpec).at F).post enc Tryd.prog Tryd.f5 false true false false) := by
  obtain ⟨places, hx⟩ := reads os enc
  refine returnsInHanded_of_row (C := Tryd.checked) (s := OpenSpec.ofChange Rows.gtabReleasesSpec) own started (by kernel_rfl) Tryd.func5
    (witness_row_at (enc := enc) (C := Tryd.checked) false (laidWorld os) #[.int .u8 0, .slice none 0 0] rfl (by kernel_rfl) (by kernel_rfl) (by kernel_rfl)
      (OpenSpec.preRow_of_cond 8 hx (by kernel_rfl) (fun k hk => by cases hk) (by kernel_rfl) (laid_met os))) ?_
  intro W base args ds gs before hval hW _ _ _ hL _ _
  exact contract H enc W base args ds gs before hval hW hL

theorem said : Rows.GtabReleasesSaid :=
  OpenClaim.holds_of_cond 5 Tryd.f5 rfl rfl rfl rfl rfl rfl rfl ⟨rfl, rfl, rfl, rfl, rfl⟩ rfl rfl rfl rfl rfl (by kernel_rfl) Tryd.func5 (by kernel_rfl)
    (of_decide_eq_true (by kernel_rfl)) (by unfold Func.isWrapper; first | (rw [if_pos (by decide +kernel)]; kernel_rfl) | (rw [if_neg (by decide +kernel)]; exact ⟨rfl, rfl⟩))
    (fun os started H enc _ F => by rw [OpenClaim.pre_eq_preRow]; exact lifted os started H enc F)

theorem plain (f : FuncId) (fn : Func) (hf : Tryd.pinned.checked.prog.funcNamed "boatswain/boatswainlaw06.GtabReleases" = some f) (hfn : Tryd.pinned.checked.prog.funcs[f]? = some fn) :
    false = Tryd.pinned.checked.prog.looks [] ∧ ∀ (j : Nat) t, fn.params[j]? = some t → Tryd.pinned.checked.prog.wantsStandIn t = false := by
  obtain rfl : f = 5 := Option.some.inj ((show Tryd.prog.funcNamed "boatswain/boatswainlaw06.GtabReleases" = some 5 by kernel_rfl).symm.trans hf) |>.symm
  obtain rfl : fn = Tryd.f5 := (Option.some.inj (Tryd.func5.symm.trans hfn)).symm
  refine ⟨by kernel_rfl, fun j t ht => ?_⟩
  rw [Tryd.params5] at ht
  have hm : t ∈ [5, 22] := by simpa using Array.mem_of_getElem? ht
  have hall : ([5, 22].all fun u => !Tryd.prog.wantsStandIn u) = true := by kernel_rfl
  exact (show Tryd.prog.wantsStandIn t = false by simpa using List.all_eq_true.1 hall t hm)
end Go.Proofs.YtfhnepoegdhjmaaDoor.gtabReleases
namespace Go.Proofs.YtfhnepoegdhjmaaDoor
/-- The statement: the card. -/
theorem gtabReleases_holds : Rows.GtabReleasesCardSaid :=
  Claim7.holds_tied_plain_at .later [] _ _ _ _ gtabReleases.said (fun _ h => by cases h) (by kernel_rfl) (fun _ h => by cases h) gtabReleases_row_tie rfl ⟨rfl, rfl⟩ (by kernel_rfl) rfl gtabReleases.plain (by kernel_rfl)
#print axioms gtabReleases_holds
end Go.Proofs.YtfhnepoegdhjmaaDoor
