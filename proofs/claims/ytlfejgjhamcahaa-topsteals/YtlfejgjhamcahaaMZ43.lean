/-
  Fork of both; the walk of ProcsForks.
-/
import Derived.Test.YtlfejgjhamcahaaNf
import Derived.Test.YtlfejgjhamcahaaMZ41
import Derived.Test.YtlfejgjhamcahaaMZ42
namespace Go.Proofs.Ytlfejgjhamcahaa
open Go.RowKit Go.Lib
set_option linter.unusedVariables false
attribute [local go_sem ↓] Go.wp_at_zero Go.wp_at_succ

theorem PQ.fork {w : World} {O : Nat → Prop} {pb n np q T : Nat} {G : List (List En)} (h : PQ w O pb n np q T G) :
    Calls Try.prog 27 #[.pointer (some ⟨pb, 0, none⟩)] w fun e w' => ∃ O', e = .returned (.pointer (some ⟨w.heap.size + 1, 0, none⟩)) ∧ PQ w' O' (w.heap.size + 1) n np q T G ∧ (∀ k, O' k → w.heap.size ≤ k) ∧ Below w.heap.size w w' := by
  obtain ⟨base, lo, mb, v, H, hQ, rfl, hO⟩ := h
  refine (pfork_ok hQ).mono ?_
  rintro e w' ⟨v', H', rfl, hQ', hM, hb, hk⟩
  exact ⟨_, rfl, ⟨_, _, _, v', H', hQ', hM, fun _ => Iff.rfl⟩, hk, hb⟩
theorem RD.fork {w : World} {D : Nat → Prop} {base rb n np q : Nat} {G : List (List En)} (h : RD w D base rb n np q G) :
    Calls Try.prog 20 #[.pointer (some ⟨rb, 0, none⟩)] w fun e w' => ∃ D', e = .returned (.pointer (some ⟨w.heap.size, 0, none⟩)) ∧ RD w' D' w.heap.size w.heap.size n np q G ∧ Below w.heap.size w w' := by
  obtain ⟨v, X, hD, rfl, hO⟩ := h
  refine (rforkD_ok hD).mono ?_
  rintro e w' ⟨v', X', rfl, hD', hM, hb⟩
  exact ⟨_, rfl, ⟨v', X', hD', hM, fun _ => Iff.rfl⟩, hb⟩
theorem same_zero (w : World) (O D : Nat → Prop) (base pb rb n np q T : Nat) (G : List (List En)) (h : BothP w O D base pb rb n np q T G) :
    Calls Try.prog 16 #[.pointer (some ⟨pb, 0, none⟩), .pointer (some ⟨rb, 0, none⟩), .agg #[.int .i64 0, .int .i64 0, .int .i64 0, .bool false, .int .u64 0, .int .u8 0, .int .u64 0]] w fun e w' => e = .returned (.bool true) ∧ Below w.heap.size w w' :=
  same_ok w O D base pb rb n np q T G h ⟨0, 0, 0, false, 0, 0, 0⟩ ⟨rfl, rfl, rfl, rfl, rfl⟩
set_option maxHeartbeats 8000000 in
set_option maxRecDepth 20000 in
theorem ProcsForks_walk (a : Option Addr) (len cap : Nat) (L : Nat → Dp) (hlen : len < 9223372036854775808) (a2 : Option Addr) (len2 cap2 : Nat) (L2 : Nat → Dp) (hlen2 : len2 < 9223372036854775808) (w : World) (hd : Dps w a len L) (hd2 : Dps w a2 len2 L2) :
    Calls Try.prog 8 #[.slice a len cap, .slice a2 len2 cap2] w fun e w' => e = .returned (.bool true) ∧ Below w.heap.size w w' := by
  have hp := play_ok w 6 (by omega) a len cap hlen L hd
  have e6 : ((6 : Nat) : Int) = 6 := rfl
  rw [e6] at hp
  have HP : Hid (Calls Try.prog 14 #[.int .u8 6, .slice a len cap] w (PlayedP w 3 2)) := hp
  have HD2 := veil hd2
  clear hd hp e6 hd2
  go_enter Try.func8, Try.ntmps8
  go_wp2_with (first
    | (go_at_call 14; refine (HP.out).mono ?_; rintro e w1 ⟨O, D, base, pb, rb, T, G, rfl, h1, h2, h3, ht, hB, hL⟩; have HB := veil hB; have HL := veil hL; clear hB hL h1 h2 h3)
    | (go_at_call 15; refine (live_procs _).mono ?_; rintro e w2 ⟨rfl, hb2⟩; have HB2 := veil (HB.out.below hb2); have HL2 := veil (HL.out.trans (hb2.mono HL.out.size)); clear hb2)
    | (go_at_call 27; refine (HB2.out.pq.fork).mono ?_; rintro e w3 ⟨O', rfl, hq3, ho3, hb3⟩; have HQ3 := veil hq3; have HO3 := veil ho3; have HB3 := veil (HB2.out.below hb3); have HL3 := veil (HL2.out.trans (hb3.mono HL2.out.size)); have HS3 := veil hb3; clear hq3 ho3 hb3)
    | (go_at_call 20; refine (HB3.out.rd.fork).mono ?_; rintro e w4 ⟨D', rfl, hr4, hb4⟩; have HF4 := veil (show BothP w4 O' D' w3.heap.size (w2.heap.size + 1) w3.heap.size 10 3 2 T G from ⟨HQ3.out.below hb4, hr4, HQ3.out.blocks⟩); have HS4 := veil (HS3.out.trans (hb4.mono HS3.out.size)); have HD4 := veil hr4.ge; have hs23 : w2.heap.size ≤ w3.heap.size := HS3.out.size; clear hr4 hb4))
  clear HP HB HL HQ3 HB3 HL3 HS3
  go_loopw [10] (fun i wr => ∃ (j : Nat) (G' : List (List En)), j ≤ len2 ∧ j ≤ 30 ∧ i = .int .i64 j ∧ BothP wr O' D' w3.heap.size (w2.heap.size + 1) w3.heap.size 10 3 2 (T + j) G' ∧ Below w2.heap.size w2 wr) (fun i _ => len2 - (intOf i).toNat)
  case atStart => exact ⟨0, G, by omega, by omega, rfl, HF4.out, HS4.out⟩
  case round =>
    obtain ⟨j, G', hj, hj1, rfl, hB, hbel⟩ := hrel
    have HBQ := veil hB
    have HBE := veil hbel
    have HPR := veil (HB2.out.below hbel)
    have HLr := veil (HL2.out.trans (hbel.mono HL2.out.size))
    by_cases hjl : j < len2
    · have hjl' : (j : Int) < (len2 : Int) := by omega
      by_cases hj2 : j < 30
      · have hj3 : (j : Int) < 30 := by omega
        rcases HD2.out with h0 | ⟨lb, off, rfl, hlb, hc⟩
        · omega
        · obtain ⟨hok, z2, z3, z4, z5, z6, z7, z8⟩ := hc j hjl
          have y2 := (HLr.out.cell (p := ⟨lb, off + j * 7, none⟩) hlb).trans z2
          have y3 := (HLr.out.cell (p := ⟨lb, off + j * 7 + 1, none⟩) hlb).trans z3
          have y4 := (HLr.out.cell (p := ⟨lb, off + j * 7 + 2, none⟩) hlb).trans z4
          have y5 := (HLr.out.cell (p := ⟨lb, off + j * 7 + 3, none⟩) hlb).trans z5
          have y6 := (HLr.out.cell (p := ⟨lb, off + j * 7 + 4, none⟩) hlb).trans z6
          have y7 := (HLr.out.cell (p := ⟨lb, off + j * 7 + 5, none⟩) hlb).trans z7
          have y8 := (HLr.out.cell (p := ⟨lb, off + j * 7 + 6, none⟩) hlb).trans z8
          have HDO := veil (do_ok wr O' D' _ _ _ _ _ _ (T + j) G' hB (by omega) (L2 j) hok)
          have HS : Hid (∀ w'', Fr (fun k => O' k ∨ D' k) wr w'' → Below w2.heap.size w2 w'') := fun w'' hf => hbel.trans (hf.below hbel.size (by rintro k (q | q); exact HO3.out k q; have := HD4.out k q; omega))
          clear hc z2 z3 z4 z5 z6 z7 z8 hB hbel
          go_wp2_with (go_at_call 28; refine (HDO.out).mono ?_; rintro e w5 ⟨rfl, hb5, hf5⟩; have HB5 := veil hb5; have HF5 := veil (HS.out _ hf5); clear hb5 hf5)
          go_roundw
          case rel =>
            obtain ⟨G5, hb'⟩ := HB5.out
            exact ⟨j + 1, G5, by omega, by omega, by go_num, hb', HF5.out⟩
          case measure => simp [intOf]; omega
      · have hj3 : ¬ (j : Int) < 30 := by omega
        clear hB hbel
        go_wp2_with (first
          | (go_at_call 16; have hh := HQ6.out; clear hh; refine (same_zero _ O' D' _ _ _ _ _ _ (T + j) G' HQ6.out).mono ?_; rintro e w7 ⟨rfl, hb7⟩; have HL7 := veil (HL6.out.trans (hb7.mono HL6.out.size)); clear hb7)
          | (go_at_call 16; refine (same_zero _ O D base pb rb _ _ _ T G HPR.out).mono ?_; rintro e w6 ⟨rfl, hb6⟩; have HQ6 := veil (HBQ.out.below hb6); have HL6 := veil (HLr.out.trans (hb6.mono HLr.out.size)); clear hb6))
        go_ret
        exact ⟨rfl, HL7.out⟩
    · have hjl' : ¬ (j : Int) < (len2 : Int) := by omega
      clear hB hbel
      go_wp2_with (first
        | (go_at_call 16; have hh := HQ6.out; clear hh; refine (same_zero _ O' D' _ _ _ _ _ _ (T + j) G' HQ6.out).mono ?_; rintro e w7 ⟨rfl, hb7⟩; have HL7 := veil (HL6.out.trans (hb7.mono HL6.out.size)); clear hb7)
        | (go_at_call 16; refine (same_zero _ O D base pb rb _ _ _ T G HPR.out).mono ?_; rintro e w6 ⟨rfl, hb6⟩; have HQ6 := veil (HBQ.out.below hb6); have HL6 := veil (HLr.out.trans (hb6.mono HLr.out.size)); clear hb6))
      go_ret
      exact ⟨rfl, HL7.out⟩
end Go.Proofs.Ytlfejgjhamcahaa
