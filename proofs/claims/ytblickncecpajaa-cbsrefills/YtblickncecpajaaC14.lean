/-
  cbs: due, as a walk that yields.
-/
import Derived.Test.YtblickncecpajaaC13
namespace Go.Proofs.Ytblickncecpajaa
open Go.RowKit Go.Lib
set_option linter.unusedVariables false

set_option maxRecDepth 100000 in
set_option maxHeartbeats 4000000 in
theorem due_in (nn : Nat) (hn : 1 ≤ nn) (l B1 B2 s cap now : Nat) (a : Option Addr) (L : List Srv) (hlen : L.length ≤ 32) (J : Nat → World → Prop)
    (hA : ∀ k W o, J k W → J k (World.alloc W o))
    (hR : ∀ k W, J k W → Boxed W B1 23 (.pointer (some ⟨s, 0, none⟩)) ∧ Boxed W B2 31 (.int .u64 (now : Int)) ∧ (∀ i x, k ≤ i → L[i]? = some x → ∃ g, a = some ⟨g, 0, none⟩ ∧ W.cell? ⟨g, i * 4, none⟩ = some (.int .u64 (x.b : Int)) ∧ W.cell? ⟨g, i * 4 + 1, none⟩ = some (.int .u64 (x.p : Int)) ∧ W.cell? ⟨g, i * 4 + 2, none⟩ = some (.int .u64 (x.l : Int)) ∧ W.cell? ⟨g, i * 4 + 3, none⟩ = some (.int .u64 (x.d : Int))))
    (hN : ∀ k x W, L[k]? = some x → dueB now x = false → J k W → J (k + 1) W)
    (hY : ∀ k x W, L[k]? = some x → dueB now x = true → J k W → YieldAt Fence.wide (nn - 1) Try.prog l #[.int .i64 (k : Int)] W fun e W' => e = .returned (.bool true) ∧ J (k + 1) W')
    (W : World) (hsl : W.cell? ⟨s, 1, none⟩ = some (.slice a L.length cap)) (h0 : J 0 W) :
    CallsIn Fence.wide nn Try.prog 50 #[.func (.yield l) #[] #[], .pointer (some ⟨B1, 0, none⟩), .pointer (some ⟨B2, 0, none⟩)] W fun e W' => (∃ v, e = .returned v) ∧ J L.length W' := by
  have HR := veil hR
  have H0 := veil h0
  have HY := veil hY
  have HN := veil hN
  have HA := veil hA
  obtain ⟨hb1, _, _⟩ := hR 0 W h0
  have e1 := hb1.cell
  clear hb1
  clear hR h0 hY hA hN
  refine callsIn_of_wp Try.func50 rfl trivial ?_ rfl
  simp only [Try.ntmps50, List.size_toArray, List.length_cons, List.length_nil, Nat.reduceAdd, Nat.reduceSub, Array.replicate_succ, Array.replicate_zero, List.push_toArray, List.append_toArray, List.nil_append, List.cons_append]
  gi_wp2
  gi_loopw [11] (fun p wr => ∃ k : Nat, k ≤ L.length ∧ p = .int .i64 (k : Int) ∧ J k wr) (fun p _ => L.length - (intOf p).toNat)
  case atStart => exact ⟨0, by omega, rfl, H0.out⟩
  case round =>
    obtain ⟨k, hk, rfl, hJ⟩ := hrel
    by_cases hkn : k < L.length
    · have hkn' : (k : Int) < (L.length : Int) := by omega
      obtain ⟨x, hx⟩ : ∃ x, L[k]? = some x := ⟨_, List.getElem?_eq_getElem hkn⟩
      obtain ⟨hb1, hb2, hc⟩ := HR.out k wr hJ
      obtain ⟨g, rfl, y0, y1, y2, y3⟩ := hc k x (Nat.le_refl _) hx
      have e2 := hb2.cell
      have hlt := hb2.lt
      have n1 : ¬ B2 = wr.heap.size := by omega
      obtain ⟨b, p, xl, d⟩ := x
      dsimp only at y0 y1 y2 y3
      have HJ0 := veil hJ
      have HX := veil hx
      clear hJ hb1 hb2 hc hx
      by_cases hl : xl = 0
      · subst hl
        by_cases hd : d ≤ now
        · by_cases hz : d = 0
          · subst hz
            have HO := veil (fun w => (callsIn_wide (n := nn - 1)).2 (over_ok w ⟨b, p, 0, 0⟩ now))
            have HSL := veil (fun w => (callsIn_wide (n := nn - 1)).2 (sleeps_ok w ⟨b, p, 0, 0⟩))
            simp only [decide_eq_true hd] at HO
            simp only [Int.natCast_zero, beq_self_eq_true] at HO HSL y2 y3
            have HJ1 := veil (HA.out _ _ (.cells #[.int .u64 (b : Int), .int .u64 (p : Int), .int .u64 0, .int .u64 0] 69) HJ0.out)
            have HNX : Hid (∀ W, J k W → J (k + 1) W) := fun W => HN.out k _ W HX.out (by simp [dueB])
            gi_wp2_with (first | (refine ⟨trivial, ?_⟩; gi_at_call 38; refine (HO.out _).mono ?_; rintro e w1 ⟨rfl, c, rfl⟩) | (refine ⟨trivial, ?_⟩; gi_at_call 51; refine (HSL.out _).mono ?_; rintro e w2 ⟨rfl, c2, rfl⟩))
            refine ⟨fun _ h => (by cases h), ?_⟩
            gi_wp2
            go_roundw
            case rel => exact ⟨k + 1, by omega, by go_num, HNX.out _ (HA.out _ _ _ (HA.out _ _ _ HJ1.out))⟩
            case measure => simp [intOf]; omega
          · have hz2 : (d == 0) = false := by simpa using hz
            have hdue : dueB now ⟨b, p, 0, d⟩ = true := by simp [dueB, hd, hz]
            have HO := veil (fun w => (callsIn_wide (n := nn - 1)).2 (over_ok w ⟨b, p, 0, d⟩ now))
            have HSL := veil (fun w => (callsIn_wide (n := nn - 1)).2 (sleeps_ok w ⟨b, p, 0, d⟩))
            simp only [decide_eq_true hd] at HO
            simp only [hz2] at HSL
            simp only [Int.natCast_zero] at HO HSL y2
            have HJ1 := veil (HA.out _ _ (.cells #[.int .u64 (b : Int), .int .u64 (p : Int), .int .u64 0, .int .u64 (d : Int)] 69) HJ0.out)
            have HYY := veil (fun W => HY.out k _ W HX.out hdue)
            clear HN hdue
            gi_wp2_with (first | (refine ⟨trivial, ?_⟩; gi_at_call 38; refine (HO.out _).mono ?_; rintro e w1 ⟨rfl, c, rfl⟩) | (refine ⟨trivial, ?_⟩; gi_at_call 51; refine (HSL.out _).mono ?_; rintro e w2 ⟨rfl, c2, rfl⟩))
            obtain ⟨fn, tmps, assign, body, hy, hR⟩ := HYY.out _ (HA.out _ _ (.cells c2 69) (HA.out _ _ (.cells c 69) HJ1.out))
            rw [hy, Oper.uponIn_round]
            refine ⟨fun _ => hn, hR.mono ?_⟩
            rintro e W3 ⟨rfl, hJ3⟩
            have HJ3 := veil hJ3
            clear hJ3 hy hR HYY HY
            gi_wp2
            go_roundw
            case rel => exact ⟨k + 1, by omega, by go_num, HJ3.out⟩
            case measure => simp [intOf]; omega
        · have HO := veil (fun w => (callsIn_wide (n := nn - 1)).2 (over_ok w ⟨b, p, 0, d⟩ now))
          simp only [decide_eq_false hd] at HO
          simp only [Int.natCast_zero] at HO y2
          have HJ1 := veil (HA.out _ _ (.cells #[.int .u64 (b : Int), .int .u64 (p : Int), .int .u64 0, .int .u64 (d : Int)] 69) HJ0.out)
          have HNX : Hid (∀ W, J k W → J (k + 1) W) := fun W => HN.out k _ W HX.out (by simp [dueB, hd])
          gi_wp2_with (first | (refine ⟨trivial, ?_⟩; gi_at_call 38; refine (HO.out _).mono ?_; rintro e w1 ⟨rfl, c, rfl⟩))
          refine ⟨trivial, ?_⟩
          gi_wp2
          refine ⟨fun _ h => (by cases h), ?_⟩
          gi_wp2
          go_roundw
          case rel => exact ⟨k + 1, by omega, by go_num, HNX.out _ (HA.out _ _ _ HJ1.out)⟩
          case measure => simp [intOf]; omega
      · have hl2 : ((xl : Int) == 0) = false := by rw [natBeq]; simpa using hl
        have HJ1 := veil (HA.out _ _ (.cells #[.int .u64 (b : Int), .int .u64 (p : Int), .int .u64 (xl : Int), .int .u64 (d : Int)] 69) HJ0.out)
        have HNX : Hid (∀ W, J k W → J (k + 1) W) := fun W => HN.out k _ W HX.out (by simp [dueB, hl])
        gi_wp2
        refine ⟨trivial, ?_⟩
        gi_wp2
        refine ⟨trivial, ?_⟩
        gi_wp2
        refine ⟨fun _ h => (by cases h), ?_⟩
        gi_wp2
        go_roundw
        case rel => exact ⟨k + 1, by omega, by go_num, HNX.out _ HJ1.out⟩
        case measure => simp [intOf]; omega
    · obtain rfl : k = L.length := by omega
      have HJ := veil hJ
      clear hJ
      gi_wp2
      go_end0
      exact ⟨⟨_, rfl⟩, HJ.out⟩
end Go.Proofs.Ytblickncecpajaa
