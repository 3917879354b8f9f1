/-
  The walks of the document's queue: New, at, top, Top.
-/
import Derived.Test.YthehnicmjiidiaaD1
namespace Go.Proofs.Ythehnicmjiidiaa
open Go.RowKit Go.Lib

set_option maxHeartbeats 1000000 in
theorem at_walk (w : World) (rb g len cap J : Nat) (id : Int) (ids : Nat → Nat)
    (c1 : w.cell? ⟨rb, 1, none⟩ = some (.slice (some ⟨g, 0, none⟩) len cap)) (hl : len ≤ 1024) (hJ : J ≤ len)
    (hc : ∀ j, j < len → w.cell? ⟨g, j * 2, none⟩ = some (.int .i64 (ids j)))
    (hno : ∀ j, j < J → ¬ (ids j : Int) = id) (hyes : J < len → (ids J : Int) = id) :
    Calls Try.prog 43 #[.pointer (some ⟨rb, 0, none⟩), .int .i64 id] w fun e w' => e = .returned (.int .i64 (if J < len then (J : Int) else -1)) ∧ w' = w := by
  have HC := veil hc
  have HN := veil hno
  have HY := veil hyes
  clear hc hno hyes
  generalize hr : (if J < len then (J : Int) else -1) = r
  go_enter Try.func43, Try.ntmps43
  go_wp2
  go_loopw [5] (fun i wr => ∃ j : Nat, j ≤ J ∧ i = .int .i64 j ∧ wr = w) (fun i _ => len - (intOf i).toNat)
  case atStart => exact ⟨0, by omega, rfl, rfl⟩
  case round =>
    obtain ⟨j, hj, rfl, rfl⟩ := hrel
    by_cases hjl : j < len
    · have e0 := HC.out j hjl
      by_cases hjJ : j < J
      · have e1 := HN.out j hjJ
        go_wp2
        go_roundw
        case rel => exact ⟨j + 1, by omega, by go_num, by first | rfl | trivial⟩
        case measure => simp [intOf]; omega
      · have hjJ' : j = J := by omega
        subst hjJ'
        have e1 := HY.out hjl
        go_wp2
        go_ret
        rw [if_pos hjl] at hr; subst hr; exact ⟨rfl, rfl⟩
    · have hjl' : ¬ J < len := by omega
      go_wp2
      go_ret
      rw [if_neg hjl'] at hr; subst hr; exact ⟨rfl, rfl⟩

theorem at_empty (w : World) (rb cap : Nat) (a : Option Addr) (id : Int)
    (c1 : w.cell? ⟨rb, 1, none⟩ = some (.slice a 0 cap)) :
    Calls Try.prog 43 #[.pointer (some ⟨rb, 0, none⟩), .int .i64 id] w fun e w' => e = .returned (.int .i64 (-1)) ∧ w' = w := by
  go_enter Try.func43, Try.ntmps43
  go_wp2
  go_loopw [5] (fun i wr => i = .int .i64 0 ∧ wr = w) (fun i _ => 0)
  case atStart => exact ⟨rfl, rfl⟩
  case round =>
    obtain ⟨rfl, rfl⟩ := hrel
    go_wp2
    go_ret
    exact ⟨rfl, rfl⟩

theorem top_empty (w : World) (rb cap : Nat) (a : Option Addr)
    (c1 : w.cell? ⟨rb, 1, none⟩ = some (.slice a 0 cap)) :
    Calls Try.prog 42 #[.pointer (some ⟨rb, 0, none⟩)] w fun e w' => e = .returned (.int .i64 (-1)) ∧ w' = w := by
  go_enter Try.func42, Try.ntmps42
  go_wp2
  go_loopw [3, 4] (fun b i wr => b = .int .i64 (-1) ∧ i = .int .i64 0 ∧ wr = w) (fun _ i _ => 0)
  case atStart => exact ⟨rfl, rfl, rfl⟩
  case round =>
    obtain ⟨rfl, rfl, rfl⟩ := hrel
    go_wp2
    go_ret
    exact ⟨rfl, rfl⟩

set_option maxHeartbeats 2000000 in
theorem top_walk (w : World) (rb g len cap : Nat) (lvs : Nat → Nat) (hlen : 0 < len)
    (c1 : w.cell? ⟨rb, 1, none⟩ = some (.slice (some ⟨g, 0, none⟩) len cap)) (hl : len ≤ 1024)
    (hc : ∀ j, j < len → w.cell? ⟨g, j * 2 + 1, none⟩ = some (.int .u8 (lvs j))) :
    Calls Try.prog 42 #[.pointer (some ⟨rb, 0, none⟩)] w fun e w' => (∃ t : Nat, e = .returned (.int .i64 t) ∧ t < len ∧ (∀ k, k < t → lvs k < lvs t) ∧ (∀ k, t ≤ k → k < len → lvs k ≤ lvs t)) ∧ ∃ q, w' = w.drewN q := by
  have HC := veil hc
  clear hc
  go_enter Try.func42, Try.ntmps42
  go_wp2
  go_loopw [3, 4] (fun b i wr => ∃ j q : Nat, j ≤ len ∧ i = .int .i64 j ∧ wr = w.drewN q ∧ (j = 0 ∧ b = .int .i64 (-1) ∨ ∃ t : Nat, b = .int .i64 t ∧ t < j ∧ (∀ k, k < t → lvs k < lvs t) ∧ (∀ k, t ≤ k → k < j → lvs k ≤ lvs t))) (fun _ i _ => len - (intOf i).toNat)
  case atStart => exact ⟨0, 0, by omega, rfl, rfl, .inl ⟨rfl, rfl⟩⟩
  case round =>
    obtain ⟨j, q, hj, rfl, rfl, hcase⟩ := hrel
    by_cases hjl : j < len
    · have e0 := HC.out j hjl
      rcases hcase with ⟨rfl, rfl⟩ | ⟨t, rfl, ht, hlt, hle⟩
      · go_wp2
        go_quiet (fail)
        go_wp2
        go_roundw
        case rel => exact ⟨1, _, by omega, by go_num, rfl, .inr ⟨0, rfl, by omega, fun k hk => by omega, fun k _ hk => Nat.le_of_eq (congrArg lvs (show k = 0 by omega))⟩⟩
        case measure => simp [intOf]; omega
      · have htl : t < len := by omega
        have e1 := HC.out t htl
        have HL := veil hlt
        have HE := veil hle
        clear hlt hle
        by_cases hgt : lvs t < lvs j
        · go_wp2
          go_quiet (fail)
          go_wp2
          go_roundw
          case rel =>
            refine ⟨j + 1, _, by omega, by go_num, rfl, .inr ⟨j, rfl, by omega, fun k hk => ?_, fun k hk1 hk2 => ?_⟩⟩
            · by_cases hkt : k < t
              · have := HL.out k hkt; omega
              · have := HE.out k (by omega) hk; omega
            · have : k = j := by omega
              subst this; exact Nat.le_refl _
          case measure => simp [intOf]; omega
        · go_wp2
          go_quiet (fail)
          go_wp2
          go_roundw
          case rel =>
            refine ⟨j + 1, _, by omega, by go_num, rfl, .inr ⟨t, rfl, by omega, fun k hk => HL.out k hk, fun k hk1 hk2 => ?_⟩⟩
            by_cases hkj : k < j
            · exact HE.out k hk1 hkj
            · have : k = j := by omega
              subst this; omega
          case measure => simp [intOf]; omega
    · have hjl' : j = len := by omega
      subst hjl'
      rcases hcase with ⟨h0, _⟩ | ⟨t, rfl, ht, hlt, hle⟩
      · omega
      · have HL := veil hlt
        have HE := veil hle
        clear hlt hle
        go_wp2
        go_ret
        exact ⟨⟨t, rfl, ht, HL.out, HE.out⟩, _, rfl⟩
end Go.Proofs.Ythehnicmjiidiaa
