/-
  Min and Take of an empty heap; Get; what is refused.
-/
import Derived.Test.YtbefehoegmmgpaaP24
namespace Go.Proofs.Ytbefehoegmmgpaa.Ph
open Go.RowKit
attribute [local go_sem ↓] Go.wp_at_zero Go.wp_at_succ

section
variable {w : World} {b g n rt ct : Nat} {D S I C A B : Nat → Nat} {T : Nat → Bool}
theorem min_none (h : Rep w b g n 0 ct D S I C A B T) :
    Calls Try.prog 66 #[.pointer (some ⟨b, 0, none⟩)] w fun e w' => e = .returned (.tuple #[.int .i64 0, .bool false]) ∧ w' = w := by
  have e1 : w.cell? ⟨b, 1, none⟩ = some (.int .i64 0) := h.rt
  clear h
  go_enter Try.func66, Try.ntmps66
  go_wp2
  go_ret2
  exact ⟨rfl, rfl⟩
theorem take_none (h : Rep w b g n 0 ct D S I C A B T) :
    Calls Try.prog 55 #[.pointer (some ⟨b, 0, none⟩)] w fun e w' => e = .returned (.tuple #[.int .i64 0, .bool false]) ∧ w' = w := by
  have HM := veil (min_none h)
  clear h
  go_enter Try.func55, Try.ntmps55
  go_wp2_with (go_at_call 66; refine (HM.out).mono ?_; rintro e w1 ⟨rfl, hw⟩; replace hw := hw.symm; subst hw)
  go_ret2
  exact ⟨rfl, rfl⟩
theorem may_no (h : Rep w b g n rt ct D S I C A B T) (id : Int) (hid : ¬ (0 ≤ id ∧ id < n)) (hn : n ≤ 1024) :
    Calls Try.prog 70 #[.pointer (some ⟨b, 0, none⟩), .int .i64 id] w fun e w' => e = .returned (.bool false) ∧ w' = w := by
  obtain ⟨cp, e0⟩ := h.sl
  clear h
  by_cases h0 : 0 ≤ id
  · have h1 : ¬ id < (n : Int) := by omega
    clear hid
    go_enter Try.func70, Try.ntmps70
    go_wp2
    go_ret
    exact ⟨by simp, rfl⟩
  · clear hid
    go_enter Try.func70, Try.ntmps70
    go_wp2
    go_ret
    exact ⟨by simp, rfl⟩
theorem insert_range (h : Rep w b g n rt ct D S I C A B T) (id d s : Int) (hid : ¬ (0 ≤ id ∧ id < n)) (hn : n ≤ 1024) :
    Calls Try.prog 73 #[.pointer (some ⟨b, 0, none⟩), .int .i64 id, .int .u64 d, .int .u64 s] w fun e w' => e = .returned (.int .i64 2) ∧ w' = w := by
  have HM := veil (may_no h id hid hn)
  clear h hid
  go_enter Try.func73, Try.ntmps73
  go_wp2_with (go_at_call 70; refine (HM.out).mono ?_; rintro e w1 ⟨rfl, hw⟩; replace hw := hw.symm; subst hw)
  go_ret
  exact ⟨rfl, rfl⟩
theorem delete_range (h : Rep w b g n rt ct D S I C A B T) (id : Int) (hid : ¬ (0 ≤ id ∧ id < n)) (hn : n ≤ 1024) :
    Calls Try.prog 51 #[.pointer (some ⟨b, 0, none⟩), .int .i64 id] w fun e w' => e = .returned (.int .i64 2) ∧ w' = w := by
  have HM := veil (may_no h id hid hn)
  clear h hid
  go_enter Try.func51, Try.ntmps51
  go_wp2_with (go_at_call 70; refine (HM.out).mono ?_; rintro e w1 ⟨rfl, hw⟩; replace hw := hw.symm; subst hw)
  go_ret
  exact ⟨rfl, rfl⟩
theorem insert_known (h : Rep w b g n rt ct D S I C A B T) (id : Nat) (d s : Int) (hid : id < n) (hn : n ≤ 1024) (hT : T (id + 1) = true) :
    Calls Try.prog 73 #[.pointer (some ⟨b, 0, none⟩), .int .i64 (id : Int), .int .u64 d, .int .u64 s] w fun e w' => e = .returned (.int .i64 5) ∧ w' = w := by
  have HM := veil (may_yes h id hn hid)
  obtain ⟨cp, e0⟩ := h.sl
  have e1 := h.nt (id + 1) (by omega)
  rw [hT] at e1
  clear h hT
  go_enter Try.func73, Try.ntmps73
  go_wp2_with (go_at_call 70; refine (HM.out).mono ?_; rintro e w1 ⟨rfl, hw⟩; replace hw := hw.symm; subst hw)
  go_ret
  exact ⟨rfl, rfl⟩
theorem delete_none (h : Rep w b g n rt ct D S I C A B T) (id : Nat) (hid : id < n) (hn : n ≤ 1024) (hT : T (id + 1) = false) :
    Calls Try.prog 51 #[.pointer (some ⟨b, 0, none⟩), .int .i64 (id : Int)] w fun e w' => e = .returned (.int .i64 6) ∧ w' = w := by
  have HM := veil (may_yes h id hn hid)
  obtain ⟨cp, e0⟩ := h.sl
  have e1 := h.nt (id + 1) (by omega)
  rw [hT] at e1
  clear h hT
  go_enter Try.func51, Try.ntmps51
  go_wp2_with (go_at_call 70; refine (HM.out).mono ?_; rintro e w1 ⟨rfl, hw⟩; replace hw := hw.symm; subst hw)
  go_ret
  exact ⟨rfl, rfl⟩
end
end Go.Proofs.Ytbefehoegmmgpaa.Ph
