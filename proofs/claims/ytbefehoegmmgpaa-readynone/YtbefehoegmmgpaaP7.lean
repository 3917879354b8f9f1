/-
  The walks of a heap's exported calls, as far as a small heap asks them; of a nil heap's; of 'live'.
-/
import Derived.Test.YtbefehoegmmgpaaP6
namespace Go.Proofs.Ytbefehoegmmgpaa.Ph
open Go.RowKit

section
variable {w : World} {b g n rt ct : Nat} {D S I C A B : Nat → Nat} {T : Nat → Bool}
theorem may_yes (h : Rep w b g n rt ct D S I C A B T) (id : Nat) (hn : n ≤ 1024) (hid : id < n) :
    Calls Try.prog 70 #[.pointer (some ⟨b, 0, none⟩), .int .i64 id] w fun e w' => e = .returned (.bool true) ∧ w' = w := by
  obtain ⟨cp, e0⟩ := h.sl
  clear h
  go_enter Try.func70, Try.ntmps70
  go_wp2
  go_ret
  exact ⟨by simp, rfl⟩
theorem insert_walk (h : Rep w b g n rt ct D S I C A B T) (id d s : Nat) (hn : n ≤ 1024) (hid : id < n) (hT : T (id + 1) = false) (P : World → Prop)
    (hP : Calls Try.prog 80 #[.pointer (some ⟨b, 0, none⟩), .agg #[.int .u64 (d : Int), .int .u64 (s : Int), .int .i64 (id : Int)]] w fun e w' => e = .returned (.tuple #[]) ∧ P w') :
    Calls Try.prog 73 #[.pointer (some ⟨b, 0, none⟩), .int .i64 (id : Int), .int .u64 (d : Int), .int .u64 (s : Int)] w fun e w' => e = .returned (.int .i64 0) ∧ P w' := by
  have HM := veil (may_yes h id hn hid)
  have HP := veil hP
  obtain ⟨cp, e0⟩ := h.sl
  have e1 := h.nt (id + 1) (by omega)
  rw [hT] at e1
  clear h hP hT
  go_enter Try.func73, Try.ntmps73
  go_wp2_with (first
    | (go_at_call 70; refine (HM.out).mono ?_; rintro e w1 ⟨rfl, hw⟩; replace hw := hw.symm; subst hw)
    | (go_at_call 80; refine (HP.out).mono ?_; rintro e w2 ⟨rfl, hp⟩; have HP2 := veil hp; clear hp))
  go_ret
  exact ⟨rfl, HP2.out⟩
theorem delete_walk (h : Rep w b g n rt ct D S I C A B T) (id : Nat) (hn : n ≤ 1024) (hid : id < n) (hT : T (id + 1) = true) (P : World → Prop)
    (hP : Calls Try.prog 71 #[.pointer (some ⟨b, 0, none⟩), .int .i64 ((id + 1 : Nat) : Int)] w fun e w' => e = .returned (.tuple #[]) ∧ P w') :
    Calls Try.prog 51 #[.pointer (some ⟨b, 0, none⟩), .int .i64 (id : Int)] w fun e w' => e = .returned (.int .i64 0) ∧ P w' := by
  have HM := veil (may_yes h id hn hid)
  have HP := veil hP
  obtain ⟨cp, e0⟩ := h.sl
  have e1 := h.nt (id + 1) (by omega)
  rw [hT] at e1
  clear h hP hT
  go_enter Try.func51, Try.ntmps51
  go_wp2_with (first
    | (go_at_call 70; refine (HM.out).mono ?_; rintro e w1 ⟨rfl, hw⟩; replace hw := hw.symm; subst hw)
    | (go_at_call 71; refine (HP.out).mono ?_; rintro e w2 ⟨rfl, hp⟩; have HP2 := veil hp; clear hp))
  go_ret
  exact ⟨rfl, HP2.out⟩
theorem min_walk (h : Rep w b g n rt ct D S I C A B T) (h1 : 1 ≤ rt) (h2 : rt ≤ n) :
    Calls Try.prog 66 #[.pointer (some ⟨b, 0, none⟩)] w fun e w' => e = .returned (.tuple #[.int .i64 (I rt : Int), .bool true]) ∧ ∃ q, w' = w.drewN q := by
  obtain ⟨cp, e0⟩ := h.sl
  have e1 := h.rt
  have e2 := h.ni rt h2
  have r0 : ¬ (rt : Int) = 0 := by omega
  have rl : rt < n + 1 := by omega
  clear h
  go_enter Try.func66, Try.ntmps66
  go_wp2
  go_quiet (fail)
  go_wp2
  go_ret2
  exact ⟨rfl, _, rfl⟩
theorem take_walk (h : Rep w b g n rt ct D S I C A B T) (h1 : 1 ≤ rt) (h2 : rt ≤ n) (hn : n ≤ 1024) (hI : I rt + 1 = rt) (P : World → Prop)
    (hP : ∀ q, Calls Try.prog 71 #[.pointer (some ⟨b, 0, none⟩), .int .i64 ((I rt : Int) + 1)] (w.drewN q) fun e w' => e = .returned (.tuple #[]) ∧ P w') :
    Calls Try.prog 55 #[.pointer (some ⟨b, 0, none⟩)] w fun e w' => e = .returned (.tuple #[.int .i64 (I rt : Int), .bool true]) ∧ P w' := by
  have HM := veil (min_walk h h1 h2)
  have HP := veil hP
  have hb : I rt ≤ 1024 := by omega
  clear h hP hI
  generalize I rt = id at *
  go_enter Try.func55, Try.ntmps55
  go_wp2_with (first
    | (go_at_call 66; refine (HM.out).mono ?_; rintro e w1 ⟨rfl, q1, hw⟩; subst hw)
    | (go_at_call 71; refine (HP.out _).mono ?_; rintro e w2 ⟨rfl, hp⟩; have HP2 := veil hp; clear hp))
  go_ret2
  exact ⟨rfl, HP2.out⟩
theorem len_walk (h : Rep w b g n rt ct D S I C A B T) :
    Calls Try.prog 39 #[.pointer (some ⟨b, 0, none⟩)] w fun e w' => e = .returned (.int .i64 (ct : Int)) ∧ w' = w := by
  have e2 := h.ct
  clear h
  go_enter Try.func39, Try.ntmps39
  go_wp2
  go_ret
  exact ⟨rfl, rfl⟩
end
end Go.Proofs.Ytbefehoegmmgpaa.Ph
