/-
  The walks of a heap's exported calls, as far as a small heap asks them; of a nil heap's; of 'live'.
-/
import Derived.Test.YtiledmfnhahmiaaP6
namespace Go.Proofs.Ytiledmfnhahmiaa
open Go.RowKit

section
variable {w : World} {b g n rt ct : Nat} {D S I C A B : Nat → Nat} {T : Nat → Bool}
theorem may_yes (h : Rep w b g n rt ct D S I C A B T) (id : Nat) (hn : n ≤ 1024) (hid : id < n) :
    Calls Try.prog 32 #[.pointer (some ⟨b, 0, none⟩), .int .i64 id] w fun e w' => e = .returned (.bool true) ∧ w' = w := by
  obtain ⟨cp, e0⟩ := h.sl
  clear h
  go_enter Try.func32, Try.ntmps32
  go_wp2
  go_ret
  exact ⟨by simp, rfl⟩
theorem insert_walk (h : Rep w b g n rt ct D S I C A B T) (id d s : Nat) (hn : n ≤ 1024) (hid : id < n) (hT : T (id + 1) = false) (P : World → Prop)
    (hP : Calls Try.prog 35 #[.pointer (some ⟨b, 0, none⟩), .agg #[.int .u64 (d : Int), .int .u64 (s : Int), .int .i64 (id : Int)]] w fun e w' => e = .returned (.tuple #[]) ∧ P w') :
    Calls Try.prog 23 #[.pointer (some ⟨b, 0, none⟩), .int .i64 (id : Int), .int .u64 (d : Int), .int .u64 (s : Int)] w fun e w' => e = .returned (.int .i64 0) ∧ P w' := by
  have HM := veil (may_yes h id hn hid)
  have HP := veil hP
  obtain ⟨cp, e0⟩ := h.sl
  have e1 := h.nt (id + 1) (by omega)
  rw [hT] at e1
  clear h hP hT
  go_enter Try.func23, Try.ntmps23
  go_wp2_with (first
    | (go_at_call 32; refine (HM.out).mono ?_; rintro e w1 ⟨rfl, hw⟩; replace hw := hw.symm; subst hw)
    | (go_at_call 35; refine (HP.out).mono ?_; rintro e w2 ⟨rfl, hp⟩; have HP2 := veil hp; clear hp))
  go_ret
  exact ⟨rfl, HP2.out⟩
theorem delete_walk (h : Rep w b g n rt ct D S I C A B T) (id : Nat) (hn : n ≤ 1024) (hid : id < n) (hT : T (id + 1) = true) (P : World → Prop)
    (hP : Calls Try.prog 33 #[.pointer (some ⟨b, 0, none⟩), .int .i64 ((id + 1 : Nat) : Int)] w fun e w' => e = .returned (.tuple #[]) ∧ P w') :
    Calls Try.prog 22 #[.pointer (some ⟨b, 0, none⟩), .int .i64 (id : Int)] w fun e w' => e = .returned (.int .i64 0) ∧ P w' := by
  have HM := veil (may_yes h id hn hid)
  have HP := veil hP
  obtain ⟨cp, e0⟩ := h.sl
  have e1 := h.nt (id + 1) (by omega)
  rw [hT] at e1
  clear h hP hT
  go_enter Try.func22, Try.ntmps22
  go_wp2_with (first
    | (go_at_call 32; refine (HM.out).mono ?_; rintro e w1 ⟨rfl, hw⟩; replace hw := hw.symm; subst hw)
    | (go_at_call 33; refine (HP.out).mono ?_; rintro e w2 ⟨rfl, hp⟩; have HP2 := veil hp; clear hp))
  go_ret
  exact ⟨rfl, HP2.out⟩
theorem change_walk (w : World) (b : Nat) (id d s : Nat) (P P2 : World → Prop)
    (hD : Calls Try.prog 22 #[.pointer (some ⟨b, 0, none⟩), .int .i64 (id : Int)] w fun e w' => e = .returned (.int .i64 0) ∧ P w')
    (hP : ∀ w1, P w1 → Calls Try.prog 35 #[.pointer (some ⟨b, 0, none⟩), .agg #[.int .u64 (d : Int), .int .u64 (s : Int), .int .i64 (id : Int)]] w1 fun e w' => e = .returned (.tuple #[]) ∧ P2 w') :
    Calls Try.prog 20 #[.pointer (some ⟨b, 0, none⟩), .int .i64 (id : Int), .int .u64 (d : Int), .int .u64 (s : Int)] w fun e w' => e = .returned (.int .i64 0) ∧ P2 w' := by
  have HD := veil hD
  have HP := veil hP
  clear hD hP
  go_enter Try.func20, Try.ntmps20
  go_wp2_with (first
    | (go_at_call 22; refine (HD.out).mono ?_; rintro e w1 ⟨rfl, hp⟩; have HP1 := veil hp; clear hp)
    | (go_at_call 35; refine (HP.out _ HP1.out).mono ?_; rintro e w2 ⟨rfl, hp⟩; have HP2 := veil hp; clear hp))
  go_ret
  exact ⟨rfl, HP2.out⟩
theorem min_walk (h : Rep w b g n rt ct D S I C A B T) (h1 : 1 ≤ rt) (h2 : rt ≤ n) :
    Calls Try.prog 18 #[.pointer (some ⟨b, 0, none⟩)] w fun e w' => e = .returned (.tuple #[.int .i64 (I rt : Int), .bool true]) ∧ ∃ q, w' = w.drewN q := by
  obtain ⟨cp, e0⟩ := h.sl
  have e1 := h.rt
  have e2 := h.ni rt h2
  have r0 : ¬ (rt : Int) = 0 := by omega
  have rl : rt < n + 1 := by omega
  clear h
  go_enter Try.func18, Try.ntmps18
  go_wp2
  go_quiet (fail)
  go_wp2
  go_ret2
  exact ⟨rfl, _, rfl⟩
theorem take_walk (h : Rep w b g n rt ct D S I C A B T) (h1 : 1 ≤ rt) (h2 : rt ≤ n) (hn : n ≤ 1024) (hI : I rt + 1 = rt) (P : World → Prop)
    (hP : ∀ q, Calls Try.prog 33 #[.pointer (some ⟨b, 0, none⟩), .int .i64 ((I rt : Int) + 1)] (w.drewN q) fun e w' => e = .returned (.tuple #[]) ∧ P w') :
    Calls Try.prog 17 #[.pointer (some ⟨b, 0, none⟩)] w fun e w' => e = .returned (.tuple #[.int .i64 (I rt : Int), .bool true]) ∧ P w' := by
  have HM := veil (min_walk h h1 h2)
  have HP := veil hP
  have hb : I rt ≤ 1024 := by omega
  clear h hP hI
  generalize I rt = id at *
  go_enter Try.func17, Try.ntmps17
  go_wp2_with (first
    | (go_at_call 18; refine (HM.out).mono ?_; rintro e w1 ⟨rfl, q1, hw⟩; subst hw)
    | (go_at_call 33; refine (HP.out _).mono ?_; rintro e w2 ⟨rfl, hp⟩; have HP2 := veil hp; clear hp))
  go_ret2
  exact ⟨rfl, HP2.out⟩
theorem len_walk (h : Rep w b g n rt ct D S I C A B T) :
    Calls Try.prog 15 #[.pointer (some ⟨b, 0, none⟩)] w fun e w' => e = .returned (.int .i64 (ct : Int)) ∧ w' = w := by
  have e2 := h.ct
  clear h
  go_enter Try.func15, Try.ntmps15
  go_wp2
  go_ret
  exact ⟨rfl, rfl⟩
end
end Go.Proofs.Ytiledmfnhahmiaa
