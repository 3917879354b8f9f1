/-
  The walks of both means over a slice of floats of at most 200: of none it is no number, else the nearest float to the sum by how many.
-/
import Derived.Test.YtjhhhmeoahbagadF7
namespace Go.Proofs.Ytjhhhmeoahbagad
open Go.RowKit Go.Lib

theorem take_snocN (zs : List Nat) (k : Nat) (h : k < zs.length) : zs.take (k + 1) = zs.take k ++ [zs.getD k 0] := by
  rw [List.take_succ_eq_append_getElem h]
  simp [List.getD, List.getElem?_eq_getElem h]

set_option maxHeartbeats 1000000 in
theorem mean_ok (b off cap : Nat) (zs : List Nat) (r : Nat) (w : World) (hl : zs.length ≤ 200) (h0 : 1 ≤ zs.length) (hx : ∀ y ∈ zs, y < 18446744073709551616)
    (hc : ∀ i, i < zs.length → w.cell? ⟨b, off + i, none⟩ = some (.float .f64 (zs.getD i 0)))
    (HQ : Hid (floatBits .quo .f64 (sumF zs) (floatOfInt .f64 (zs.length : Int)) = some r)) :
    Calls Try.prog 12 #[.slice (some ⟨b, off, none⟩) zs.length cap] w fun e w' => e = .returned (.float .f64 r) ∧ w' = w := by
  have hrun : ∀ w, (binOp .quo 35 (.float .f64 (sumF zs)) (.float .f64 (floatOfInt .f64 (zs.length : Int)))).run Try.prog w = .ok (.float .f64 r) w := fun w => run_float_arith w .quo 35 .f64 _ _ _ HQ.out
  go_enter Try.func12, Try.ntmps12
  go_wp2
  go_loop [3, 8] (fun s i => ∃ k : Nat, k ≤ zs.length ∧ i = .int .i64 k ∧ s = .float .f64 (sumF (zs.take k))) (fun _ i => zs.length - (intOf i).toNat)
  case atStart => exact ⟨0, by omega, rfl, rfl⟩
  case round =>
    obtain ⟨k, hk, rfl, rfl⟩ := hrel
    by_cases hlt : k < zs.length
    · have hcell := hc k hlt
      have hadd : ∀ w, (binOp .add 35 (.float .f64 (sumF (zs.take k))) (.float .f64 (clampN (zs.getD k 0)))).run Try.prog w = .ok (.float .f64 (sumF (zs.take (k + 1)))) w := fun w =>
        run_float_arith w .add 35 .f64 _ _ _ (by
          rw [take_snocN zs k hlt]
          exact sumF_step _ _ (by rw [List.length_take]; omega) (fun y hy => hx y (List.mem_of_mem_take hy)) (by
            have : zs.getD k 0 = zs[k] := by simp [List.getD, List.getElem?_eq_getElem hlt]
            rw [this]; exact hx _ (List.getElem_mem hlt)))
      clear hc hrun
      generalize hz : zs.getD k 0 = z at *
      clear hz
      go_wp2_with (go_at_call 13; refine (clamp_any _ _).mono ?_; rintro e w' ⟨rfl, rfl⟩)
      go_round
      case rel => exact ⟨k + 1, by omega, by go_num, rfl⟩
      case measure => simp [intOf]; omega
    · have hk' : k = zs.length := by omega
      subst hk'
      rw [List.take_length]
      clear hc
      go_wp2
      go_ret
      exact ⟨rfl, rfl⟩

theorem quo_none : floatBits .quo .f64 0 0 = none := by decide +kernel
theorem mean_none (a : Option Addr) (cap : Nat) (w : World) :
    Calls Try.prog 12 #[.slice a 0 cap] w fun e w' => ∃ r, e = .returned (.float .f64 r) ∧ ¬ Num r ∧ w' = w.drew := by
  have e0 := zero_float
  have hrun : ∀ w, (binOp .quo 35 (.float .f64 0) (.float .f64 0)).run Try.prog w = .ok (.float .f64 (nanOf w 0 0)) w.drew := fun w => run_float_nan w 35 _ _ quo_none
  go_enter Try.func12, Try.ntmps12
  go_wp2
  go_loop [3, 8] (fun s i => s = .float .f64 0 ∧ i = .int .i64 0) (fun _ _ => 0)
  case atStart => exact ⟨rfl, rfl⟩
  case round =>
    obtain ⟨rfl, rfl⟩ := hrel
    go_wp2
    go_ret
    exact ⟨_, rfl, nanOf_nan _ _ _, rfl⟩
end Go.Proofs.Ytjhhhmeoahbagad
