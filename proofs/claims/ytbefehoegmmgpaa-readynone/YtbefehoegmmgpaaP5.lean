/-
  The walks of cut, pair and remove, as far as a small heap asks them.
-/
import Derived.Test.YtbefehoegmmgpaaP4
import Derived.WalkMore
namespace Go.Proofs.Ytbefehoegmmgpaa.Ph
open Go.RowKit
attribute [local go_sem ↓] Go.wp_at_zero Go.wp_at_succ

section
variable {w : World} {b g n rt ct : Nat} {D S I C A B : Nat → Nat} {T : Nat → Bool}
theorem pair_zero (w : World) (b : Nat) :
    Calls Try.prog 77 #[.pointer (some ⟨b, 0, none⟩), .int .i64 0] w fun e w' => e = .returned (.int .i64 0) ∧ Below w.heap.size w w' := by
  go_enter Try.func77, Try.ntmps77
  go_wp2
  go_step3
  go_wp2
  go_step3
  go_wp2
  go_loopw [1] (fun i wr => i = .int .i64 0 ∧ wr = w) (fun _ _ => 0)
  case atStart => exact ⟨rfl, rfl⟩
  case round =>
    obtain ⟨rfl, rfl⟩ := hrel
    go_wp2
    rw [Exit.noGoto_ret]
    go_ret
    exact ⟨rfl, Below.refl _ _⟩
set_option maxHeartbeats 2000000 in
theorem pair_single (h : Rep w b g n rt ct D S I C A B T) (x : Nat) (hx : 1 ≤ x) (hxn : x ≤ n) (h0 : B x = 0) :
    Calls Try.prog 77 #[.pointer (some ⟨b, 0, none⟩), .int .i64 x] w fun e w' => e = .returned (.int .i64 x) ∧ Below w.heap.size w w' := by
  obtain ⟨cp, e0⟩ := h.sl
  have e1 := h.nb x hxn
  rw [h0] at e1
  have e1' : w.cell? ⟨g, x * 7 + 5, none⟩ = some (.int .i64 0) := e1
  have x0 : ¬ (x : Int) = 0 := by omega
  have xl : x < n + 1 := by omega
  clear h e1
  go_enter Try.func77, Try.ntmps77
  go_wp2
  go_step3
  go_wp2
  go_step3
  go_wp2
  go_loopw [1] (fun i wr => i = .int .i64 x ∧ wr = w) (fun _ _ => 0)
  case atStart => exact ⟨rfl, rfl⟩
  case round =>
    obtain ⟨rfl, rfl⟩ := hrel
    go_wp2
    go_loopw [1, 5] (fun i m wr2 => i = .int .i64 x ∧ m = .int .i64 0 ∧ wr2 = wr) (fun _ _ _ => 0)
    case atStart => exact ⟨rfl, rfl, rfl⟩
    case round =>
      obtain ⟨rfl, rfl, rfl⟩ := hrel
      go_wp2
      go_quiet (fail)
      go_wp2
      first
        | (rw [Exit.noGoto_ret]; go_ret; exact ⟨rfl, below_drewN (Below.refl _ _) _⟩)
        | (show Exit.noGoto _ Exit.ret _ _; rw [Exit.noGoto_ret]; go_ret; exact ⟨rfl, below_drewN (Below.refl _ _) _⟩)

set_option maxHeartbeats 2000000 in
/-- A spot that is the first one below another one, and the last one too, is cut off. -/
theorem cut_child (h : Rep w b g n rt ct D S I C A B T) (x a : Nat) (hxn : x ≤ n) (han : a ≤ n) (h1 : A x = a) (h2 : C a = x) (h3 : B x = 0) :
    Calls Try.prog 78 #[.pointer (some ⟨b, 0, none⟩), .int .i64 x] w fun e w' => e = .returned (.tuple #[]) ∧ Rep w' b g n rt ct D S I (upd C a 0) A B T ∧ Only b g w w' := by
  obtain ⟨cp, e0⟩ := h.sl
  have n0 := h.nd x hxn; have n1 := h.ns x hxn; have n2 := h.ni x hxn; have n3 := h.nc x hxn; have n4 := h.na x hxn; have n5 := h.nb x hxn; have n6 := h.nt x hxn
  rw [h1] at n4
  rw [h3] at n5
  have n5' : w.cell? ⟨g, x * 7 + 5, none⟩ = some (.int .i64 0) := n5
  have c1 := h.nc a han
  rw [h2] at c1
  have fg := h.fg
  have hbb := h.lt_b
  have hgg := h.lt_g
  have y1 : ¬ b = w.heap.size := by omega
  have y2 : ¬ g = w.heap.size := by omega
  have xl : x < n + 1 := by omega
  have al : a < n + 1 := by omega
  have HR := veil h
  clear h h1 h2 h3 n5
  go_enter Try.func78, Try.ntmps78
  go_wp2
  go_quiet (fail)
  go_wp2
  go_region
  go_wp2
  go_end0
  exact ⟨rfl, ((HR.out.alloc _).drewN _).setC a han 0, (((Only.refl b g w).alloc _).drewN _).set _ _ (Or.inr rfl)⟩
end
end Go.Proofs.Ytbefehoegmmgpaa.Ph
