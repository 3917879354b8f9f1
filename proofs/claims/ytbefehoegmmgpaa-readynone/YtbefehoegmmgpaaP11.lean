/-
  The walk of cut, every way.
-/
import Derived.Test.YtbefehoegmmgpaaP10
namespace Go.Proofs.Ytbefehoegmmgpaa.Ph
open Go.RowKit
attribute [local go_sem ↓] Go.wp_at_zero Go.wp_at_succ

section
variable {w : World} {b g n rt ct : Nat} {D S I C A B : Nat → Nat} {T : Nat → Bool}
set_option maxHeartbeats 4000000 in
theorem cut_any (h : Rep w b g n rt ct D S I C A B T) (x a f : Nat) (hxn : x ≤ n) (han : a ≤ n) (hfn : f ≤ n) (h1 : A x = a) (h3 : B x = f) :
    Calls Try.prog 78 #[.pointer (some ⟨b, 0, none⟩), .int .i64 x] w fun e w' => e = .returned (.tuple #[]) ∧ Rep w' b g n rt ct D S I (if C a = x then upd C a f else C) (if f = 0 then A else upd A f a) (if C a = x then B else upd B a f) T ∧ Only b g w w' := by
  obtain ⟨cp, e0⟩ := h.sl
  have n0 := h.nd x hxn; have n1 := h.ns x hxn; have n2 := h.ni x hxn; have n3 := h.nc x hxn; have n4 := h.na x hxn; have n5 := h.nb x hxn; have n6 := h.nt x hxn
  rw [h1] at n4
  rw [h3] at n5
  have c1 := h.nc a han
  have c2 := h.nb a han
  have c3 := h.na f hfn
  have fg := h.fg
  have hbb := h.lt_b
  have hgg := h.lt_g
  have y1 : ¬ b = w.heap.size := by omega
  have y2 : ¬ g = w.heap.size := by omega
  have xl : x < n + 1 := by omega
  have al : a < n + 1 := by omega
  have fl : f < n + 1 := by omega
  have HR := veil h
  clear h h1 h3
  by_cases hc : C a = x
  · have hci : (C a : Int) = (x : Int) := by omega
    by_cases hf : f = 0
    · subst hf
      rw [hc] at c1
      have n5' : w.cell? ⟨g, x * 7 + 5, none⟩ = some (.int .i64 0) := n5
      clear hci n5
      go_enter Try.func78, Try.ntmps78
      go_wp2
      go_quiet (fail)
      go_wp2
      go_region
      go_wp2
      go_end0
      exact ⟨rfl, ((HR.out.alloc _).drewN _).setC a han 0, (((Only.refl b g w).alloc _).drewN _).set _ _ (Or.inr rfl)⟩
    · have f0 : ¬ (f : Int) = 0 := by omega
      rw [hc] at c1
      clear hci
      go_enter Try.func78, Try.ntmps78
      go_wp2
      go_quiet (fail)
      go_wp2
      go_region
      go_wp2
      go_region
      go_wp2
      go_end0
      exact ⟨rfl, ((((HR.out.alloc _).drewN _).setC a han f).setA f hfn a).drew, (((((Only.refl b g w).alloc _).drewN _).set _ _ (Or.inr rfl)).set _ _ (Or.inr rfl)).drew⟩
  · have hci : ¬ (C a : Int) = (x : Int) := by omega
    by_cases hf : f = 0
    · subst hf
      have n5' : w.cell? ⟨g, x * 7 + 5, none⟩ = some (.int .i64 0) := n5
      clear n5
      go_enter Try.func78, Try.ntmps78
      go_wp2
      go_quiet (fail)
      go_wp2
      go_region
      go_wp2
      go_end0
      exact ⟨rfl, ((HR.out.alloc _).drewN _).setB a han 0, (((Only.refl b g w).alloc _).drewN _).set _ _ (Or.inr rfl)⟩
    · have f0 : ¬ (f : Int) = 0 := by omega
      go_enter Try.func78, Try.ntmps78
      go_wp2
      go_quiet (fail)
      go_wp2
      go_region
      go_wp2
      go_region
      go_wp2
      go_end0
      exact ⟨rfl, ((((HR.out.alloc _).drewN _).setB a han f).setA f hfn a).drew, (((((Only.refl b g w).alloc _).drewN _).set _ _ (Or.inr rfl)).set _ _ (Or.inr rfl)).drew⟩
end
end Go.Proofs.Ytbefehoegmmgpaa.Ph
