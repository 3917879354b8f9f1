/- xorshift; bits.Len; nextPowerOfTwo. -/
import Derived.Test.YtjmbadadelelfaaWf7
namespace Go.Proofs.Ytjmbadadelelfaa
open Go.RowKit
set_option linter.unusedVariables false
set_option linter.unusedSimpArgs false
attribute [local go_sem ↓] Go.wp_at_zero Go.wp_at_succ
theorem xor_in (x y : Int) : ∃ z : Nat, z < 18446744073709551616 ∧ bits BinOp.xor IntKind.u64 x y = (z : Int) := by
  refine ⟨(bits BinOp.xor IntKind.u64 x y).toNat, ?_, ?_⟩
  · simp [bits, IntKind.wrap, IntKind.bits, IntKind.signed]
    omega
  · simp [bits, IntKind.wrap, IntKind.bits, IntKind.signed]
    omega
/-- A cell that holds some number of 64 bits. -/
structure Xs (W : World) (s z : Nat) : Prop where
  zl : z < 18446744073709551616
  cell : W.cell? ⟨s, 0, none⟩ = some (.int .u64 (z : Int))
  froz : W.frozen? ⟨s, 0, none⟩ = false
  lt : s < W.heap.size
theorem Xs.put {W : World} {s y : Nat} (h : Xs W s y) (z : Nat) (hz : z < 18446744073709551616) : Xs (W.setCell ⟨s, 0, none⟩ (.int .u64 (z : Int))).drew s z :=
  ⟨hz, World.cell?_setCell_same _ _ _ h.cell, by rw [World.frozen?_drew, World.frozen?_setCell]; exact h.froz, by simpa using h.lt⟩
set_option maxRecDepth 100000 in
set_option maxHeartbeats 2000000 in
theorem xnext_ok (W : World) (s z : Nat) (h : Xs W s z) :
    Calls Try.prog 79 #[.pointer (some ⟨s, 0, none⟩)] W fun e w' => ∃ z' : Nat, e = .returned (.int .u64 (z' : Int)) ∧ Xs w' s z' ∧ Fr (fun k => k = s) W w' := by
  obtain ⟨hz, hc, fz, hlt⟩ := h
  have H0 : Hid (Xs W s z) := ⟨hz, hc, fz, hlt⟩
  go_enter Try.func79, Try.ntmps79
  go_wp2
  go_region
  obtain ⟨z1, hz1, e1⟩ := xor_in (z : Int) (IntKind.u64.wrap ((z : Int) * 8192))
  rw [e1]
  have H1 := veil (H0.out.put z1 hz1)
  have F1 : Hid (Fr (fun k => k = s) W (W.setCell ⟨s, 0, none⟩ (.int .u64 (z1 : Int))).drew) := ((Fr.refl (fun k => k = s) W).setCell (a := ⟨s, 0, none⟩) rfl _).drew
  generalize (W.setCell ⟨s, 0, none⟩ (.int .u64 (z1 : Int))).drew = W1 at *
  clear e1 hc fz hlt H0 hz
  obtain ⟨hz, hc, fz, hlt⟩ := H1.out
  go_wp2
  go_region
  obtain ⟨z2, hz2, e1⟩ := xor_in (z1 : Int) ((z1 : Int) / 128)
  rw [e1]
  have H2 := veil (H1.out.put z2 hz2)
  have F2 : Hid (Fr (fun k => k = s) W (W1.setCell ⟨s, 0, none⟩ (.int .u64 (z2 : Int))).drew) := (F1.out.setCell (a := ⟨s, 0, none⟩) rfl _).drew
  generalize (W1.setCell ⟨s, 0, none⟩ (.int .u64 (z2 : Int))).drew = W2 at *
  clear e1 hc fz hlt H1 hz
  obtain ⟨hz, hc, fz, hlt⟩ := H2.out
  go_wp2
  go_region
  obtain ⟨z3, hz3, e1⟩ := xor_in (z2 : Int) (IntKind.u64.wrap ((z2 : Int) * 131072))
  rw [e1]
  have H3 := veil (H2.out.put z3 hz3)
  have F3 : Hid (Fr (fun k => k = s) W (W2.setCell ⟨s, 0, none⟩ (.int .u64 (z3 : Int))).drew) := (F2.out.setCell (a := ⟨s, 0, none⟩) rfl _).drew
  generalize (W2.setCell ⟨s, 0, none⟩ (.int .u64 (z3 : Int))).drew = W3 at *
  clear e1 hc fz hlt H2 hz
  obtain ⟨hz, hc, fz, hlt⟩ := H3.out
  go_wp2
  go_ret
  exact ⟨z3, rfl, H3.out, F3.out⟩
end Go.Proofs.Ytjmbadadelelfaa
