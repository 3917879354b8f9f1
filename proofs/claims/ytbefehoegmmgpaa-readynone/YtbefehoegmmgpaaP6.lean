/-
  The walks of remove, Insert, Delete, Change, Min, Take and Len, as far as a small heap asks them.
-/
import Derived.Test.YtbefehoegmmgpaaP5
namespace Go.Proofs.Ytbefehoegmmgpaa.Ph
open Go.RowKit
attribute [local go_sem ↓] Go.wp_at_zero Go.wp_at_succ

section
variable {w : World} {b g n rt ct : Nat} {D S I C A B : Nat → Nat} {T : Nat → Bool}
theorem zero_node (h : Rep w b g n rt ct D S I C A B T) (x : Nat) (hx : x ≤ n) :
    Rep (((((((w.setCell ⟨g, x * 7, none⟩ (.int .u64 0)).setCell ⟨g, x * 7 + 1, none⟩ (.int .u64 0)).setCell ⟨g, x * 7 + 2, none⟩ (.int .i64 0)).setCell ⟨g, x * 7 + 3, none⟩ (.int .i64 0)).setCell ⟨g, x * 7 + 4, none⟩ (.int .i64 0)).setCell ⟨g, x * 7 + 5, none⟩ (.int .i64 0)).setCell ⟨g, x * 7 + 6, none⟩ (.bool false)) b g n rt ct (upd D x 0) (upd S x 0) (upd I x 0) (upd C x 0) (upd A x 0) (upd B x 0) (upd T x false) :=
  ((((((h.setD x hx 0).setS x hx 0).setI x hx 0).setC x hx 0).setA x hx 0).setB x hx 0).setT x hx false

set_option maxHeartbeats 4000000 in
theorem remove_root (h : Rep w b g n rt (ct + 1) D S I C A B T) (x r : Nat) (hx : x = rt) (hxn : x ≤ n) (hct : ct ≤ 1024)
    (hP : Calls Try.prog 77 #[.pointer (some ⟨b, 0, none⟩), .int .i64 (C x : Int)] w fun e w' => e = .returned (.int .i64 (r : Int)) ∧ Below w.heap.size w w') :
    Calls Try.prog 71 #[.pointer (some ⟨b, 0, none⟩), .int .i64 (x : Int)] w fun e w' => e = .returned (.tuple #[]) ∧ Rep w' b g n r ct (upd D x 0) (upd S x 0) (upd I x 0) (upd C x 0) (upd A x 0) (upd B x 0) (upd T x false) ∧ Only b g w w' := by
  subst hx
  obtain ⟨cp, e0⟩ := h.sl
  have c1 := h.nc x hxn
  have xl : x < n + 1 := by omega
  have hbg := h.bg
  have hgb : g ≠ b := fun e => hbg e.symm
  have HP := veil hP
  have HB : Hid (∀ w1, Below w.heap.size w w1 → Rep w1 b g n x (ct + 1) D S I C A B T) := fun w1 hb => h.below hb
  clear h hP
  go_enter Try.func71, Try.ntmps71
  go_wp2_with (go_at_call 77; refine (HP.out).mono ?_; rintro e w1 ⟨rfl, hb1⟩; have hr := HB.out _ hb1; obtain ⟨cp1, e1⟩ := hr.sl; have r1 := hr.rt; have r2 := hr.ct; have m0 := hr.nd x hxn; have m1 := hr.ns x hxn; have m2 := hr.ni x hxn; have m3 := hr.nc x hxn; have m4 := hr.na x hxn; have m5 := hr.nb x hxn; have m6 := hr.nt x hxn; have fb := hr.fb; have fg := hr.fg; have HR := veil hr; have HL := veil hb1; clear hr hb1)
  go_end0
  refine ⟨rfl, ((zero_node (HR.out.setR r) x hxn).setN ct), ?_⟩
  exact ((((((((((Only.of_below HL.out).set ⟨b, 1, none⟩ _ (Or.inl rfl)).set ⟨g, x * 7, none⟩ _ (Or.inr rfl)).set ⟨g, x * 7 + 1, none⟩ _ (Or.inr rfl)).set ⟨g, x * 7 + 2, none⟩ _ (Or.inr rfl)).set ⟨g, x * 7 + 3, none⟩ _ (Or.inr rfl)).set ⟨g, x * 7 + 4, none⟩ _ (Or.inr rfl)).set ⟨g, x * 7 + 5, none⟩ _ (Or.inr rfl)).set ⟨g, x * 7 + 6, none⟩ _ (Or.inr rfl)).set ⟨b, 2, none⟩ _ (Or.inl rfl))

set_option maxHeartbeats 4000000 in
theorem remove_leaf (h : Rep w b g n rt (ct + 1) D S I C A B T) (x a : Nat) (hx : x ≠ rt) (hrt : 1 ≤ rt) (hxn : x ≤ n) (han : a ≤ n) (hct : ct ≤ 1024) (h0 : C x = 0) (h1 : A x = a) (h2 : C a = x) (h3 : B x = 0) :
    Calls Try.prog 71 #[.pointer (some ⟨b, 0, none⟩), .int .i64 (x : Int)] w fun e w' => e = .returned (.tuple #[]) ∧ Rep w' b g n rt ct (upd D x 0) (upd S x 0) (upd I x 0) (upd (upd C a 0) x 0) (upd A x 0) (upd B x 0) (upd T x false) ∧ Only b g w w' := by
  obtain ⟨cp, e0⟩ := h.sl
  have c1 := h.nc x hxn
  rw [h0] at c1
  have c1' : w.cell? ⟨g, x * 7 + 3, none⟩ = some (.int .i64 0) := c1
  have xl : x < n + 1 := by omega
  have xr : ¬ (x : Int) = (rt : Int) := by omega
  have hbg := h.bg
  have hgb : g ≠ b := fun e => hbg e.symm
  have HB : Hid (∀ w1, Below w.heap.size w w1 → Rep w1 b g n rt (ct + 1) D S I C A B T) := fun w1 hb => h.below hb
  have HC : Hid (∀ w1, Rep w1 b g n rt (ct + 1) D S I C A B T → Calls Try.prog 78 #[.pointer (some ⟨b, 0, none⟩), .int .i64 x] w1 fun e w' => e = .returned (.tuple #[]) ∧ Rep w' b g n rt (ct + 1) D S I (upd C a 0) A B T ∧ Only b g w1 w') := fun w1 hr => cut_child hr x a hxn han h1 h2 h3
  clear h c1 h0 h1 h2 h3
  go_enter Try.func71, Try.ntmps71
  go_wp2_with (first
    | (go_at_call 77; refine (pair_zero _ b).mono ?_; rintro e w1 ⟨rfl, hb1⟩; have hr := HB.out _ hb1; have r1 := hr.rt; have HR1 := veil hr; have HL := veil hb1; clear hr hb1)
    | (go_at_call 78; refine (HC.out _ HR1.out).mono ?_; rintro e w2 ⟨rfl, hr, ho⟩; obtain ⟨cp1, e1⟩ := hr.sl; have r12 := hr.rt; have r2 := hr.ct; have m0 := hr.nd x hxn; have m1 := hr.ns x hxn; have m2 := hr.ni x hxn; have m3 := hr.nc x hxn; have m4 := hr.na x hxn; have m5 := hr.nb x hxn; have m6 := hr.nt x hxn; have fb := hr.fb; have fg := hr.fg; have HR := veil hr; have HO := veil ((Only.of_below HL.out).trans ho); clear hr ho)
    | (go_at_call 79; refine (join_right rt hrt _ b).mono ?_; rintro e w3 ⟨rfl, hw⟩; replace hw := hw.symm; subst hw))
  go_end0
  refine ⟨rfl, ((zero_node (HR.out.setR rt) x hxn).setN ct), ?_⟩
  exact (((((((((HO.out.set ⟨b, 1, none⟩ _ (Or.inl rfl)).set ⟨g, x * 7, none⟩ _ (Or.inr rfl)).set ⟨g, x * 7 + 1, none⟩ _ (Or.inr rfl)).set ⟨g, x * 7 + 2, none⟩ _ (Or.inr rfl)).set ⟨g, x * 7 + 3, none⟩ _ (Or.inr rfl)).set ⟨g, x * 7 + 4, none⟩ _ (Or.inr rfl)).set ⟨g, x * 7 + 5, none⟩ _ (Or.inr rfl)).set ⟨g, x * 7 + 6, none⟩ _ (Or.inr rfl)).set ⟨b, 2, none⟩ _ (Or.inl rfl))
end
end Go.Proofs.Ytbefehoegmmgpaa.Ph
