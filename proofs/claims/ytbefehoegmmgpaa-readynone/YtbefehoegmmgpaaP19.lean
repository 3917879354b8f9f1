/-
  The walks of remove over any answers of pair, cut and join.
-/
import Derived.Test.YtbefehoegmmgpaaP18
namespace Go.Proofs.Ytbefehoegmmgpaa.Ph
open Go.RowKit
attribute [local go_sem ↓] Go.wp_at_zero Go.wp_at_succ

section
variable {w : World} {b g n rt ct : Nat} {D S I C A B : Nat → Nat} {T : Nat → Bool}
set_option maxHeartbeats 4000000 in
theorem remove_top (h : Rep w b g n rt (ct + 1) D S I C A B T) (x : Nat) (hx : x = rt) (hxn : x ≤ n) (hct : ct ≤ 1024) (Q : Nat → (Nat → Nat) → (Nat → Nat) → (Nat → Nat) → Prop)
    (hP : Calls Try.prog 77 #[.pointer (some ⟨b, 0, none⟩), .int .i64 (C x : Int)] w fun e w' => ∃ (r : Nat) (C1 A1 B1 : Nat → Nat), e = .returned (.int .i64 (r : Int)) ∧ Rep w' b g n rt (ct + 1) D S I C1 A1 B1 T ∧ Only b g w w' ∧ Q r C1 A1 B1) :
    Calls Try.prog 71 #[.pointer (some ⟨b, 0, none⟩), .int .i64 (x : Int)] w fun e w' => ∃ (r : Nat) (C1 A1 B1 : Nat → Nat), e = .returned (.tuple #[]) ∧ Rep w' b g n r ct (upd D x 0) (upd S x 0) (upd I x 0) (upd C1 x 0) (upd A1 x 0) (upd B1 x 0) (upd T x false) ∧ Only b g w w' ∧ Q r C1 A1 B1 := by
  subst hx
  obtain ⟨cp, e0⟩ := h.sl
  have c1 := h.nc x hxn
  have xl : x < n + 1 := by omega
  have hbg := h.bg
  have hgb : g ≠ b := fun e => hbg e.symm
  have HP := veil hP
  clear h hP
  go_enter Try.func71, Try.ntmps71
  go_wp2_with (go_at_call 77; refine (HP.out).mono ?_; rintro e w1 ⟨r, C1, A1, B1, rfl, hr, ho, hq⟩; obtain ⟨cp1, e1⟩ := hr.sl; have r1 := hr.rt; have r2 := hr.ct; have m0 := hr.nd x hxn; have m1 := hr.ns x hxn; have m2 := hr.ni x hxn; have m3 := hr.nc x hxn; have m4 := hr.na x hxn; have m5 := hr.nb x hxn; have m6 := hr.nt x hxn; have fb := hr.fb; have fg := hr.fg; have HR := veil hr; have HO := veil ho; have HQ := veil hq; clear hr ho hq)
  go_end0
  refine ⟨r, C1, A1, B1, rfl, ((zero_node (HR.out.setR r) x hxn).setN ct), ?_, HQ.out⟩
  exact (((((((((HO.out.set ⟨b, 1, none⟩ _ (Or.inl rfl)).set ⟨g, x * 7, none⟩ _ (Or.inr rfl)).set ⟨g, x * 7 + 1, none⟩ _ (Or.inr rfl)).set ⟨g, x * 7 + 2, none⟩ _ (Or.inr rfl)).set ⟨g, x * 7 + 3, none⟩ _ (Or.inr rfl)).set ⟨g, x * 7 + 4, none⟩ _ (Or.inr rfl)).set ⟨g, x * 7 + 5, none⟩ _ (Or.inr rfl)).set ⟨g, x * 7 + 6, none⟩ _ (Or.inr rfl)).set ⟨b, 2, none⟩ _ (Or.inl rfl))

set_option maxHeartbeats 4000000 in
theorem remove_deep (h : Rep w b g n rt (ct + 1) D S I C A B T) (x : Nat) (hx : x ≠ rt) (hxn : x ≤ n) (hct : ct ≤ 1024) (Q Q2 : Nat → (Nat → Nat) → (Nat → Nat) → (Nat → Nat) → Prop)
    (hP : Calls Try.prog 77 #[.pointer (some ⟨b, 0, none⟩), .int .i64 (C x : Int)] w fun e w' => ∃ (r : Nat) (C1 A1 B1 : Nat → Nat), e = .returned (.int .i64 (r : Int)) ∧ Rep w' b g n rt (ct + 1) D S I C1 A1 B1 T ∧ Only b g w w' ∧ Q r C1 A1 B1)
    (hQ : ∀ (r : Nat) (C1 A1 B1 : Nat → Nat), Q r C1 A1 B1 → A1 x ≤ n ∧ B1 x ≤ n)
    (hJ : ∀ (w2 : World) (r : Nat) (C1 A1 B1 : Nat → Nat), Q r C1 A1 B1 → Rep w2 b g n rt (ct + 1) D S I (cutC C1 A1 B1 x) (cutA C1 A1 B1 x) (cutB C1 A1 B1 x) T → Calls Try.prog 79 #[.pointer (some ⟨b, 0, none⟩), .int .i64 (rt : Int), .int .i64 (r : Int)] w2 fun e w' => ∃ (r2 : Nat) (C2 A2 B2 : Nat → Nat), e = .returned (.int .i64 (r2 : Int)) ∧ Rep w' b g n rt (ct + 1) D S I C2 A2 B2 T ∧ Only b g w2 w' ∧ Q2 r2 C2 A2 B2) :
    Calls Try.prog 71 #[.pointer (some ⟨b, 0, none⟩), .int .i64 (x : Int)] w fun e w' => ∃ (r : Nat) (C1 A1 B1 : Nat → Nat), e = .returned (.tuple #[]) ∧ Rep w' b g n r ct (upd D x 0) (upd S x 0) (upd I x 0) (upd C1 x 0) (upd A1 x 0) (upd B1 x 0) (upd T x false) ∧ Only b g w w' ∧ Q2 r C1 A1 B1 := by
  obtain ⟨cp, e0⟩ := h.sl
  have c1 := h.nc x hxn
  have xl : x < n + 1 := by omega
  have xr : ¬ (x : Int) = (rt : Int) := by omega
  have hbg := h.bg
  have hgb : g ≠ b := fun e => hbg e.symm
  have HP := veil hP
  have HJ := veil hJ
  have HC : Hid (∀ (w1 : World) (r : Nat) (C1 A1 B1 : Nat → Nat), Q r C1 A1 B1 → Rep w1 b g n rt (ct + 1) D S I C1 A1 B1 T → Calls Try.prog 78 #[.pointer (some ⟨b, 0, none⟩), .int .i64 x] w1 fun e w' => e = .returned (.tuple #[]) ∧ Rep w' b g n rt (ct + 1) D S I (cutC C1 A1 B1 x) (cutA C1 A1 B1 x) (cutB C1 A1 B1 x) T ∧ Only b g w1 w') :=
    fun w1 r C1 A1 B1 hq hr => cut_any hr x (A1 x) (B1 x) hxn (hQ r C1 A1 B1 hq).1 (hQ r C1 A1 B1 hq).2 rfl rfl
  clear h hP hQ hJ
  go_enter Try.func71, Try.ntmps71
  go_wp2_with (first
    | (go_at_call 77; refine (HP.out).mono ?_; rintro e w1 ⟨r, C1, A1, B1, rfl, hr, ho, hq⟩; have r1 := hr.rt; have HR1 := veil hr; have HO1 := veil ho; have HQ1 := veil hq; clear hr ho hq)
    | (go_at_call 78; refine (HC.out _ r C1 A1 B1 HQ1.out HR1.out).mono ?_; rintro e w2 ⟨rfl, hr, ho⟩; have r12 := hr.rt; have HR2 := veil hr; have HO2 := veil (HO1.out.trans ho); clear hr ho)
    | (go_at_call 79; refine (HJ.out _ r C1 A1 B1 HQ1.out HR2.out).mono ?_; rintro e w3 ⟨r3, C2, A2, B2, rfl, hr, ho, hq⟩; obtain ⟨cp1, e1⟩ := hr.sl; have r13 := hr.rt; have r2 := hr.ct; have m0 := hr.nd x hxn; have m1 := hr.ns x hxn; have m2 := hr.ni x hxn; have m3 := hr.nc x hxn; have m4 := hr.na x hxn; have m5 := hr.nb x hxn; have m6 := hr.nt x hxn; have fb := hr.fb; have fg := hr.fg; have HR3 := veil hr; have HO3 := veil (HO2.out.trans ho); have HQ3 := veil hq; clear hr ho hq))
  go_end0
  refine ⟨r3, C2, A2, B2, rfl, ((zero_node (HR3.out.setR r3) x hxn).setN ct), ?_, HQ3.out⟩
  exact (((((((((HO3.out.set ⟨b, 1, none⟩ _ (Or.inl rfl)).set ⟨g, x * 7, none⟩ _ (Or.inr rfl)).set ⟨g, x * 7 + 1, none⟩ _ (Or.inr rfl)).set ⟨g, x * 7 + 2, none⟩ _ (Or.inr rfl)).set ⟨g, x * 7 + 3, none⟩ _ (Or.inr rfl)).set ⟨g, x * 7 + 4, none⟩ _ (Or.inr rfl)).set ⟨g, x * 7 + 5, none⟩ _ (Or.inr rfl)).set ⟨g, x * 7 + 6, none⟩ _ (Or.inr rfl)).set ⟨b, 2, none⟩ _ (Or.inl rfl))
end
end Go.Proofs.Ytbefehoegmmgpaa.Ph
