/- Max, and what must be whatever is asked. -/
import Derived.Test.YtfpodglfkjlhkaaK3
namespace Go.Proofs.Ytfpodglfkjlhkaa
open Go.ChangeShapes Go.WideShapes Go.ChangeAt Go.RowKit
set_option linter.unusedVariables false
@[go_sem] theorem field_l (e : Bool) (d l : Int) (w : World) : (Instr.field 24 (.agg #[.bool e, .int .u64 d, .int .u8 l]) 2).run Try.prog w = .ok (.int .u8 l) w := by kernel_rfl
@[go_sem] theorem field_e (e : Bool) (d l : Int) (w : World) : (Instr.field 24 (.agg #[.bool e, .int .u64 d, .int .u8 l]) 0).run Try.prog w = .ok (.bool e) w := by kernel_rfl
theorem below5 (w : World) (o1 o2 o3 o4 o5 : Obj) : Below w.heap.size w (((((w.alloc o1).alloc o2).alloc o3).alloc o4).alloc o5) :=
  ((((((Below.refl _ _).alloc (Nat.le_refl _) _).alloc (by simp) _).alloc (by simp; omega) _).alloc (by simp; omega) _).alloc (by simp; omega) _)
theorem max_mk (w : World) (a b : K) : Calls Try.prog 18 #[.agg #[.bool a.e, .int .u64 a.d, .int .u8 a.l], .agg #[.bool b.e, .int .u64 b.d, .int .u8 b.l]] w fun e w' => e = .returned (.agg #[.bool (maxK a b).e, .int .u64 (maxK a b).d, .int .u8 (maxK a b).l]) ∧ ∃ c1 c2 c3 c4 c5, w' = (((((w.alloc (.cells c1 24)).alloc (.cells c2 24)).alloc (.cells c3 24)).alloc (.cells c4 24)).alloc (.cells c5 24)) := by
  have HA := veil (fun w => above_mk w b a)
  unfold maxK
  cases hu : up b a <;> rw [hu] at HA <;>
  (go_enter Try.func18, Try.ntmps18
   go_wp2_with (go_at_call 16; refine (HA.out _).mono ?_; rintro e w1 ⟨rfl, c1, c2, rfl⟩)
   simp [bodyPost, results, Try.results18, go_sem]
   exact ⟨_, _, _, _, _, rfl⟩)
theorem max_ok (w : World) (a b : K) : Calls Try.prog 18 #[.agg #[.bool a.e, .int .u64 a.d, .int .u8 a.l], .agg #[.bool b.e, .int .u64 b.d, .int .u8 b.l]] w fun e w' => e = .returned (.agg #[.bool (maxK a b).e, .int .u64 (maxK a b).d, .int .u8 (maxK a b).l]) ∧ Below w.heap.size w w' :=
  (max_mk w a b).mono fun e w' ⟨h, c1, c2, c3, c4, c5, hw⟩ => ⟨h, by rw [hw]; exact below5 _ _ _ _ _ _⟩
theorem rmax_mk (w : World) (a b : K) : Calls Try.prog 19 #[.agg #[.bool a.e, .int .u64 a.d, .int .u8 a.l], .agg #[.bool b.e, .int .u64 b.d, .int .u8 b.l]] w fun e w' => e = .returned (.agg #[.bool (maxK a b).e, .int .u64 (maxK a b).d, .int .u8 (maxK a b).l]) ∧ ∃ c1 c2 c3 c4 c5, w' = (((((w.alloc (.cells c1 24)).alloc (.cells c2 24)).alloc (.cells c3 24)).alloc (.cells c4 24)).alloc (.cells c5 24)) := by
  have HA := veil (fun w => rabove_mk w b a)
  unfold maxK
  cases hu : up b a <;> rw [hu] at HA <;>
  (go_enter Try.func19, Try.ntmps19
   go_wp2_with (go_at_call 17; refine (HA.out _).mono ?_; rintro e w1 ⟨rfl, c1, c2, rfl⟩)
   simp [bodyPost, results, Try.results19, go_sem]
   exact ⟨_, _, _, _, _, rfl⟩)
theorem rmax_ok (w : World) (a b : K) : Calls Try.prog 19 #[.agg #[.bool a.e, .int .u64 a.d, .int .u8 a.l], .agg #[.bool b.e, .int .u64 b.d, .int .u8 b.l]] w fun e w' => e = .returned (.agg #[.bool (maxK a b).e, .int .u64 (maxK a b).d, .int .u8 (maxK a b).l]) ∧ Below w.heap.size w w' :=
  (rmax_mk w a b).mono fun e w' ⟨h, c1, c2, c3, c4, c5, hw⟩ => ⟨h, by rw [hw]; exact below5 _ _ _ _ _ _⟩
theorem less_ok (w : World) (a b a' b' : Int) : Calls Try.prog 22 #[.agg #[.int .u64 a, .int .u64 b], .agg #[.int .u64 a', .int .u64 b']] w fun e w' => e = .returned (.bool (decide (a < a' ∨ a = a' ∧ b < b'))) ∧ Below w.heap.size w w' := by
  go_enter Try.func22, Try.ntmps22
  by_cases h1 : a < a'
  · go_wp2
    go_ret
    exact ⟨by simp [h1], below2 _ _ _ _ _⟩
  by_cases h2 : a = a'
  · subst h2
    go_wp2
    go_ret
    exact ⟨by simp, below2 _ _ _ _ _⟩
  · go_wp2
    go_ret
    exact ⟨by simp [h1], below2 _ _ _ _ _⟩
theorem keep2 {w0 w w' : World} {b0 b1 : Nat} {k0 k1 : K} (h : w.cell? ⟨b0, 0, none⟩ = some (.bool k0.e) ∧ w.cell? ⟨b0, 1, none⟩ = some (.int .u64 k0.d) ∧ w.cell? ⟨b0, 2, none⟩ = some (.int .u8 k0.l) ∧ w.cell? ⟨b1, 0, none⟩ = some (.bool k1.e) ∧ w.cell? ⟨b1, 1, none⟩ = some (.int .u64 k1.d) ∧ w.cell? ⟨b1, 2, none⟩ = some (.int .u8 k1.l) ∧ Below w0.heap.size w0 w) (hb : Below w.heap.size w w') :
    w'.cell? ⟨b0, 0, none⟩ = some (.bool k0.e) ∧ w'.cell? ⟨b0, 1, none⟩ = some (.int .u64 k0.d) ∧ w'.cell? ⟨b0, 2, none⟩ = some (.int .u8 k0.l) ∧ w'.cell? ⟨b1, 0, none⟩ = some (.bool k1.e) ∧ w'.cell? ⟨b1, 1, none⟩ = some (.int .u64 k1.d) ∧ w'.cell? ⟨b1, 2, none⟩ = some (.int .u8 k1.l) ∧ Below w0.heap.size w0 w' := by
  obtain ⟨h0a, h0b, h0c, h1a, h1b, h1c, hB⟩ := h
  have g0 := At.below ⟨h0a, h0b, h0c⟩ hb
  have g1 := At.below ⟨h1a, h1b, h1c⟩ hb
  exact ⟨g0.1, g0.2.1, g0.2.2, g1.1, g1.2.1, g1.2.2, hB.trans (hb.mono hB.size)⟩
theorem fin2 {w0 w : World} {p0 q0 r0 : Prop} {p1 q1 r1 : Prop} (h : p0 ∧ q0 ∧ r0 ∧ p1 ∧ q1 ∧ r1 ∧ Below w0.heap.size w0 w) : Below w0.heap.size w0 w := h.2.2.2.2.2.2
theorem keep3 {w0 w w' : World} {b0 b1 b2 : Nat} {k0 k1 k2 : K} (h : w.cell? ⟨b0, 0, none⟩ = some (.bool k0.e) ∧ w.cell? ⟨b0, 1, none⟩ = some (.int .u64 k0.d) ∧ w.cell? ⟨b0, 2, none⟩ = some (.int .u8 k0.l) ∧ w.cell? ⟨b1, 0, none⟩ = some (.bool k1.e) ∧ w.cell? ⟨b1, 1, none⟩ = some (.int .u64 k1.d) ∧ w.cell? ⟨b1, 2, none⟩ = some (.int .u8 k1.l) ∧ w.cell? ⟨b2, 0, none⟩ = some (.bool k2.e) ∧ w.cell? ⟨b2, 1, none⟩ = some (.int .u64 k2.d) ∧ w.cell? ⟨b2, 2, none⟩ = some (.int .u8 k2.l) ∧ Below w0.heap.size w0 w) (hb : Below w.heap.size w w') :
    w'.cell? ⟨b0, 0, none⟩ = some (.bool k0.e) ∧ w'.cell? ⟨b0, 1, none⟩ = some (.int .u64 k0.d) ∧ w'.cell? ⟨b0, 2, none⟩ = some (.int .u8 k0.l) ∧ w'.cell? ⟨b1, 0, none⟩ = some (.bool k1.e) ∧ w'.cell? ⟨b1, 1, none⟩ = some (.int .u64 k1.d) ∧ w'.cell? ⟨b1, 2, none⟩ = some (.int .u8 k1.l) ∧ w'.cell? ⟨b2, 0, none⟩ = some (.bool k2.e) ∧ w'.cell? ⟨b2, 1, none⟩ = some (.int .u64 k2.d) ∧ w'.cell? ⟨b2, 2, none⟩ = some (.int .u8 k2.l) ∧ Below w0.heap.size w0 w' := by
  obtain ⟨h0a, h0b, h0c, h1a, h1b, h1c, h2a, h2b, h2c, hB⟩ := h
  have g0 := At.below ⟨h0a, h0b, h0c⟩ hb
  have g1 := At.below ⟨h1a, h1b, h1c⟩ hb
  have g2 := At.below ⟨h2a, h2b, h2c⟩ hb
  exact ⟨g0.1, g0.2.1, g0.2.2, g1.1, g1.2.1, g1.2.2, g2.1, g2.2.1, g2.2.2, hB.trans (hb.mono hB.size)⟩
theorem fin3 {w0 w : World} {p0 q0 r0 : Prop} {p1 q1 r1 : Prop} {p2 q2 r2 : Prop} (h : p0 ∧ q0 ∧ r0 ∧ p1 ∧ q1 ∧ r1 ∧ p2 ∧ q2 ∧ r2 ∧ Below w0.heap.size w0 w) : Below w0.heap.size w0 w := h.2.2.2.2.2.2.2.2.2
set_option maxRecDepth 100000 in
theorem live_ok (w : World) : Calls Try.prog 9 #[] w fun e w' => e = .returned (.bool true) ∧ Below w.heap.size w w' := by
  have HF := veil fixed_ok
  have HD := veil dead_ok
  have HA := veil above_ok
  have HR := veil right_ok
  have e1 : up (deadK 9) (fixK 255) = true := rfl
  have e2 : up (deadK 8) (deadK 9) = true := rfl
  have e3 : (fixK 3).l = 3 := rfl
  have e4 : (deadK 4).e = true := rfl
  have e5 : rightK (fixK 3) = true := rfl
  go_enter Try.func9, Try.ntmps9
  have HB := veil (Below.refl w.heap.size w)
  go_wp2_with (first
      | (go_at_call 10; refine (HF.out _ _).mono ?_; rintro e w1 ⟨rfl, hb⟩; replace HB := veil (HB.out.trans (hb.mono HB.out.size)); clear hb)
      | (go_at_call 12; refine (HD.out _ _).mono ?_; rintro e w2 ⟨rfl, hb⟩; replace HB := veil (HB.out.trans (hb.mono HB.out.size)); clear hb)
      | (go_at_call 16; refine (HA.out _ _ _).mono ?_; rintro e w2 ⟨rfl, hb⟩; replace HB := veil (HB.out.trans (hb.mono HB.out.size)); clear hb)
      | (go_at_call 14; refine (HR.out _ _).mono ?_; rintro e w2 ⟨rfl, hb⟩; replace HB := veil (HB.out.trans (hb.mono HB.out.size)); clear hb))
  go_ret
  exact ⟨rfl, HB.out⟩
end Go.Proofs.Ytfpodglfkjlhkaa
