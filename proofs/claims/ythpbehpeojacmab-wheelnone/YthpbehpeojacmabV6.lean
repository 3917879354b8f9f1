/-
  The walk of Advance, as far as a small wheel asks it.
-/
import Derived.Test.YthpbehpeojacmabV5
namespace Go.Proofs.Ythpbehpeojacmab
open Go.RowKit
attribute [local go_sem ↓] Go.wp_at_zero Go.wp_at_succ

section
variable {w : World} {b g n nw ct : Nat} {fm : Value} {F L A B E : Nat → Nat} {T : Nat → Bool}
theorem zero_entry (h : Rep w b g n nw ct fm F L A B E T) (x : Nat) (hx : x ≤ n) :
    Rep ((((w.setCell ⟨g, x * 4, none⟩ (.int .i64 0)).setCell ⟨g, x * 4 + 1, none⟩ (.int .i64 0)).setCell ⟨g, x * 4 + 2, none⟩ (.int .u64 0)).setCell ⟨g, x * 4 + 3, none⟩ (.bool false)) b g n nw ct fm F L (upd A x 0) (upd B x 0) (upd E x 0) (upd T x false) :=
  (((h.setA x hx 0).setB x hx 0).setE x hx 0).setT x hx false
theorem own_only {w w' : World} {b g base : Nat} {v : Value} {k : Nat} {xs : List Value} (h : w.ownsRow base 3 1 v k xs) (ho : Only b g w w') (hb : b < base) (hg : g < base) : w'.ownsRow base 3 1 v k xs := by
  refine ⟨h.1, ?_⟩
  rcases h.2 with hn | ⟨g', cap, cur, e, hb', hgg, rest⟩
  · exact .inl hn
  · refine .inr ⟨g', cap, cur, e, hb', ?_, rest⟩
    rw [ho.block g' (Array.getElem?_eq_some_iff.1 hgg).1 (by omega) (by omega)]
    exact hgg
theorem own_cell {w : World} {base g c : Nat} {v : Value} (h : w.ownsRow base 3 1 (.slice (some ⟨g, 0, none⟩) 1 c) 1 [v]) : w.cell? ⟨g, 0, none⟩ = some v := by
  rw [World.ownsRow.cellAt h 0 (by omega)]
  rfl

set_option maxHeartbeats 4000000 in
set_option maxRecDepth 100000 in
theorem advance_four (h : Rep w b g n 0 (ct + 1) fm F L A B E T) (hn : n ≤ 1024) (hct : ct ≤ 1024) (id : Nat) (hid : id < n) (f0 : F 0 = 0) (f1 : F 1 = 0) (f2 : F 2 = 0) (f3 : F 3 = id + 1) (f4 : F 4 = 0) (b0 : B (id + 1) = 0) :
    Calls Try.prog 13 #[.pointer (some ⟨b, 0, none⟩), .int .u64 4] w fun e w' => (∃ g5 c5, e = .returned (.slice (some ⟨g5, 0, none⟩) 1 c5) ∧ w'.cell? ⟨g5, 0, none⟩ = some (.int .i64 (id : Int))) ∧ (∃ F L A B E T, Rep w' b g n 4 ct fm F L A B E T) ∧ Only b g w w' := by
  have e0 : w.cell? ⟨b, 0, none⟩ = some (.int .u64 0) := h.tn
  have hbb := h.lt_b
  have hgg := h.lt_g
  have hS := sweep_four h hn (id + 1) (by omega) (by omega) f0 f1 f2 f3 f4 b0
  rw [show (((id + 1 : Nat) : Int) - 1) = (id : Int) by omega] at hS
  have HS := veil hS
  have HT1 : Hid (∀ w, Calls Try.prog 35 #[.int .u64 4] w fun e w' => e = .returned (.int .u64 0) ∧ w' = w) := fun w => turn_ok 4 (by decide) w
  have HT2 : Hid (∀ w, Calls Try.prog 35 #[.int .u64 0] w fun e w' => e = .returned (.int .u64 0) ∧ w' = w) := fun w => turn_ok 0 (by decide) w
  clear h hS f0 f1 f2 f3 f4 b0
  go_enter Try.func13, Try.ntmps13
  go_wp2_with (go_at_call 34; refine (HS.out).mono ?_; rintro e w1 ⟨⟨v1, rfl, _, hown⟩, hr, ho⟩; obtain ⟨g5, c5, rfl⟩ := own_one hown; have a0 := hr.tn; have HR := veil hr; have HO := veil ho; have HW := veil hown; clear hr ho hown)
  have a0' : w1.cell? ⟨b, 0, none⟩ = some (.int .u64 0) := a0
  clear a0
  go_region_held3 (fun w' => w'.cell? ⟨b, 0, none⟩ = some (.int .u64 0)) (go_keep)
    (first
      | (go_at_call 35; first
          | (refine (HT1.out _).mono ?_; rintro e w1 ⟨rfl, hw⟩; subst hw)
          | (refine (HT2.out _).mono ?_; rintro e w1 ⟨rfl, hw⟩; subst hw)))
  go_wp2
  go_loopw [34] (fun i wr => ∃ j : Nat, j ≤ 1 ∧ i = .int .i64 j ∧ (∃ F L A B E T, Rep wr b g n 0 (ct + 1) fm F L A B E T) ∧ Only b g w wr ∧ wr.ownsRow w.heap.size 3 1 (.slice (some ⟨g5, 0, none⟩) 1 c5) 1 [.int .i64 (id : Int)]) (fun i _ => 1 - (intOf i).toNat)
  case atStart => exact ⟨0, by omega, rfl, ⟨_, _, _, _, _, _, HR.out.drew⟩, HO.out.drew, HW.out⟩
  case round =>
    obtain ⟨j, hj, rfl, ⟨F', L', A', B', E', T', hr⟩, ho, hown⟩ := hrel
    by_cases hj0 : j < 1
    · have hj0' : j = 0 := by omega
      subst hj0'
      obtain ⟨cp, q0⟩ := hr.en
      have q1 := own_cell hown
      have m0 := hr.ea (id + 1) (by omega); have m1 := hr.eb (id + 1) (by omega); have m2 := hr.ee (id + 1) (by omega); have m3 := hr.et (id + 1) (by omega)
      have fg := hr.fg
      have HR1 := veil hr
      have HO1 := veil ho
      have HW1 := veil hown
      have il : id < n := hid
      clear hr ho hown
      go_wp2
      go_roundw
      case rel =>
        have hset : Only b g wr ((((wr.setCell ⟨g, (id + 1) * 4, none⟩ (.int .i64 0)).setCell ⟨g, (id + 1) * 4 + 1, none⟩ (.int .i64 0)).setCell ⟨g, (id + 1) * 4 + 2, none⟩ (.int .u64 0)).setCell ⟨g, (id + 1) * 4 + 3, none⟩ (.bool false)) := ((((Only.refl b g wr).set _ _ (Or.inr rfl)).set _ _ (Or.inr rfl)).set _ _ (Or.inr rfl)).set _ _ (Or.inr rfl)
        exact ⟨1, by omega, by go_num, ⟨_, _, _, _, _, _, zero_entry HR1.out (id + 1) (by omega)⟩, HO1.out.trans hset, own_only HW1.out hset hbb hgg⟩
      case measure => simp [intOf]
    · have hj1 : j = 1 := by omega
      subst hj1
      have r1 := hr.tc
      have r0 := hr.tn
      have fb := hr.fb
      have HR1 := veil hr
      have HO1 := veil ho
      have HW1 := veil hown
      clear hr ho hown
      go_wp2
      go_ret
      have hset : Only b g wr ((wr.setCell ⟨b, 131, none⟩ (.int .i64 (ct : Int))).setCell ⟨b, 0, none⟩ (.int .u64 4)) := ((Only.refl b g wr).set _ _ (Or.inl rfl)).set _ _ (Or.inl rfl)
      exact ⟨⟨g5, c5, rfl, own_cell (own_only HW1.out hset hbb hgg)⟩, ⟨_, _, _, _, _, _, (HR1.out.setN ct).setW 4⟩, HO1.out.trans hset⟩
end
end Go.Proofs.Ythpbehpeojacmab
