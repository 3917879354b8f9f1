/-
  The walks of list, tie and keep, as far as the nearest slots ask them.
-/
import Derived.Test.YtjmbadadelelfaaV2
namespace Go.Proofs.Ytjmbadadelelfaa
open Go.RowKit
attribute [local go_sem ↓] Go.wp_at_zero Go.wp_at_succ

section
variable {w : World} {b g n nw ct : Nat} {fm : Value} {F L A B E : Nat → Nat} {T : Nat → Bool}
set_option maxHeartbeats 2000000 in
theorem list_same (h : Rep w b g n nw ct fm F L A B E T) (t : Nat) (ht : t < 18446744073709551616) (hle : nw ≤ t) (htn : t / 64 = nw / 64) :
    Calls Try.prog 46 #[.pointer (some ⟨b, 0, none⟩), .int .u64 (t : Int)] w fun e w' => e = .returned (.agg #[.int .i64 (F (t % 64) : Int), .int .i64 (L (t % 64) : Int)]) ∧ Below w.heap.size w w' := by
  have e0 := h.tn
  have e1 := h.sf (t % 64) (Nat.mod_lt _ (by decide))
  have e2 := h.sl (t % 64) (Nat.mod_lt _ (by decide))
  have hbb := h.lt_b
  have y1 : ¬ b = w.heap.size := by omega
  have hm : (nw : Int) ≤ (t : Int) := by omega
  have HT1 := veil (turn_ok t ht)
  have hT2 := turn_ok nw (by omega)
  rw [← htn] at hT2
  have HT2 := veil hT2
  have r1 : (0 : Int) ≤ ((t % 64 : Nat) : Int) := by omega
  have r2 : ((t % 64 : Nat) : Int) < 64 := by omega
  clear h hT2 htn
  go_enter Try.func46, Try.ntmps46
  go_wp2
  go_region_held3 (fun w' => w'.cell? ⟨b, 0, none⟩ = some (.int .u64 (nw : Int))) (go_keep)
    (first
      | (go_at_call 41; first
          | (refine (HT1.out _).mono ?_; rintro e w1 ⟨rfl, hw⟩; subst hw)
          | (refine (HT2.out _).mono ?_; rintro e w1 ⟨rfl, hw⟩; subst hw)))
  go_wp2
  simp [bodyPost, results, Try.results46, go_sem]
  exact ((Below.refl _ _).alloc (Nat.le_refl _) _).drew

set_option maxHeartbeats 2000000 in
theorem tie_empty (h : Rep w b g n nw ct fm F L A B E T) (x t : Nat) (hx : x ≤ n) :
    Calls Try.prog 45 #[.pointer (some ⟨b, 0, none⟩), .agg #[.int .i64 0, .int .i64 0], .int .i64 (x : Int), .int .u64 (t : Int)] w fun e w' => e = .returned (.agg #[.int .i64 (x : Int), .int .i64 (x : Int)]) ∧ Rep w' b g n nw ct fm F L (upd A x 0) (upd B x 0) (upd E x t) (upd T x true) ∧ Only b g w w' := by
  obtain ⟨cp, e0⟩ := h.en
  have n0 := h.ea x hx; have n1 := h.eb x hx; have n2 := h.ee x hx; have n3 := h.et x hx
  have fg := h.fg
  have hbb := h.lt_b
  have hgg := h.lt_g
  have y1 : ¬ b = w.heap.size := by omega
  have y2 : ¬ g = w.heap.size := by omega
  have y3 : ¬ b = w.heap.size + 1 := by omega
  have y4 : ¬ g = w.heap.size + 1 := by omega
  have xl : x < n + 1 := by omega
  have HR := veil h
  clear h
  go_enter Try.func45, Try.ntmps45
  go_wp2
  go_loopw [9, 10] (fun a c wr => a = .int .i64 0 ∧ c = .int .i64 0 ∧ wr = (w.alloc (.cells #[.int .i64 0, .int .i64 0] 69)).alloc (.cells #[.int .i64 0, .int .i64 0] 69)) (fun _ _ _ => 0)
  case atStart => exact ⟨rfl, rfl, rfl⟩
  case round =>
    obtain ⟨rfl, rfl, rfl⟩ := hrel
    go_wp2
    simp [bodyPost, results, Try.results45, go_sem]
    exact ⟨(((((HR.out.setA x hx 0).setB x hx 0).setE x hx t).setT x hx true).alloc _).alloc _, ((((((Only.refl b g w).set _ _ (Or.inr rfl)).set _ _ (Or.inr rfl)).set _ _ (Or.inr rfl)).set _ _ (Or.inr rfl)).alloc _).alloc _⟩

set_option maxHeartbeats 2000000 in
theorem keep_same (h : Rep w b g n nw ct fm F L A B E T) (t f l : Nat) (ht : t < 18446744073709551616) (hle : nw ≤ t) (htn : t / 64 = nw / 64) :
    Calls Try.prog 44 #[.pointer (some ⟨b, 0, none⟩), .int .u64 (t : Int), .agg #[.int .i64 (f : Int), .int .i64 (l : Int)]] w fun e w' => e = .returned (.tuple #[]) ∧ Rep w' b g n nw ct fm (upd F (t % 64) f) (upd L (t % 64) l) A B E T ∧ Only b g w w' := by
  have hlt : t % 64 < 64 := Nat.mod_lt _ (by decide)
  have e0 := h.tn
  have e1 := h.sf (t % 64) hlt
  have e2 := h.sl (t % 64) hlt
  have fb := h.fb
  have hbb := h.lt_b
  have y1 : ¬ b = w.heap.size := by omega
  have hm : (nw : Int) ≤ (t : Int) := by omega
  have HT1 := veil (turn_ok t ht)
  have hT2 := turn_ok nw (by omega)
  rw [← htn] at hT2
  have HT2 := veil hT2
  have r1 : (0 : Int) ≤ ((t % 64 : Nat) : Int) := by omega
  have r2 : ((t % 64 : Nat) : Int) < 64 := by omega
  have HR := veil h
  clear h hT2 htn
  go_enter Try.func44, Try.ntmps44
  go_wp2
  go_region_held3 (fun w' => w'.cell? ⟨b, 0, none⟩ = some (.int .u64 (nw : Int))) (go_keep)
    (first
      | (go_at_call 41; first
          | (refine (HT1.out _).mono ?_; rintro e w1 ⟨rfl, hw⟩; subst hw)
          | (refine (HT2.out _).mono ?_; rintro e w1 ⟨rfl, hw⟩; subst hw)))
  go_wp2
  go_region
  go_wp2
  go_end0
  exact ⟨rfl, ((((HR.out.setF (t % 64) hlt f).setL (t % 64) hlt l).alloc _).drew).drew, (((((Only.refl b g w).set _ _ (Or.inl rfl)).set _ _ (Or.inl rfl)).alloc _).drew).drew⟩

set_option maxHeartbeats 2000000 in
/-- An id that is set at a time of this turn whose slot is empty. -/
theorem set_walk (h : Rep w b g n nw ct fm F L A B E T) (id t : Nat) (hn : n ≤ 1024) (hct : ct ≤ 1024) (hid : id < n) (ht : t < 18446744073709551616) (hle : nw ≤ t) (htn : t / 64 = nw / 64) (hT : T (id + 1) = false) (hF : F (t % 64) = 0) (hL : L (t % 64) = 0) :
    Calls Try.prog 21 #[.pointer (some ⟨b, 0, none⟩), .int .i64 (id : Int), .int .u64 (t : Int)] w fun e w' => e = .returned (.int .i64 0) ∧ Rep w' b g n nw (ct + 1) fm (upd F (t % 64) (id + 1)) (upd L (t % 64) (id + 1)) (upd A (id + 1) 0) (upd B (id + 1) 0) (upd E (id + 1) t) (upd T (id + 1) true) ∧ Only b g w w' := by
  have HM := veil (may_yes h id hn hid)
  obtain ⟨cp, e0⟩ := h.en
  have e1 := h.et (id + 1) (by omega)
  rw [hT] at e1
  have hLi := list_same h t ht hle htn
  rw [hF, hL] at hLi
  have HLi : Hid (Calls Try.prog 46 #[.pointer (some ⟨b, 0, none⟩), .int .u64 (t : Int)] w fun e w' => e = .returned (.agg #[.int .i64 0, .int .i64 0]) ∧ Below w.heap.size w w') := hLi
  have HTi : Hid (∀ w1, Below w.heap.size w w1 → Calls Try.prog 45 #[.pointer (some ⟨b, 0, none⟩), .agg #[.int .i64 0, .int .i64 0], .int .i64 ((id : Int) + 1), .int .u64 (t : Int)] w1 fun e w' => e = .returned (.agg #[.int .i64 ((id : Int) + 1), .int .i64 ((id : Int) + 1)]) ∧ Rep w' b g n nw ct fm F L (upd A (id + 1) 0) (upd B (id + 1) 0) (upd E (id + 1) t) (upd T (id + 1) true) ∧ Only b g w1 w') := fun w1 hb => tie_empty (h.below hb) (id + 1) t (by omega)
  have HKe : Hid (∀ w1, Rep w1 b g n nw ct fm F L (upd A (id + 1) 0) (upd B (id + 1) 0) (upd E (id + 1) t) (upd T (id + 1) true) → Calls Try.prog 44 #[.pointer (some ⟨b, 0, none⟩), .int .u64 (t : Int), .agg #[.int .i64 ((id : Int) + 1), .int .i64 ((id : Int) + 1)]] w1 fun e w' => e = .returned (.tuple #[]) ∧ Rep w' b g n nw ct fm (upd F (t % 64) (id + 1)) (upd L (t % 64) (id + 1)) (upd A (id + 1) 0) (upd B (id + 1) 0) (upd E (id + 1) t) (upd T (id + 1) true) ∧ Only b g w1 w') := fun w1 hr => keep_same hr t (id + 1) (id + 1) ht hle htn
  clear h hLi hF hL hT htn
  go_enter Try.func21, Try.ntmps21
  go_wp2_with (first
    | (go_at_call 43; refine (HM.out).mono ?_; rintro e w1 ⟨rfl, hw⟩; replace hw := hw.symm; subst hw)
    | (go_at_call 46; refine (HLi.out).mono ?_; rintro e w1 ⟨rfl, hb⟩; have HB := veil hb; clear hb)
    | (go_at_call 45; refine (HTi.out _ HB.out).mono ?_; rintro e w2 ⟨rfl, hr, ho⟩; have HR2 := veil hr; have HO2 := veil ((Only.of_below HB.out).trans ho); clear hr ho)
    | (go_at_call 44; refine (HKe.out _ HR2.out).mono ?_; rintro e w3 ⟨rfl, hr, ho⟩; have r2 := hr.tc; have r3 := hr.fb; have HR3 := veil hr; have HO3 := veil (HO2.out.trans ho); clear hr ho))
  go_ret
  exact ⟨rfl, HR3.out.setN (ct + 1), HO3.out.set _ _ (Or.inl rfl)⟩
end
end Go.Proofs.Ytjmbadadelelfaa
