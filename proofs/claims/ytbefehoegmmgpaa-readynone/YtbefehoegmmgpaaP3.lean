/-
  The walk of join.
-/
import Derived.Test.YtbefehoegmmgpaaP2
namespace Go.Proofs.Ytbefehoegmmgpaa.Ph
open Go.RowKit
attribute [local go_sem ↓] Go.wp_at_zero Go.wp_at_succ

section
variable {w : World} {b g n rt ct : Nat} {D S I C A B : Nat → Nat} {T : Nat → Bool}
theorem join_left (two : Nat) (w : World) (b : Nat) :
    Calls Try.prog 79 #[.pointer (some ⟨b, 0, none⟩), .int .i64 0, .int .i64 two] w fun e w' => e = .returned (.int .i64 two) ∧ w' = w := by
  go_enter Try.func79, Try.ntmps79
  go_wp2
  go_ret
  exact ⟨rfl, rfl⟩
theorem join_right (one : Nat) (h1 : 1 ≤ one) (w : World) (b : Nat) :
    Calls Try.prog 79 #[.pointer (some ⟨b, 0, none⟩), .int .i64 one, .int .i64 0] w fun e w' => e = .returned (.int .i64 one) ∧ w' = w := by
  have h0 : ¬ (one : Int) = 0 := by omega
  go_enter Try.func79, Try.ntmps79
  go_wp2
  go_ret
  exact ⟨rfl, rfl⟩


set_option maxHeartbeats 4000000 in
set_option maxRecDepth 100000 in
theorem join_swap (h : Rep w b g n rt ct D S I C A B T) (p q : Nat) (hp : 1 ≤ p) (hpn : p ≤ n) (hq : 1 ≤ q) (hqn : q ≤ n) (hf : C p ≤ n) (hfq : C p ≠ q)
    (hbef : bef (D p) (S p) (I p) (D q) (S q) (I q) = true) :
    Calls Try.prog 79 #[.pointer (some ⟨b, 0, none⟩), .int .i64 q, .int .i64 p] w fun e w' => e = .returned (.int .i64 p) ∧
      Rep w' b g n rt ct D S I (upd C p q) (upd (if C p = 0 then A else upd A (C p) q) q p) (upd B q (C p)) T ∧ Only b g w w' := by
  obtain ⟨cp, e0⟩ := h.sl
  have ep0 := h.nd p hpn; have ep1 := h.ns p hpn; have ep2 := h.ni p hpn
  have eq0 := h.nd q hqn; have eq1 := h.ns q hqn; have eq2 := h.ni q hqn
  have p0 : ¬ (p : Int) = 0 := by omega
  have q0 : ¬ (q : Int) = 0 := by omega
  have pl : p < n + 1 := by omega
  have ql : q < n + 1 := by omega
  have pl0 : (0 : Int) ≤ (p : Int) := by omega
  have ql0 : (0 : Int) ≤ (q : Int) := by omega
  obtain ⟨L, hL⟩ : ∃ L, L = n + 1 := ⟨_, rfl⟩
  rw [← hL] at e0
  have pl1 : (p : Int) < (L : Int) := by omega
  have ql1 : (q : Int) < (L : Int) := by omega
  have HLe := veil hL
  clear hL pl ql
  have HB : Hid (∀ w1, Below w.heap.size w w1 → Rep w1 b g n rt ct D S I C A B T) := fun w1 hb => h.below hb
  have HE := before_ok (D p) (S p) (I p) (D q) (S q) (I q)
  rw [hbef] at HE
  have HE := veil HE
  have hbb := h.lt_b
  have hgg := h.lt_g
  clear h hbef
  go_enter Try.func79, Try.ntmps79
  go_wp2
  go_region_held3 (fun w' => w'.cell? ⟨b, 0, none⟩ = some (.slice (some ⟨g, 0, none⟩) L cp) ∧ w'.cell? ⟨g, p * 7, none⟩ = some (.int .u64 (D p)) ∧ w'.cell? ⟨g, p * 7 + 1, none⟩ = some (.int .u64 (S p)) ∧ w'.cell? ⟨g, p * 7 + 2, none⟩ = some (.int .i64 (I p)) ∧ w'.cell? ⟨g, q * 7, none⟩ = some (.int .u64 (D q)) ∧ w'.cell? ⟨g, q * 7 + 1, none⟩ = some (.int .u64 (S q)) ∧ w'.cell? ⟨g, q * 7 + 2, none⟩ = some (.int .i64 (I q)))
    (first | go_keep | exact ⟨(hb1.cell (p := ⟨b, 0, none⟩) hbb).trans e0, (hb1.cell (p := ⟨g, p * 7, none⟩) hgg).trans ep0, (hb1.cell (p := ⟨g, p * 7 + 1, none⟩) hgg).trans ep1, (hb1.cell (p := ⟨g, p * 7 + 2, none⟩) hgg).trans ep2, (hb1.cell (p := ⟨g, q * 7, none⟩) hgg).trans eq0, (hb1.cell (p := ⟨g, q * 7 + 1, none⟩) hgg).trans eq1, (hb1.cell (p := ⟨g, q * 7 + 2, none⟩) hgg).trans eq2⟩)
    ((go_at_call 83; refine (HE.out _).mono ?_; rintro e w1 ⟨rfl, hb1'⟩; have hb1 : Below w.heap.size w w1 := (show Below w.heap.size w w.drew from (Below.refl _ _).drew).trans hb1'; clear hb1'))
  have hr := HB.out _ hb1
  have HL := veil hb1
  have HR := veil hr
  clear hb1 e0 ep0 ep1 ep2 eq0 eq1 eq2
  obtain ⟨cp1, e0⟩ := hr.sl
  rw [← HLe.out] at e0
  have c1 := hr.nc p hpn
  have c2 := hr.na q hqn
  have c3 := hr.nb q hqn
  have fg := hr.fg
  by_cases hf0 : C p = 0
  · rw [hf0] at c1
    have c1' : w1.cell? ⟨g, p * 7 + 3, none⟩ = some (.int .i64 0) := c1
    have HF0 := veil hf0
    clear hr c1 hf0 hf hfq
    go_wp2
    go_region
    go_wp2
    go_ret
    refine ⟨rfl, ?_, ?_⟩
    · exact (((HR.out.setA q hqn p).setB q hqn 0).setC p hpn q).drew
    · exact ((((Only.of_below HL.out).set ⟨g, q * 7 + 4, none⟩ _ (Or.inr rfl)).set ⟨g, q * 7 + 5, none⟩ _ (Or.inr rfl)).set ⟨g, p * 7 + 3, none⟩ _ (Or.inr rfl)).drew
  · have c4 := hr.na (C p) hf
    have HF0 := veil hf0
    generalize hff : C p = f at *
    have f0 : ¬ (f : Int) = 0 := by omega
    have fl0 : (0 : Int) ≤ (f : Int) := by omega
    have fl1 : (f : Int) < (L : Int) := by have := HLe.out; omega
    clear hr
    go_wp2
    go_region
    go_wp2
    go_ret
    refine ⟨rfl, ?_, ?_⟩
    · exact ((((HR.out.setA f hf q).setA q hqn p).setB q hqn f).setC p hpn q).drew
    · exact (((((Only.of_below HL.out).set ⟨g, f * 7 + 4, none⟩ _ (Or.inr rfl)).set ⟨g, q * 7 + 4, none⟩ _ (Or.inr rfl)).set ⟨g, q * 7 + 5, none⟩ _ (Or.inr rfl)).set ⟨g, p * 7 + 3, none⟩ _ (Or.inr rfl)).drew

set_option maxHeartbeats 4000000 in
set_option maxRecDepth 100000 in
theorem join_keep (h : Rep w b g n rt ct D S I C A B T) (p q : Nat) (hp : 1 ≤ p) (hpn : p ≤ n) (hq : 1 ≤ q) (hqn : q ≤ n) (hf : C p ≤ n) (hfq : C p ≠ q)
    (hbef : bef (D q) (S q) (I q) (D p) (S p) (I p) = false) :
    Calls Try.prog 79 #[.pointer (some ⟨b, 0, none⟩), .int .i64 p, .int .i64 q] w fun e w' => e = .returned (.int .i64 p) ∧
      Rep w' b g n rt ct D S I (upd C p q) (upd (if C p = 0 then A else upd A (C p) q) q p) (upd B q (C p)) T ∧ Only b g w w' := by
  obtain ⟨cp, e0⟩ := h.sl
  have ep0 := h.nd p hpn; have ep1 := h.ns p hpn; have ep2 := h.ni p hpn
  have eq0 := h.nd q hqn; have eq1 := h.ns q hqn; have eq2 := h.ni q hqn
  have p0 : ¬ (p : Int) = 0 := by omega
  have q0 : ¬ (q : Int) = 0 := by omega
  have pl : p < n + 1 := by omega
  have ql : q < n + 1 := by omega
  have pl0 : (0 : Int) ≤ (p : Int) := by omega
  have ql0 : (0 : Int) ≤ (q : Int) := by omega
  obtain ⟨L, hL⟩ : ∃ L, L = n + 1 := ⟨_, rfl⟩
  rw [← hL] at e0
  have pl1 : (p : Int) < (L : Int) := by omega
  have ql1 : (q : Int) < (L : Int) := by omega
  have HLe := veil hL
  clear hL pl ql
  have HB : Hid (∀ w1, Below w.heap.size w w1 → Rep w1 b g n rt ct D S I C A B T) := fun w1 hb => h.below hb
  have HE := before_ok (D q) (S q) (I q) (D p) (S p) (I p)
  rw [hbef] at HE
  have HE := veil HE
  have hbb := h.lt_b
  have hgg := h.lt_g
  clear h hbef
  go_enter Try.func79, Try.ntmps79
  go_wp2
  go_region_held3 (fun w' => w'.cell? ⟨b, 0, none⟩ = some (.slice (some ⟨g, 0, none⟩) L cp) ∧ w'.cell? ⟨g, p * 7, none⟩ = some (.int .u64 (D p)) ∧ w'.cell? ⟨g, p * 7 + 1, none⟩ = some (.int .u64 (S p)) ∧ w'.cell? ⟨g, p * 7 + 2, none⟩ = some (.int .i64 (I p)) ∧ w'.cell? ⟨g, q * 7, none⟩ = some (.int .u64 (D q)) ∧ w'.cell? ⟨g, q * 7 + 1, none⟩ = some (.int .u64 (S q)) ∧ w'.cell? ⟨g, q * 7 + 2, none⟩ = some (.int .i64 (I q)))
    (first | go_keep | exact ⟨(hb1.cell (p := ⟨b, 0, none⟩) hbb).trans e0, (hb1.cell (p := ⟨g, p * 7, none⟩) hgg).trans ep0, (hb1.cell (p := ⟨g, p * 7 + 1, none⟩) hgg).trans ep1, (hb1.cell (p := ⟨g, p * 7 + 2, none⟩) hgg).trans ep2, (hb1.cell (p := ⟨g, q * 7, none⟩) hgg).trans eq0, (hb1.cell (p := ⟨g, q * 7 + 1, none⟩) hgg).trans eq1, (hb1.cell (p := ⟨g, q * 7 + 2, none⟩) hgg).trans eq2⟩)
    ((go_at_call 83; refine (HE.out _).mono ?_; rintro e w1 ⟨rfl, hb1'⟩; have hb1 : Below w.heap.size w w1 := (show Below w.heap.size w w.drew from (Below.refl _ _).drew).trans hb1'; clear hb1'))
  have hr := HB.out _ hb1
  have HL := veil hb1
  have HR := veil hr
  clear hb1 e0 ep0 ep1 ep2 eq0 eq1 eq2
  obtain ⟨cp1, e0⟩ := hr.sl
  rw [← HLe.out] at e0
  have c1 := hr.nc p hpn
  have c2 := hr.na q hqn
  have c3 := hr.nb q hqn
  have fg := hr.fg
  by_cases hf0 : C p = 0
  · rw [hf0] at c1
    have c1' : w1.cell? ⟨g, p * 7 + 3, none⟩ = some (.int .i64 0) := c1
    have HF0 := veil hf0
    clear hr c1 hf0 hf hfq
    go_wp2
    go_region
    go_wp2
    go_ret
    refine ⟨rfl, ?_, ?_⟩
    · exact (((HR.out.setA q hqn p).setB q hqn 0).setC p hpn q).drew
    · exact ((((Only.of_below HL.out).set ⟨g, q * 7 + 4, none⟩ _ (Or.inr rfl)).set ⟨g, q * 7 + 5, none⟩ _ (Or.inr rfl)).set ⟨g, p * 7 + 3, none⟩ _ (Or.inr rfl)).drew
  · have c4 := hr.na (C p) hf
    have HF0 := veil hf0
    generalize hff : C p = f at *
    have f0 : ¬ (f : Int) = 0 := by omega
    have fl0 : (0 : Int) ≤ (f : Int) := by omega
    have fl1 : (f : Int) < (L : Int) := by have := HLe.out; omega
    clear hr
    go_wp2
    go_region
    go_wp2
    go_ret
    refine ⟨rfl, ?_, ?_⟩
    · exact ((((HR.out.setA f hf q).setA q hqn p).setB q hqn f).setC p hpn q).drew
    · exact (((((Only.of_below HL.out).set ⟨g, f * 7 + 4, none⟩ _ (Or.inr rfl)).set ⟨g, q * 7 + 4, none⟩ _ (Or.inr rfl)).set ⟨g, q * 7 + 5, none⟩ _ (Or.inr rfl)).set ⟨g, p * 7 + 3, none⟩ _ (Or.inr rfl)).drew
end
end Go.Proofs.Ytbefehoegmmgpaa.Ph
