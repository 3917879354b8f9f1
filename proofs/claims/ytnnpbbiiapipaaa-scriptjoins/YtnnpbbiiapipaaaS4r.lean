/-
  script: the document's bare and Right walked.
-/
import Derived.Test.YtnnpbbiiapipaaaS4p
import Derived.Deep.DeepCutAuto
namespace Go.Proofs.Ytnnpbbiiapipaaa
open Go.RowKit Go.Lib
set_option linter.unusedVariables false
/-- Has an entry nothing but what its Do names? -/
def BareE (x : En) : Prop := (x.d = 1 ∨ x.p = 0 ∧ (x.dr : Int) = 0) ∧ (x.d = 2 ∨ x.n = 0) ∧ (x.d = 3 ∨ (x.code.length : Int) = 0) ∧ (x.d = 4 ∨ (x.bu : Int) = 0 ∧ (x.pe : Int) = 0) ∧ (x.d = 5 ∨ x.pr = 0 ∧ (x.lv : Int) = 0 ∧ x.sv = 0)
set_option maxHeartbeats 4000000 in
theorem bare_ok (w : World) (x : En) (a : Option Addr) (ca : Nat) :
    Calls Try.prog 26 #[.agg #[.int .i64 x.d, .int .i64 x.p, .int .u64 (x.dr : Int), .int .i64 x.n, .slice a x.code.length ca, .int .u64 (x.bu : Int), .int .u64 (x.pe : Int), .int .i64 x.pr, .int .u8 (x.lv : Int), .int .i64 x.sv]] w fun e w' => ∃ B : Bool, e = .returned (.bool B) ∧ (B = true ↔ BareE x) ∧ Below w.heap.size w w' := by
  obtain ⟨q1, eq1⟩ : ∃ q, (x.d == 1) = q := ⟨_, rfl⟩
  obtain ⟨q2, eq2⟩ : ∃ q, (x.d == 2) = q := ⟨_, rfl⟩
  obtain ⟨q3, eq3⟩ : ∃ q, (x.d == 3) = q := ⟨_, rfl⟩
  obtain ⟨q4, eq4⟩ : ∃ q, (x.d == 4) = q := ⟨_, rfl⟩
  obtain ⟨q5, eq5⟩ : ∃ q, (x.d == 5) = q := ⟨_, rfl⟩
  obtain ⟨kp, ekp⟩ : ∃ q, (x.p == 0) = q := ⟨_, rfl⟩
  obtain ⟨kd, ekd⟩ : ∃ q, ((x.dr : Int) == 0) = q := ⟨_, rfl⟩
  obtain ⟨kn, ekn⟩ : ∃ q, (x.n == 0) = q := ⟨_, rfl⟩
  obtain ⟨kc, ekc⟩ : ∃ q, ((x.code.length : Int) == 0) = q := ⟨_, rfl⟩
  obtain ⟨kb, ekb⟩ : ∃ q, ((x.bu : Int) == 0) = q := ⟨_, rfl⟩
  obtain ⟨ke, eke⟩ : ∃ q, ((x.pe : Int) == 0) = q := ⟨_, rfl⟩
  obtain ⟨kr, ekr⟩ : ∃ q, (x.pr == 0) = q := ⟨_, rfl⟩
  obtain ⟨kl, ekl⟩ : ∃ q, ((x.lv : Int) == 0) = q := ⟨_, rfl⟩
  obtain ⟨ks, eks⟩ : ∃ q, (x.sv == 0) = q := ⟨_, rfl⟩
  have HR : Hid (((q1 || (kp && kd)) && (q2 || kn) && (q3 || kc) && (q4 || (kb && ke)) && (q5 || (kr && kl && ks))) = true ↔ BareE x) := by
    refine veil ?_
    unfold BareE
    rw [← eq1, ← eq2, ← eq3, ← eq4, ← eq5, ← ekp, ← ekd, ← ekn, ← ekc, ← ekb, ← eke, ← ekr, ← ekl, ← eks]
    simp only [Bool.and_eq_true, Bool.or_eq_true, beq_iff_eq, and_assoc]
  go_enter Try.func26, Try.ntmps26
  go_upto_region 1 with fail
  go_cut [3] (fun s W => W = w.alloc (.cells #[.int .i64 x.d, .int .i64 x.p, .int .u64 (x.dr : Int), .int .i64 x.n, .slice a x.code.length ca, .int .u64 (x.bu : Int), .int .u64 (x.pe : Int), .int .i64 x.pr, .int .u8 (x.lv : Int), .int .i64 x.sv] 39) ∧ s = .bool (q1 || (kp && kd)))
  case first =>
    go_wp2_with fail
    all_goals (go_meet; exact ⟨rfl, by simp_all⟩)
  obtain ⟨rfl, rfl⟩ := hcut
  generalize hg3 : (q1 || (kp && kd)) = g3 at *
  have HG3 := veil hg3
  clear hg3
  go_upto_region 2 with fail
  go_cut [4] (fun s W => W = w.alloc (.cells #[.int .i64 x.d, .int .i64 x.p, .int .u64 (x.dr : Int), .int .i64 x.n, .slice a x.code.length ca, .int .u64 (x.bu : Int), .int .u64 (x.pe : Int), .int .i64 x.pr, .int .u8 (x.lv : Int), .int .i64 x.sv] 39) ∧ s = .bool (q2 || kn))
  case first =>
    go_wp2_with fail
    all_goals (go_meet; exact ⟨rfl, by simp_all⟩)
  obtain ⟨rfl, rfl⟩ := hcut
  generalize hg4 : (q2 || kn) = g4 at *
  have HG4 := veil hg4
  clear hg4
  go_upto_region 3 with fail
  go_cut [5] (fun s W => W = w.alloc (.cells #[.int .i64 x.d, .int .i64 x.p, .int .u64 (x.dr : Int), .int .i64 x.n, .slice a x.code.length ca, .int .u64 (x.bu : Int), .int .u64 (x.pe : Int), .int .i64 x.pr, .int .u8 (x.lv : Int), .int .i64 x.sv] 39) ∧ s = .bool (q3 || kc))
  case first =>
    go_wp2_with fail
    all_goals (go_meet; exact ⟨rfl, by simp_all⟩)
  obtain ⟨rfl, rfl⟩ := hcut
  generalize hg5 : (q3 || kc) = g5 at *
  have HG5 := veil hg5
  clear hg5
  go_upto_region 4 with fail
  go_cut [6] (fun s W => W = w.alloc (.cells #[.int .i64 x.d, .int .i64 x.p, .int .u64 (x.dr : Int), .int .i64 x.n, .slice a x.code.length ca, .int .u64 (x.bu : Int), .int .u64 (x.pe : Int), .int .i64 x.pr, .int .u8 (x.lv : Int), .int .i64 x.sv] 39) ∧ s = .bool (q4 || (kb && ke)))
  case first =>
    go_wp2_with fail
    all_goals (go_meet; exact ⟨rfl, by simp_all⟩)
  obtain ⟨rfl, rfl⟩ := hcut
  generalize hg6 : (q4 || (kb && ke)) = g6 at *
  have HG6 := veil hg6
  clear hg6
  go_upto_region 5 with fail
  go_cut [7] (fun s W => W = w.alloc (.cells #[.int .i64 x.d, .int .i64 x.p, .int .u64 (x.dr : Int), .int .i64 x.n, .slice a x.code.length ca, .int .u64 (x.bu : Int), .int .u64 (x.pe : Int), .int .i64 x.pr, .int .u8 (x.lv : Int), .int .i64 x.sv] 39) ∧ s = .bool (q5 || (kr && kl && ks)))
  case first =>
    go_wp2_with fail
    all_goals (go_meet; exact ⟨rfl, by simp_all⟩)
  obtain ⟨rfl, rfl⟩ := hcut
  generalize hg7 : (q5 || (kr && kl && ks)) = g7 at *
  have HG7 := veil hg7
  clear hg7
  go_wp2
  all_goals go_ret
  all_goals refine ⟨_, rfl, ?_, (Below.refl _ _).alloc (Nat.le_refl _) _⟩
  all_goals (have hr := HR.out; simp_all)
end Go.Proofs.Ytnnpbbiiapipaaa
