/-
  script: Same walked.
-/
import Derived.Test.YtnnpbbiiapipaaaS3a
namespace Go.Proofs.Ytnnpbbiiapipaaa
open Go.RowKit Go.Lib
set_option linter.unusedVariables false
set_option maxHeartbeats 4000000 in
theorem same_ok (w : World) (x y : En) (a b : Option Addr) (ca cb : Nat) (hx : Cod w a x.code) (hy : Cod w b y.code) (hl : x.code.length < 9223372036854775808) :
    Calls Try.prog 21 #[.agg #[.int .i64 x.d, .int .i64 x.p, .int .u64 (x.dr : Int), .int .i64 x.n, .slice a x.code.length ca, .int .u64 (x.bu : Int), .int .u64 (x.pe : Int), .int .i64 x.pr, .int .u8 (x.lv : Int), .int .i64 x.sv], .agg #[.int .i64 y.d, .int .i64 y.p, .int .u64 (y.dr : Int), .int .i64 y.n, .slice b y.code.length cb, .int .u64 (y.bu : Int), .int .u64 (y.pe : Int), .int .i64 y.pr, .int .u8 (y.lv : Int), .int .i64 y.sv]] w fun e w' => ∃ B : Bool, e = .returned (.bool B) ∧ (B = true ↔ x = y) ∧ Below w.heap.size w w' := by
  have HE : Hid (∀ W, Below w.heap.size w W → Calls Try.prog 33 #[.slice a x.code.length ca, .slice b y.code.length cb] W fun e w' => ∃ B : Bool, e = .returned (.bool B) ∧ (B = true ↔ x.code = y.code) ∧ ∃ q, w' = W.drewN q) := fun W hb => eq_cod W a b x.code y.code ca cb (hx.below hb) (hy.below hb) hl
  clear hx hy
  go_enter Try.func21, Try.ntmps21
  go_wp2_with (go_at_call 33; refine (HE.out _ (below_two w _ _ _ _)).mono ?_; rintro e w1 ⟨B, rfl, hB, q, rfl⟩; have HB := veil hB; clear hB)
  all_goals go_ret
  all_goals refine ⟨_, rfl, ?_, ?_⟩
  all_goals first
    | exact below_drewN (below_two w _ _ _ _) _
    | exact below_two w _ _ _ _
    | (try have hB := HB.out
       rw [en_iff]
       simp_all)
end Go.Proofs.Ytnnpbbiiapipaaa
