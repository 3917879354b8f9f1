/- Laws of keys, walked. -/
import Derived.Test.YtfpodglfkjlhkaaK4
namespace Go.Proofs.Ytfpodglfkjlhkaa
open Go.ChangeShapes Go.WideShapes Go.ChangeAt Go.RowKit
theorem same_self (k : K) : same k k = true := by simp [same]
set_option maxRecDepth 100000 in
theorem makes_walk (w : World) (l d : Int) (k : K) : Calls Try.prog 3 #[.int .u8 l, .int .u64 d, .agg #[.bool k.e, .int .u64 k.d, .int .u8 k.l]] w fun e w' => e = .returned (.bool true) ∧ Below w.heap.size w w' := by
  have HL := veil live_ok
  have HF := veil fixed_ok
  have HF' := veil rfixed_ok
  have HD := veil dead_ok
  have HD' := veil rdead_ok
  have HR := veil right_ok
  have HR' := veil rright_ok
  have e1 := same_self (fixK l)
  have e2 := same_self (deadK d)
  have e3 : rightK (fixK l) = true := rfl
  have e4 : rightK (deadK d) = true := rfl
  go_enter Try.func3, Try.ntmps3
  go_wp2
  go_region_held3 (fun w' => w'.cell? ⟨w.heap.size, 0, none⟩ = some (.bool k.e) ∧ w'.cell? ⟨w.heap.size, 1, none⟩ = some (.int .u64 k.d) ∧ w'.cell? ⟨w.heap.size, 2, none⟩ = some (.int .u8 k.l) ∧ Below w.heap.size w w')
    (first | exact start1 _ _ _ | exact keep1 (by assumption) hb)
    (first
      | (go_at_call 9; refine (HL.out _).mono ?_; rintro e w1 ⟨rfl, hb⟩)
      | (go_at_call 10; refine (HF.out _ _).mono ?_; rintro e w1 ⟨rfl, hb⟩)
      | (go_at_call 11; refine (HF'.out _ _).mono ?_; rintro e w1 ⟨rfl, hb⟩)
      | (go_at_call 12; refine (HD.out _ _).mono ?_; rintro e w1 ⟨rfl, hb⟩)
      | (go_at_call 13; refine (HD'.out _ _).mono ?_; rintro e w1 ⟨rfl, hb⟩)
      | (go_at_call 14; refine (HR.out _ _).mono ?_; rintro e w1 ⟨rfl, hb⟩)
      | (go_at_call 15; refine (HR'.out _ _).mono ?_; rintro e w1 ⟨rfl, hb⟩))
  go_wp2
  go_ret
  exact ⟨rfl, fin1 (by assumption)⟩
theorem start2 (w : World) (a b : K) (t : TypeId) : (fun w' => w'.cell? ⟨w.heap.size, 0, none⟩ = some (.bool a.e) ∧ w'.cell? ⟨w.heap.size, 1, none⟩ = some (.int .u64 a.d) ∧ w'.cell? ⟨w.heap.size, 2, none⟩ = some (.int .u8 a.l) ∧ w'.cell? ⟨w.heap.size + 1, 0, none⟩ = some (.bool b.e) ∧ w'.cell? ⟨w.heap.size + 1, 1, none⟩ = some (.int .u64 b.d) ∧ w'.cell? ⟨w.heap.size + 1, 2, none⟩ = some (.int .u8 b.l) ∧ Below w.heap.size w w') ((w.alloc (.cells #[.bool a.e, .int .u64 a.d, .int .u8 a.l] t)).alloc (.cells #[.bool b.e, .int .u64 b.d, .int .u8 b.l] t)).drew := by
  have h1 := at_new w a t
  have h2 := at_new (w.alloc (.cells #[.bool a.e, .int .u64 a.d, .int .u8 a.l] t)) b t
  have h3 := h1.below ((Below.refl _ _).alloc (Nat.le_refl _) (.cells #[.bool b.e, .int .u64 b.d, .int .u8 b.l] t))
  have hs : (w.alloc (.cells #[.bool a.e, .int .u64 a.d, .int .u8 a.l] t)).heap.size = w.heap.size + 1 := by simp
  rw [hs] at h2
  exact ⟨h3.1, h3.2.1, h3.2.2, h2.1, h2.2.1, h2.2.2, (below2 _ _ _ _ _).drew⟩
set_option maxRecDepth 100000 in
theorem above_walk (w : World) (a b : K) (ha : a.ok) : Calls Try.prog 4 #[.agg #[.bool a.e, .int .u64 a.d, .int .u8 a.l], .agg #[.bool b.e, .int .u64 b.d, .int .u8 b.l]] w fun e w' => e = .returned (.bool true) ∧ Below w.heap.size w w' := by
  have HL := veil live_ok
  have HA := veil above_ok
  have HA' := veil rabove_ok
  have HM := veil max_ok
  have HM' := veil rmax_ok
  have HK := veil (fun w => rank_ok w a ha)
  have HK' := veil (fun w => rrank_ok w a ha)
  have e1 := same_self (maxK a b)
  go_enter Try.func4, Try.ntmps4
  go_wp2
  go_region_held3 (fun w' => w'.cell? ⟨w.heap.size, 0, none⟩ = some (.bool a.e) ∧ w'.cell? ⟨w.heap.size, 1, none⟩ = some (.int .u64 a.d) ∧ w'.cell? ⟨w.heap.size, 2, none⟩ = some (.int .u8 a.l) ∧ w'.cell? ⟨w.heap.size + 1, 0, none⟩ = some (.bool b.e) ∧ w'.cell? ⟨w.heap.size + 1, 1, none⟩ = some (.int .u64 b.d) ∧ w'.cell? ⟨w.heap.size + 1, 2, none⟩ = some (.int .u8 b.l) ∧ Below w.heap.size w w')
    (first | exact start2 _ _ _ _ | exact keep2 (by assumption) hb)
    (first
      | (go_at_call 9; refine (HL.out _).mono ?_; rintro e w1 ⟨rfl, hb⟩)
      | (go_at_call 16; refine (HA.out _ _ _).mono ?_; rintro e w1 ⟨rfl, hb⟩)
      | (go_at_call 17; refine (HA'.out _ _ _).mono ?_; rintro e w1 ⟨rfl, hb⟩)
      | (go_at_call 18; refine (HM.out _ _ _).mono ?_; rintro e w1 ⟨rfl, hb⟩)
      | (go_at_call 19; refine (HM'.out _ _ _).mono ?_; rintro e w1 ⟨rfl, hb⟩)
      | (go_at_call 20; refine (HK.out _).mono ?_; rintro e w1 ⟨rfl, hb⟩)
      | (go_at_call 21; refine (HK'.out _).mono ?_; rintro e w1 ⟨rfl, hb⟩))
  go_wp2
  go_ret
  exact ⟨rfl, fin2 (by assumption)⟩
end Go.Proofs.Ytfpodglfkjlhkaa
