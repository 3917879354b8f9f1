/-
  The walk of num.Highest over any four words, and of 'live', which answers true and only makes memory.
-/
import Derived.Test.YtbefehoegmmgpaaW2
import Derived.Laws.StructEq
namespace Go.Proofs.Ytbefehoegmmgpaa.Bq
open Go.RowKit Go.Lib

@[go_sem] theorem buildArr0 (w : World) : (Instr.build 85 #[]).run Try.prog w = .ok (.agg #[.int .u64 0, .int .u64 0, .int .u64 0, .int .u64 0]) w := run_build w 85 _ _ (by kernel_rfl)
@[go_sem] theorem buildArr1 (a : Int) (w : World) : (Instr.build 85 #[(0, .int .u64 a)]).run Try.prog w = .ok (.agg #[.int .u64 a, .int .u64 0, .int .u64 0, .int .u64 0]) w := run_build w 85 _ _ (by kernel_rfl)
@[go_sem] theorem eqArr (a b c d a' b' c' d' : Int) (w : World) : (Op.equalIn 10000 85 (.agg #[.int .u64 a, .int .u64 b, .int .u64 c, .int .u64 d]) (.agg #[.int .u64 a', .int .u64 b', .int .u64 c', .int .u64 d'])).run Try.prog w = .ok (a == a' && b == b' && c == c' && d == d') w := by
  have u3 := Try.underlying32
  have a3 := Try.isAgg32
  have z3 := Try.sizeOf32
  rw [show (10000 : Nat) = 9999 + 1 from rfl, Op.equalIn]
  simp only [Sem.run_bind, run_underlying Try.underlying85, Result.andThen_ok]
  simp only [Std.Legacy.Range.forIn_eq_forIn_range', Std.Legacy.Range.size, Nat.sub_zero, Nat.add_sub_cancel, Nat.div_one, List.range'_succ, List.range'_zero, List.forIn_cons, List.forIn_nil]
  go_simp
  by_cases h1 : a = a' <;> by_cases h2 : b = b' <;> by_cases h3 : c = c' <;> by_cases h4 : d = d' <;> simp [h1, h2, h3, h4]
/-- The highest bit of the first k words, 0 if none of them has one. -/
def hiOf (x : Int) (at_ : Int) (old : Int) : Int := if x = 0 then old else at_ + Lib.bitLen x.toNat - 1
def hiPart (w0 w1 w2 w3 : Int) (k : Nat) : Int :=
  match k with
  | 0 => 0
  | 1 => hiOf w0 0 0
  | 2 => hiOf w1 64 (hiOf w0 0 0)
  | 3 => hiOf w2 128 (hiOf w1 64 (hiOf w0 0 0))
  | _ => hiOf w3 192 (hiOf w2 128 (hiOf w1 64 (hiOf w0 0 0)))
/-- The highest bit of four words, -1 if there is none. -/
def hiBit (w0 w1 w2 w3 : Int) : Int := if w0 = 0 ∧ w1 = 0 ∧ w2 = 0 ∧ w3 = 0 then -1 else hiPart w0 w1 w2 w3 4

theorem len_bd (x : Int) (h0 : 0 ≤ x) (h1 : x ≤ 18446744073709551615) : 0 ≤ (Lib.bitLen x.toNat : Int) ∧ (Lib.bitLen x.toNat : Int) ≤ 64 := by
  have := Lib.bitLen_le x.toNat 64 (by omega) (by simp; omega)
  omega

def W64 (x : Int) : Prop := 0 ≤ x ∧ x ≤ 18446744073709551615
theorem W64.lo {x : Int} (h : W64 x) : 0 ≤ x := h.1
theorem W64.hi {x : Int} (h : W64 x) : x ≤ 18446744073709551615 := h.2

set_option maxHeartbeats 1000000 in
theorem highest_none (w : World) :
    Calls Try.prog 75 #[.agg #[.int .u64 0, .int .u64 0, .int .u64 0, .int .u64 0]] w fun e w' => e = .returned (.int .i64 (-1)) ∧ ∃ c : Array Value, w' = w.alloc (.cells c 85) := by
  go_enter Try.func75, Try.ntmps75
  go_wp2
  go_ret
  exact ⟨rfl, _, rfl⟩

theorem hiOf_bd (x at_ old : Int) (h : W64 x) (a0 : 0 ≤ at_) (a1 : at_ ≤ 192) (o0 : -1 ≤ old) (o1 : old ≤ 255) : -1 ≤ hiOf x at_ old ∧ hiOf x at_ old ≤ 255 := by
  have := len_bd x h.1 h.2
  unfold hiOf; split <;> omega

set_option maxHeartbeats 2000000 in
theorem highest_some (w0 w1 w2 w3 : Int) (w : World) (b0 : W64 w0) (b1 : W64 w1) (b2 : W64 w2) (b3 : W64 w3) (hn : ¬ (w0 = 0 ∧ w1 = 0 ∧ w2 = 0 ∧ w3 = 0)) :
    Calls Try.prog 75 #[.agg #[.int .u64 w0, .int .u64 w1, .int .u64 w2, .int .u64 w3]] w fun e w' => e = .returned (.int .i64 (hiPart w0 w1 w2 w3 4)) ∧ ∃ c : Array Value, w' = w.alloc (.cells c 85) := by
  obtain ⟨b00, b01⟩ := b0; obtain ⟨b10, b11⟩ := b1; obtain ⟨b20, b21⟩ := b2; obtain ⟨b30, b31⟩ := b3
  have hd : (w0 == 0 && w1 == 0 && w2 == 0 && w3 == 0) = false := by
    by_cases h0 : w0 = 0 <;> by_cases h1 : w1 = 0 <;> by_cases h2 : w2 = 0 <;> by_cases h3 : w3 = 0 <;> simp_all
  clear hn
  go_enter Try.func75, Try.ntmps75
  go_wp2
  clear hd
  go_loop [3, 8] (fun h i => ∃ k : Nat, k ≤ 4 ∧ i = .int .i64 k ∧ h = .int .i64 (hiPart w0 w1 w2 w3 k)) (fun _ i => 4 - (intOf i).toNat)
  case atStart => exact ⟨0, by omega, rfl, rfl⟩
  case round =>
    obtain ⟨k, hk, rfl, rfl⟩ := hrel
    have hc : k = 0 ∨ k = 1 ∨ k = 2 ∨ k = 3 ∨ k = 4 := by omega
    rcases hc with rfl | rfl | rfl | rfl | rfl
    · have hl := len_bd w0 b00 b01
      by_cases hz : w0 = 0
      · have hz' : (w0 == 0) = true := by simp [hz]
        have HR : Hid (hiPart w0 w1 w2 w3 0 = hiPart w0 w1 w2 w3 1) := by
          show _ = _
          simp [hiPart, hiOf, hz]
        clear hz
        go_wp2
        go_round
        case rel => exact ⟨1, by omega, rfl, by rw [HR.out]⟩
        case measure => simp [intOf]
      · have hz' : (w0 == 0) = false := by simp [hz]
        have HR : Hid (hiPart w0 w1 w2 w3 1 = 0 + (Lib.bitLen w0.toNat : Int) - 1) := by
          show _ = _
          simp [hiPart, hiOf, hz]
        clear hz
        go_wp2_with (go_at_call 82; refine (len64_any w0 _ b00 b01).mono ?_; rintro e w' ⟨rfl, rfl⟩)
        go_round
        case rel => exact ⟨1, by omega, rfl, by rw [HR.out]; go_num⟩
        case measure => simp [intOf]
    · have hl := len_bd w1 b10 b11
      by_cases hz : w1 = 0
      · have hz' : (w1 == 0) = true := by simp [hz]
        have HR : Hid (hiPart w0 w1 w2 w3 1 = hiPart w0 w1 w2 w3 2) := by
          show _ = _
          simp [hiPart, hiOf, hz]
        clear hz
        go_wp2
        go_round
        case rel => exact ⟨2, by omega, rfl, by rw [HR.out]⟩
        case measure => simp [intOf]
      · have hz' : (w1 == 0) = false := by simp [hz]
        have HR : Hid (hiPart w0 w1 w2 w3 2 = 64 + (Lib.bitLen w1.toNat : Int) - 1) := by
          show _ = _
          simp [hiPart, hiOf, hz]
        clear hz
        go_wp2_with (go_at_call 82; refine (len64_any w1 _ b10 b11).mono ?_; rintro e w' ⟨rfl, rfl⟩)
        go_round
        case rel => exact ⟨2, by omega, rfl, by rw [HR.out]⟩
        case measure => simp [intOf]
    · have hl := len_bd w2 b20 b21
      by_cases hz : w2 = 0
      · have hz' : (w2 == 0) = true := by simp [hz]
        have HR : Hid (hiPart w0 w1 w2 w3 2 = hiPart w0 w1 w2 w3 3) := by
          show _ = _
          simp [hiPart, hiOf, hz]
        clear hz
        go_wp2
        go_round
        case rel => exact ⟨3, by omega, rfl, by rw [HR.out]⟩
        case measure => simp [intOf]
      · have hz' : (w2 == 0) = false := by simp [hz]
        have HR : Hid (hiPart w0 w1 w2 w3 3 = 128 + (Lib.bitLen w2.toNat : Int) - 1) := by
          show _ = _
          simp [hiPart, hiOf, hz]
        clear hz
        go_wp2_with (go_at_call 82; refine (len64_any w2 _ b20 b21).mono ?_; rintro e w' ⟨rfl, rfl⟩)
        go_round
        case rel => exact ⟨3, by omega, rfl, by rw [HR.out]⟩
        case measure => simp [intOf]
    · have hl := len_bd w3 b30 b31
      by_cases hz : w3 = 0
      · have hz' : (w3 == 0) = true := by simp [hz]
        have HR : Hid (hiPart w0 w1 w2 w3 3 = hiPart w0 w1 w2 w3 4) := by
          show _ = _
          simp [hiPart, hiOf, hz]
        clear hz
        go_wp2
        go_round
        case rel => exact ⟨4, by omega, rfl, by rw [HR.out]⟩
        case measure => simp [intOf]
      · have hz' : (w3 == 0) = false := by simp [hz]
        have HR : Hid (hiPart w0 w1 w2 w3 4 = 192 + (Lib.bitLen w3.toNat : Int) - 1) := by
          show _ = _
          simp [hiPart, hiOf, hz]
        clear hz
        go_wp2_with (go_at_call 82; refine (len64_any w3 _ b30 b31).mono ?_; rintro e w' ⟨rfl, rfl⟩)
        go_round
        case rel => exact ⟨4, by omega, rfl, by rw [HR.out]⟩
        case measure => simp [intOf]
    · go_wp2
      go_ret
      exact ⟨rfl, _, rfl⟩

theorem highest_any (w0 w1 w2 w3 : Int) (w : World) (b0 : W64 w0) (b1 : W64 w1) (b2 : W64 w2) (b3 : W64 w3) :
    Calls Try.prog 75 #[.agg #[.int .u64 w0, .int .u64 w1, .int .u64 w2, .int .u64 w3]] w fun e w' => e = .returned (.int .i64 (hiBit w0 w1 w2 w3)) ∧ ∃ c : Array Value, w' = w.alloc (.cells c 85) := by
  unfold hiBit
  by_cases h : w0 = 0 ∧ w1 = 0 ∧ w2 = 0 ∧ w3 = 0
  · rw [if_pos h]; obtain ⟨rfl, rfl, rfl, rfl⟩ := h; exact highest_none w
  · rw [if_neg h]; exact highest_some w0 w1 w2 w3 w b0 b1 b2 b3 h
end Go.Proofs.Ytbefehoegmmgpaa.Bq
