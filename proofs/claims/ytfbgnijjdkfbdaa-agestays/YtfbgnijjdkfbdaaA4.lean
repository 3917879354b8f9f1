/-
  age: the laws' own level and live; what comes in.
-/
import Derived.Test.YtfbgnijjdkfbdaaA3
import Derived.ProofKit
import Derived.OpenShut
import Derived.RowKit3
import Derived.Lib.SmallJoins
import Derived.Laws.IdiomArrays
import Derived.WideShapes
import Derived.Deep.Strs
namespace Go.Proofs.Ytfbgnijjdkfbdaa
open Go.ChangeShapes Go.WideShapes Go.ChangeAt Go.RowKit Go.Deep
set_option linter.unusedVariables false

instance (b s n p : Int) : Decidable (Never b s n p) := inferInstanceAs (Decidable (_ ∨ _ ∨ _))

/-- The law's own level, and what must be whatever is asked. -/
theorem lev_ok (b s n p : Int) (w : World) (hb : Lv b) (hs : Tm s) (hn : Tm n) (hp : Tm p) :
    Calls Try.prog 13 #[.agg #[.int .u8 b, .int .u64 s, .int .u64 n, .int .u64 p]] w fun e w' => e = .returned (.int .u8 (levN b s n p)) ∧ w' = w.alloc (.cells #[.int .u8 b, .int .u64 s, .int .u64 n, .int .u64 p] 24) := by
  have HL := veil (fun w => level_ok b s n p w hb hs hn hp)
  generalize levN b s n p = l at *
  go_enter Try.func13, Try.ntmps13
  go_wp2_with (go_at_call 15; refine (HL.out _).mono ?_; rintro e w1 ⟨rfl, hw⟩; replace hw := hw.symm; subst hw)
  go_ret
  exact ⟨rfl, rfl⟩
set_option maxHeartbeats 1000000 in
theorem live_ok (w : World) : Calls Try.prog 12 #[] w fun e w' => e = .returned (.bool true) ∧ w' = (w.alloc (.cells #[.int .u64 30] 22)).alloc (.cells #[.bool true] 4) := by
  have HN := veil (next_yes 3 10 25 5 w ⟨by omega, by omega⟩ ⟨by omega, by omega⟩ ⟨by omega, by omega⟩ ⟨by omega, by omega⟩ (by decide +kernel))
  have e1 : fromN 10 25 + restN 10 25 5 = 30 := by decide +kernel
  rw [e1] at HN
  have HL := veil level_ok
  have e3 : levN 3 10 25 5 = 6 := by decide +kernel
  have e4 : levN 7 0 0 1 = 7 := by decide +kernel
  clear e1
  go_enter Try.func12, Try.ntmps12
  go_wp2_with first | (go_at_call 10; refine (HN.out).mono ?_; rintro e w1 ⟨rfl, hw⟩; replace hw := veil hw) | (go_at_call 15; refine (HL.out _ _ _ _ _ ⟨by omega, by omega⟩ ⟨by omega, by omega⟩ ⟨by omega, by omega⟩ ⟨by omega, by omega⟩).mono ?_; rintro e w2 ⟨rfl, hw2⟩; replace hw2 := hw2.symm; subst hw2)
  go_ret
  exact ⟨rfl, hw.out⟩

section
variable {H : Type} {enc : TypeId × Value → H} {w : World} {base : Nat} {spare : Nat → Bool} {held : Bool}
theorem cellsAsk : Try.prog.cellsOf 24 = 4 := by kernel_rfl
theorem cellsU8 : Try.prog.cellsOf 5 = 1 := by kernel_rfl
theorem cellsU64 : Try.prog.cellsOf 22 = 1 := by kernel_rfl
theorem cellsU32 : Try.prog.cellsOf 33 = 1 := by kernel_rfl
theorem cellsTwo32 : Try.prog.cellsOf 34 = 2 := by kernel_rfl
theorem tm_of {z : Int} (h : (Lit.int .u64 z).wf = true) : Tm z := by have := bounds_u64 h; exact ⟨by omega, by omega⟩
theorem lv_of {z : Int} (h : (Lit.int .u8 z).wf = true) : Lv z := by have := bounds_u8 h; exact ⟨by omega, by omega⟩
theorem ask_cells {fuel : Nat} {c0 c1 c2 c3 : Value} {x : DataW H × List MemPlace} (h : DataW.trod enc Try.prog w base spare held fuel 24 [c0, c1, c2, c3] = some x) :
    ∃ b s n p : Int, (Lv b ∧ Tm s ∧ Tm n ∧ Tm p) ∧ c0 = .int .u8 b ∧ c1 = .int .u64 s ∧ c2 = .int .u64 n ∧ c3 = .int .u64 p := by
  obtain ⟨xs, n, _, _, _, hl, hf⟩ := DataW.trod_struct Try.underlying24 h
  match xs, hl with
  | [y0, y1, y2, y3], _ =>
    obtain ⟨z0, e0, _, w0⟩ := DataW.trod_int Try.underlying5 (by simpa [cellsU8] using hf 0 _ rfl)
    obtain ⟨z1, e1, _, w1⟩ := DataW.trod_int Try.underlying22 (by simpa [cellsU64] using hf 1 _ rfl)
    obtain ⟨z2, e2, _, w2⟩ := DataW.trod_int Try.underlying22 (by simpa [cellsU64] using hf 2 _ rfl)
    obtain ⟨z3, e3, _, w3⟩ := DataW.trod_int Try.underlying22 (by simpa [cellsU64] using hf 3 _ rfl)
    simp at e0 e1 e2 e3
    exact ⟨z0, z1, z2, z3, ⟨lv_of w0, tm_of w1, tm_of w2, tm_of w3⟩, e0, e1, e2, e3⟩
theorem open_ask {r : Reach} {b0 : Nat} {v : Value} {d : DataW H} {q : List MemPlace} (hv : Value.okWide Try.prog w r b0 24 v) (h : DataW.Trod enc Try.prog w base spare held 24 v d q) :
    ∃ b s n p : Int, v = .agg #[.int .u8 b, .int .u64 s, .int .u64 n, .int .u64 p] ∧ (Lv b ∧ Tm s ∧ Tm n ∧ Tm p) := by
  obtain ⟨cs, rfl, hsz⟩ := okWide_struct Try.underlying24 hv
  rw [cellsAsk] at hsz
  obtain ⟨l⟩ := cs
  match l, hsz with
  | [c0, c1, c2, c3], _ =>
    obtain ⟨fuel, hf⟩ := h
    obtain ⟨b, s, n, p, hx, rfl, rfl, rfl, rfl⟩ := ask_cells (c0 := c0) (c1 := c1) (c2 := c2) (c3 := c3) (by simpa [Value.cells] using hf)
    exact ⟨b, s, n, p, rfl, hx⟩
theorem open_two32 {r : Reach} {b0 : Nat} {v : Value} {d : DataW H} {p : List MemPlace} (hv : Value.okWide Try.prog w r b0 34 v) (h : DataW.Trod enc Try.prog w base spare held 34 v d p) :
    ∃ (a b : Int), v = .agg #[.int .u32 a, .int .u32 b] ∧ (Lit.int .u32 a).wf = true ∧ (Lit.int .u32 b).wf = true := by
  obtain ⟨cs, rfl, hsz, _⟩ : ∃ cs, v = .agg cs ∧ cs.size = Try.prog.cellsOf 34 ∧ Row.okWide Try.prog w r b0 34 cs := by
    simpa [Value.okWide, Try.underlying34] using hv
  rw [cellsTwo32] at hsz
  obtain ⟨l⟩ := cs
  match l, hsz with
  | [c0, c1], _ =>
    obtain ⟨fuel, hf⟩ := h
    cases fuel with
    | zero => simp [DataW.trod] at hf
    | succ n =>
      unfold DataW.trod at hf
      rw [Try.underlying34] at hf
      have r2 : List.range 2 = [0, 1] := rfl
      simp [r2, cellsU32, Value.cells] at hf
      obtain ⟨_, hf⟩ := hf
      cases h0 : DataW.trod enc Try.prog w base spare held n 33 [c0] with
      | none => simp [h0] at hf
      | some y0 =>
        cases h1 : DataW.trod enc Try.prog w base spare held n 33 [c1] with
        | none => simp [h0, h1] at hf
        | some y1 =>
          obtain ⟨a, e0, _, w0⟩ := DataW.trod_int Try.underlying33 h0
          obtain ⟨b, e1, _, w1⟩ := DataW.trod_int Try.underlying33 h1
          simp at e0 e1
          subst e0 e1
          exact ⟨a, b, rfl, w0, w1⟩
end
end Go.Proofs.Ytfbgnijjdkfbdaa
