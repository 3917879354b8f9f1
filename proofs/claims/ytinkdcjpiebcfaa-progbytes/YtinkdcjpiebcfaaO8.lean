/-
  prog: Next walked, and the document's.
-/
import Derived.Test.YtinkdcjpiebcfaaO7
namespace Go.Proofs.Ytinkdcjpiebcfaa
open Go.RowKit Go.Lib
set_option linter.unusedVariables false

theorem size_alloc (w : World) (o : Obj) : (w.alloc o).heap.size = w.heap.size + 1 := by simp

/-- What Next answers: a slice of none or one. -/
def Nx (w : World) (base : Nat) (v : Value) : Option Int → Prop
  | none => v = .slice none 0 0
  | some x => ∃ b, base ≤ b ∧ b < w.heap.size ∧ v = .slice (some ⟨b, 0, none⟩) 1 1 ∧ w.cell? ⟨b, 0, none⟩ = some (.int .i64 x)
open Classical in
noncomputable def nextOf (len : Nat) (O R : Nat → Int) (at_ : Int) : Option Int :=
  if Rt len O R ∧ 0 ≤ at_ ∧ at_ < len then (if O at_.toNat = 9 then none else if O at_.toNat = 8 then some (R at_.toNat) else some (at_ + 1)) else none

theorem next_none (w : World) (a : Option Addr) (len cap : Nat) (hlen : len < 9223372036854775808) (O R : Nat → Int) (hp : Prg w a len O R) (x : Int) (h : ¬ (Rt len O R ∧ 0 ≤ x ∧ x < len)) :
    Calls Try.prog 22 #[.slice a len cap, .int .i64 x] w fun e w' => e = .returned (.slice none 0 0) ∧ Below w.heap.size w w' := by
  by_cases hr : Rt len O R
  · have HC := veil (right_yes w a len cap hlen O R hp hr)
    by_cases h0 : x < 0
    · clear hp hr h
      go_enter Try.func22, Try.ntmps22
      go_wp2_with (go_at_call 27; refine (HC.out).mono ?_; rintro e w1 ⟨rfl, hb⟩; have HL := veil hb; clear hb)
      go_ret
      exact ⟨rfl, HL.out⟩
    · have h1 : (len : Int) ≤ x := by
        rcases Int.lt_or_le x len with q | q
        · exact (h ⟨hr, by omega, q⟩).elim
        · exact q
      clear hp hr h
      go_enter Try.func22, Try.ntmps22
      go_wp2_with (go_at_call 27; refine (HC.out).mono ?_; rintro e w1 ⟨rfl, hb⟩; have HL := veil hb; clear hb)
      go_ret
      exact ⟨rfl, HL.out⟩
  · have HC := veil (right_no w a len cap hlen O R hp hr)
    clear hp hr h
    go_enter Try.func22, Try.ntmps22
    go_wp2_with (go_at_call 27; refine (HC.out).mono ?_; rintro e w1 ⟨rfl, hb, _⟩; have HL := veil hb; clear hb)
    go_ret
    exact ⟨rfl, HL.out⟩

theorem next_some (w : World) (a : Option Addr) (len cap : Nat) (hlen : len < 9223372036854775808) (O R : Nat → Int) (hp : Prg w a len O R) (j : Nat) (hr : Rt len O R) (hj : j < len) :
    Calls Try.prog 22 #[.slice a len cap, .int .i64 (j : Int)] w fun e w' => ∃ v, e = .returned v ∧ Nx w' w.heap.size v (if O j = 9 then none else if O j = 8 then some (R j) else some ((j : Int) + 1)) ∧ Below w.heap.size w w' := by
  have HC := veil (right_yes w a len cap hlen O R hp hr)
  obtain ⟨y0, hy0⟩ := hr
  obtain ⟨hl1, hl2, _⟩ := hy0.zero
  have hj' : (j : Int) < (len : Int) := by omega
  have hj0 : ¬ (j : Int) < 0 := by omega
  have HP := veil (fun w1 hb => hp.below (w' := w1) hb)
  clear hp hy0
  have HN : Hid (∀ w1 (x : Int), Below w.heap.size w w1 → Nx (w1.alloc (.cells #[.int .i64 x] 3)) w.heap.size (.slice (some ⟨w1.heap.size, 0, none⟩) 1 1) (some x)) := by
    intro w1 x hb
    exact ⟨w1.heap.size, hb.size, by simp, rfl, by unfold World.cell?; simp only [(MapKept.heap_alloc w1 _).1]; rfl⟩
  have HG : Hid (∀ w1, Below w.heap.size w w1 → ∃ lb off, a = some ⟨lb, off, none⟩ ∧ w1.cell? ⟨lb, off + j * 2, none⟩ = some (.int .i64 (O j)) ∧ w1.cell? ⟨lb, off + j * 2 + 1, none⟩ = some (.int .i64 (R j))) := by
    intro w1 hb
    rcases HP.out w1 hb with h0 | ⟨lb, off, h1, _, hc⟩
    · omega
    · exact ⟨lb, off, h1, hc j hj⟩
  clear HP
  by_cases h9 : O j = 9
  · have e9 : (O j == 9) = true := by simpa using h9
    go_enter Try.func22, Try.ntmps22
    go_wp2_with (go_at_call 27; refine (HC.out).mono ?_; rintro e w1 ⟨rfl, hb⟩; have HL := veil hb; obtain ⟨lb, off, rfl, y1, y2⟩ := HG.out w1 hb; clear hb HG)
    go_ret
    exact ⟨_, rfl, by simp [Nx], HL.out.alloc HL.out.size _⟩
  · have e9 : (O j == 9) = false := by simpa using h9
    by_cases h8 : O j = 8
    · have e8 : (O j == 8) = true := by simpa using h8
      go_enter Try.func22, Try.ntmps22
      go_wp2_with (go_at_call 27; refine (HC.out).mono ?_; rintro e w1 ⟨rfl, hb⟩; have HL := veil hb; obtain ⟨lb, off, rfl, y1, y2⟩ := HG.out w1 hb; clear hb HG)
      go_ret
      refine ⟨_, rfl, ?_, (HL.out.alloc HL.out.size _).alloc (Nat.le_trans HL.out.size (by simp)) _⟩
      have q := HN.out _ (R j) (HL.out.alloc HL.out.size (.cells #[.int .i64 8, .int .i64 (R j)] 42))
      rw [size_alloc] at q
      exact q
    · have e8 : (O j == 8) = false := by simpa using h8
      go_enter Try.func22, Try.ntmps22
      go_wp2_with (go_at_call 27; refine (HC.out).mono ?_; rintro e w1 ⟨rfl, hb⟩; have HL := veil hb; obtain ⟨lb, off, rfl, y1, y2⟩ := HG.out w1 hb; clear hb HG)
      go_ret
      refine ⟨_, rfl, ?_, (HL.out.alloc HL.out.size _).alloc (Nat.le_trans HL.out.size (by simp)) _⟩
      have q := HN.out _ ((j : Int) + 1) (HL.out.alloc HL.out.size (.cells #[.int .i64 (O j), .int .i64 (R j)] 42))
      rw [size_alloc] at q
      exact q

theorem next_ok (w : World) (a : Option Addr) (len cap : Nat) (hlen : len < 9223372036854775808) (O R : Nat → Int) (hp : Prg w a len O R) (x : Int) :
    Calls Try.prog 22 #[.slice a len cap, .int .i64 x] w fun e w' => ∃ v, e = .returned v ∧ Nx w' w.heap.size v (nextOf len O R x) ∧ Below w.heap.size w w' := by
  by_cases h : Rt len O R ∧ 0 ≤ x ∧ x < len
  · obtain ⟨j, rfl⟩ : ∃ j : Nat, x = (j : Int) := ⟨x.toNat, by omega⟩
    refine (next_some w a len cap hlen O R hp j h.1 (by omega)).mono fun e w' ⟨v, he, hn, hb⟩ => ⟨v, he, ?_, hb⟩
    unfold nextOf
    rw [if_pos h]
    simpa using hn
  · refine (next_none w a len cap hlen O R hp x h).mono fun e w' ⟨he, hb⟩ => ⟨_, he, ?_, hb⟩
    unfold nextOf
    rw [if_neg h]
    rfl
end Go.Proofs.Ytinkdcjpiebcfaa
