/- KeyRanks, walked. -/
import Derived.Test.YtfpodglfkjlhkaaK6
namespace Go.Proofs.Ytfpodglfkjlhkaa
open Go.ChangeShapes Go.WideShapes Go.ChangeAt Go.RowKit
theorem start2' (w : World) (a b : K) (t : TypeId) : (fun w' => w'.cell? ⟨w.heap.size, 0, none⟩ = some (.bool a.e) ∧ w'.cell? ⟨w.heap.size, 1, none⟩ = some (.int .u64 a.d) ∧ w'.cell? ⟨w.heap.size, 2, none⟩ = some (.int .u8 a.l) ∧ w'.cell? ⟨w.heap.size + 1, 0, none⟩ = some (.bool b.e) ∧ w'.cell? ⟨w.heap.size + 1, 1, none⟩ = some (.int .u64 b.d) ∧ w'.cell? ⟨w.heap.size + 1, 2, none⟩ = some (.int .u8 b.l) ∧ Below w.heap.size w w') ((w.alloc (.cells #[.bool a.e, .int .u64 a.d, .int .u8 a.l] t)).alloc (.cells #[.bool b.e, .int .u64 b.d, .int .u8 b.l] t)) := by
  have h1 := at_new w a t
  have h2 := at_new (w.alloc (.cells #[.bool a.e, .int .u64 a.d, .int .u8 a.l] t)) b t
  have h3 := h1.below ((Below.refl _ _).alloc (Nat.le_refl _) (.cells #[.bool b.e, .int .u64 b.d, .int .u8 b.l] t))
  have hs : (w.alloc (.cells #[.bool a.e, .int .u64 a.d, .int .u8 a.l] t)).heap.size = w.heap.size + 1 := by simp
  rw [hs] at h2
  exact ⟨h3.1, h3.2.1, h3.2.2, h2.1, h2.2.1, h2.2.2, below2 _ _ _ _ _⟩
/-- What two right keys are. -/
theorem ranks_ways (a b : K) (ha : a.ok) (hb : b.ok) (ra : rightK a = true) (rb : rightK b = true) :
    up a b = decide (rankH b < rankH a ∨ rankH b = rankH a ∧ rankL b < rankL a) ∧ (up a b = true ∧ up b a = false ∨ up a b = false ∧ up b a = true ∨ up a b = false ∧ up b a = false ∧ same a b = true) := by
  obtain ⟨e, d, l⟩ := a
  obtain ⟨e', d', l'⟩ := b
  obtain ⟨⟨a1, a2⟩, a3, a4⟩ := ha
  obtain ⟨⟨b1, b2⟩, b3, b4⟩ := hb
  simp only at a1 a2 a3 a4 b1 b2 b3 b4
  unfold rightK at ra rb
  unfold up rankH rankL same
  cases e <;> cases e' <;> simp at ra rb ⊢ <;> (try subst ra) <;> (try subst rb) <;> simp <;> omega
theorem ranks_no (w : World) (a b : K) (x : Bool) (hx : rightK a = x) (hr : x = false ∨ rightK b = false) : Calls Try.prog 5 #[.agg #[.bool a.e, .int .u64 a.d, .int .u8 a.l], .agg #[.bool b.e, .int .u64 b.d, .int .u8 b.l]] w fun e w' => e = .returned (.bool true) ∧ Below w.heap.size w w' := by
  have HL := veil live_ok
  have HR := veil right_ok
  have HR' := veil rright_ok
  cases x
  all_goals
    (try (have hr' : rightK b = false := by simpa using hr))
    clear hr
    go_enter Try.func5, Try.ntmps5
    go_wp2_with (first
      | (go_at_call 14; refine (HR.out _ _).mono ?_; rintro e w1 ⟨rfl, hb⟩; have HT := veil (keep2 (start2' w a b 24) hb); clear hb; obtain ⟨y0, y1, y2, y3, y4, y5, _⟩ := HT.out)
      | (go_at_call 14; refine (HR.out _ _).mono ?_; rintro e w1 ⟨rfl, hb⟩; replace HT := veil (keep2 HT.out hb); clear hb y0 y1 y2 y3 y4 y5; obtain ⟨y0, y1, y2, y3, y4, y5, _⟩ := HT.out)
      | (go_at_call 9; refine (HL.out _).mono ?_; rintro e w1 ⟨rfl, hb⟩; replace HT := veil (keep2 HT.out hb); clear hb y0 y1 y2 y3 y4 y5; obtain ⟨y0, y1, y2, y3, y4, y5, _⟩ := HT.out)
      | (go_at_call 15; refine (HR'.out _ _).mono ?_; rintro e w1 ⟨rfl, hb⟩; replace HT := veil (keep2 HT.out hb); clear hb y0 y1 y2 y3 y4 y5; obtain ⟨y0, y1, y2, y3, y4, y5, _⟩ := HT.out))
    go_ret
    exact ⟨rfl, fin2 HT.out⟩
end Go.Proofs.Ytfpodglfkjlhkaa
