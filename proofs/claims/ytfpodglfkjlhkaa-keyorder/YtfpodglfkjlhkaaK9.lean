/- KeyOrder, walked. -/
import Derived.Test.YtfpodglfkjlhkaaK6
namespace Go.Proofs.Ytfpodglfkjlhkaa
open Go.ChangeShapes Go.WideShapes Go.ChangeAt Go.RowKit
theorem up_trans (a b c : K) : up a b = false ∨ up a b = true ∧ up b c = false ∨ up a b = true ∧ up b c = true ∧ up a c = true := by
  obtain ⟨e, d, l⟩ := a
  obtain ⟨e', d', l'⟩ := b
  obtain ⟨e2, d2, l2⟩ := c
  unfold up
  cases e <;> cases e' <;> cases e2 <;> simp <;> omega
theorem max_turn (a b : K) (ra : rightK a = true) (rb : rightK b = true) : maxK a b = maxK b a := by
  obtain ⟨e, d, l⟩ := a
  obtain ⟨e', d', l'⟩ := b
  unfold rightK at ra rb
  unfold maxK up
  cases e <;> cases e' <;> simp at ra rb ⊢ <;> (try subst ra) <;> (try subst rb) <;> (repeat' split) <;> simp <;> omega
theorem max_three (a b c : K) (ra : rightK a = true) (rb : rightK b = true) (rc : rightK c = true) : maxK (maxK a b) c = maxK a (maxK b c) := by
  obtain ⟨e, d, l⟩ := a
  obtain ⟨e', d', l'⟩ := b
  obtain ⟨e2, d2, l2⟩ := c
  unfold rightK at ra rb rc
  unfold maxK up
  cases e <;> cases e' <;> cases e2 <;> simp at ra rb rc ⊢ <;> (try subst ra) <;> (try subst rb) <;> (try subst rc) <;> (repeat' split) <;> simp_all <;> omega
theorem right_cases (a b c : K) : rightK a = false ∨ rightK a = true ∧ rightK b = false ∨ rightK a = true ∧ rightK b = true ∧ rightK c = false ∨ rightK a = true ∧ rightK b = true ∧ rightK c = true := by
  cases rightK a <;> cases rightK b <;> cases rightK c <;> simp
theorem drew3 {w0 w : World} {p0 p1 p2 p3 p4 p5 p6 p7 p8 : Prop} (h : p0 ∧ p1 ∧ p2 ∧ p3 ∧ p4 ∧ p5 ∧ p6 ∧ p7 ∧ p8 ∧ Below w0.heap.size w0 w) : p0 ∧ p1 ∧ p2 ∧ p3 ∧ p4 ∧ p5 ∧ p6 ∧ p7 ∧ p8 ∧ Below w0.heap.size w0 w.drew := by
  obtain ⟨h0, h1, h2, h3, h4, h5, h6, h7, h8, h9⟩ := h
  exact ⟨h0, h1, h2, h3, h4, h5, h6, h7, h8, h9.drew⟩
theorem below1 (w : World) (o1 o2 o3 o4 : Obj) : Below w.heap.size w ((((w.alloc o1).alloc o2).alloc o3).alloc o4).drew := (below_up (Below.refl _ w) (Nat.le_refl _) o1 o2 o3 o4).drew
set_option maxRecDepth 100000 in
set_option maxHeartbeats 4000000 in
theorem order_walk (w : World) (a b c : K) : Calls Try.prog 6 #[.agg #[.bool a.e, .int .u64 a.d, .int .u8 a.l, .bool b.e, .int .u64 b.d, .int .u8 b.l, .bool c.e, .int .u64 c.d, .int .u8 c.l]] w fun e w' => e = .returned (.bool true) ∧ Below w.heap.size w w' := by
  have HA := veil above_ok
  have HM := veil max_ok
  have HR' := veil rright_ok
  have HL := veil live_ok
  have HU := veil (up_trans a b c)
  have HX := veil (fun (ra : rightK a = true) (rb : rightK b = true) (rc : rightK c = true) => And.intro (max_three a b c ra rb rc) (max_turn a b ra rb))
  go_enter Try.func6, Try.ntmps6
  go_wp2
  rename_i K0 hK0
  have REST : Hid (∀ (W : World) (b0 b1 b2 : Nat), (W.cell? ⟨b0, 0, none⟩ = some (.bool a.e) ∧ W.cell? ⟨b0, 1, none⟩ = some (.int .u64 a.d) ∧ W.cell? ⟨b0, 2, none⟩ = some (.int .u8 a.l) ∧ W.cell? ⟨b1, 0, none⟩ = some (.bool b.e) ∧ W.cell? ⟨b1, 1, none⟩ = some (.int .u64 b.d) ∧ W.cell? ⟨b1, 2, none⟩ = some (.int .u8 b.l) ∧ W.cell? ⟨b2, 0, none⟩ = some (.bool c.e) ∧ W.cell? ⟨b2, 1, none⟩ = some (.int .u64 c.d) ∧ W.cell? ⟨b2, 2, none⟩ = some (.int .u8 c.l) ∧ Below w.heap.size w W) → K0 ⟨#[.agg #[.bool a.e, .int .u64 a.d, .int .u8 a.l, .bool b.e, .int .u64 b.d, .int .u8 b.l, .bool c.e, .int .u64 c.d, .int .u8 c.l], .pointer (some ⟨w.heap.size, 0, none⟩), .bool false, .pointer (some ⟨b0, 0, none⟩), .pointer (some ⟨b1, 0, none⟩), .pointer (some ⟨b2, 0, none⟩), .pointer (some ⟨w.heap.size, 0, none⟩), .agg #[.bool a.e, .int .u64 a.d, .int .u8 a.l], .pointer (some ⟨w.heap.size, 3, none⟩), .agg #[.bool b.e, .int .u64 b.d, .int .u8 b.l], .pointer (some ⟨w.heap.size, 6, none⟩), .agg #[.bool c.e, .int .u64 c.d, .int .u8 c.l], undef, undef, undef, undef, undef, undef, undef, undef, undef, undef, undef, undef, undef, undef, undef, undef, undef, undef, undef, undef, undef, undef, undef, undef, undef, undef, undef, undef, undef, undef, undef, undef, undef, undef, undef, undef, undef, undef, undef, undef, undef, undef, undef, undef, undef, undef, undef, undef, undef, undef, undef], []⟩ W) := by
    intro W b0 b1 b2 hT
    refine hK0 _ _ ?_
    clear hK0
    have HT := veil hT
    clear hT
    obtain ⟨y0, y1, y2, y3, y4, y5, y6, y7, y8, _⟩ := HT.out
    rcases right_cases a b c with ra | ⟨ra, rb⟩ | ⟨ra, rb, rc⟩ | ⟨ra, rb, rc⟩
    all_goals
      rcases HU.out with u1 | ⟨u1, u2⟩ | ⟨u1, u2, u3⟩
    all_goals
      go_wp2_with (first
        | (go_at_call 16; refine (HA.out _ _ _).mono ?_; rintro e w1 ⟨rfl, hb⟩; replace HT := veil (keep3 HT.out hb); clear hb y0 y1 y2 y3 y4 y5 y6 y7 y8; obtain ⟨y0, y1, y2, y3, y4, y5, y6, y7, y8, _⟩ := HT.out)
        | (go_at_call 15; refine (HR'.out _ _).mono ?_; rintro e w1 ⟨rfl, hb⟩; replace HT := veil (keep3 HT.out hb); clear hb y0 y1 y2 y3 y4 y5 y6 y7 y8; obtain ⟨y0, y1, y2, y3, y4, y5, y6, y7, y8, _⟩ := HT.out)
        | (go_at_call 9; refine (HL.out _).mono ?_; rintro e w1 ⟨rfl, hb⟩; replace HT := veil (keep3 HT.out hb); clear hb y0 y1 y2 y3 y4 y5 y6 y7 y8; obtain ⟨y0, y1, y2, y3, y4, y5, y6, y7, y8, _⟩ := HT.out))
    all_goals try (go_ret; exact ⟨rfl, fin3 HT.out⟩)
    all_goals
      obtain ⟨x1, x2⟩ := HX.out ra rb rc
      have x3 : same (maxK (maxK a b) c) (maxK a (maxK b c)) = true := by rw [x1]; exact same_self _
      have x4 : same (maxK a b) (maxK b a) = true := by rw [x2]; exact same_self _
      clear x1 x2 HX
      go_region_held3 (fun w' => w'.cell? ⟨b0, 0, none⟩ = some (.bool a.e) ∧ w'.cell? ⟨b0, 1, none⟩ = some (.int .u64 a.d) ∧ w'.cell? ⟨b0, 2, none⟩ = some (.int .u8 a.l) ∧ w'.cell? ⟨b1, 0, none⟩ = some (.bool b.e) ∧ w'.cell? ⟨b1, 1, none⟩ = some (.int .u64 b.d) ∧ w'.cell? ⟨b1, 2, none⟩ = some (.int .u8 b.l) ∧ w'.cell? ⟨b2, 0, none⟩ = some (.bool c.e) ∧ w'.cell? ⟨b2, 1, none⟩ = some (.int .u64 c.d) ∧ w'.cell? ⟨b2, 2, none⟩ = some (.int .u8 c.l) ∧ Below w.heap.size w w')
        (first | exact drew3 HT.out | exact keep3 (by assumption) hb)
        (first
          | (go_at_call 9; refine (HL.out _).mono ?_; rintro e w1 ⟨rfl, hb⟩)
          | (go_at_call 18; refine (HM.out _ _ _).mono ?_; rintro e w1 ⟨rfl, hb⟩))
      go_wp2
      go_ret
      exact ⟨rfl, fin3 (by assumption)⟩
  clear hK0
  go_region_held3 (fun w' => w'.cell? ⟨w.heap.size, 0, none⟩ = some (.bool a.e) ∧ w'.cell? ⟨w.heap.size, 1, none⟩ = some (.int .u64 a.d) ∧ w'.cell? ⟨w.heap.size, 2, none⟩ = some (.int .u8 a.l) ∧ w'.cell? ⟨w.heap.size, 3, none⟩ = some (.bool b.e) ∧ w'.cell? ⟨w.heap.size, 4, none⟩ = some (.int .u64 b.d) ∧ w'.cell? ⟨w.heap.size, 5, none⟩ = some (.int .u8 b.l) ∧ w'.cell? ⟨w.heap.size, 6, none⟩ = some (.bool c.e) ∧ w'.cell? ⟨w.heap.size, 7, none⟩ = some (.int .u64 c.d) ∧ w'.cell? ⟨w.heap.size, 8, none⟩ = some (.int .u8 c.l))
    (simp [go_sem, World.cell?_alloc_past])
    (first | fail)
  all_goals
    refine REST.out _ _ _ _ ⟨?_, ?_, ?_, ?_, ?_, ?_, ?_, ?_, ?_, below1 _ _ _ _ _⟩ <;> simp [go_sem, World.cell?_alloc_past]
end Go.Proofs.Ytfpodglfkjlhkaa
