/- Right, Max, Rank, less, live. -/
import Derived.Test.YtbefehoegmmgpaaK2
import Derived.Deep.RegionHeld3
namespace Go.Proofs.Ytbefehoegmmgpaa.Ke
open Go.ChangeShapes Go.WideShapes Go.ChangeAt Go.RowKit
set_option linter.unusedVariables false

def rankH (k : K) : Int := if k.e then 1 else 0
def rankL (k : K) : Int := if k.e then 18446744073709551615 - k.d else k.l
/-- Three cells of a block are a key. -/
def At (w : World) (b : Nat) (k : K) : Prop := w.cell? ⟨b, 0, none⟩ = some (.bool k.e) ∧ w.cell? ⟨b, 1, none⟩ = some (.int .u64 k.d) ∧ w.cell? ⟨b, 2, none⟩ = some (.int .u8 k.l)
theorem At.below {w w' : World} {b : Nat} {k : K} (h : At w b k) (hb : Below w.heap.size w w') : At w' b k :=
  ⟨(hb.cell (World.block_lt_of_cell? w _ h.1)).trans h.1, (hb.cell (World.block_lt_of_cell? w _ h.2.1)).trans h.2.1, (hb.cell (World.block_lt_of_cell? w _ h.2.2)).trans h.2.2⟩
theorem keep1 {w0 w w' : World} {b : Nat} {k : K} (h : w.cell? ⟨b, 0, none⟩ = some (.bool k.e) ∧ w.cell? ⟨b, 1, none⟩ = some (.int .u64 k.d) ∧ w.cell? ⟨b, 2, none⟩ = some (.int .u8 k.l) ∧ Below w0.heap.size w0 w) (hb : Below w.heap.size w w') :
    w'.cell? ⟨b, 0, none⟩ = some (.bool k.e) ∧ w'.cell? ⟨b, 1, none⟩ = some (.int .u64 k.d) ∧ w'.cell? ⟨b, 2, none⟩ = some (.int .u8 k.l) ∧ Below w0.heap.size w0 w' := by
  obtain ⟨h0, h1, h2, h3⟩ := h
  have := At.below ⟨h0, h1, h2⟩ hb
  exact ⟨this.1, this.2.1, this.2.2, h3.trans (hb.mono h3.size)⟩
theorem at_new (w : World) (k : K) (t : TypeId) : At (w.alloc (.cells #[.bool k.e, .int .u64 k.d, .int .u8 k.l] t)) w.heap.size k := by
  refine ⟨?_, ?_, ?_⟩ <;> (unfold World.cell?; simp only [(MapKept.heap_alloc w _).1]; rfl)
theorem start1 (w : World) (k : K) (t : TypeId) : (w.alloc (.cells #[.bool k.e, .int .u64 k.d, .int .u8 k.l] t)).drew.cell? ⟨w.heap.size, 0, none⟩ = some (.bool k.e) ∧ (w.alloc (.cells #[.bool k.e, .int .u64 k.d, .int .u8 k.l] t)).drew.cell? ⟨w.heap.size, 1, none⟩ = some (.int .u64 k.d) ∧ (w.alloc (.cells #[.bool k.e, .int .u64 k.d, .int .u8 k.l] t)).drew.cell? ⟨w.heap.size, 2, none⟩ = some (.int .u8 k.l) ∧ Below w.heap.size w (w.alloc (.cells #[.bool k.e, .int .u64 k.d, .int .u8 k.l] t)).drew :=
  ⟨(at_new w k t).1, (at_new w k t).2.1, (at_new w k t).2.2, ((Below.refl _ _).alloc (Nat.le_refl _) _).drew⟩
theorem rright_mk (w : World) (k : K) : Calls Try.prog 63 #[.agg #[.bool k.e, .int .u64 k.d, .int .u8 k.l]] w fun e w' => e = .returned (.bool (rightK k)) ∧ ∃ c, w' = w.alloc (.cells c 34) := by
  unfold rightK
  go_enter Try.func63, Try.ntmps63
  cases he : k.e <;> (go_wp2; go_ret; exact ⟨by simp , _, rfl⟩)
theorem rright_ok (w : World) (k : K) : Calls Try.prog 63 #[.agg #[.bool k.e, .int .u64 k.d, .int .u8 k.l]] w fun e w' => e = .returned (.bool (rightK k)) ∧ Below w.heap.size w w' :=
  (rright_mk w k).mono fun e w' ⟨h, c, hw⟩ => ⟨h, by rw [hw]; exact (Below.refl _ _).alloc (Nat.le_refl _) _⟩
theorem fin1 {w0 w : World} {p q r : Prop} (h : p ∧ q ∧ r ∧ Below w0.heap.size w0 w) : Below w0.heap.size w0 w := h.2.2.2
theorem same_eq (a b : K) : same a b = decide (a = b) := by
  obtain ⟨e, d, l⟩ := a
  obtain ⟨e', d', l'⟩ := b
  unfold same
  by_cases h1 : e = e' <;> by_cases h2 : d = d' <;> by_cases h3 : l = l' <;> simp [h1, h2, h3]
theorem right_yes (k : K) (hc : same k (fixK k.l) = true) : rightK k = true := by
  unfold rightK; simp [same, fixK] at hc; simp [hc]
theorem right_no (k : K) (hc : same k (fixK k.l) = false) : same k (deadK k.d) = rightK k := by
  unfold rightK
  cases he : k.e <;> simp [same, fixK, deadK, he] at hc ⊢
  exact hc
set_option maxRecDepth 100000 in
theorem right_ok (w : World) (k : K) : Calls Try.prog 59 #[.agg #[.bool k.e, .int .u64 k.d, .int .u8 k.l]] w fun e w' => e = .returned (.bool (rightK k)) ∧ Below w.heap.size w w' := by
  have HF := veil fixed_ok
  have HD := veil dead_ok
  by_cases hc : same k (fixK k.l) = true
  · have HR := veil (right_yes k hc)
    go_enter Try.func59, Try.ntmps59
    go_wp2
    refine wp_region_held_drew (S := (fun w' => w'.cell? ⟨w.heap.size, 0, none⟩ = some (.bool k.e) ∧ w'.cell? ⟨w.heap.size, 1, none⟩ = some (.int .u64 k.d) ∧ w'.cell? ⟨w.heap.size, 2, none⟩ = some (.int .u8 k.l) ∧ Below w.heap.size w w')) (by kernel_rfl) ?_ (fun hHeld => ?_)
    · exact start1 _ _ _
    refine wpAnyH_take (i := 0) (v := ?_) rfl (by kernel_rfl) (by kernel_rfl) (by kernel_rfl) (fun _ _ _ h => h) (Or.inl ⟨by rfl, ?v0⟩) (by assumption) ?_
    case v0 => (intro w hSw; (try dsimp only at hSw); go_simp; try with_reducible rfl)
    try simp only [Act.put, List.setIfInBounds_toArray, List.set_cons_zero, List.set_cons_succ, List.getElem_toArray, List.getElem_cons_zero]
    refine wpAnyH_take (i := 1) (v := ?_) rfl (by kernel_rfl) (by kernel_rfl) (by kernel_rfl) (fun _ _ _ h => h) (Or.inl ⟨by rfl, ?v1⟩) (by assumption) ?_
    case v1 => (intro w hSw; (try dsimp only at hSw); go_simp; try with_reducible rfl)
    try simp only [Act.put, List.setIfInBounds_toArray, List.set_cons_zero, List.set_cons_succ, List.getElem_toArray, List.getElem_cons_succ, List.getElem_cons_zero]
    refine wpAnyH_take (i := 2) (v := ?_) rfl (by kernel_rfl) (by kernel_rfl) (by kernel_rfl) (fun _ _ _ h => h) (Or.inl ⟨by rfl, ?v2⟩) (by assumption) ?_
    case v2 => (intro w hSw; (try dsimp only at hSw); go_simp; try with_reducible rfl)
    try simp only [Act.put, List.setIfInBounds_toArray, List.set_cons_zero, List.set_cons_succ, List.getElem_toArray, List.getElem_cons_succ, List.getElem_cons_zero]
    refine wpAnyH_ready (rs := [3]) (by kernel_rfl) (by simp) ?_
    refine AllReadyH.cons rfl (fun K hK => ?_) AllReadyH.nil
    go_simp
    refine (HF.out _ _).mono ?_
    rintro e w1 ⟨rfl, hb⟩
    go_wp2_with fail
    refine hK.out _ _ ?_ (fun hHeld => ?_)
    · exact keep1 (by assumption) hb
    clear hK K
    try simp only [Act.put, List.setIfInBounds_toArray, List.set_cons_zero, List.set_cons_succ, List.getElem_toArray, List.getElem_cons_succ, List.getElem_cons_zero]
    refine wpAnyH_take (i := 4) (v := ?_) rfl (by kernel_rfl) (by kernel_rfl) (by kernel_rfl) (fun _ _ _ h => h) (Or.inl ⟨by rfl, ?v4⟩) (by assumption) ?_
    case v4 => (intro w hSw; (try dsimp only at hSw); go_simp; try with_reducible rfl)
    try simp only [Act.put, List.setIfInBounds_toArray, List.set_cons_zero, List.set_cons_succ, List.getElem_toArray, List.getElem_cons_succ, List.getElem_cons_zero]
    refine wpAnyH_take (i := 5) (v := ?_) rfl (by kernel_rfl) (by kernel_rfl) (by kernel_rfl) (fun _ _ _ h => h) (Or.inl ⟨by rfl, ?v5⟩) (by assumption) ?_
    case v5 => (intro w hSw; (try dsimp only at hSw); go_simp; try with_reducible rfl)
    try simp only [Act.put, List.setIfInBounds_toArray, List.set_cons_zero, List.set_cons_succ, List.getElem_toArray, List.getElem_cons_succ, List.getElem_cons_zero]
    refine wpAnyH_take (i := 6) (v := undef) rfl (by kernel_rfl) (by kernel_rfl) (by kernel_rfl) (fun _ _ _ h => h) (Or.inr ⟨by rfl, rfl⟩) (by assumption) ?_
    try simp only [Act.put, List.setIfInBounds_toArray, List.set_cons_zero, List.set_cons_succ, List.getElem_toArray, List.getElem_cons_succ, List.getElem_cons_zero]
    refine wpAnyH_take (i := 7) (v := undef) rfl (by kernel_rfl) (by kernel_rfl) (by kernel_rfl) (fun _ _ _ h => h) (Or.inr ⟨by rfl, rfl⟩) (by assumption) ?_
    try simp only [Act.put, List.setIfInBounds_toArray, List.set_cons_zero, List.set_cons_succ, List.getElem_toArray, List.getElem_cons_succ, List.getElem_cons_zero]
    refine wpAnyH_take (i := 8) (v := undef) rfl (by kernel_rfl) (by kernel_rfl) (by kernel_rfl) (fun _ _ _ h => h) (Or.inr ⟨by rfl, rfl⟩) (by assumption) ?_
    try simp only [Act.put, List.setIfInBounds_toArray, List.set_cons_zero, List.set_cons_succ, List.getElem_toArray, List.getElem_cons_succ, List.getElem_cons_zero]
    refine wpAnyH_take (i := 9) (v := undef) rfl (by kernel_rfl) (by kernel_rfl) (by kernel_rfl) (fun _ _ _ h => h) (Or.inr ⟨by rfl, rfl⟩) (by assumption) ?_
    try simp only [Act.put, List.setIfInBounds_toArray, List.set_cons_zero, List.set_cons_succ, List.getElem_toArray, List.getElem_cons_succ, List.getElem_cons_zero]
    refine wpAnyH_take (i := 10) (v := undef) rfl (by kernel_rfl) (by kernel_rfl) (by kernel_rfl) (fun _ _ _ h => h) (Or.inr ⟨by rfl, rfl⟩) (by assumption) ?_
    try simp only [Act.put, List.setIfInBounds_toArray, List.set_cons_zero, List.set_cons_succ, List.getElem_toArray, List.getElem_cons_succ, List.getElem_cons_zero]
    refine wpAnyH_take (i := 11) (v := ?_) rfl (by kernel_rfl) (by kernel_rfl) (by kernel_rfl) (fun _ _ _ h => h) (Or.inl ⟨by rfl, ?v11⟩) (by assumption) ?_
    case v11 => (intro w hSw; (try dsimp only at hSw); go_simp; try with_reducible rfl)
    try simp only [Act.put, List.setIfInBounds_toArray, List.set_cons_zero, List.set_cons_succ, List.getElem_toArray, List.getElem_cons_succ, List.getElem_cons_zero]
    refine wpAnyH_take (i := 12) (v := ?_) rfl (by kernel_rfl) (by kernel_rfl) (by kernel_rfl) (fun _ _ _ h => h) (Or.inl ⟨by rfl, ?v12⟩) (by assumption) ?_
    case v12 => (intro w hSw; (try dsimp only at hSw); go_simp; try with_reducible rfl)
    try simp only [Act.put, List.setIfInBounds_toArray, List.set_cons_zero, List.set_cons_succ, List.getElem_toArray, List.getElem_cons_succ, List.getElem_cons_zero]
    refine wpAnyH_done (by kernel_rfl) ?_ _
    go_wp2
    go_ret
    exact ⟨by rw [HR.out]; rfl, fin1 (by assumption)⟩
  simp only [Bool.not_eq_true] at hc
  have HR := veil (right_no k hc)
  go_enter Try.func59, Try.ntmps59
  go_wp2
  go_region_held3 (fun w' => w'.cell? ⟨w.heap.size, 0, none⟩ = some (.bool k.e) ∧ w'.cell? ⟨w.heap.size, 1, none⟩ = some (.int .u64 k.d) ∧ w'.cell? ⟨w.heap.size, 2, none⟩ = some (.int .u8 k.l) ∧ Below w.heap.size w w')
    (first | exact start1 _ _ _ | exact keep1 (by assumption) hb)
    (first
      | (go_at_call 27; refine (HF.out _ _).mono ?_; rintro e w1 ⟨rfl, hb⟩)
      | (go_at_call 28; refine (HD.out _ _).mono ?_; rintro e w2 ⟨rfl, hb⟩))
  go_wp2
  go_ret
  exact ⟨by rw [HR.out]; rfl, fin1 (by assumption)⟩
end Go.Proofs.Ytbefehoegmmgpaa.Ke
