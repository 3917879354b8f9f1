/-
  Alloc by the least free place; 'live'; a slice of deeds that came in (for a seat without the table of what may follow).
-/
import Derived.Test.YtfhnepoegdhjmaaT6
import Derived.ProofKit
import Derived.OpenShut
import Derived.Deep.Slices
import Derived.Deep.Strs
import Derived.ChangeOld
import Derived.ChangeSame
namespace Go.Proofs.Ytfhnepoegdhjmaa
open Go.RowKit Go.Lib Go.Deep Go.ChangeShapes Go.WideShapes
set_option linter.unusedVariables false
attribute [local go_sem ↓] Go.wp_at_zero Go.wp_at_succ

theorem pl_nil {S : Nat → Nat} {fr : Bool} {n : Nat} : ∀ k, k ≤ n → pl S fr n k = [] → ∀ j, j < k → ¬ (S j == 0) = fr
  | 0, _, _, j, hj => by omega
  | k + 1, hk, h, j, hj => by
    by_cases hs : (S k == 0) = fr
    · rw [pl_yes (by omega) hs] at h; simp at h
    · rw [pl_no hs] at h
      by_cases e : j = k
      · subst e; exact hs
      · exact pl_nil k (by omega) h j (by omega)
theorem pl_first {S : Nat → Nat} {fr : Bool} {n : Nat} {x : Fin n} : ∀ k, k ≤ n → [x] <+: pl S fr n k → x.val < k ∧ (S x.val == 0) = fr ∧ ∀ j, j < x.val → ¬ (S j == 0) = fr
  | 0, _, h => by simp [pl] at h
  | k + 1, hk, h => by
    by_cases hs : (S k == 0) = fr
    · rw [pl_yes (by omega) hs] at h
      by_cases he : pl S fr n k = []
      · rw [he] at h
        simp at h
        subst h
        exact ⟨by simp, hs, fun j hj => pl_nil k (by omega) he j hj⟩
      · have h2 : [x] <+: pl S fr n k := by
          obtain ⟨y, l, e⟩ := List.exists_cons_of_ne_nil he
          rw [e] at h ⊢
          simp at h ⊢
          exact h
        obtain ⟨a, b, c⟩ := pl_first k (by omega) h2
        exact ⟨by omega, b, c⟩
    · rw [pl_no hs] at h
      obtain ⟨a, b, c⟩ := pl_first k (by omega) h
      exact ⟨by omega, b, c⟩

section
variable {w : World} {b g n : Nat} {G S : Nat → Nat}
theorem alloc_some (h : Rep w b g n G S) (hG : ∀ x, x < n → G x + 1 < 4294967296) (x : Nat) (hx : x < n) (hs : S x = 0) (hf : ∀ j, j < x → S j ≠ 0) :
    Calls Try.prog 6 #[.pointer (some ⟨b, 0, none⟩)] w fun e w' => e = .returned (.tuple #[.agg #[.int .i64 (x : Int), .int .u32 ((G x + 1 : Nat) : Int)], .int .i64 0]) ∧ Rep w' b g n (upd G x (G x + 1)) (upd S x 1) ∧ Fr (fun k => k = g) w w' := by
  refine (callsIn_wide.1 (alloc_in b g n G S w h hG)).mono ?_
  rintro e w' (⟨y, h1, he, hr, hfr⟩ | ⟨h1, _⟩)
  · obtain ⟨q1, q2, q3⟩ := pl_first n (Nat.le_refl _) h1
    have q2' : S y.val = 0 := by simpa using q2
    have : y.val = x := by
      rcases Nat.lt_trichotomy y.val x with q | q | q
      · exact absurd q2' (hf _ q)
      · exact q
      · exact absurd (q3 x q) (by simp [hs])
    rw [this] at he hr
    exact ⟨he, hr, hfr⟩
  · exact absurd (pl_nil n (Nat.le_refl _) h1 x hx) (by simp [hs])
theorem alloc_full (h : Rep w b g n G S) (hG : ∀ x, x < n → G x + 1 < 4294967296) (hf : ∀ j, j < n → S j ≠ 0) :
    Calls Try.prog 6 #[.pointer (some ⟨b, 0, none⟩)] w fun e w' => e = .returned (.tuple #[.agg #[.int .i64 0, .int .u32 0], .int .i64 4]) ∧ Below w.heap.size w w' := by
  refine (callsIn_wide.1 (alloc_in b g n G S w h hG)).mono ?_
  rintro e w' (⟨y, h1, he, hr, hfr⟩ | ⟨_, he, hb⟩)
  · obtain ⟨q1, q2, q3⟩ := pl_first n (Nat.le_refl _) h1
    exact absurd (by simpa using q2) (hf y.val y.isLt)
  · exact ⟨he, hb⟩
/-- Is there a free place? The least one, or none. -/
theorem free_or (S : Nat → Nat) (n : Nat) : (∃ x, x < n ∧ S x = 0 ∧ ∀ j, j < x → S j ≠ 0) ∨ ∀ j, j < n → S j ≠ 0 := by
  induction n with
  | zero => exact .inr (fun j hj => by omega)
  | succ n ih =>
    rcases ih with ⟨x, a, b, c⟩ | h
    · exact .inl ⟨x, by omega, b, c⟩
    · by_cases hs : S n = 0
      · exact .inl ⟨n, by omega, hs, h⟩
      · refine .inr (fun j hj => ?_)
        by_cases e : j = n
        · subst e; exact hs
        · exact h j (by omega)
end

set_option maxHeartbeats 4000000 in
theorem live_law (w : World) :
    Calls Try.prog 9 #[] w fun e w' => e = .returned (.bool true) ∧ Below w.heap.size w w' := by
  have HN := veil (new_ok 2 w (by omega) (by omega))
  have HA1 : Hid (∀ w1, Rep w1 (w.heap.size + 1) w.heap.size 2 (fun _ => 0) (fun _ => 0) → Calls Try.prog 6 #[.pointer (some ⟨w.heap.size + 1, 0, none⟩)] w1 fun e w' => e = .returned (.tuple #[.agg #[.int .i64 0, .int .u32 1], .int .i64 0]) ∧ Rep w' (w.heap.size + 1) w.heap.size 2 (upd (fun _ => 0) 0 1) (upd (fun _ => 0) 0 1) ∧ Fr (fun k => k = w.heap.size) w1 w') := by
    intro w1 h
    refine (alloc_some h (fun _ _ => by omega) 0 (by omega) rfl (fun j hj => by omega)).mono ?_
    rintro e w' ⟨he, hr, hf⟩
    exact ⟨by simpa using he, hr, hf⟩
  have HRel : Hid (∀ w1, Rep w1 (w.heap.size + 1) w.heap.size 2 (upd (fun _ => 0) 0 1) (upd (fun _ => 0) 0 1) → Calls Try.prog 5 #[.pointer (some ⟨w.heap.size + 1, 0, none⟩), .agg #[.int .i64 0, .int .u32 1]] w1 fun e w' => e = .returned (.int .i64 0) ∧ Rep w' (w.heap.size + 1) w.heap.size 2 (upd (fun _ => 0) 0 1) (upd (upd (fun _ => 0) 0 1) 0 0) ∧ Fr (fun k => k = w.heap.size) w1 w') := by
    intro w1 h
    exact release_some h 0 1 (by omega) (by simp [upd]) (by simp [upd])
  have HA2 : Hid (∀ w1, Rep w1 (w.heap.size + 1) w.heap.size 2 (upd (fun _ => 0) 0 1) (upd (upd (fun _ => 0) 0 1) 0 0) → Calls Try.prog 6 #[.pointer (some ⟨w.heap.size + 1, 0, none⟩)] w1 fun e w' => e = .returned (.tuple #[.agg #[.int .i64 0, .int .u32 2], .int .i64 0]) ∧ Rep w' (w.heap.size + 1) w.heap.size 2 (upd (upd (fun _ => 0) 0 1) 0 2) (upd (upd (upd (fun _ => 0) 0 1) 0 0) 0 1) ∧ Fr (fun k => k = w.heap.size) w1 w') := by
    intro w1 h
    refine (alloc_some h (fun x _ => by unfold upd; split <;> simp) 0 (by omega) (by simp [upd]) (fun j hj => by omega)).mono ?_
    rintro e w' ⟨he, hr, hf⟩
    exact ⟨by simpa [upd] using he, by simpa [upd] using hr, hf⟩
  have HL : Hid (∀ w1, Rep w1 (w.heap.size + 1) w.heap.size 2 (upd (upd (fun _ => 0) 0 1) 0 2) (upd (upd (upd (fun _ => 0) 0 1) 0 0) 0 1) → Calls Try.prog 7 #[.pointer (some ⟨w.heap.size + 1, 0, none⟩)] w1 fun e w' => e = .returned (.int .i64 1) ∧ Below w1.heap.size w1 w') := by
    intro w1 h
    refine (len_ok h).mono ?_
    rintro e w' ⟨he, hb⟩
    exact ⟨by rw [he]; rfl, hb⟩
  have HB : Hid (∀ w1 w2 : World, Below w.heap.size w w1 → Fr (fun k => k = w.heap.size) w1 w2 → Below w.heap.size w w2) := by
    intro w1 w2 h1 h2
    exact h1.trans (h2.below h1.size (fun k e => by omega))
  have HC : Hid (∀ (w1 w2 : World) (B : Nat) (p q : Int), w.heap.size < B → B < w1.heap.size → Fr (fun k => k = w.heap.size) w1 w2 → w1.cell? ⟨B, 0, none⟩ = some (.int .i64 p) ∧ w1.cell? ⟨B, 1, none⟩ = some (.int .u32 q) → w2.cell? ⟨B, 0, none⟩ = some (.int .i64 p) ∧ w2.cell? ⟨B, 1, none⟩ = some (.int .u32 q)) := by
    intro w1 w2 B p q h1 h2 hf hc
    exact ⟨(hf.cell (a := ⟨B, 0, none⟩) h2 (by simp; omega)).trans hc.1, (hf.cell (a := ⟨B, 1, none⟩) h2 (by simp; omega)).trans hc.2⟩
  go_enter Try.func9, Try.ntmps9
  go_wp2_with (first
    | (go_at_call 4; refine (HN.out).mono ?_; rintro e w1 ⟨rfl, hr, hb⟩; have HR1 := veil hr; have HB1 := veil hb; clear hr hb)
    | (go_at_call 5; refine (HRel.out _ (HR2.out.alloc _)).mono ?_; rintro e w3 ⟨rfl, hr, hf⟩; have hlt := HR2.out.lt_b; have HP3 := veil (HC.out _ _ w2.heap.size 0 1 (by omega) (by simp) hf ⟨by rw [cell_new]; rfl, by rw [cell_new]; rfl⟩); have HR3 := veil hr; have HB3 := veil (HB.out _ _ (HB2.out.alloc HB2.out.size _) hf); have hsz3 : w2.heap.size < w3.heap.size := (by have := hf.size; simp at this; omega); clear hr hf HR2)
    | (go_at_call 6; refine (HA1.out _ HR1.out).mono ?_; rintro e w2 ⟨rfl, hr, hf⟩; have HR2 := veil hr; have HB2 := veil (HB.out _ _ HB1.out hf); clear hr hf HA1 HR1)
    | (go_at_call 6; refine (HA2.out _ HR3.out).mono ?_; rintro e w4 ⟨rfl, hr, hf⟩; have HP4 := veil (HC.out _ _ w2.heap.size 0 1 (by omega) hsz3 hf HP3.out); have HR4 := veil hr; have HB4 := veil (HB.out _ _ HB3.out hf); have hsz4 : w2.heap.size < w4.heap.size := (Nat.lt_of_lt_of_le hsz3 hf.size); have p0 := HP4.out.1; have p1 := HP4.out.2; have hne4 : ¬ w2.heap.size = w4.heap.size := (by omega); clear hr hf)
    | (go_at_call 7; refine (HL.out _ (HR4.out.alloc _)).mono ?_; rintro e w5 ⟨rfl, hb⟩; have HB5 := veil ((HB4.out.alloc HB4.out.size _).trans (hb.mono (by have := HB4.out.size; simp; omega))); clear hb))
  go_ret
  exact ⟨by simp, HB5.out⟩
/-- A slice of deeds that came in: its cells. -/
def Deeds (w : World) (a : Option Addr) (len : Nat) (K P : Nat → Int) (Q : Nat → Nat) (T : Nat → Int) : Prop :=
  len = 0 ∨ ∃ lb off, a = some ⟨lb, off, none⟩ ∧ lb < w.heap.size ∧ ∀ j, j < len → w.cell? ⟨lb, off + j * 4, none⟩ = some (.int .i64 (K j)) ∧ w.cell? ⟨lb, off + j * 4 + 1, none⟩ = some (.int .i64 (P j)) ∧ w.cell? ⟨lb, off + j * 4 + 2, none⟩ = some (.int .u32 (Q j)) ∧ w.cell? ⟨lb, off + j * 4 + 3, none⟩ = some (.int .i64 (T j))
theorem Deeds.below {w w' : World} {a : Option Addr} {len : Nat} {K P : Nat → Int} {Q : Nat → Nat} {T : Nat → Int} (h : Deeds w a len K P Q T) (hb : Below w.heap.size w w') : Deeds w' a len K P Q T := by
  rcases h with h | ⟨lb, off, rfl, hlb, hc⟩
  · exact .inl h
  · refine .inr ⟨lb, off, rfl, Nat.lt_of_lt_of_le hlb hb.size, fun j hj => ?_⟩
    obtain ⟨q1, q2, q3, q4⟩ := hc j hj
    exact ⟨(hb.cell (p := ⟨lb, off + j * 4, none⟩) hlb).trans q1, (hb.cell (p := ⟨lb, off + j * 4 + 1, none⟩) hlb).trans q2, (hb.cell (p := ⟨lb, off + j * 4 + 2, none⟩) hlb).trans q3, (hb.cell (p := ⟨lb, off + j * 4 + 3, none⟩) hlb).trans q4⟩

section
variable {H : Type} {enc : TypeId × Value → H} {w : World} {base : Nat} {spare : Nat → Bool} {held : Bool}
theorem cellsDeed : Try.prog.cellsOf 31 = 4 := by kernel_rfl
theorem cellsId : Try.prog.cellsOf 28 = 2 := by kernel_rfl
theorem cellsInt : Try.prog.cellsOf 3 = 1 := by kernel_rfl
theorem cellsState : Try.prog.cellsOf 29 = 1 := by kernel_rfl
theorem cellsU32 : Try.prog.cellsOf 26 = 1 := by kernel_rfl
theorem id_cells {fuel : Nat} {c0 c1 : Value} {x : DataW H × List MemPlace} (h : DataW.trod enc Try.prog w base spare held fuel 28 [c0, c1] = some x) :
    ∃ (p : Int) (q : Nat), c0 = .int .i64 p ∧ c1 = .int .u32 (q : Int) ∧ (Lit.int .i64 p).wf = true ∧ q < 4294967296 := by
  obtain ⟨y0, y1, n, _, _, h0, h1⟩ := trod_struct2 Try.underlying28 h
  obtain ⟨p, e0, _, w0⟩ := DataW.trod_int Try.underlying3 (by simpa [cellsInt] using h0)
  obtain ⟨q, e1, _, w1⟩ := DataW.trod_int Try.underlying26 (by simpa [cellsU32] using h1)
  simp at e0 e1
  have hz : 0 ≤ q ∧ q < 4294967296 := by
    simp [Lit.wf, IntKind.min, IntKind.max, IntKind.bits, IntKind.signed] at w1
    omega
  exact ⟨p, q.toNat, e0, by rw [e1, Int.toNat_of_nonneg hz.1], w0, by omega⟩
theorem deed_cells {fuel : Nat} {c0 c1 c2 c3 : Value} {x : DataW H × List MemPlace} (h : DataW.trod enc Try.prog w base spare held fuel 31 [c0, c1, c2, c3] = some x) :
    ∃ (k p : Int) (q : Nat) (s : Int), c0 = .int .i64 k ∧ c1 = .int .i64 p ∧ c2 = .int .u32 (q : Int) ∧ c3 = .int .i64 s ∧ (Lit.int .i64 k).wf = true ∧ (Lit.int .i64 p).wf = true ∧ q < 4294967296 ∧ (Lit.int .i64 s).wf = true := by
  obtain ⟨y0, y1, y2, n, _, _, h0, h1, h2⟩ := trod_struct3 Try.underlying31 h
  obtain ⟨k, e0, _, w0⟩ := DataW.trod_int Try.underlying3 (by simpa [cellsInt] using h0)
  obtain ⟨p, q, e1, e2, w1, w2⟩ := id_cells (c0 := c1) (c1 := c2) (by simpa [cellsId] using h1)
  obtain ⟨s, e3, _, w3⟩ := DataW.trod_int Try.underlying29 (by simpa [cellsState] using h2)
  simp at e0 e3
  exact ⟨k, p, q, s, e0, e1, e2, e3, w0, w1, w2, w3⟩
theorem open_id {r : Reach} {b0 : Nat} {v : Value} {d : DataW H} {p : List MemPlace} (hv : Value.okWide Try.prog w r b0 28 v) (h : DataW.Trod enc Try.prog w base spare held 28 v d p) :
    ∃ (p : Int) (q : Nat), v = .agg #[.int .i64 p, .int .u32 (q : Int)] ∧ (Lit.int .i64 p).wf = true ∧ q < 4294967296 := by
  obtain ⟨cs, rfl, hsz⟩ := okWide_struct Try.underlying28 hv
  rw [cellsId] at hsz
  obtain ⟨l⟩ := cs
  match l, hsz with
  | [c0, c1], _ =>
    obtain ⟨fuel, hf⟩ := h
    obtain ⟨p, q, rfl, rfl, w0, w1⟩ := id_cells (c0 := c0) (c1 := c1) (by simpa [Value.cells] using hf)
    exact ⟨p, q, rfl, w0, w1⟩
theorem open_deed {r : Reach} {b0 : Nat} {v : Value} {d : DataW H} {p : List MemPlace} (hv : Value.okWide Try.prog w r b0 31 v) (h : DataW.Trod enc Try.prog w base spare held 31 v d p) :
    ∃ (k p : Int) (q : Nat) (s : Int), v = .agg #[.int .i64 k, .int .i64 p, .int .u32 (q : Int), .int .i64 s] ∧ (Lit.int .i64 k).wf = true ∧ (Lit.int .i64 p).wf = true ∧ q < 4294967296 ∧ (Lit.int .i64 s).wf = true := by
  obtain ⟨cs, rfl, hsz⟩ := okWide_struct Try.underlying31 hv
  rw [cellsDeed] at hsz
  obtain ⟨l⟩ := cs
  match l, hsz with
  | [c0, c1, c2, c3], _ =>
    obtain ⟨fuel, hf⟩ := h
    obtain ⟨k, p, q, s, rfl, rfl, rfl, rfl, w0, w1, w2, w3⟩ := deed_cells (c0 := c0) (c1 := c1) (c2 := c2) (c3 := c3) (by simpa [Value.cells] using hf)
    exact ⟨k, p, q, s, rfl, w0, w1, w2, w3⟩
theorem open_deeds {fuel : Nat} {a : Option Addr} {len cap : Nat} {x : DataW H × List MemPlace}
    (h : DataW.trod enc Try.prog w base spare held fuel 22 (Value.slice a len cap).cells.toList = some x) : len < 9223372036854775808 ∧ ∃ (K P : Nat → Int) (Q : Nat → Nat) (T : Nat → Int), Deeds w a len K P Q T := by
  rcases open_slice Try.underlying22 h with ⟨hcs, _⟩ | ⟨a', len', cap', m, n, D, Pl, hcs, hbb, hl, hm, hmm, hx, hel⟩
  · simp [Value.cells] at hcs
    obtain ⟨rfl, rfl, rfl⟩ := hcs
    exact ⟨by omega, fun _ => 0, fun _ => 0, fun _ => 0, fun _ => 0, .inl rfl⟩
  · simp [Value.cells] at hcs
    obtain ⟨rfl, rfl, rfl⟩ := hcs
    have hlm : len ≤ m := by rw [hmm]; split <;> omega
    refine ⟨by unfold maxLen at hm; omega, ?_⟩
    have hone : ∀ i, i < len → ∃ r : Int × Int × Nat × Int, w.cell? (a'.add (i * 4)) = some (.int .i64 r.1) ∧ w.cell? ((a'.add (i * 4)).add 1) = some (.int .i64 r.2.1) ∧ w.cell? ((a'.add (i * 4)).add 2) = some (.int .u32 r.2.2.1) ∧ w.cell? ((a'.add (i * 4)).add 3) = some (.int .i64 r.2.2.2) := by
      intro i hi'
      obtain ⟨cs', h1, h2⟩ := hel i (by omega)
      rw [cellsDeed] at h1
      obtain ⟨_, hlen, hc⟩ := World.cells?_some h1
      match cs', hlen with
      | [c0, c1, c2, c3], _ =>
        obtain ⟨k, p, q, s, rfl, rfl, rfl, rfl, _⟩ := deed_cells h2
        have a0 := hc 0 (by omega)
        have az : ∀ x : Addr, x.add 0 = x := fun x => by unfold Addr.add; split <;> simp_all
        rw [az] at a0
        exact ⟨(k, p, q, s), a0, hc 1 (by omega), hc 2 (by omega), hc 3 (by omega)⟩
    obtain ⟨f, hf⟩ := choose_lt hone
    refine ⟨fun i => (f i).1, fun i => (f i).2.1, fun i => (f i).2.2.1, fun i => (f i).2.2.2, ?_⟩
    by_cases h0 : len = 0
    · exact .inl h0
    · right
      obtain ⟨b, off, spot⟩ := a'
      have hspot : spot = none := by
        have := World.cell?_spot (hf 0 (by omega)).1
        simpa [Addr.add] using this
      subst hspot
      have hlt : b < w.heap.size := by
        have := World.block_lt_of_cell? w _ (hf 0 (by omega)).1
        simpa [Addr.add] using this
      refine ⟨b, off, rfl, hlt, fun i hi' => ?_⟩
      obtain ⟨q1, q2, q3, q4⟩ := hf i hi'
      simp only [Go.WideShapes.add_plain] at q1 q2 q3 q4
      exact ⟨q1, q2, q3, q4⟩
end
end Go.Proofs.Ytfhnepoegdhjmaa
