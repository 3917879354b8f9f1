/- Both wheels: do, same, live. -/
import Derived.Test.YtjmbadadelelfaaWc5
namespace Go.Proofs.Ytjmbadadelelfaa
open Go.RowKit Go.Lib
set_option linter.unusedVariables false
set_option linter.unusedSimpArgs false
attribute [local go_sem ↓] Go.wp_at_zero Go.wp_at_succ
/-- Both wheels hold S at nw: the program's in blocks from lo up to base, the document's from base on. -/
structure Bth (w : World) (lo base b g mb rb n nw : Nat) (S : List It) : Prop where
  p : IsW w b g mb n nw S
  r : DW w base rb n nw S
  lt : ∀ k, O3 b g mb k → lo ≤ k ∧ k < base
  lo : lo ≤ base
section
variable {w w1 w2 : World} {lo base b g mb rb n nw nw' q : Nat} {S S' : List It}
theorem Bth.below (h : Bth w lo base b g mb rb n nw S) (hb : Below w.heap.size w w1) : Bth w1 lo base b g mb rb n nw S := ⟨h.p.below hb, h.r.below hb, h.lt, h.lo⟩
/-- The program's call, then the document's. -/
theorem join2 (hr : DWq w base q rb n nw S) (hlt : ∀ k, O3 b g mb k → lo ≤ k ∧ k < base) (hlo : lo ≤ base) (hsz : lo ≤ w.heap.size) (hf : Fr (O3 b g mb) w w1) :
    DWq w1 base q rb n nw S ∧ ∀ w2, IsW w1 b g mb n nw' S' → DW w2 base rb n nw' S' → Fr (fun k => base ≤ k ∧ k < q) w1 w2 → Bth w2 lo base b g mb rb n nw' S' ∧ Below lo w w2 := by
  refine ⟨hr.frame hf (fun k hk _ q => by have := (hlt k q).2; omega), fun w2 hW hD hf2 => ⟨⟨hW.frame hf2 (fun k hk q => by have := (hlt k hk).2; omega), hD, hlt, hlo⟩, ?_⟩⟩
  refine ⟨hf2.os.trans hf.os, hf2.tape.trans hf.tape, hf2.output.trans hf.output, Nat.le_trans hf.size hf2.size, fun k hk => ?_⟩
  exact (hf2.block k (by have := hf.size; omega) (fun q => by omega)).trans (hf.block k (by omega) (fun q => by have := (hlt k q).1; omega))
end
section
variable (w : World) (lo base b g mb rb n nw : Nat) (S : List It)
set_option maxHeartbeats 4000000 in
set_option maxRecDepth 100000 in
theorem do_set (h : Bth w lo base b g mb rb n nw S) (m : Nat) (hS : Sorts m) (hnm : n ≤ m) (i : Int) (t : Nat) (ht : t < 18446744073709551616) :
    Calls Try.prog 24 #[.pointer (some ⟨b, 0, none⟩), .pointer (some ⟨rb, 0, none⟩), .agg #[.int .i64 0, .int .i64 i, .int .u64 (t : Int)]] w fun e w' => e = .returned (.bool true) ∧ (∃ nw' S', Bth w' lo base b g mb rb n nw' S') ∧ Below lo w w' := by
  have hlow : lo ≤ w.heap.size := by have := (h.lt b (.inl rfl)).1; have := h.p.blocks b (.inl rfl); omega
  have HW := veil (fun W (hb : Below w.heap.size w W) => h.p.below hb)
  have HQ := veil (fun W (hb : Below w.heap.size w W) => h.r.toq.frame (Z := fun _ => False) (Fr.of_below' hb) (fun _ _ _ => id))
  have HLT := veil h.lt
  have hlob := h.lo
  have hn24 : n ≤ 1024 := h.p.facts.2.2.2.2.2.2
  have HSL := veil h.p.facts.2.2.2.2.2.1
  have HB0 : Hid (Below w.heap.size w (w.alloc (.cells #[.int .i64 0, .int .i64 i, .int .u64 (t : Int)] 44)).drew) := ((Below.refl _ _).alloc (Nat.le_refl _) _).drew
  have HBX : Hid ((fun w' => w'.cell? ⟨w.heap.size, 1, none⟩ = some (.int .i64 i) ∧ w'.cell? ⟨w.heap.size, 2, none⟩ = some (.int .u64 (t : Int))) (w.alloc (.cells #[.int .i64 0, .int .i64 i, .int .u64 (t : Int)] 44)).drew) := ⟨cell_new _ _ _ 1, cell_new _ _ _ 2⟩
  have HFX : Hid (∀ W1 W2 (Z : Nat → Prop), w.heap.size < W1.heap.size → (fun w' => w'.cell? ⟨w.heap.size, 1, none⟩ = some (.int .i64 i) ∧ w'.cell? ⟨w.heap.size, 2, none⟩ = some (.int .u64 (t : Int))) W1 → Fr Z W1 W2 → ¬ Z w.heap.size → (fun w' => w'.cell? ⟨w.heap.size, 1, none⟩ = some (.int .i64 i) ∧ w'.cell? ⟨w.heap.size, 2, none⟩ = some (.int .u64 (t : Int))) W2) := fun W1 W2 Z hsz h1 hf hz => ⟨(hf.cell (a := ⟨w.heap.size, 1, none⟩) hsz hz).trans h1.1, (hf.cell (a := ⟨w.heap.size, 2, none⟩) hsz hz).trans h1.2⟩
  have NA : Hid (¬ O3 b g mb w.heap.size) := fun q => by have := h.p.blocks _ q; omega
  have NB : Hid (¬ (base ≤ w.heap.size ∧ w.heap.size < w.heap.size)) := fun q => by omega
  have hsz0 : w.heap.size < (w.alloc (.cells #[.int .i64 0, .int .i64 i, .int .u64 (t : Int)] 44)).drew.heap.size := by simp
  clear h
  go_enter Try.func24, Try.ntmps24
  go_wp2
  go_region_held3 (fun w' => w'.cell? ⟨w.heap.size, 1, none⟩ = some (.int .i64 i) ∧ w'.cell? ⟨w.heap.size, 2, none⟩ = some (.int .u64 (t : Int)))
    (first
      | exact HBX.out
      | exact HK1.out
      | exact HK2.out
      | exact HK3.out
      | go_keep)
    (first
      | (go_at_call 21; refine (set_ok (HW.out _ HB0.out) i t ht).mono ?_; rintro e w1 ⟨rfl, hw1, hf1⟩; have HF1 := veil hf1; have HK1 := veil (HFX.out _ _ _ hsz0 HBX.out hf1 NA.out); have HW1 := veil hw1; have hsz1 := hf1.size; clear hw1 hf1)
      | (go_at_call 48; refine (DWq.set (join2 (nw' := nw) (S' := S) (HQ.out _ HB0.out) HLT.out hlob (Nat.le_trans hlow HB0.out.size) HF1.out).1 i t ht).mono ?_; rintro e w2 ⟨rfl, hd2, hf2⟩; have HK2 := veil (HFX.out _ _ _ (Nat.lt_of_lt_of_le hsz0 hsz1) HK1.out hf2 NB.out); have HX := veil ((join2 (HQ.out _ HB0.out) HLT.out hlob (Nat.le_trans hlow HB0.out.size) HF1.out).2 w2 HW1.out hd2 hf2); clear hd2 hf2))
  go_wp2
  go_ret
  exact ⟨by simp, ⟨_, _, HX.out.1⟩, (HB0.out.mono hlow).trans HX.out.2⟩
set_option maxHeartbeats 4000000 in
set_option maxRecDepth 100000 in
theorem do_cancel (h : Bth w lo base b g mb rb n nw S) (m : Nat) (hS : Sorts m) (hnm : n ≤ m) (i : Int) (t : Nat) (ht : t < 18446744073709551616) :
    Calls Try.prog 24 #[.pointer (some ⟨b, 0, none⟩), .pointer (some ⟨rb, 0, none⟩), .agg #[.int .i64 1, .int .i64 i, .int .u64 (t : Int)]] w fun e w' => e = .returned (.bool true) ∧ (∃ nw' S', Bth w' lo base b g mb rb n nw' S') ∧ Below lo w w' := by
  have hlow : lo ≤ w.heap.size := by have := (h.lt b (.inl rfl)).1; have := h.p.blocks b (.inl rfl); omega
  have HW := veil (fun W (hb : Below w.heap.size w W) => h.p.below hb)
  have HQ := veil (fun W (hb : Below w.heap.size w W) => h.r.toq.frame (Z := fun _ => False) (Fr.of_below' hb) (fun _ _ _ => id))
  have HLT := veil h.lt
  have hlob := h.lo
  have hn24 : n ≤ 1024 := h.p.facts.2.2.2.2.2.2
  have HSL := veil h.p.facts.2.2.2.2.2.1
  have HB0 : Hid (Below w.heap.size w (w.alloc (.cells #[.int .i64 1, .int .i64 i, .int .u64 (t : Int)] 44)).drew) := ((Below.refl _ _).alloc (Nat.le_refl _) _).drew
  have HBX : Hid ((fun w' => w'.cell? ⟨w.heap.size, 1, none⟩ = some (.int .i64 i) ∧ w'.cell? ⟨w.heap.size, 2, none⟩ = some (.int .u64 (t : Int))) (w.alloc (.cells #[.int .i64 1, .int .i64 i, .int .u64 (t : Int)] 44)).drew) := ⟨cell_new _ _ _ 1, cell_new _ _ _ 2⟩
  have HFX : Hid (∀ W1 W2 (Z : Nat → Prop), w.heap.size < W1.heap.size → (fun w' => w'.cell? ⟨w.heap.size, 1, none⟩ = some (.int .i64 i) ∧ w'.cell? ⟨w.heap.size, 2, none⟩ = some (.int .u64 (t : Int))) W1 → Fr Z W1 W2 → ¬ Z w.heap.size → (fun w' => w'.cell? ⟨w.heap.size, 1, none⟩ = some (.int .i64 i) ∧ w'.cell? ⟨w.heap.size, 2, none⟩ = some (.int .u64 (t : Int))) W2) := fun W1 W2 Z hsz h1 hf hz => ⟨(hf.cell (a := ⟨w.heap.size, 1, none⟩) hsz hz).trans h1.1, (hf.cell (a := ⟨w.heap.size, 2, none⟩) hsz hz).trans h1.2⟩
  have NA : Hid (¬ O3 b g mb w.heap.size) := fun q => by have := h.p.blocks _ q; omega
  have NB : Hid (¬ (base ≤ w.heap.size ∧ w.heap.size < w.heap.size)) := fun q => by omega
  have hsz0 : w.heap.size < (w.alloc (.cells #[.int .i64 1, .int .i64 i, .int .u64 (t : Int)] 44)).drew.heap.size := by simp
  clear h
  go_enter Try.func24, Try.ntmps24
  go_wp2
  go_region_held3 (fun w' => w'.cell? ⟨w.heap.size, 1, none⟩ = some (.int .i64 i) ∧ w'.cell? ⟨w.heap.size, 2, none⟩ = some (.int .u64 (t : Int)))
    (first
      | exact HBX.out
      | exact HK1.out
      | exact HK2.out
      | exact HK3.out
      | go_keep)
    (first
      | (go_at_call 22; refine (cancel_ok (HW.out _ HB0.out) i).mono ?_; rintro e w1 ⟨rfl, hw1, hf1⟩; have HF1 := veil hf1; have HK1 := veil (HFX.out _ _ _ hsz0 HBX.out hf1 NA.out); have HW1 := veil hw1; have hsz1 := hf1.size; clear hw1 hf1)
      | (go_at_call 49; refine (DWq.cancel (join2 (nw' := nw) (S' := S) (HQ.out _ HB0.out) HLT.out hlob (Nat.le_trans hlow HB0.out.size) HF1.out).1 i).mono ?_; rintro e w2 ⟨rfl, hd2, hf2⟩; have HK2 := veil (HFX.out _ _ _ (Nat.lt_of_lt_of_le hsz0 hsz1) HK1.out hf2 NB.out); have HX := veil ((join2 (HQ.out _ HB0.out) HLT.out hlob (Nat.le_trans hlow HB0.out.size) HF1.out).2 w2 HW1.out hd2 hf2); clear hd2 hf2))
  go_wp2
  go_ret
  exact ⟨by simp, ⟨_, _, HX.out.1⟩, (HB0.out.mono hlow).trans HX.out.2⟩
set_option maxHeartbeats 4000000 in
set_option maxRecDepth 100000 in
theorem do_advance (h : Bth w lo base b g mb rb n nw S) (m : Nat) (hS : Sorts m) (hnm : n ≤ m) (i : Int) (t : Nat) (ht : t < 18446744073709551616) :
    Calls Try.prog 24 #[.pointer (some ⟨b, 0, none⟩), .pointer (some ⟨rb, 0, none⟩), .agg #[.int .i64 2, .int .i64 i, .int .u64 (t : Int)]] w fun e w' => e = .returned (.bool true) ∧ (∃ nw' S', Bth w' lo base b g mb rb n nw' S') ∧ Below lo w w' := by
  have hlow : lo ≤ w.heap.size := by have := (h.lt b (.inl rfl)).1; have := h.p.blocks b (.inl rfl); omega
  have HW := veil (fun W (hb : Below w.heap.size w W) => h.p.below hb)
  have HQ := veil (fun W (hb : Below w.heap.size w W) => h.r.toq.frame (Z := fun _ => False) (Fr.of_below' hb) (fun _ _ _ => id))
  have HLT := veil h.lt
  have hlob := h.lo
  have hn24 : n ≤ 1024 := h.p.facts.2.2.2.2.2.2
  have HSL := veil h.p.facts.2.2.2.2.2.1
  have HB0 : Hid (Below w.heap.size w (w.alloc (.cells #[.int .i64 2, .int .i64 i, .int .u64 (t : Int)] 44)).drew) := ((Below.refl _ _).alloc (Nat.le_refl _) _).drew
  have HBX : Hid ((fun w' => w'.cell? ⟨w.heap.size, 1, none⟩ = some (.int .i64 i) ∧ w'.cell? ⟨w.heap.size, 2, none⟩ = some (.int .u64 (t : Int))) (w.alloc (.cells #[.int .i64 2, .int .i64 i, .int .u64 (t : Int)] 44)).drew) := ⟨cell_new _ _ _ 1, cell_new _ _ _ 2⟩
  have HFX : Hid (∀ W1 W2 (Z : Nat → Prop), w.heap.size < W1.heap.size → (fun w' => w'.cell? ⟨w.heap.size, 1, none⟩ = some (.int .i64 i) ∧ w'.cell? ⟨w.heap.size, 2, none⟩ = some (.int .u64 (t : Int))) W1 → Fr Z W1 W2 → ¬ Z w.heap.size → (fun w' => w'.cell? ⟨w.heap.size, 1, none⟩ = some (.int .i64 i) ∧ w'.cell? ⟨w.heap.size, 2, none⟩ = some (.int .u64 (t : Int))) W2) := fun W1 W2 Z hsz h1 hf hz => ⟨(hf.cell (a := ⟨w.heap.size, 1, none⟩) hsz hz).trans h1.1, (hf.cell (a := ⟨w.heap.size, 2, none⟩) hsz hz).trans h1.2⟩
  have NA : Hid (¬ O3 b g mb w.heap.size) := fun q => by have := h.p.blocks _ q; omega
  have NB : Hid (¬ (base ≤ w.heap.size ∧ w.heap.size < w.heap.size)) := fun q => by omega
  have hsz0 : w.heap.size < (w.alloc (.cells #[.int .i64 2, .int .i64 i, .int .u64 (t : Int)] 44)).drew.heap.size := by simp
  clear h
  go_enter Try.func24, Try.ntmps24
  go_wp2
  go_region_held3 (fun w' => w'.cell? ⟨w.heap.size, 1, none⟩ = some (.int .i64 i) ∧ w'.cell? ⟨w.heap.size, 2, none⟩ = some (.int .u64 (t : Int)))
    (first
      | exact HBX.out
      | exact HK1.out
      | exact HK2.out
      | exact HK3.out
      | go_keep)
    (first
      | (go_at_call 16; refine (advance_ok (HW.out _ HB0.out) m hS hnm t ht).mono ?_; rintro e w1 ⟨⟨v1, rfl, ho1⟩, hw1, hf1⟩; obtain ⟨a1, c1, rfl⟩ := own_slice ho1; have HF1 := veil hf1; have HO1 := veil ho1; have HK1 := veil (HFX.out _ _ _ hsz0 HBX.out hf1 NA.out); have HW1 := veil hw1; have hsz1 := hf1.size; clear hw1 hf1 ho1)
      | (go_at_call 50; refine (DWq.advance (join2 (nw' := nw) (S' := S) (HQ.out _ HB0.out) HLT.out hlob (Nat.le_trans hlow HB0.out.size) HF1.out).1 t).mono ?_; rintro e w2 ⟨⟨v2, rfl, ho2⟩, hd2, hf2⟩; obtain ⟨a2, c2, rfl⟩ := own_slice ho2; have HO2 := veil ho2; have HO1b := veil (own_kept HO1.out (fun k hk => hf2.block k (own_ge HO1.out hk).2 (fun q => by have := (own_ge HO1.out hk).1; omega))); have HK2 := veil (HFX.out _ _ _ (Nat.lt_of_lt_of_le hsz0 hsz1) HK1.out hf2 NB.out); have HX := veil ((join2 (HQ.out _ HB0.out) HLT.out hlob (Nat.le_trans hlow HB0.out.size) HF1.out).2 w2 HW1.out hd2 hf2); have HX2s := veil hf2.size; clear hd2 hf2 ho2)
      | (go_at_call 26; (have hh := HX.out; clear hh); refine (same_yes _ _ _ _ _ (idl (due (max t nw) S)) (by rw [idl_len]; have := (List.length_filter_le (fun x : It => decide (x.t ≤ max t nw)) S); have := HSL.out; unfold due; omega) (by have := IL_of HO1b.out; exact this) (by have := IL_of HO2.out; exact this)).mono ?_; rintro e w3 ⟨rfl, q, hq⟩; have HX3 : Hid (Below w2.heap.size w2 w3) := (by rw [hq]; exact (Below.refl _ _).drewN q); have HK3 := veil (HFX.out _ _ (fun _ => False) (Nat.lt_of_lt_of_le (Nat.lt_of_lt_of_le hsz0 hsz1) HX2s.out) HK2.out (Fr.of_below' HX3.out) id); clear hq))
  go_wp2
  go_ret
  exact ⟨by simp, ⟨_, _, HX.out.1.below HX3.out⟩, ((HB0.out.mono hlow).trans HX.out.2).trans (HX3.out.mono (Nat.le_trans hlow (Nat.le_trans HB0.out.size HX.out.2.size)))⟩
theorem do_other (h : Bth w lo base b g mb rb n nw S) (k i : Int) (t : Nat) (h0 : ¬ k = 0) (h1 : ¬ k = 1) (h2 : ¬ k = 2) :
    Calls Try.prog 24 #[.pointer (some ⟨b, 0, none⟩), .pointer (some ⟨rb, 0, none⟩), .agg #[.int .i64 k, .int .i64 i, .int .u64 (t : Int)]] w fun e w' => e = .returned (.bool true) ∧ (∃ nw' S', Bth w' lo base b g mb rb n nw' S') ∧ Below lo w w' := by
  have hlow : lo ≤ w.heap.size := by have := (h.lt b (.inl rfl)).1; have := h.p.blocks b (.inl rfl); omega
  have HA := veil (h.below ((Below.refl _ _).alloc (Nat.le_refl _) (.cells #[.int .i64 k, .int .i64 i, .int .u64 (t : Int)] 44)))
  clear h
  go_enter Try.func24, Try.ntmps24
  go_wp2
  go_ret
  exact ⟨rfl, ⟨nw, S, HA.out⟩, (Below.refl _ _).alloc hlow _⟩
theorem do_ok (h : Bth w lo base b g mb rb n nw S) (m : Nat) (hS : Sorts m) (hnm : n ≤ m) (k i : Int) (t : Nat) (ht : t < 18446744073709551616) :
    Calls Try.prog 24 #[.pointer (some ⟨b, 0, none⟩), .pointer (some ⟨rb, 0, none⟩), .agg #[.int .i64 k, .int .i64 i, .int .u64 (t : Int)]] w fun e w' => e = .returned (.bool true) ∧ (∃ nw' S', Bth w' lo base b g mb rb n nw' S') ∧ Below lo w w' := by
  by_cases h0 : k = 0
  · subst h0; exact do_set w lo base b g mb rb n nw S h m hS hnm i t ht
  by_cases h1 : k = 1
  · subst h1; exact do_cancel w lo base b g mb rb n nw S h m hS hnm i t ht
  by_cases h2 : k = 2
  · subst h2; exact do_advance w lo base b g mb rb n nw S h m hS hnm i t ht
  exact do_other w lo base b g mb rb n nw S h k i t h0 h1 h2
set_option maxHeartbeats 4000000 in
set_option maxRecDepth 100000 in
theorem same_ok (h : Bth w lo base b g mb rb n nw S) (id : Int) :
    Calls Try.prog 13 #[.pointer (some ⟨b, 0, none⟩), .pointer (some ⟨rb, 0, none⟩), .int .i64 id] w fun e w' => e = .returned (.bool true) ∧ Below w.heap.size w w' := by
  have HB := veil (fun W (hb : Below w.heap.size w W) => h.below hb)
  clear h
  generalize hx : atT n S id = xa at *
  generalize hy : atB n S id = xb at *
  generalize hz : nxT S = xc at *
  generalize hu : nxB S = xd at *
  have HA : Hid (∀ W, Below w.heap.size w W → Calls Try.prog 17 #[.pointer (some ⟨b, 0, none⟩), .int .i64 id] W fun e w' => e = .returned (.tuple #[.int .u64 (xa : Int), .bool xb]) ∧ Below W.heap.size W w') := fun W hb => by have := at_ok (HB.out W hb).p id; rw [hx, hy] at this; exact this
  have HA2 : Hid (∀ W, Below w.heap.size w W → Calls Try.prog 34 #[.pointer (some ⟨rb, 0, none⟩), .int .i64 id] W fun e w' => e = .returned (.tuple #[.int .u64 (xa : Int), .bool xb]) ∧ w' = W) := fun W hb => by have := (HB.out W hb).r.at id; rw [hx, hy] at this; exact this
  have HN : Hid (∀ W, Below w.heap.size w W → Calls Try.prog 19 #[.pointer (some ⟨b, 0, none⟩)] W fun e w' => e = .returned (.tuple #[.int .u64 (xc : Int), .bool xd]) ∧ Below W.heap.size W w') := fun W hb => by have := next_ok (HB.out W hb).p; rw [hz, hu] at this; exact this
  have HN2 : Hid (∀ W, Below w.heap.size w W → Calls Try.prog 35 #[.pointer (some ⟨rb, 0, none⟩)] W fun e w' => e = .returned (.tuple #[.int .u64 (xc : Int), .bool xd]) ∧ Below W.heap.size W w') := fun W hb => by have := (HB.out W hb).r.next; rw [hz, hu] at this; exact this
  have HO := veil (fun W (hb : Below w.heap.size w W) => now_ok (HB.out W hb).p)
  have HO2 := veil (fun W (hb : Below w.heap.size w W) => (HB.out W hb).r.now)
  have HE := veil (fun W (hb : Below w.heap.size w W) => len_ok (HB.out W hb).p)
  have HE2 := veil (fun W (hb : Below w.heap.size w W) => (HB.out W hb).r.len)
  clear hx hy hz hu HB
  generalize S.length = L at *
  go_enter Try.func13, Try.ntmps13
  go_wp2_with (first
    | (go_at_call 17; refine (HA.out _ (Below.refl _ _)).mono ?_; rintro e w1 ⟨rfl, hb⟩; have HB1 := veil hb; clear hb)
    | (go_at_call 34; refine (HA2.out _ HB1.out).mono ?_; rintro e wx ⟨rfl, hw⟩; replace hw := hw.symm; subst hw)
    | (go_at_call 19; refine (HN.out _ HB1.out).mono ?_; rintro e w2 ⟨rfl, hb⟩; have HB2 := veil (HB1.out.trans (hb.mono HB1.out.size)); clear hb)
    | (go_at_call 35; refine (HN2.out _ HB2.out).mono ?_; rintro e w3 ⟨rfl, hb⟩; have HB3 := veil (HB2.out.trans (hb.mono HB2.out.size)); clear hb)
    | (go_at_call 18; refine (HO.out _ HB3.out).mono ?_; rintro e wx ⟨rfl, hw⟩; replace hw := hw.symm; subst hw)
    | (go_at_call 36; refine (HO2.out _ HB3.out).mono ?_; rintro e wx ⟨rfl, hw⟩; replace hw := hw.symm; subst hw)
    | (go_at_call 15; refine (HE.out _ HB3.out).mono ?_; rintro e wx ⟨rfl, hw⟩; replace hw := hw.symm; subst hw)
    | (go_at_call 37; refine (HE2.out _ HB3.out).mono ?_; rintro e wx ⟨rfl, hw⟩; replace hw := hw.symm; subst hw))
  go_ret
  exact ⟨by simp, HB3.out⟩
end
end Go.Proofs.Ytjmbadadelelfaa
