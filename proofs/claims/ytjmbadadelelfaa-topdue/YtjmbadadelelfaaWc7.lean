/- What comes in: a deed, some deeds; play; live. -/
import Derived.Test.YtjmbadadelelfaaWc6
import Derived.ProofKit
import Derived.OpenShut
import Derived.RowKit3
import Derived.Laws.IdiomArrays
import Derived.WideShapes
import Derived.ChangeOld
import Derived.Deep.Strs
import Derived.Deep.Slices
namespace Go.Proofs.Ytjmbadadelelfaa
open Go.RowKit Go.Lib Go.Deep Go.ChangeShapes Go.WideShapes Go.ChangeAt
set_option linter.unusedVariables false
set_option linter.unusedSimpArgs false
set_option maxRecDepth 100000
attribute [local go_sem ↓] Go.wp_at_zero Go.wp_at_succ
theorem choose_lt' {n : Nat} {α : Type} [Inhabited α] {p : Nat → α → Prop} (h : ∀ i, i < n → ∃ x, p i x) : ∃ f : Nat → α, ∀ i, i < n → p i (f i) :=
  ⟨fun i => if hi : i < n then (h i hi).choose else default, fun i hi => by simp only [dif_pos hi]; exact (h i hi).choose_spec⟩
/-- A deed. -/
structure Dd where
  k : Int
  i : Int
  t : Nat
deriving Inhabited
def Dd.ok (x : Dd) : Prop := (-9223372036854775808 ≤ x.i ∧ x.i ≤ 9223372036854775807) ∧ x.t < 18446744073709551616
def Dds (w : World) (a : Option Addr) (len : Nat) (D : Nat → Dd) : Prop :=
  len = 0 ∨ ∃ lb off, a = some ⟨lb, off, none⟩ ∧ lb < w.heap.size ∧ ∀ j, j < len → (D j).ok ∧ w.cell? ⟨lb, off + j * 3, none⟩ = some (.int .i64 (D j).k) ∧ w.cell? ⟨lb, off + j * 3 + 1, none⟩ = some (.int .i64 (D j).i) ∧ w.cell? ⟨lb, off + j * 3 + 2, none⟩ = some (.int .u64 ((D j).t : Int))
theorem Dds.below {w w' : World} {a : Option Addr} {len : Nat} {D : Nat → Dd} (h : Dds w a len D) (hb : Below w.heap.size w w') : Dds w' a len D := by
  rcases h with h | ⟨lb, off, rfl, hlb, hc⟩
  · exact .inl h
  · refine .inr ⟨lb, off, rfl, Nat.lt_of_lt_of_le hlb hb.size, fun j hj => ?_⟩
    obtain ⟨h0, h1, h2, h3⟩ := hc j hj
    exact ⟨h0, (hb.cell (p := ⟨lb, _, none⟩) hlb).trans h1, (hb.cell (p := ⟨lb, _, none⟩) hlb).trans h2, (hb.cell (p := ⟨lb, _, none⟩) hlb).trans h3⟩
theorem nat_of {z : Int} (h : (Lit.int .u64 z).wf = true) : ∃ n : Nat, z = n ∧ n < 18446744073709551616 := ⟨z.toNat, by have := bounds_u64 h; omega, by have := bounds_u64 h; omega⟩
section
variable {H : Type} {enc : TypeId × Value → H} {w : World} {base : Nat} {spare : Nat → Bool} {held : Bool}
theorem cellsDeed : Try.prog.cellsOf 44 = 3 := by kernel_rfl
theorem cellsU64 : Try.prog.cellsOf 30 = 1 := by kernel_rfl
theorem cellsI : Try.prog.cellsOf 3 = 1 := by kernel_rfl
theorem deed_cells {fuel : Nat} {c0 c1 c2 : Value} {x : DataW H × List MemPlace} (h : DataW.trod enc Try.prog w base spare held fuel 44 [c0, c1, c2] = some x) :
    ∃ d : Dd, d.ok ∧ c0 = .int .i64 d.k ∧ c1 = .int .i64 d.i ∧ c2 = .int .u64 (d.t : Int) := by
  obtain ⟨xs, n, _, _, _, hl, hf⟩ := DataW.trod_struct Try.underlying44 h
  match xs, hl with
  | [y0, y1, y2], _ =>
    obtain ⟨z0, e0, _, w0⟩ := DataW.trod_int Try.underlying3 (by simpa [cellsI] using hf 0 _ rfl)
    obtain ⟨z1, e1, _, w1⟩ := DataW.trod_int Try.underlying3 (by simpa [cellsI] using hf 1 _ rfl)
    obtain ⟨z2, e2, _, w2⟩ := DataW.trod_int Try.underlying30 (by simpa [cellsU64] using hf 2 _ rfl)
    simp at e0 e1 e2
    obtain ⟨n2, rfl, q2⟩ := nat_of w2
    exact ⟨⟨z0, z1, n2⟩, ⟨bounds_i64 w1, q2⟩, e0, e1, e2⟩
theorem open_deed {r : Reach} {b0 : Nat} {v : Value} {d : DataW H} {p : List MemPlace} (hv : Value.okWide Try.prog w r b0 44 v) (h : DataW.Trod enc Try.prog w base spare held 44 v d p) :
    ∃ x : Dd, v = .agg #[.int .i64 x.k, .int .i64 x.i, .int .u64 (x.t : Int)] ∧ x.ok := by
  obtain ⟨cs, rfl, hsz⟩ := okWide_struct Try.underlying44 hv
  rw [cellsDeed] at hsz
  obtain ⟨l⟩ := cs
  match l, hsz with
  | [c0, c1, c2], _ =>
    obtain ⟨fuel, hf⟩ := h
    obtain ⟨x, hx, rfl, rfl, rfl⟩ := deed_cells (c0 := c0) (c1 := c1) (c2 := c2) (by simpa [Value.cells] using hf)
    exact ⟨x, rfl, hx⟩
theorem open_deeds {fuel : Nat} {a : Option Addr} {len cap : Nat} {x : DataW H × List MemPlace}
    (h : DataW.trod enc Try.prog w base spare held fuel 22 (Value.slice a len cap).cells.toList = some x) : len < 9223372036854775808 ∧ len ≤ cap ∧ cap < 9223372036854775808 ∧ ∃ D, Dds w a len D := by
  rcases open_slice Try.underlying22 h with ⟨hcs, _⟩ | ⟨a', len', cap', m, n, D, Pl, hcs, hbb, hl, hm, hmm, hx, hel⟩
  · simp [Value.cells] at hcs
    obtain ⟨rfl, rfl, rfl⟩ := hcs
    exact ⟨by omega, by omega, by omega, fun _ => default, .inl rfl⟩
  · simp [Value.cells] at hcs
    obtain ⟨rfl, rfl, rfl⟩ := hcs
    have hlm : len ≤ m := by rw [hmm]; split <;> omega
    refine ⟨by unfold maxLen at hm; omega, hl, by unfold maxLen at hm; omega, ?_⟩
    have hone : ∀ i, i < len → ∃ r : Dd, r.ok ∧ w.cell? (a'.add (i * 3)) = some (.int .i64 r.k) ∧ w.cell? ((a'.add (i * 3)).add 1) = some (.int .i64 r.i) ∧ w.cell? ((a'.add (i * 3)).add 2) = some (.int .u64 (r.t : Int)) := by
      intro i hi'
      obtain ⟨cs', h1, h2⟩ := hel i (by omega)
      rw [cellsDeed] at h1
      obtain ⟨_, hlen, hc⟩ := World.cells?_some h1
      match cs', hlen with
      | [c0, c1, c2], _ =>
        obtain ⟨d, hd, rfl, rfl, rfl⟩ := deed_cells h2
        have a0 := hc 0 (by omega)
        have az : ∀ x : Addr, x.add 0 = x := fun x => by unfold Addr.add; split <;> simp_all
        rw [az] at a0
        exact ⟨d, hd, a0, hc 1 (by omega), hc 2 (by omega)⟩
    obtain ⟨f, hf⟩ := choose_lt' hone
    refine ⟨f, ?_⟩
    by_cases h0 : len = 0
    · exact .inl h0
    · right
      obtain ⟨b, off, spot⟩ := a'
      have hspot : spot = none := by
        have := World.cell?_spot (hf 0 (by omega)).2.1
        simpa [Addr.add] using this
      subst hspot
      have hlt : b < w.heap.size := by
        have := World.block_lt_of_cell? w _ (hf 0 (by omega)).2.1
        simpa [Addr.add] using this
      refine ⟨b, off, rfl, hlt, fun i hi' => ?_⟩
      obtain ⟨q0, q1, q2, q3⟩ := hf i hi'
      simp only [Go.WideShapes.add_plain] at q1 q2 q3
      exact ⟨q0, q1, q2, q3⟩
end

/-- What play leaves: both wheels, in blocks of their own. -/
def Played (w : World) (n : Nat) (e : Ending) (w' : World) : Prop :=
  ∃ (base b g mb rb nw : Nat) (S : List It), e = .returned (.tuple #[.pointer (some ⟨b, 0, none⟩), .pointer (some ⟨rb, 0, none⟩), .bool true]) ∧ Bth w' w.heap.size base b g mb rb n nw S ∧ Below w.heap.size w w'
theorem rem12 (n : Nat) : Int.tmod (n : Int) 12 = ((n % 12 : Nat) : Int) := by
  rw [Int.tmod_eq_emod_of_nonneg (by omega)]
  omega
theorem rnew_DW (n : Nat) (w : World) (h1 : 1 ≤ n) (h2 : n ≤ 1024) :
    Calls Try.prog 33 #[.int .i64 n] w fun e w' => ∃ rb, e = .returned (.pointer (some ⟨rb, 0, none⟩)) ∧ DW w' w.heap.size rb n 0 [] ∧ Below w.heap.size w w' := by
  refine (rnew_ok n w h1 h2).mono ?_
  rintro e w' ⟨rfl, hr, hb⟩
  exact ⟨_, rfl, ⟨_, _, hr, rfl, Nat.le_refl _⟩, hb⟩
set_option maxHeartbeats 4000000 in
set_option maxRecDepth 100000 in
theorem play_ok (w : World) (m : Nat) (hm : m < 256) (a : Option Addr) (len cap : Nat) (hlen : len < 9223372036854775808) (D : Nat → Dd) (hd : Dds w a len D) :
    Calls Try.prog 11 #[.int .u8 m, .slice a len cap] w (Played w (m % 12 + 1)) := by
  have hr := rem12 m
  have HN := veil (new_isW (m % 12 + 1) w (by omega) (by omega))
  have HR := veil (fun w' => rnew_DW (m % 12 + 1) w' (by omega) (by omega))
  have hN12 : m % 12 < 12 := Nat.mod_lt _ (by decide)
  have HD := veil hd
  clear hd
  generalize m % 12 = N at *
  go_enter Try.func11, Try.ntmps11
  go_wp2_with (first
    | (go_at_call 25; refine (HN.out).mono ?_; rintro e w1 ⟨b, g, mb, rfl, hlt, hq, hb⟩; have HQ := veil hq; have HB := veil hb; have HLT := veil hlt; clear hq hb hlt)
    | (go_at_call 33; refine (HR.out _).mono ?_; rintro e w2 ⟨rb, rfl, hr1, hb1⟩; have HR1 := veil hr1; have HB1 := veil hb1; clear hr1 hb1))
  have HB2 : Hid (Bth w2 w.heap.size w1.heap.size b g mb rb (N + 1) 0 []) := ⟨HQ.out.below HB1.out, HR1.out, HLT.out, HB.out.size⟩
  have HL : Hid (Below w.heap.size w w2) := HB.out.trans (HB1.out.mono HB.out.size)
  clear HQ HR1 HB HB1 HN HR HLT
  generalize w1.heap.size = base at *
  go_loopw [9] (fun i wr => ∃ (j nw : Nat) (S : List It), j ≤ len ∧ j ≤ 100 ∧ i = .int .i64 j ∧ Bth wr w.heap.size base b g mb rb (N + 1) nw S ∧ Below w.heap.size w wr) (fun i _ => len - (intOf i).toNat)
  case atStart => exact ⟨0, _, _, by omega, by omega, rfl, HB2.out, HL.out⟩
  case round =>
    obtain ⟨j, nw, S, hj, hj1, rfl, hB, hbel⟩ := hrel
    by_cases hjl : j < len
    · have hjl' : (j : Int) < (len : Int) := by omega
      by_cases hj2 : j < 100
      · rcases HD.out with h0 | ⟨lb, off, rfl, hlb, hc⟩
        · omega
        · obtain ⟨z1, z2, z3, z4⟩ := hc j hjl
          have y2 := (hbel.cell (p := ⟨lb, off + j * 3, none⟩) hlb).trans z2
          have y3 := (hbel.cell (p := ⟨lb, off + j * 3 + 1, none⟩) hlb).trans z3
          have y4 := (hbel.cell (p := ⟨lb, off + j * 3 + 2, none⟩) hlb).trans z4
          have HO := veil (do_ok wr _ _ _ _ _ _ _ _ _ hB 12 sorts12 (by omega) (D j).k (D j).i (D j).t z1.2)
          have HL4 := veil hbel
          clear hc z1 z2 z3 z4 hB hbel
          go_wp2_with (go_at_call 24; refine (HO.out).mono ?_; rintro e w3 ⟨rfl, hb3, hf3⟩; have HB3 := veil hb3; have HF3 := veil (HL4.out.trans hf3); clear hb3 hf3)
          go_roundw
          case rel =>
            obtain ⟨nw', S', hb'⟩ := HB3.out
            exact ⟨j + 1, nw', S', by omega, by omega, by go_num, hb', HF3.out⟩
          case measure => simp [intOf]; omega
      · have HB4 := veil hB
        have HL4 := veil hbel
        clear hB hbel
        go_wp2
        go_ret3
        exact ⟨_, _, _, _, _, _, _, rfl, HB4.out, HL4.out⟩
    · have HB4 := veil hB
      have HL4 := veil hbel
      have hjl' : ¬ (j : Int) < (len : Int) := by omega
      clear hB hbel
      go_wp2
      go_ret3
      exact ⟨_, _, _, _, _, _, _, rfl, HB4.out, HL4.out⟩
set_option maxHeartbeats 4000000 in
set_option maxRecDepth 100000 in
theorem live_ok (w : World) : Calls Try.prog 12 #[] w fun e w' => e = .returned (.bool true) ∧ Below w.heap.size w w' := by
  have HN : Hid (Calls Try.prog 25 #[.int .i64 4] w fun e w' => ∃ b g mb, e = .returned (.pointer (some ⟨b, 0, none⟩)) ∧ (∀ k, O3 b g mb k → w.heap.size ≤ k ∧ k < w'.heap.size) ∧ IsW w' b g mb 4 0 [] ∧ Below w.heap.size w w') := new_isW 4 w (by decide) (by decide)
  have HS1 : Hid (∀ W b g mb, IsW W b g mb 4 0 [] → Calls Try.prog 21 #[.pointer (some ⟨b, 0, none⟩), .int .i64 1, .int .u64 5] W fun e w' => e = .returned (.int .i64 0) ∧ IsW w' b g mb 4 0 [⟨1, 5⟩] ∧ Fr (O3 b g mb) W w') := fun W b g mb h => set_ok h 1 5 (by decide)
  have HS2 : Hid (∀ W b g mb, IsW W b g mb 4 0 [⟨1, 5⟩] → Calls Try.prog 21 #[.pointer (some ⟨b, 0, none⟩), .int .i64 2, .int .u64 3] W fun e w' => e = .returned (.int .i64 0) ∧ IsW w' b g mb 4 0 [⟨2, 3⟩, ⟨1, 5⟩] ∧ Fr (O3 b g mb) W w') := fun W b g mb h => set_ok h 2 3 (by decide)
  have HA : Hid (∀ W b g mb, IsW W b g mb 4 0 [⟨2, 3⟩, ⟨1, 5⟩] → Calls Try.prog 16 #[.pointer (some ⟨b, 0, none⟩), .int .u64 4] W fun e w' => (∃ v, e = .returned v ∧ w'.ownsRow W.heap.size 3 1 v 1 [.int .i64 2]) ∧ IsW w' b g mb 4 4 [⟨1, 5⟩] ∧ Fr (O3 b g mb) W w') := fun W b g mb h => advance_ok h 12 sorts12 (by decide) 4 (by decide)
  have HO := veil (fun W b g mb (h : IsW W b g mb 4 4 [⟨1, 5⟩]) => now_ok h)
  have HE : Hid (∀ W b g mb, IsW W b g mb 4 4 [⟨1, 5⟩] → Calls Try.prog 15 #[.pointer (some ⟨b, 0, none⟩)] W fun e w' => e = .returned (.int .i64 1) ∧ w' = W) := fun W b g mb h => len_ok h
  go_enter Try.func12, Try.ntmps12
  go_wp2_with (first
    | (go_at_call 25; refine (HN.out).mono ?_; rintro e w1 ⟨b, g, mb, rfl, hlt, hq, hb⟩; have HQ1 := veil hq; have HB1 := veil hb; have HLT := veil hlt; clear hq hb hlt)
    | (go_at_call 21; (have hh := HQ2.out; clear hh); refine (HS2.out _ _ _ _ HQ2.out).mono ?_; rintro e w3 ⟨rfl, hq, hf⟩; have HQ3 := veil hq; have HF3 := veil (HF2.out.trans hf); clear hq hf)
    | (go_at_call 21; refine (HS1.out _ _ _ _ HQ1.out).mono ?_; rintro e w2 ⟨rfl, hq, hf⟩; have HQ2 := veil hq; have HF2 := veil hf; clear hq hf)
    | (go_at_call 16; refine (HA.out _ _ _ _ HQ3.out).mono ?_; rintro e w4 ⟨⟨v, rfl, ho⟩, hq, hf⟩; obtain ⟨r, cap, rfl, _, _⟩ := World.ownsRow.form ho (by decide); have y0 : w4.cell? ⟨r, 0, none⟩ = some (.int .i64 2) := World.ownsRow.cellAt ho 0 (by decide); have HQ4 := veil hq; have HF4 := veil (HF3.out.trans hf); clear hq hf ho)
    | (go_at_call 18; refine (HO.out _ _ _ _ HQ4.out).mono ?_; rintro e wx ⟨rfl, hw⟩; replace hw := hw.symm; subst hw)
    | (go_at_call 15; refine (HE.out _ _ _ _ HQ4.out).mono ?_; rintro e wx ⟨rfl, hw⟩; replace hw := hw.symm; subst hw))
  go_ret
  refine ⟨by simp, ?_⟩
  exact HB1.out.trans (HF4.out.below HB1.out.size (fun k hk => (HLT.out k hk).1))
end Go.Proofs.Ytjmbadadelelfaa
