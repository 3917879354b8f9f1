/-
  What comes in: a deed, some deeds; the walk of 'play'.
-/
import Derived.Test.YtiledmfnhahmiaaH12
import Derived.ProofKit
import Derived.OpenShut
import Derived.RowKit3
import Derived.Laws.IdiomArrays
import Derived.WideShapes
import Derived.ChangeOld
import Derived.Deep.Strs
import Derived.Deep.Slices
namespace Go.Proofs.Ytiledmfnhahmiaa
open Go.RowKit Go.Lib Go.Deep Go.ChangeShapes Go.WideShapes Go.ChangeAt
theorem choose_lt' {n : Nat} {α : Type} [Inhabited α] {p : Nat → α → Prop} (h : ∀ i, i < n → ∃ x, p i x) : ∃ f : Nat → α, ∀ i, i < n → p i (f i) :=
  ⟨fun i => if hi : i < n then (h i hi).choose else default, fun i hi => by simp only [dif_pos hi]; exact (h i hi).choose_spec⟩
/-- A deed. -/
structure Dd where
  k : Int
  i : Int
  d : Nat
  s : Nat
deriving Inhabited
def Dd.ok (x : Dd) : Prop := (-9223372036854775808 ≤ x.i ∧ x.i ≤ 9223372036854775807) ∧ x.d < 18446744073709551616 ∧ x.s < 18446744073709551616
def Dds (w : World) (a : Option Addr) (len : Nat) (D : Nat → Dd) : Prop :=
  len = 0 ∨ ∃ lb off, a = some ⟨lb, off, none⟩ ∧ lb < w.heap.size ∧ ∀ j, j < len → (D j).ok ∧ w.cell? ⟨lb, off + j * 4, none⟩ = some (.int .i64 (D j).k) ∧ w.cell? ⟨lb, off + j * 4 + 1, none⟩ = some (.int .i64 (D j).i) ∧ w.cell? ⟨lb, off + j * 4 + 2, none⟩ = some (.int .u64 ((D j).d : Int)) ∧ w.cell? ⟨lb, off + j * 4 + 3, none⟩ = some (.int .u64 ((D j).s : Int))
theorem Dds.below {w w' : World} {a : Option Addr} {len : Nat} {D : Nat → Dd} (h : Dds w a len D) (hb : Below w.heap.size w w') : Dds w' a len D := by
  rcases h with h | ⟨lb, off, rfl, hlb, hc⟩
  · exact .inl h
  · refine .inr ⟨lb, off, rfl, Nat.lt_of_lt_of_le hlb hb.size, fun j hj => ?_⟩
    obtain ⟨h0, h1, h2, h3, h4⟩ := hc j hj
    exact ⟨h0, (hb.cell (p := ⟨lb, _, none⟩) hlb).trans h1, (hb.cell (p := ⟨lb, _, none⟩) hlb).trans h2, (hb.cell (p := ⟨lb, _, none⟩) hlb).trans h3, (hb.cell (p := ⟨lb, _, none⟩) hlb).trans h4⟩
theorem nat_of {z : Int} (h : (Lit.int .u64 z).wf = true) : ∃ n : Nat, z = n ∧ n < 18446744073709551616 := ⟨z.toNat, by have := bounds_u64 h; omega, by have := bounds_u64 h; omega⟩
section
variable {H : Type} {enc : TypeId × Value → H} {w : World} {base : Nat} {spare : Nat → Bool} {held : Bool}
theorem cellsDeed : Try.prog.cellsOf 40 = 4 := by kernel_rfl
theorem cellsU64 : Try.prog.cellsOf 33 = 1 := by kernel_rfl
theorem cellsI : Try.prog.cellsOf 3 = 1 := by kernel_rfl
theorem deed_cells {fuel : Nat} {c0 c1 c2 c3 : Value} {x : DataW H × List MemPlace} (h : DataW.trod enc Try.prog w base spare held fuel 40 [c0, c1, c2, c3] = some x) :
    ∃ d : Dd, d.ok ∧ c0 = .int .i64 d.k ∧ c1 = .int .i64 d.i ∧ c2 = .int .u64 (d.d : Int) ∧ c3 = .int .u64 (d.s : Int) := by
  obtain ⟨xs, n, _, _, _, hl, hf⟩ := DataW.trod_struct Try.underlying40 h
  match xs, hl with
  | [y0, y1, y2, y3], _ =>
    obtain ⟨z0, e0, _, w0⟩ := DataW.trod_int Try.underlying3 (by simpa [cellsI] using hf 0 _ rfl)
    obtain ⟨z1, e1, _, w1⟩ := DataW.trod_int Try.underlying3 (by simpa [cellsI] using hf 1 _ rfl)
    obtain ⟨z2, e2, _, w2⟩ := DataW.trod_int Try.underlying33 (by simpa [cellsU64] using hf 2 _ rfl)
    obtain ⟨z3, e3, _, w3⟩ := DataW.trod_int Try.underlying33 (by simpa [cellsU64] using hf 3 _ rfl)
    simp at e0 e1 e2 e3
    obtain ⟨n2, rfl, q2⟩ := nat_of w2
    obtain ⟨n3, rfl, q3⟩ := nat_of w3
    exact ⟨⟨z0, z1, n2, n3⟩, ⟨bounds_i64 w1, q2, q3⟩, e0, e1, e2, e3⟩
theorem open_deed {r : Reach} {b0 : Nat} {v : Value} {d : DataW H} {p : List MemPlace} (hv : Value.okWide Try.prog w r b0 40 v) (h : DataW.Trod enc Try.prog w base spare held 40 v d p) :
    ∃ x : Dd, v = .agg #[.int .i64 x.k, .int .i64 x.i, .int .u64 (x.d : Int), .int .u64 (x.s : Int)] ∧ x.ok := by
  obtain ⟨cs, rfl, hsz⟩ := okWide_struct Try.underlying40 hv
  rw [cellsDeed] at hsz
  obtain ⟨l⟩ := cs
  match l, hsz with
  | [c0, c1, c2, c3], _ =>
    obtain ⟨fuel, hf⟩ := h
    obtain ⟨x, hx, rfl, rfl, rfl, rfl⟩ := deed_cells (c0 := c0) (c1 := c1) (c2 := c2) (c3 := c3) (by simpa [Value.cells] using hf)
    exact ⟨x, rfl, hx⟩
theorem open_deeds {fuel : Nat} {a : Option Addr} {len cap : Nat} {x : DataW H × List MemPlace}
    (h : DataW.trod enc Try.prog w base spare held fuel 22 (Value.slice a len cap).cells.toList = some x) : len < 9223372036854775808 ∧ len ≤ cap ∧ cap < 9223372036854775808 ∧ ∃ D, Dds w a len D := by
  rcases open_slice Try.underlying22 h with ⟨hcs, _⟩ | ⟨a', len', cap', m, n, D, Pl, hcs, hbb, hl, hm, hmm, hx, hel⟩
  · simp [Value.cells] at hcs
    obtain ⟨rfl, rfl, rfl⟩ := hcs
    exact ⟨by omega, by omega, by omega, fun _ => default, .inl rfl⟩
  · simp [Value.cells] at hcs
    obtain ⟨rfl, rfl, rfl⟩ := hcs
    have hlm : len ≤ m := by rw [hmm]; split <;> omega
    refine ⟨by unfold maxLen at hm; omega, hl, by unfold maxLen at hm; omega, ?_⟩
    have hone : ∀ i, i < len → ∃ r : Dd, r.ok ∧ w.cell? (a'.add (i * 4)) = some (.int .i64 r.k) ∧ w.cell? ((a'.add (i * 4)).add 1) = some (.int .i64 r.i) ∧ w.cell? ((a'.add (i * 4)).add 2) = some (.int .u64 (r.d : Int)) ∧ w.cell? ((a'.add (i * 4)).add 3) = some (.int .u64 (r.s : Int)) := by
      intro i hi'
      obtain ⟨cs', h1, h2⟩ := hel i (by omega)
      rw [cellsDeed] at h1
      obtain ⟨_, hlen, hc⟩ := World.cells?_some h1
      match cs', hlen with
      | [c0, c1, c2, c3], _ =>
        obtain ⟨d, hd, rfl, rfl, rfl, rfl⟩ := deed_cells h2
        have a0 := hc 0 (by omega)
        have az : ∀ x : Addr, x.add 0 = x := fun x => by unfold Addr.add; split <;> simp_all
        rw [az] at a0
        exact ⟨d, hd, a0, hc 1 (by omega), hc 2 (by omega), hc 3 (by omega)⟩
    obtain ⟨f, hf⟩ := choose_lt' hone
    refine ⟨f, ?_⟩
    by_cases h0 : len = 0
    · exact .inl h0
    · right
      obtain ⟨b, off, spot⟩ := a'
      have hspot : spot = none := by
        have := World.cell?_spot (hf 0 (by omega)).2.1
        simpa [Addr.add] using this
      subst hspot
      have hlt : b < w.heap.size := by
        have := World.block_lt_of_cell? w _ (hf 0 (by omega)).2.1
        simpa [Addr.add] using this
      refine ⟨b, off, rfl, hlt, fun i hi' => ?_⟩
      obtain ⟨q0, q1, q2, q3, q4⟩ := hf i hi'
      simp only [Go.WideShapes.add_plain] at q1 q2 q3 q4
      exact ⟨q0, q1, q2, q3, q4⟩
end

/-- What play leaves: both heaps, in blocks of their own. -/
def Played (w : World) (n : Nat) (e : Ending) (w' : World) : Prop :=
  ∃ (b g rb base : Nat) (v : Value) (L : List Item), e = .returned (.tuple #[.pointer (some ⟨b, 0, none⟩), .pointer (some ⟨rb, 0, none⟩), .bool true]) ∧ w.heap.size ≤ b ∧ w.heap.size ≤ g ∧ w.heap.size ≤ rb ∧ w.heap.size ≤ base ∧ Both w' base b g rb n v L ∧ Below w.heap.size w w'
theorem rem16 (n : Nat) : Int.tmod (n : Int) 16 = ((n % 16 : Nat) : Int) := by
  rw [Int.tmod_eq_emod_of_nonneg (by omega)]
  omega
set_option maxHeartbeats 4000000 in
theorem play_ok (w : World) (m : Nat) (hm : m < 256) (a : Option Addr) (len cap : Nat) (hlen : len < 9223372036854775808) (D : Nat → Dd) (hd : Dds w a len D) :
    Calls Try.prog 11 #[.int .u8 m, .slice a len cap] w (Played w (m % 16 + 1)) := by
  have hr := rem16 m
  have HN := veil (hnew_ok (m % 16 + 1) w (by omega) (by omega))
  have HR := veil (fun w' => rnew_ok (m % 16 + 1) w' (by omega) (by omega))
  have hN12 : m % 16 < 16 := Nat.mod_lt _ (by decide)
  have HD := veil hd
  clear hd
  generalize m % 16 = N at *
  go_enter Try.func11, Try.ntmps11
  go_wp2_with (first
    | (go_at_call 26; refine (HN.out).mono ?_; rintro e w1 ⟨rfl, hq, hb⟩; have HQ := veil hq; have HB := veil hb; clear hq hb)
    | (go_at_call 27; refine (HR.out _).mono ?_; rintro e w2 ⟨rfl, hr1, hb1⟩; have HR1 := veil hr1; have HB1 := veil hb1; clear hr1 hb1))
  have HB2 : Hid (Both w2 w1.heap.size (w.heap.size + 1) w.heap.size w1.heap.size (N + 1) (.slice none 0 0) []) := by
    have hbl := HQ.out.blocks
    exact ⟨HQ.out.below HB1.out, HR1.out, hbl.1, hbl.2.1, by omega, by omega⟩
  have HL : Hid (Below w.heap.size w w2) := HB.out.trans (HB1.out.mono HB.out.size)
  have h12 : w.heap.size ≤ w1.heap.size := HB.out.size
  clear HQ HR1 HB HB1 HN HR
  go_loopw [9] (fun i wr => ∃ (j : Nat) (v : Value) (L : List Item), j ≤ len ∧ j ≤ 100 ∧ i = .int .i64 j ∧ Both wr w1.heap.size (w.heap.size + 1) w.heap.size w1.heap.size (N + 1) v L ∧ Below w.heap.size w wr) (fun i _ => len - (intOf i).toNat)
  case atStart => exact ⟨0, _, _, by omega, by omega, rfl, HB2.out, HL.out⟩
  case round =>
    obtain ⟨j, v, L, hj, hj1, rfl, hB, hbel⟩ := hrel
    by_cases hjl : j < len
    · have hjl' : (j : Int) < (len : Int) := by omega
      by_cases hj2 : j < 100
      · rcases HD.out with h0 | ⟨lb, off, rfl, hlb, hc⟩
        · omega
        · obtain ⟨_, z2, z3, z4, z5⟩ := hc j hjl
          have y2 := (hbel.cell (p := ⟨lb, off + j * 4, none⟩) hlb).trans z2
          have y3 := (hbel.cell (p := ⟨lb, off + j * 4 + 1, none⟩) hlb).trans z3
          have y4 := (hbel.cell (p := ⟨lb, off + j * 4 + 2, none⟩) hlb).trans z4
          have y5 := (hbel.cell (p := ⟨lb, off + j * 4 + 3, none⟩) hlb).trans z5
          have HO := veil (do_ok wr _ _ _ _ _ v L hB (D j).k (D j).i (D j).d (D j).s)
          have HS := veil (fun w'' hf => hB.step (w'' := w'') (Nat.le_refl _) hbel (by omega) (by omega) h12 hf)
          clear hc z2 z3 z4 z5 hB hbel
          go_wp2_with (go_at_call 25; refine (HO.out).mono ?_; rintro e w3 ⟨rfl, hb3, hf3⟩; have HB3 := veil hb3; have HF3 := veil (HS.out _ hf3); clear hb3 hf3)
          go_roundw
          case rel =>
            obtain ⟨v', L', hb'⟩ := HB3.out
            exact ⟨j + 1, v', L', by omega, by omega, by go_num, hb', HF3.out⟩
          case measure => simp [intOf]; omega
      · have HB4 := veil hB
        have HL4 := veil hbel
        clear hB hbel
        go_wp2
        go_ret3
        exact ⟨_, _, _, _, v, L, rfl, by omega, by omega, h12, h12, HB4.out, HL4.out⟩
    · have HB4 := veil hB
      have HL4 := veil hbel
      have hjl' : ¬ (j : Int) < (len : Int) := by omega
      clear hB hbel
      go_wp2
      go_ret3
      exact ⟨_, _, _, _, v, L, rfl, by omega, by omega, h12, h12, HB4.out, HL4.out⟩
end Go.Proofs.Ytiledmfnhahmiaa
