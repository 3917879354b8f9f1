/-
  What comes in: a deed, some deeds; the walk of 'play'.
-/
import Derived.Test.YtfadckkebfgheaaY15
import Derived.ProofKit
import Derived.OpenShut
import Derived.RowKit3
import Derived.Laws.IdiomArrays
import Derived.WideShapes
import Derived.ChangeOld
import Derived.Deep.Strs
import Derived.Deep.Slices
namespace Go.Proofs.Ytfadckkebfgheaa
open Go.RowKit Go.Lib Go.Deep Go.ChangeShapes Go.WideShapes Go.ChangeAt
set_option linter.unusedVariables false

theorem choose_lt' {n : Nat} {α : Type} [Inhabited α] {p : Nat → α → Prop} (h : ∀ i, i < n → ∃ x, p i x) : ∃ f : Nat → α, ∀ i, i < n → p i (f i) :=
  ⟨fun i => if hi : i < n then (h i hi).choose else default, fun i hi => by simp only [dif_pos hi]; exact (h i hi).choose_spec⟩
/-- A deed. -/
structure Dq where
  k : Int
  i : Int
  e : Bool
  d : Int
  l : Int
deriving Inhabited
def Dq.ok (x : Dq) : Prop := (Lit.int .u64 x.d).wf = true ∧ (Lit.int .u8 x.l).wf = true
def Dq.ky (x : Dq) : Ke.K := ⟨x.e, x.d, x.l⟩
theorem Dq.ok.k {x : Dq} (h : x.ok) : x.ky.ok := by
  have h1 := bounds_u64 h.1
  have h2 := bounds_u8 h.2
  simp only [Ke.K.ok, Dq.ky]
  omega
def Dqs (w : World) (a : Option Addr) (len : Nat) (D : Nat → Dq) : Prop :=
  len = 0 ∨ ∃ lb off, a = some ⟨lb, off, none⟩ ∧ lb < w.heap.size ∧ ∀ j, j < len → (D j).ok ∧ w.cell? ⟨lb, off + j * 5, none⟩ = some (.int .i64 (D j).k) ∧ w.cell? ⟨lb, off + j * 5 + 1, none⟩ = some (.int .i64 (D j).i) ∧ w.cell? ⟨lb, off + j * 5 + 2, none⟩ = some (.bool (D j).e) ∧ w.cell? ⟨lb, off + j * 5 + 3, none⟩ = some (.int .u64 (D j).d) ∧ w.cell? ⟨lb, off + j * 5 + 4, none⟩ = some (.int .u8 (D j).l)
theorem Dqs.below {w w' : World} {a : Option Addr} {len : Nat} {D : Nat → Dq} (h : Dqs w a len D) (hb : Below w.heap.size w w') : Dqs w' a len D := by
  rcases h with h | ⟨lb, off, rfl, hlb, hc⟩
  · exact .inl h
  · refine .inr ⟨lb, off, rfl, Nat.lt_of_lt_of_le hlb hb.size, fun j hj => ?_⟩
    obtain ⟨h0, h1, h2, h3, h4, h5⟩ := hc j hj
    exact ⟨h0, (hb.cell (p := ⟨lb, _, none⟩) hlb).trans h1, (hb.cell (p := ⟨lb, _, none⟩) hlb).trans h2, (hb.cell (p := ⟨lb, _, none⟩) hlb).trans h3, (hb.cell (p := ⟨lb, _, none⟩) hlb).trans h4, (hb.cell (p := ⟨lb, _, none⟩) hlb).trans h5⟩
section
variable {H : Type} {enc : TypeId × Value → H} {w : World} {base : Nat} {spare : Nat → Bool} {held : Bool}
theorem cellsDeed : Try.prog.cellsOf 41 = 5 := by kernel_rfl
theorem cellsI : Try.prog.cellsOf 3 = 1 := by kernel_rfl
theorem deed_cells {fuel : Nat} {c0 c1 c2 c3 c4 : Value} {x : DataW H × List MemPlace} (h : DataW.trod enc Try.prog w base spare held fuel 41 [c0, c1, c2, c3, c4] = some x) :
    ∃ d : Dq, d.ok ∧ c0 = .int .i64 d.k ∧ c1 = .int .i64 d.i ∧ c2 = .bool d.e ∧ c3 = .int .u64 d.d ∧ c4 = .int .u8 d.l := by
  obtain ⟨xs, n, _, _, _, hl, hf⟩ := DataW.trod_struct Try.underlying41 h
  match xs, hl with
  | [y0, y1, y2], _ =>
    obtain ⟨z0, e0, _, w0⟩ := DataW.trod_int Try.underlying3 (by simpa [cellsI] using hf 0 _ rfl)
    obtain ⟨z1, e1, _, w1⟩ := DataW.trod_int Try.underlying3 (by simpa [cellsI] using hf 1 _ rfl)
    obtain ⟨e, d, l, rfl, rfl, rfl, w2, w3⟩ := Ke.key_cells (c0 := c2) (c1 := c3) (c2 := c4) (by simpa [Ke.cellsKey] using hf 2 _ rfl)
    simp at e0 e1
    exact ⟨⟨z0, z1, e, d, l⟩, ⟨w2, w3⟩, e0, e1, rfl, rfl, rfl⟩
set_option maxRecDepth 100000 in
theorem open_deed {r : Reach} {b0 : Nat} {v : Value} {d : DataW H} {p : List MemPlace} (hv : Value.okWide Try.prog w r b0 41 v) (h : DataW.Trod enc Try.prog w base spare held 41 v d p) :
    ∃ x : Dq, v = .agg #[.int .i64 x.k, .int .i64 x.i, .bool x.e, .int .u64 x.d, .int .u8 x.l] ∧ x.ok := by
  obtain ⟨cs, rfl, hsz⟩ := okWide_struct Try.underlying41 hv
  rw [cellsDeed] at hsz
  obtain ⟨l⟩ := cs
  match l, hsz with
  | [c0, c1, c2, c3, c4], _ =>
    obtain ⟨fuel, hf⟩ := h
    obtain ⟨x, hx, rfl, rfl, rfl, rfl, rfl⟩ := deed_cells (c0 := c0) (c1 := c1) (c2 := c2) (c3 := c3) (c4 := c4) (by simpa [Value.cells] using hf)
    exact ⟨x, rfl, hx⟩
theorem open_deeds {fuel : Nat} {a : Option Addr} {len cap : Nat} {x : DataW H × List MemPlace}
    (h : DataW.trod enc Try.prog w base spare held fuel 22 (Value.slice a len cap).cells.toList = some x) : len < 9223372036854775808 ∧ len ≤ cap ∧ cap < 9223372036854775808 ∧ ∃ D, Dqs w a len D := by
  rcases open_slice Try.underlying22 h with ⟨hcs, _⟩ | ⟨a', len', cap', m, n, D, Pl, hcs, hbb, hl, hm, hmm, hx, hel⟩
  · simp [Value.cells] at hcs
    obtain ⟨rfl, rfl, rfl⟩ := hcs
    exact ⟨by omega, by omega, by omega, fun _ => default, .inl rfl⟩
  · simp [Value.cells] at hcs
    obtain ⟨rfl, rfl, rfl⟩ := hcs
    have hlm : len ≤ m := by rw [hmm]; split <;> omega
    refine ⟨by unfold maxLen at hm; omega, hl, by unfold maxLen at hm; omega, ?_⟩
    have hone : ∀ i, i < len → ∃ r : Dq, r.ok ∧ w.cell? (a'.add (i * 5)) = some (.int .i64 r.k) ∧ w.cell? ((a'.add (i * 5)).add 1) = some (.int .i64 r.i) ∧ w.cell? ((a'.add (i * 5)).add 2) = some (.bool r.e) ∧ w.cell? ((a'.add (i * 5)).add 3) = some (.int .u64 r.d) ∧ w.cell? ((a'.add (i * 5)).add 4) = some (.int .u8 r.l) := by
      intro i hi'
      obtain ⟨cs', h1, h2⟩ := hel i (by omega)
      rw [cellsDeed] at h1
      obtain ⟨_, hlen, hc⟩ := World.cells?_some h1
      match cs', hlen with
      | [c0, c1, c2, c3, c4], _ =>
        obtain ⟨d, hd, rfl, rfl, rfl, rfl, rfl⟩ := deed_cells h2
        have a0 := hc 0 (by omega)
        have az : ∀ x : Addr, x.add 0 = x := fun x => by unfold Addr.add; split <;> simp_all
        rw [az] at a0
        exact ⟨d, hd, a0, hc 1 (by omega), hc 2 (by omega), hc 3 (by omega), hc 4 (by omega)⟩
    obtain ⟨f, hf⟩ := choose_lt' hone
    refine ⟨f, ?_⟩
    by_cases h0 : len = 0
    · exact .inl h0
    · right
      obtain ⟨b, off, spot⟩ := a'
      have hspot : spot = none := by
        have := World.cell?_spot (hf 0 (by omega)).2.1
        simpa [Addr.add] using this
      subst hspot
      have hlt : b < w.heap.size := by
        have := World.block_lt_of_cell? w _ (hf 0 (by omega)).2.1
        simpa [Addr.add] using this
      refine ⟨b, off, rfl, hlt, fun i hi' => ?_⟩
      obtain ⟨q0, q1, q2, q3, q4, q5⟩ := hf i hi'
      simp only [Go.WideShapes.add_plain] at q1 q2 q3 q4 q5
      exact ⟨q0, q1, q2, q3, q4, q5⟩
end


theorem do_ok (w : World) (base sb qb gq hb gh rb n most turn : Nat) (v : Value) (M : List En) (h : Both w base sb qb gq hb gh rb n most turn v M) (ht : turn ≤ 1000) (x : Dq) (hx : x.ok) :
    Calls Try.prog 23 #[.pointer (some ⟨sb, 0, none⟩), .pointer (some ⟨rb, 0, none⟩), .agg #[.int .i64 x.k, .int .i64 x.i, .bool x.e, .int .u64 x.d, .int .u8 x.l]] w fun e w' => e = .returned (.bool true) ∧ (∃ t v' M', t ≤ turn + 1 ∧ Both w' base sb qb gq hb gh rb n most t v' M') ∧ Fr (fun k => OwnS sb qb gq hb gh k ∨ k = rb) w w' := by
  obtain ⟨x0, x1, xe, xd, xl⟩ := x
  have key : ∀ (M' : List En), Calls Try.prog 23 #[.pointer (some ⟨sb, 0, none⟩), .pointer (some ⟨rb, 0, none⟩), .agg #[.int .i64 x0, .int .i64 x1, .bool xe, .int .u64 xd, .int .u8 xl]] w (fun e w' => e = .returned (.bool true) ∧ (∃ t v', t ≤ turn + 1 ∧ Both w' base sb qb gq hb gh rb n most t v' M') ∧ Fr (fun k => OwnS sb qb gq hb gh k ∨ k = rb) w w') → Calls Try.prog 23 #[.pointer (some ⟨sb, 0, none⟩), .pointer (some ⟨rb, 0, none⟩), .agg #[.int .i64 x0, .int .i64 x1, .bool xe, .int .u64 xd, .int .u8 xl]] w (fun e w' => e = .returned (.bool true) ∧ (∃ t v' M', t ≤ turn + 1 ∧ Both w' base sb qb gq hb gh rb n most t v' M') ∧ Fr (fun k => OwnS sb qb gq hb gh k ∨ k = rb) w w') := by
    intro M' hc
    refine hc.mono ?_
    rintro e w' ⟨he, ⟨t, v', q1, q2⟩, hf⟩
    exact ⟨he, ⟨t, v', M', q1, q2⟩, hf⟩
  by_cases h0 : x0 = 0
  · subst h0; exact key _ (do_put w _ _ _ _ _ _ _ _ _ turn v M h ht x1 ⟨xe, xd, xl⟩ hx.k)
  by_cases h1 : x0 = 1
  · subst h1; exact key _ (do_change w _ _ _ _ _ _ _ _ _ turn v M h ht x1 ⟨xe, xd, xl⟩ hx.k)
  by_cases h2 : x0 = 2
  · subst h2; exact key _ (do_remove w _ _ _ _ _ _ _ _ _ turn v M h ht x1 ⟨xe, xd, xl⟩ hx.k)
  by_cases h3 : x0 = 3
  · subst h3; exact key _ (do_take w _ _ _ _ _ _ _ _ _ turn v M h x1 ⟨xe, xd, xl⟩)
  exact key _ (do_other w _ _ _ _ _ _ _ _ _ turn v M h x0 x1 ⟨xe, xd, xl⟩ h0 h1 h2 h3)

/-- What play leaves: both sets, in blocks of their own. -/
def Played (w : World) (most : Nat) (e : Ending) (w' : World) : Prop :=
  ∃ (base sb qb gq hb gh rb turn : Nat) (v : Value) (M : List En), e = .returned (.tuple #[.pointer (some ⟨sb, 0, none⟩), .pointer (some ⟨rb, 0, none⟩), .bool true]) ∧ (∀ k, OwnS sb qb gq hb gh k → w.heap.size ≤ k) ∧ w.heap.size ≤ rb ∧ w.heap.size ≤ base ∧ turn ≤ 80 ∧ Both w' base sb qb gq hb gh rb 10 most turn v M ∧ Below w.heap.size w w'
theorem rem10 (n : Nat) : Int.tmod (n : Int) 10 = ((n % 10 : Nat) : Int) := by
  rw [Int.tmod_eq_emod_of_nonneg (by omega)]
  omega
set_option maxHeartbeats 4000000 in
theorem play_ok (w : World) (m : Nat) (hm : m < 256) (a : Option Addr) (len cap : Nat) (hlen : len < 9223372036854775808) (D : Nat → Dq) (hd : Dqs w a len D) :
    Calls Try.prog 11 #[.int .u8 m, .slice a len cap] w (Played w (m % 10 + 1)) := by
  have hr := rem10 m
  have HN := veil (new_isS 10 (m % 10 + 1) w (by omega) (by omega) (by omega) (by omega))
  have HR := veil (fun w' => Dc.rnew_ok 10 (m % 10 + 1) w' (by omega) (by omega) (by omega) (by omega))
  have hN12 : m % 10 < 10 := Nat.mod_lt _ (by decide)
  have HD := veil hd
  clear hd
  generalize m % 10 = N at *
  go_enter Try.func11, Try.ntmps11
  go_wp2_with (first
    | (go_at_call 26; refine (HN.out).mono ?_; rintro e w1 ⟨sb, qb, gq, hb, gh, rfl, ho, hq, hb'⟩; have HQ := veil hq; have HB := veil hb'; have HO := veil ho; clear hq hb' ho)
    | (go_at_call 30; refine (HR.out _).mono ?_; rintro e w2 ⟨rfl, hr1, hb1⟩; have HR1 := veil hr1; have HB1 := veil hb1; clear hr1 hb1))
  have HB2 : Hid (Both w2 w1.heap.size sb qb gq hb gh w1.heap.size 10 (N + 1) 0 (.slice none 0 0) []) :=
    ⟨HQ.out.below HB1.out, HR1.out, HQ.out.blocks, fun k hk e => by have := HQ.out.blocks k hk; omega⟩
  have HL : Hid (Below w.heap.size w w2) := HB.out.trans (HB1.out.mono HB.out.size)
  have h12 : w.heap.size ≤ w1.heap.size := HB.out.size
  clear HQ HR1 HB HB1 HN HR
  go_loopw [9] (fun i wr => ∃ (j turn : Nat) (v : Value) (M : List En), j ≤ len ∧ j ≤ 80 ∧ turn ≤ j ∧ i = .int .i64 j ∧ Both wr w1.heap.size sb qb gq hb gh w1.heap.size 10 (N + 1) turn v M ∧ Below w.heap.size w wr) (fun i _ => len - (intOf i).toNat)
  case atStart => exact ⟨0, 0, _, _, by omega, by omega, by omega, rfl, HB2.out, HL.out⟩
  case round =>
    obtain ⟨j, turn, v, M, hj, hj1, hjt, rfl, hB, hbel⟩ := hrel
    by_cases hjl : j < len
    · have hjl' : (j : Int) < (len : Int) := by omega
      by_cases hj2 : j < 80
      · rcases HD.out with h0 | ⟨lb, off, rfl, hlb, hc⟩
        · omega
        · obtain ⟨hok, z2, z3, z4, z5, z6⟩ := hc j hjl
          have y2 := (hbel.cell (p := ⟨lb, off + j * 5, none⟩) hlb).trans z2
          have y3 := (hbel.cell (p := ⟨lb, off + j * 5 + 1, none⟩) hlb).trans z3
          have y4 := (hbel.cell (p := ⟨lb, off + j * 5 + 2, none⟩) hlb).trans z4
          have y5 := (hbel.cell (p := ⟨lb, off + j * 5 + 3, none⟩) hlb).trans z5
          have y6 := (hbel.cell (p := ⟨lb, off + j * 5 + 4, none⟩) hlb).trans z6
          have HDO := veil (do_ok wr _ _ _ _ _ _ _ _ _ turn v M hB (by omega) (D j) hok)
          have HS := veil (fun w'' hf => hB.step (w'' := w'') (Nat.le_refl _) hbel HO.out h12 hf)
          clear hc z2 z3 z4 z5 z6 hB hbel
          go_wp2_with (go_at_call 23; refine (HDO.out).mono ?_; rintro e w3 ⟨rfl, hb3, hf3⟩; have HB3 := veil hb3; have HF3 := veil (HS.out _ hf3); clear hb3 hf3)
          go_roundw
          case rel =>
            obtain ⟨t', v', M', ht', hb'⟩ := HB3.out
            exact ⟨j + 1, t', v', M', by omega, by omega, by omega, by go_num, hb', HF3.out⟩
          case measure => simp [intOf]; omega
      · have HB4 := veil hB
        have HL4 := veil hbel
        clear hB hbel
        go_wp2
        go_ret3
        exact ⟨_, _, _, _, _, _, _, turn, v, M, rfl, HO.out, h12, h12, by omega, HB4.out, HL4.out⟩
    · have HB4 := veil hB
      have HL4 := veil hbel
      have hjl' : ¬ (j : Int) < (len : Int) := by omega
      clear hB hbel
      go_wp2
      go_ret3
      exact ⟨_, _, _, _, _, _, _, turn, v, M, rfl, HO.out, h12, h12, by omega, HB4.out, HL4.out⟩
end Go.Proofs.Ytfadckkebfgheaa
