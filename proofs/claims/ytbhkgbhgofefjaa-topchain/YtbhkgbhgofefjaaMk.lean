/-
  What comes in: a key, three keys, two bytes.
  The calls of package key, and the document's, walked for any keys.
  Right, Max, Rank, less, live.
-/
import Derived.Test.YtbhkgbhgofefjaaChecked
import Derived.WalkKit
import Derived.ProofKit
import Derived.OpenShut
import Derived.RowKit3
import Derived.Lib.SmallJoins
import Derived.Laws.IdiomArrays
import Derived.WideShapes
import Derived.Deep.Strs
import Derived.Below
import Derived.Carry
import Derived.Deep.RegionHeld3
namespace Go.Proofs.Ytbhkgbhgofefjaa
open Go.ChangeShapes Go.WideShapes Go.ChangeAt Go.RowKit Go.Deep
set_option linter.unusedVariables false

def Hid (p : Prop) : Prop := p
theorem veil {p : Prop} (h : p) : Hid p := h
theorem Hid.out {p : Prop} (h : Hid p) : p := h

section
variable {H : Type} {enc : TypeId × Value → H} {w : World} {base : Nat} {spare : Nat → Bool} {held : Bool}
theorem cellsKey : Try.prog.cellsOf 36 = 3 := by kernel_rfl
theorem cellsTwo8 : Try.prog.cellsOf 56 = 2 := by kernel_rfl
theorem cellsU8 : Try.prog.cellsOf 5 = 1 := by kernel_rfl
theorem cellsU64 : Try.prog.cellsOf 34 = 1 := by kernel_rfl
theorem cellsBool : Try.prog.cellsOf 4 = 1 := by kernel_rfl
theorem key_cells {fuel : Nat} {c0 c1 c2 : Value} {x : DataW H × List MemPlace} (h : DataW.trod enc Try.prog w base spare held fuel 36 [c0, c1, c2] = some x) :
    ∃ (e : Bool) (d l : Int), c0 = .bool e ∧ c1 = .int .u64 d ∧ c2 = .int .u8 l ∧ (Lit.int .u64 d).wf = true ∧ (Lit.int .u8 l).wf = true := by
  obtain ⟨y0, y1, y2, n, _, _, h0, h1, h2⟩ := trod_struct3 Try.underlying36 h
  obtain ⟨e, e0, _⟩ := DataW.trod_bool Try.underlying4 (by simpa [cellsBool] using h0)
  obtain ⟨d, e1, _, w1⟩ := DataW.trod_int Try.underlying34 (by simpa [cellsU64] using h1)
  obtain ⟨l, e2, _, w2⟩ := DataW.trod_int Try.underlying5 (by simpa [cellsU8] using h2)
  simp at e0 e1 e2
  exact ⟨e, d, l, e0, e1, e2, w1, w2⟩
set_option maxRecDepth 100000 in
theorem open_key {r : Reach} {b0 : Nat} {v : Value} {d : DataW H} {p : List MemPlace} (hv : Value.okWide Try.prog w r b0 36 v) (h : DataW.Trod enc Try.prog w base spare held 36 v d p) :
    ∃ (e : Bool) (d l : Int), v = .agg #[.bool e, .int .u64 d, .int .u8 l] ∧ (Lit.int .u64 d).wf = true ∧ (Lit.int .u8 l).wf = true := by
  obtain ⟨cs, rfl, hsz⟩ := okWide_struct Try.underlying36 hv
  rw [cellsKey] at hsz
  obtain ⟨l⟩ := cs
  match l, hsz with
  | [c0, c1, c2], _ =>
    obtain ⟨fuel, hf⟩ := h
    obtain ⟨e, d, l, rfl, rfl, rfl, w0, w1⟩ := key_cells (c0 := c0) (c1 := c1) (c2 := c2) (by simpa [Value.cells] using hf)
    exact ⟨e, d, l, rfl, w0, w1⟩
theorem open_two8 {r : Reach} {b0 : Nat} {v : Value} {d : DataW H} {p : List MemPlace} (hv : Value.okWide Try.prog w r b0 56 v) (h : DataW.Trod enc Try.prog w base spare held 56 v d p) :
    ∃ (a b : Int), v = .agg #[.int .u8 a, .int .u8 b] ∧ (Lit.int .u8 a).wf = true ∧ (Lit.int .u8 b).wf = true := by
  obtain ⟨cs, rfl, hsz, _⟩ : ∃ cs, v = .agg cs ∧ cs.size = Try.prog.cellsOf 56 ∧ Row.okWide Try.prog w r b0 56 cs := by
    simpa [Value.okWide, Try.underlying56] using hv
  rw [cellsTwo8] at hsz
  obtain ⟨l⟩ := cs
  match l, hsz with
  | [c0, c1], _ =>
    obtain ⟨fuel, hf⟩ := h
    cases fuel with
    | zero => simp [DataW.trod] at hf
    | succ n =>
      unfold DataW.trod at hf
      rw [Try.underlying56] at hf
      have r2 : List.range 2 = [0, 1] := rfl
      simp [r2, cellsU8, Value.cells] at hf
      obtain ⟨_, hf⟩ := hf
      cases h0 : DataW.trod enc Try.prog w base spare held n 5 [c0] with
      | none => simp [h0] at hf
      | some y0 =>
        cases h1 : DataW.trod enc Try.prog w base spare held n 5 [c1] with
        | none => simp [h0, h1] at hf
        | some y1 =>
          obtain ⟨a, e0, _, w0⟩ := DataW.trod_int Try.underlying5 h0
          obtain ⟨b, e1, _, w1⟩ := DataW.trod_int Try.underlying5 h1
          simp at e0 e1
          subst e0 e1
          exact ⟨a, b, rfl, w0, w1⟩
end

end Go.Proofs.Ytbhkgbhgofefjaa

namespace Go.Proofs.Ytbhkgbhgofefjaa
open Go.ChangeShapes Go.WideShapes Go.ChangeAt Go.RowKit
set_option linter.unusedVariables false

/-- A key: Edf, Deadline, Level. -/
structure K where
  e : Bool
  d : Int
  l : Int
deriving DecidableEq
def K.ok (k : K) : Prop := (0 ≤ k.d ∧ k.d < 18446744073709551616) ∧ 0 ≤ k.l ∧ k.l < 256
def up (a b : K) : Bool := if a.e != b.e then a.e else if a.e then decide (a.d < b.d) else decide (b.l < a.l)
def fixK (l : Int) : K := ⟨false, 0, l⟩
def deadK (d : Int) : K := ⟨true, d, 0⟩
def rightK (k : K) : Bool := if k.e then k.l == 0 else k.d == 0
def maxK (a b : K) : K := if up b a then b else a
def same (a b : K) : Bool := a.e == b.e && a.d == b.d && a.l == b.l

@[go_sem] theorem buildFix (b : Int) (w : World) : (Instr.build 36 #[(2, .int .u8 b)]).run Try.prog w = .ok (.agg #[.bool false, .int .u64 0, .int .u8 b]) w := run_build w 36 _ _ (by kernel_rfl)
@[go_sem] theorem buildDead (e : Bool) (d : Int) (w : World) : (Instr.build 36 #[(0, .bool e), (1, .int .u64 d)]).run Try.prog w = .ok (.agg #[.bool e, .int .u64 d, .int .u8 0]) w := run_build w 36 _ _ (by kernel_rfl)
theorem eqAgg (e e' : Bool) (d d' l l' : Int) (w : World) : (Op.equalIn 10000 36 (.agg #[.bool e, .int .u64 d, .int .u8 l]) (.agg #[.bool e', .int .u64 d', .int .u8 l'])).run Try.prog w = .ok (e == e' && d == d' && l == l') w := by
  have u3 := Try.underlying34
  have a3 := Try.isAgg34
  have z3 := Try.sizeOf34
  have u4 := Try.underlying4
  have a4 := Try.isAgg4
  have z4 := Try.sizeOf4
  have u5 := Try.underlying5
  have a5 := Try.isAgg5
  have z5 := Try.sizeOf5
  have hS : Try.prog.underlying 36 = some (.struct (Try.prog.fieldsOf 36)) := by kernel_rfl
  rw [show (10000 : Nat) = 9999 + 1 from rfl, run_equalIn_agg w 9999 36 _ _ hS (by kernel_rfl)]
  simp only [Program.fieldsOf, Try.underlying36]
  go_simp
  by_cases h1 : e = e' <;> by_cases h2 : d = d' <;> by_cases h3 : l = l' <;> simp [h1, h2, h3]
@[go_sem high] theorem eqK (a b : K) (w : World) : (Op.equal 36 (.agg #[.bool a.e, .int .u64 a.d, .int .u8 a.l]) (.agg #[.bool b.e, .int .u64 b.d, .int .u8 b.l])).run Try.prog w = .ok (same a b) w := eqAgg _ _ _ _ _ _ w

@[go_sem high] theorem eqB (a b : K) (w : World) : (binOp .eql 36 (.agg #[.bool a.e, .int .u64 a.d, .int .u8 a.l]) (.agg #[.bool b.e, .int .u64 b.d, .int .u8 b.l])).run Try.prog w = .ok (.bool (same a b)) w := by
  simp [binOp, go_sem]

theorem below2 (w : World) (c c' : Array Value) (t t' : TypeId) : Below w.heap.size w ((w.alloc (.cells c t)).alloc (.cells c' t')) := ((Below.refl _ _).alloc (Nat.le_refl _) _).alloc (by simp) _

theorem fixed_ok (w : World) (l : Int) : Calls Try.prog 32 #[.int .u8 l] w fun e w' => e = .returned (.agg #[.bool (fixK l).e, .int .u64 (fixK l).d, .int .u8 (fixK l).l]) ∧ Below w.heap.size w w' := by
  go_enter Try.func32, Try.ntmps32
  go_wp2
  simp [bodyPost, results, Try.results32, go_sem, fixK]
  exact (Below.refl _ _).alloc (Nat.le_refl _) _
theorem dead_ok (w : World) (d : Int) : Calls Try.prog 59 #[.int .u64 d] w fun e w' => e = .returned (.agg #[.bool (deadK d).e, .int .u64 (deadK d).d, .int .u8 (deadK d).l]) ∧ Below w.heap.size w w' := by
  go_enter Try.func59, Try.ntmps59
  go_wp2
  simp [bodyPost, results, Try.results59, go_sem, deadK]
  exact (Below.refl _ _).alloc (Nat.le_refl _) _
theorem above_mk (w : World) (a b : K) : Calls Try.prog 57 #[.agg #[.bool a.e, .int .u64 a.d, .int .u8 a.l], .agg #[.bool b.e, .int .u64 b.d, .int .u8 b.l]] w fun e w' => e = .returned (.bool (up a b)) ∧ ∃ c1 c2, w' = (w.alloc (.cells c1 36)).alloc (.cells c2 36) := by
  unfold up
  go_enter Try.func57, Try.ntmps57
  cases he : a.e <;> cases he' : b.e <;> (go_wp2; go_ret; exact ⟨by simp , _, _, rfl⟩)
theorem above_ok (w : World) (a b : K) : Calls Try.prog 57 #[.agg #[.bool a.e, .int .u64 a.d, .int .u8 a.l], .agg #[.bool b.e, .int .u64 b.d, .int .u8 b.l]] w fun e w' => e = .returned (.bool (up a b)) ∧ Below w.heap.size w w' :=
  (above_mk w a b).mono fun e w' ⟨h, c1, c2, hw⟩ => ⟨h, by rw [hw]; exact below2 _ _ _ _ _⟩
theorem rabove_mk (w : World) (a b : K) : Calls Try.prog 25 #[.agg #[.bool a.e, .int .u64 a.d, .int .u8 a.l], .agg #[.bool b.e, .int .u64 b.d, .int .u8 b.l]] w fun e w' => e = .returned (.bool (up a b)) ∧ ∃ c1 c2, w' = (w.alloc (.cells c1 36)).alloc (.cells c2 36) := by
  unfold up
  go_enter Try.func25, Try.ntmps25
  cases he : a.e <;> cases he' : b.e <;> (go_wp2; go_ret; exact ⟨by simp , _, _, rfl⟩)
theorem rabove_ok (w : World) (a b : K) : Calls Try.prog 25 #[.agg #[.bool a.e, .int .u64 a.d, .int .u8 a.l], .agg #[.bool b.e, .int .u64 b.d, .int .u8 b.l]] w fun e w' => e = .returned (.bool (up a b)) ∧ Below w.heap.size w w' :=
  (rabove_mk w a b).mono fun e w' ⟨h, c1, c2, hw⟩ => ⟨h, by rw [hw]; exact below2 _ _ _ _ _⟩
end Go.Proofs.Ytbhkgbhgofefjaa

namespace Go.Proofs.Ytbhkgbhgofefjaa
open Go.ChangeShapes Go.WideShapes Go.ChangeAt Go.RowKit
set_option linter.unusedVariables false

def rankH (k : K) : Int := if k.e then 1 else 0
def rankL (k : K) : Int := if k.e then 18446744073709551615 - k.d else k.l
/-- Three cells of a block are a key. -/
def At (w : World) (b : Nat) (k : K) : Prop := w.cell? ⟨b, 0, none⟩ = some (.bool k.e) ∧ w.cell? ⟨b, 1, none⟩ = some (.int .u64 k.d) ∧ w.cell? ⟨b, 2, none⟩ = some (.int .u8 k.l)
theorem At.below {w w' : World} {b : Nat} {k : K} (h : At w b k) (hb : Below w.heap.size w w') : At w' b k :=
  ⟨(hb.cell (World.block_lt_of_cell? w _ h.1)).trans h.1, (hb.cell (World.block_lt_of_cell? w _ h.2.1)).trans h.2.1, (hb.cell (World.block_lt_of_cell? w _ h.2.2)).trans h.2.2⟩
theorem keep1 {w0 w w' : World} {b : Nat} {k : K} (h : w.cell? ⟨b, 0, none⟩ = some (.bool k.e) ∧ w.cell? ⟨b, 1, none⟩ = some (.int .u64 k.d) ∧ w.cell? ⟨b, 2, none⟩ = some (.int .u8 k.l) ∧ Below w0.heap.size w0 w) (hb : Below w.heap.size w w') :
    w'.cell? ⟨b, 0, none⟩ = some (.bool k.e) ∧ w'.cell? ⟨b, 1, none⟩ = some (.int .u64 k.d) ∧ w'.cell? ⟨b, 2, none⟩ = some (.int .u8 k.l) ∧ Below w0.heap.size w0 w' := by
  obtain ⟨h0, h1, h2, h3⟩ := h
  have := At.below ⟨h0, h1, h2⟩ hb
  exact ⟨this.1, this.2.1, this.2.2, h3.trans (hb.mono h3.size)⟩
theorem at_new (w : World) (k : K) (t : TypeId) : At (w.alloc (.cells #[.bool k.e, .int .u64 k.d, .int .u8 k.l] t)) w.heap.size k := by
  refine ⟨?_, ?_, ?_⟩ <;> (unfold World.cell?; simp only [(MapKept.heap_alloc w _).1]; rfl)
theorem start1 (w : World) (k : K) (t : TypeId) : (w.alloc (.cells #[.bool k.e, .int .u64 k.d, .int .u8 k.l] t)).drew.cell? ⟨w.heap.size, 0, none⟩ = some (.bool k.e) ∧ (w.alloc (.cells #[.bool k.e, .int .u64 k.d, .int .u8 k.l] t)).drew.cell? ⟨w.heap.size, 1, none⟩ = some (.int .u64 k.d) ∧ (w.alloc (.cells #[.bool k.e, .int .u64 k.d, .int .u8 k.l] t)).drew.cell? ⟨w.heap.size, 2, none⟩ = some (.int .u8 k.l) ∧ Below w.heap.size w (w.alloc (.cells #[.bool k.e, .int .u64 k.d, .int .u8 k.l] t)).drew :=
  ⟨(at_new w k t).1, (at_new w k t).2.1, (at_new w k t).2.2, ((Below.refl _ _).alloc (Nat.le_refl _) _).drew⟩
theorem rright_mk (w : World) (k : K) : Calls Try.prog 46 #[.agg #[.bool k.e, .int .u64 k.d, .int .u8 k.l]] w fun e w' => e = .returned (.bool (rightK k)) ∧ ∃ c, w' = w.alloc (.cells c 36) := by
  unfold rightK
  go_enter Try.func46, Try.ntmps46
  cases he : k.e <;> (go_wp2; go_ret; exact ⟨by simp , _, rfl⟩)
theorem rright_ok (w : World) (k : K) : Calls Try.prog 46 #[.agg #[.bool k.e, .int .u64 k.d, .int .u8 k.l]] w fun e w' => e = .returned (.bool (rightK k)) ∧ Below w.heap.size w w' :=
  (rright_mk w k).mono fun e w' ⟨h, c, hw⟩ => ⟨h, by rw [hw]; exact (Below.refl _ _).alloc (Nat.le_refl _) _⟩
theorem fin1 {w0 w : World} {p q r : Prop} (h : p ∧ q ∧ r ∧ Below w0.heap.size w0 w) : Below w0.heap.size w0 w := h.2.2.2
theorem same_eq (a b : K) : same a b = decide (a = b) := by
  obtain ⟨e, d, l⟩ := a
  obtain ⟨e', d', l'⟩ := b
  unfold same
  by_cases h1 : e = e' <;> by_cases h2 : d = d' <;> by_cases h3 : l = l' <;> simp [h1, h2, h3]
theorem right_yes (k : K) (hc : same k (fixK k.l) = true) : rightK k = true := by
  unfold rightK; simp [same, fixK] at hc; simp [hc]
theorem right_no (k : K) (hc : same k (fixK k.l) = false) : same k (deadK k.d) = rightK k := by
  unfold rightK
  cases he : k.e <;> simp [same, fixK, deadK, he] at hc ⊢
  exact hc
set_option maxRecDepth 100000 in
theorem right_ok (w : World) (k : K) : Calls Try.prog 45 #[.agg #[.bool k.e, .int .u64 k.d, .int .u8 k.l]] w fun e w' => e = .returned (.bool (rightK k)) ∧ Below w.heap.size w w' := by
  have HF := veil fixed_ok
  have HD := veil dead_ok
  by_cases hc : same k (fixK k.l) = true
  · have HR := veil (right_yes k hc)
    go_enter Try.func45, Try.ntmps45
    go_wp2
    refine wp_region_held_drew (S := (fun w' => w'.cell? ⟨w.heap.size, 0, none⟩ = some (.bool k.e) ∧ w'.cell? ⟨w.heap.size, 1, none⟩ = some (.int .u64 k.d) ∧ w'.cell? ⟨w.heap.size, 2, none⟩ = some (.int .u8 k.l) ∧ Below w.heap.size w w')) (by kernel_rfl) ?_ (fun hHeld => ?_)
    · exact start1 _ _ _
    refine wpAnyH_take (i := 0) (v := ?_) rfl (by kernel_rfl) (by kernel_rfl) (by kernel_rfl) (fun _ _ _ h => h) (Or.inl ⟨by rfl, ?v0⟩) (by assumption) ?_
    case v0 => (intro w hSw; (try dsimp only at hSw); go_simp; try with_reducible rfl)
    try simp only [Act.put, List.setIfInBounds_toArray, List.set_cons_zero, List.set_cons_succ, List.getElem_toArray, List.getElem_cons_zero]
    refine wpAnyH_take (i := 1) (v := ?_) rfl (by kernel_rfl) (by kernel_rfl) (by kernel_rfl) (fun _ _ _ h => h) (Or.inl ⟨by rfl, ?v1⟩) (by assumption) ?_
    case v1 => (intro w hSw; (try dsimp only at hSw); go_simp; try with_reducible rfl)
    try simp only [Act.put, List.setIfInBounds_toArray, List.set_cons_zero, List.set_cons_succ, List.getElem_toArray, List.getElem_cons_succ, List.getElem_cons_zero]
    refine wpAnyH_take (i := 2) (v := ?_) rfl (by kernel_rfl) (by kernel_rfl) (by kernel_rfl) (fun _ _ _ h => h) (Or.inl ⟨by rfl, ?v2⟩) (by assumption) ?_
    case v2 => (intro w hSw; (try dsimp only at hSw); go_simp; try with_reducible rfl)
    try simp only [Act.put, List.setIfInBounds_toArray, List.set_cons_zero, List.set_cons_succ, List.getElem_toArray, List.getElem_cons_succ, List.getElem_cons_zero]
    refine wpAnyH_ready (rs := [3]) (by kernel_rfl) (by simp) ?_
    refine AllReadyH.cons rfl (fun K hK => ?_) AllReadyH.nil
    go_simp
    refine (HF.out _ _).mono ?_
    rintro e w1 ⟨rfl, hb⟩
    go_wp2_with fail
    refine hK.out _ _ ?_ (fun hHeld => ?_)
    · exact keep1 (by assumption) hb
    clear hK K
    try simp only [Act.put, List.setIfInBounds_toArray, List.set_cons_zero, List.set_cons_succ, List.getElem_toArray, List.getElem_cons_succ, List.getElem_cons_zero]
    refine wpAnyH_take (i := 4) (v := ?_) rfl (by kernel_rfl) (by kernel_rfl) (by kernel_rfl) (fun _ _ _ h => h) (Or.inl ⟨by rfl, ?v4⟩) (by assumption) ?_
    case v4 => (intro w hSw; (try dsimp only at hSw); go_simp; try with_reducible rfl)
    try simp only [Act.put, List.setIfInBounds_toArray, List.set_cons_zero, List.set_cons_succ, List.getElem_toArray, List.getElem_cons_succ, List.getElem_cons_zero]
    refine wpAnyH_take (i := 5) (v := ?_) rfl (by kernel_rfl) (by kernel_rfl) (by kernel_rfl) (fun _ _ _ h => h) (Or.inl ⟨by rfl, ?v5⟩) (by assumption) ?_
    case v5 => (intro w hSw; (try dsimp only at hSw); go_simp; try with_reducible rfl)
    try simp only [Act.put, List.setIfInBounds_toArray, List.set_cons_zero, List.set_cons_succ, List.getElem_toArray, List.getElem_cons_succ, List.getElem_cons_zero]
    refine wpAnyH_take (i := 6) (v := undef) rfl (by kernel_rfl) (by kernel_rfl) (by kernel_rfl) (fun _ _ _ h => h) (Or.inr ⟨by rfl, rfl⟩) (by assumption) ?_
    try simp only [Act.put, List.setIfInBounds_toArray, List.set_cons_zero, List.set_cons_succ, List.getElem_toArray, List.getElem_cons_succ, List.getElem_cons_zero]
    refine wpAnyH_take (i := 7) (v := undef) rfl (by kernel_rfl) (by kernel_rfl) (by kernel_rfl) (fun _ _ _ h => h) (Or.inr ⟨by rfl, rfl⟩) (by assumption) ?_
    try simp only [Act.put, List.setIfInBounds_toArray, List.set_cons_zero, List.set_cons_succ, List.getElem_toArray, List.getElem_cons_succ, List.getElem_cons_zero]
    refine wpAnyH_take (i := 8) (v := undef) rfl (by kernel_rfl) (by kernel_rfl) (by kernel_rfl) (fun _ _ _ h => h) (Or.inr ⟨by rfl, rfl⟩) (by assumption) ?_
    try simp only [Act.put, List.setIfInBounds_toArray, List.set_cons_zero, List.set_cons_succ, List.getElem_toArray, List.getElem_cons_succ, List.getElem_cons_zero]
    refine wpAnyH_take (i := 9) (v := undef) rfl (by kernel_rfl) (by kernel_rfl) (by kernel_rfl) (fun _ _ _ h => h) (Or.inr ⟨by rfl, rfl⟩) (by assumption) ?_
    try simp only [Act.put, List.setIfInBounds_toArray, List.set_cons_zero, List.set_cons_succ, List.getElem_toArray, List.getElem_cons_succ, List.getElem_cons_zero]
    refine wpAnyH_take (i := 10) (v := undef) rfl (by kernel_rfl) (by kernel_rfl) (by kernel_rfl) (fun _ _ _ h => h) (Or.inr ⟨by rfl, rfl⟩) (by assumption) ?_
    try simp only [Act.put, List.setIfInBounds_toArray, List.set_cons_zero, List.set_cons_succ, List.getElem_toArray, List.getElem_cons_succ, List.getElem_cons_zero]
    refine wpAnyH_take (i := 11) (v := ?_) rfl (by kernel_rfl) (by kernel_rfl) (by kernel_rfl) (fun _ _ _ h => h) (Or.inl ⟨by rfl, ?v11⟩) (by assumption) ?_
    case v11 => (intro w hSw; (try dsimp only at hSw); go_simp; try with_reducible rfl)
    try simp only [Act.put, List.setIfInBounds_toArray, List.set_cons_zero, List.set_cons_succ, List.getElem_toArray, List.getElem_cons_succ, List.getElem_cons_zero]
    refine wpAnyH_take (i := 12) (v := ?_) rfl (by kernel_rfl) (by kernel_rfl) (by kernel_rfl) (fun _ _ _ h => h) (Or.inl ⟨by rfl, ?v12⟩) (by assumption) ?_
    case v12 => (intro w hSw; (try dsimp only at hSw); go_simp; try with_reducible rfl)
    try simp only [Act.put, List.setIfInBounds_toArray, List.set_cons_zero, List.set_cons_succ, List.getElem_toArray, List.getElem_cons_succ, List.getElem_cons_zero]
    refine wpAnyH_done (by kernel_rfl) ?_ _
    go_wp2
    go_ret
    exact ⟨by rw [HR.out]; rfl, fin1 (by assumption)⟩
  simp only [Bool.not_eq_true] at hc
  have HR := veil (right_no k hc)
  go_enter Try.func45, Try.ntmps45
  go_wp2
  go_region_held3 (fun w' => w'.cell? ⟨w.heap.size, 0, none⟩ = some (.bool k.e) ∧ w'.cell? ⟨w.heap.size, 1, none⟩ = some (.int .u64 k.d) ∧ w'.cell? ⟨w.heap.size, 2, none⟩ = some (.int .u8 k.l) ∧ Below w.heap.size w w')
    (first | exact start1 _ _ _ | exact keep1 (by assumption) hb)
    (first
      | (go_at_call 32; refine (HF.out _ _).mono ?_; rintro e w1 ⟨rfl, hb⟩)
      | (go_at_call 59; refine (HD.out _ _).mono ?_; rintro e w2 ⟨rfl, hb⟩))
  go_wp2
  go_ret
  exact ⟨by rw [HR.out]; rfl, fin1 (by assumption)⟩
end Go.Proofs.Ytbhkgbhgofefjaa
