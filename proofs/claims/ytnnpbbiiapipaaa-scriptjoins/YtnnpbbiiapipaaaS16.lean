/-
  script: what comes in: an entry, entries.
-/
import Derived.Test.YtnnpbbiiapipaaaS15
namespace Go.Proofs.Ytnnpbbiiapipaaa
open Go.RowKit Go.Lib Go.Deep Go.ChangeShapes Go.WideShapes Go.ChangeAt
set_option linter.unusedVariables false
theorem code_of {w : World} {a : Option Addr} {len : Nat} {O R : Nat → Int} (h : Prg w a len O R) : ∃ c : List (Int × Int), c.length = len ∧ Cod w a c := by
  refine ⟨(List.range len).map (fun i => (O i, R i)), by simp, ?_⟩
  unfold Cod
  rw [List.length_map, List.length_range]
  refine prg_congr h (fun i hi => ?_)
  have : ((List.range len).map (fun i => (O i, R i))).getD i (0, 0) = (O i, R i) := by
    simp [List.getD, List.getElem?_range hi]
  unfold cO cR
  rw [this]
  exact ⟨rfl, rfl⟩
theorem nat64 {z : Int} (h : (Lit.int .u64 z).wf = true) : ∃ n : Nat, z = n ∧ n < 18446744073709551616 := ⟨z.toNat, by have := bounds_u64 h; omega, by have := bounds_u64 h; omega⟩
theorem nat8 {z : Int} (h : (Lit.int .u8 z).wf = true) : ∃ n : Nat, z = n ∧ n < 256 := by
  have hz : 0 ≤ z ∧ z < 256 := by
    simp [Lit.wf, IntKind.min, IntKind.max, IntKind.bits, IntKind.signed] at h
    omega
  exact ⟨z.toNat, by omega, by omega⟩
section
variable {H : Type} {enc : TypeId × Value → H} {w : World} {base : Nat} {spare : Nat → Bool} {held : Bool}
theorem cellsEntry : Try.prog.cellsOf 36 = 10 := by kernel_rfl
theorem cellsDo : Try.prog.cellsOf 32 = 1 := by kernel_rfl
theorem cellsU64 : Try.prog.cellsOf 33 = 1 := by kernel_rfl
theorem cellsCode : Try.prog.cellsOf 34 = 1 := by kernel_rfl
theorem entry_cells {fuel : Nat} {c0 c1 c2 c3 c4 c5 c6 c7 c8 c9 : Value} {x : DataW H × List MemPlace} (h : DataW.trod enc Try.prog w base spare held fuel 36 [c0, c1, c2, c3, c4, c5, c6, c7, c8, c9] = some x) :
    ∃ (y : En) (ca : Option Addr) (cc : Nat), c0 = .int .i64 y.d ∧ c1 = .int .i64 y.p ∧ c2 = .int .u64 (y.dr : Int) ∧ c3 = .int .i64 y.n ∧ c4 = .slice ca y.code.length cc ∧ c5 = .int .u64 (y.bu : Int) ∧ c6 = .int .u64 (y.pe : Int) ∧ c7 = .int .i64 y.pr ∧ c8 = .int .u8 (y.lv : Int) ∧ c9 = .int .i64 y.sv ∧ Cod w ca y.code ∧ y.code.length < 9223372036854775808 ∧ (y.code.length ≤ cc ∧ cc < 9223372036854775808) ∧ WfE y ∧ (Lit.int .i64 y.d).wf = true := by
  obtain ⟨xs, n, _, _, _, hl, hf⟩ := DataW.trod_struct Try.underlying36 h
  match xs, hl with
  | [y0, y1, y2, y3, y4, y5, y6, y7, y8, y9], _ =>
    obtain ⟨z0, e0, _, w0⟩ := DataW.trod_int Try.underlying32 (by simpa [cellsDo] using hf 0 _ rfl)
    obtain ⟨z1, e1, _, w1⟩ := DataW.trod_int Try.underlying3 (by simpa [cellsInt] using hf 1 _ rfl)
    obtain ⟨z2, e2, _, w2⟩ := DataW.trod_int Try.underlying33 (by simpa [cellsU64] using hf 2 _ rfl)
    obtain ⟨z3, e3, _, w3⟩ := DataW.trod_int Try.underlying3 (by simpa [cellsInt] using hf 3 _ rfl)
    obtain ⟨z5, e5, _, w5⟩ := DataW.trod_int Try.underlying33 (by simpa [cellsU64] using hf 5 _ rfl)
    obtain ⟨z6, e6, _, w6⟩ := DataW.trod_int Try.underlying33 (by simpa [cellsU64] using hf 6 _ rfl)
    obtain ⟨z7, e7, _, w7⟩ := DataW.trod_int Try.underlying3 (by simpa [cellsInt] using hf 7 _ rfl)
    obtain ⟨z8, e8, _, w8⟩ := DataW.trod_int Try.underlying5 (by simpa [cellsU8] using hf 8 _ rfl)
    obtain ⟨z9, e9, _, w9⟩ := DataW.trod_int Try.underlying3 (by simpa [cellsInt] using hf 9 _ rfl)
    have h4 : DataW.trod enc Try.prog w base spare held n 34 [c4] = some y4 := by simpa [cellsCode] using hf 4 _ rfl
    simp at e0 e1 e2 e3 e5 e6 e7 e8 e9
    obtain ⟨n2, rfl, q2⟩ := nat64 w2
    obtain ⟨n5, rfl, q5⟩ := nat64 w5
    obtain ⟨n6, rfl, q6⟩ := nat64 w6
    obtain ⟨n8, rfl, q8⟩ := nat8 w8
    obtain ⟨ca, len, cc, rfl⟩ : ∃ ca len cc, c4 = .slice ca len cc := by
      rcases open_slice Try.underlying34 h4 with ⟨hcs, _⟩ | ⟨a', len', cap', m, n', D, Pl, hcs, _⟩
      · simp at hcs
        exact ⟨_, _, _, hcs⟩
      · simp at hcs
        exact ⟨_, _, _, hcs⟩
    obtain ⟨l1, l2, l3, O, R, hp⟩ := open_prg (a := ca) (len := len) (cap := cc) (by simpa [Value.cells] using h4)
    obtain ⟨c, rfl, hc⟩ := code_of hp
    exact ⟨⟨z0, z1, n2, z3, c, n5, n6, z7, n8, z9⟩, ca, cc, e0, e1, e2, e3, rfl, e5, e6, e7, e8, e9, hc, l1, ⟨l2, l3⟩, ⟨q2, q5, q6, q8⟩, w0⟩
theorem open_entry {r : Reach} {b0 : Nat} {v : Value} {d : DataW H} {p : List MemPlace} (hv : Value.okWide Try.prog w r b0 36 v) (h : DataW.Trod enc Try.prog w base spare held 36 v d p) :
    ∃ (y : En) (ca : Option Addr) (cc : Nat), v = .agg #[.int .i64 y.d, .int .i64 y.p, .int .u64 (y.dr : Int), .int .i64 y.n, .slice ca y.code.length cc, .int .u64 (y.bu : Int), .int .u64 (y.pe : Int), .int .i64 y.pr, .int .u8 (y.lv : Int), .int .i64 y.sv] ∧ Cod w ca y.code ∧ y.code.length < 9223372036854775808 ∧ (y.code.length ≤ cc ∧ cc < 9223372036854775808) ∧ WfE y ∧ (Lit.int .i64 y.d).wf = true := by
  obtain ⟨cs, rfl, hsz⟩ := okWide_struct Try.underlying36 hv
  rw [cellsEntry] at hsz
  obtain ⟨l⟩ := cs
  match l, hsz with
  | [c0, c1, c2, c3, c4, c5, c6, c7, c8, c9], _ =>
    obtain ⟨fuel, hf⟩ := h
    obtain ⟨y, ca, cc, rfl, rfl, rfl, rfl, rfl, rfl, rfl, rfl, rfl, rfl, q⟩ := entry_cells (c0 := c0) (c1 := c1) (c2 := c2) (c3 := c3) (c4 := c4) (c5 := c5) (c6 := c6) (c7 := c7) (c8 := c8) (c9 := c9) (by simpa [Value.cells] using hf)
    exact ⟨y, ca, cc, rfl, q⟩
theorem open_entries {fuel : Nat} {a : Option Addr} {len cap : Nat} {x : DataW H × List MemPlace}
    (h : DataW.trod enc Try.prog w base spare held fuel 22 (Value.slice a len cap).cells.toList = some x) : len < 9223372036854775808 ∧ len ≤ cap ∧ cap < 9223372036854775808 ∧ ∃ L : List En, L.length = len ∧ Ens w a L ∧ ∀ x ∈ L, (Lit.int .i64 x.d).wf = true := by
  rcases open_slice Try.underlying22 h with ⟨hcs, _⟩ | ⟨a', len', cap', m, n, D, Pl, hcs, hbb, hl, hm, hmm, hx, hel⟩
  · simp [Value.cells] at hcs
    obtain ⟨rfl, rfl, rfl⟩ := hcs
    exact ⟨by omega, by omega, by omega, [], rfl, .inl rfl, fun x hx => by cases hx⟩
  · simp [Value.cells] at hcs
    obtain ⟨rfl, rfl, rfl⟩ := hcs
    have hlm : len ≤ m := by rw [hmm]; split <;> omega
    refine ⟨by unfold maxLen at hm; omega, hl, by unfold maxLen at hm; omega, ?_⟩
    have hone : ∀ i, i < len → ∃ y : En, (Lit.int .i64 y.d).wf = true ∧ ∃ ca cc, w.cell? (a'.add (i * 10)) = some (.int .i64 y.d) ∧ w.cell? ((a'.add (i * 10)).add 1) = some (.int .i64 y.p) ∧ w.cell? ((a'.add (i * 10)).add 2) = some (.int .u64 (y.dr : Int)) ∧ w.cell? ((a'.add (i * 10)).add 3) = some (.int .i64 y.n) ∧ w.cell? ((a'.add (i * 10)).add 4) = some (.slice ca y.code.length cc) ∧ w.cell? ((a'.add (i * 10)).add 5) = some (.int .u64 (y.bu : Int)) ∧ w.cell? ((a'.add (i * 10)).add 6) = some (.int .u64 (y.pe : Int)) ∧ w.cell? ((a'.add (i * 10)).add 7) = some (.int .i64 y.pr) ∧ w.cell? ((a'.add (i * 10)).add 8) = some (.int .u8 (y.lv : Int)) ∧ w.cell? ((a'.add (i * 10)).add 9) = some (.int .i64 y.sv) ∧ Cod w ca y.code ∧ y.code.length < 9223372036854775808 ∧ (y.code.length ≤ cc ∧ cc < 9223372036854775808) ∧ WfE y := by
      intro i hi'
      obtain ⟨cs', h1, h2⟩ := hel i (by omega)
      rw [cellsEntry] at h1
      obtain ⟨_, hlen, hc⟩ := World.cells?_some h1
      match cs', hlen with
      | [c0, c1, c2, c3, c4, c5, c6, c7, c8, c9], _ =>
        obtain ⟨y, ca, cc, rfl, rfl, rfl, rfl, rfl, rfl, rfl, rfl, rfl, rfl, q1, q2, q3, q4, q5⟩ := entry_cells h2
        have a0 := hc 0 (by omega)
        have az : ∀ x : Addr, x.add 0 = x := fun x => by unfold Addr.add; split <;> simp_all
        rw [az] at a0
        exact ⟨y, q5, ca, cc, a0, hc 1 (by omega), hc 2 (by omega), hc 3 (by omega), hc 4 (by omega), hc 5 (by omega), hc 6 (by omega), hc 7 (by omega), hc 8 (by omega), hc 9 (by omega), q1, q2, q3, q4⟩
    obtain ⟨f, hf⟩ : ∃ f : Nat → En, ∀ i, i < len → (Lit.int .i64 (f i).d).wf = true ∧ ∃ ca cc, w.cell? (a'.add (i * 10)) = some (.int .i64 (f i).d) ∧ w.cell? ((a'.add (i * 10)).add 1) = some (.int .i64 (f i).p) ∧ w.cell? ((a'.add (i * 10)).add 2) = some (.int .u64 ((f i).dr : Int)) ∧ w.cell? ((a'.add (i * 10)).add 3) = some (.int .i64 (f i).n) ∧ w.cell? ((a'.add (i * 10)).add 4) = some (.slice ca (f i).code.length cc) ∧ w.cell? ((a'.add (i * 10)).add 5) = some (.int .u64 ((f i).bu : Int)) ∧ w.cell? ((a'.add (i * 10)).add 6) = some (.int .u64 ((f i).pe : Int)) ∧ w.cell? ((a'.add (i * 10)).add 7) = some (.int .i64 (f i).pr) ∧ w.cell? ((a'.add (i * 10)).add 8) = some (.int .u8 ((f i).lv : Int)) ∧ w.cell? ((a'.add (i * 10)).add 9) = some (.int .i64 (f i).sv) ∧ Cod w ca (f i).code ∧ (f i).code.length < 9223372036854775808 ∧ ((f i).code.length ≤ cc ∧ cc < 9223372036854775808) ∧ WfE (f i) :=
      ⟨fun i => if hi : i < len then (hone i hi).choose else mkTick 1, fun i hi => by simp only [dif_pos hi]; exact (hone i hi).choose_spec⟩
    refine ⟨(List.range len).map f, by simp, ?_, fun x hx => ?_⟩
    · by_cases h0 : len = 0
      · exact .inl (by rw [h0]; rfl)
      · right
        obtain ⟨b, off, spot⟩ := a'
        obtain ⟨_, ca0, cc0, g0, _⟩ := hf 0 (by omega)
        have hspot : spot = none := by
          have := World.cell?_spot g0
          simpa [Addr.add] using this
        subst hspot
        have hlt : b < w.heap.size := by
          have := World.block_lt_of_cell? w _ g0
          simpa [Addr.add] using this
        refine ⟨b, off, rfl, hlt, fun j x hj => ?_⟩
        have hj' : j < len := by have := (List.getElem?_eq_some_iff.1 hj).1; simpa using this
        rw [List.getElem?_map, List.getElem?_range hj'] at hj
        obtain rfl : f j = x := by simpa using hj
        obtain ⟨_, ca, cc, g0, g1, g2, g3, g4, g5, g6, g7, g8, g9, q1, q2, q3, q4⟩ := hf j hj'
        simp only [Go.WideShapes.add_plain] at g0 g1 g2 g3 g4 g5 g6 g7 g8 g9
        exact ⟨ca, cc, g0, g1, g2, g3, g4, g5, g6, g7, g8, g9, q1, q2, .inr q3, q4⟩
    · simp only [List.mem_map, List.mem_range] at hx
      obtain ⟨i, hi, rfl⟩ := hx
      exact (hf i hi).1
end
end Go.Proofs.Ytnnpbbiiapipaaa
