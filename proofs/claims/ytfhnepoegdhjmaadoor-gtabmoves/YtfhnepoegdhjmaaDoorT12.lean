/-
  What a walk is told: of the table of what may follow; of an id, a deed and a slice of deeds that came in.
-/
import Derived.Test.YtfhnepoegdhjmaaDoorT11
import Derived.ProofKit
import Derived.OpenShut
import Derived.Deep.Slices
import Derived.Deep.Strs
import Derived.ChangeOld
import Derived.ChangeSame
import Derived.Lib.LaidTab
namespace Go.Proofs.YtfhnepoegdhjmaaDoor
open Go.RowKit Go.Lib Go.Deep Go.ChangeShapes Go.WideShapes

theorem gTab : Tryd.prog.globalNamed "boatswain/gtab.follows" = some 0 := by kernel_rfl
theorem gTabType : (Tryd.prog.globals[0]?).map (·.type) = some 60 := by kernel_rfl
theorem cellsOut : Tryd.prog.cellsOf 60 = 25 := by kernel_rfl
theorem cellsIn : Tryd.prog.cellsOf 59 = 5 := by kernel_rfl
theorem cellsBool : Tryd.prog.cellsOf 4 = 1 := by kernel_rfl
theorem folData {H : Type} : (Rows.laid_boatswain_gtab_follows : DataW H) = .agg ((List.range 5).map fun i => .agg ((List.range 5).map fun j => .lit (.bool (fol i j)))) := rfl
theorem tab_of_laid {W : World} (h : laidMetH Tryd.prog [("boatswain/gtab.follows", Rows.laid_boatswain_gtab_follows)] W) : Tab W := by
  have h' : laidMet Tryd.prog [("boatswain/gtab.follows", Rows.laid_boatswain_gtab_follows)] W := h
  obtain ⟨ps, ⟨g', t', cs, fuel, p, q, hg', ht', hvar, hd, _, _⟩, _⟩ := h'
  obtain rfl := Option.some.inj (gTab.symm.trans hg')
  obtain rfl := Option.some.inj (gTabType.symm.trans ht')
  obtain ⟨xs, m, _, hx, _, hlen, hel⟩ := DataW.trod_array Tryd.underlying60 hd
  simp only [Prod.mk.injEq] at hx
  have hx1 := hx.1
  rw [folData] at hx1
  simp only [DataW.agg.injEq] at hx1
  intro i j hi hj
  obtain ⟨xi, hxi⟩ : ∃ xi, xs[i]? = some xi := ⟨xs[i]'(by omega), List.getElem?_eq_getElem (by omega)⟩
  have e1 := hel i hi
  rw [hxi, cellsIn] at e1
  obtain ⟨ys, m2, _, hy, _, hlen2, hel2⟩ := DataW.trod_array Tryd.underlying59 e1
  obtain ⟨yj, hyj⟩ : ∃ yj, ys[j]? = some yj := ⟨ys[j]'(by omega), List.getElem?_eq_getElem (by omega)⟩
  have e2 := hel2 j hj
  rw [hyj, cellsBool] at e2
  obtain ⟨bb, hb, hyv⟩ := DataW.trod_bool Tryd.underlying4 e2
  have q1 : (xs.map (·.1))[i]? = some xi.1 := by rw [List.getElem?_map, hxi]; rfl
  rw [← hx1] at q1
  have q2 : xi.1 = .agg ((List.range 5).map fun j => .lit (.bool (fol i j))) := by
    have : ((List.range 5).map fun i => (DataW.agg ((List.range 5).map fun j => .lit (.bool (fol i j))) : DataW Unit))[i]? = some (.agg ((List.range 5).map fun j => .lit (.bool (fol i j)))) := by
      rw [List.getElem?_map, List.getElem?_range hi]; rfl
    rw [this] at q1
    exact (Option.some.inj q1).symm
  rw [hy] at q2
  simp only [DataW.agg.injEq] at q2
  have q3 : (ys.map (·.1))[j]? = some yj.1 := by rw [List.getElem?_map, hyj]; rfl
  rw [q2, List.getElem?_map, List.getElem?_range hj, hyv] at q3
  simp only [Option.map_some, Option.some.injEq, DataW.lit.injEq, Lit.bool.injEq] at q3
  have hc : cs.toList[i * 5 + j]? = some (.bool bb) := by
    have := congrArg (·[0]?) hb
    simp only [List.getElem?_take, List.getElem?_drop] at this
    simpa [hj] using this
  have := World.var?_cell gTab hvar (i * 5 + j)
  rw [this, q3, ← hc]
  simp

/-- A slice of deeds that came in: its cells. -/
def Deeds (w : World) (a : Option Addr) (len : Nat) (K P : Nat → Int) (Q : Nat → Nat) (T : Nat → Int) : Prop :=
  len = 0 ∨ ∃ lb off, a = some ⟨lb, off, none⟩ ∧ lb < w.heap.size ∧ ∀ j, j < len → w.cell? ⟨lb, off + j * 4, none⟩ = some (.int .i64 (K j)) ∧ w.cell? ⟨lb, off + j * 4 + 1, none⟩ = some (.int .i64 (P j)) ∧ w.cell? ⟨lb, off + j * 4 + 2, none⟩ = some (.int .u32 (Q j)) ∧ w.cell? ⟨lb, off + j * 4 + 3, none⟩ = some (.int .i64 (T j))
theorem Deeds.below {w w' : World} {a : Option Addr} {len : Nat} {K P : Nat → Int} {Q : Nat → Nat} {T : Nat → Int} (h : Deeds w a len K P Q T) (hb : Below w.heap.size w w') : Deeds w' a len K P Q T := by
  rcases h with h | ⟨lb, off, rfl, hlb, hc⟩
  · exact .inl h
  · refine .inr ⟨lb, off, rfl, Nat.lt_of_lt_of_le hlb hb.size, fun j hj => ?_⟩
    obtain ⟨q1, q2, q3, q4⟩ := hc j hj
    exact ⟨(hb.cell (p := ⟨lb, off + j * 4, none⟩) hlb).trans q1, (hb.cell (p := ⟨lb, off + j * 4 + 1, none⟩) hlb).trans q2, (hb.cell (p := ⟨lb, off + j * 4 + 2, none⟩) hlb).trans q3, (hb.cell (p := ⟨lb, off + j * 4 + 3, none⟩) hlb).trans q4⟩

section
variable {H : Type} {enc : TypeId × Value → H} {w : World} {base : Nat} {spare : Nat → Bool} {held : Bool}
theorem cellsDeed : Tryd.prog.cellsOf 45 = 4 := by kernel_rfl
theorem cellsId : Tryd.prog.cellsOf 25 = 2 := by kernel_rfl
theorem cellsInt : Tryd.prog.cellsOf 3 = 1 := by kernel_rfl
theorem cellsState : Tryd.prog.cellsOf 33 = 1 := by kernel_rfl
theorem cellsU32 : Tryd.prog.cellsOf 23 = 1 := by kernel_rfl
theorem id_cells {fuel : Nat} {c0 c1 : Value} {x : DataW H × List MemPlace} (h : DataW.trod enc Tryd.prog w base spare held fuel 25 [c0, c1] = some x) :
    ∃ (p : Int) (q : Nat), c0 = .int .i64 p ∧ c1 = .int .u32 (q : Int) ∧ (Lit.int .i64 p).wf = true ∧ q < 4294967296 := by
  obtain ⟨y0, y1, n, _, _, h0, h1⟩ := trod_struct2 Tryd.underlying25 h
  obtain ⟨p, e0, _, w0⟩ := DataW.trod_int Tryd.underlying3 (by simpa [cellsInt] using h0)
  obtain ⟨q, e1, _, w1⟩ := DataW.trod_int Tryd.underlying23 (by simpa [cellsU32] using h1)
  simp at e0 e1
  have hz : 0 ≤ q ∧ q < 4294967296 := by
    simp [Lit.wf, IntKind.min, IntKind.max, IntKind.bits, IntKind.signed] at w1
    omega
  exact ⟨p, q.toNat, e0, by rw [e1, Int.toNat_of_nonneg hz.1], w0, by omega⟩
theorem deed_cells {fuel : Nat} {c0 c1 c2 c3 : Value} {x : DataW H × List MemPlace} (h : DataW.trod enc Tryd.prog w base spare held fuel 45 [c0, c1, c2, c3] = some x) :
    ∃ (k p : Int) (q : Nat) (s : Int), c0 = .int .i64 k ∧ c1 = .int .i64 p ∧ c2 = .int .u32 (q : Int) ∧ c3 = .int .i64 s ∧ (Lit.int .i64 k).wf = true ∧ (Lit.int .i64 p).wf = true ∧ q < 4294967296 ∧ (Lit.int .i64 s).wf = true := by
  obtain ⟨y0, y1, y2, n, _, _, h0, h1, h2⟩ := trod_struct3 Tryd.underlying45 h
  obtain ⟨k, e0, _, w0⟩ := DataW.trod_int Tryd.underlying3 (by simpa [cellsInt] using h0)
  obtain ⟨p, q, e1, e2, w1, w2⟩ := id_cells (c0 := c1) (c1 := c2) (by simpa [cellsId] using h1)
  obtain ⟨s, e3, _, w3⟩ := DataW.trod_int Tryd.underlying33 (by simpa [cellsState] using h2)
  simp at e0 e3
  exact ⟨k, p, q, s, e0, e1, e2, e3, w0, w1, w2, w3⟩
theorem open_id {r : Reach} {b0 : Nat} {v : Value} {d : DataW H} {p : List MemPlace} (hv : Value.okWide Tryd.prog w r b0 25 v) (h : DataW.Trod enc Tryd.prog w base spare held 25 v d p) :
    ∃ (p : Int) (q : Nat), v = .agg #[.int .i64 p, .int .u32 (q : Int)] ∧ (Lit.int .i64 p).wf = true ∧ q < 4294967296 := by
  obtain ⟨cs, rfl, hsz⟩ := okWide_struct Tryd.underlying25 hv
  rw [cellsId] at hsz
  obtain ⟨l⟩ := cs
  match l, hsz with
  | [c0, c1], _ =>
    obtain ⟨fuel, hf⟩ := h
    obtain ⟨p, q, rfl, rfl, w0, w1⟩ := id_cells (c0 := c0) (c1 := c1) (by simpa [Value.cells] using hf)
    exact ⟨p, q, rfl, w0, w1⟩
theorem open_deed {r : Reach} {b0 : Nat} {v : Value} {d : DataW H} {p : List MemPlace} (hv : Value.okWide Tryd.prog w r b0 45 v) (h : DataW.Trod enc Tryd.prog w base spare held 45 v d p) :
    ∃ (k p : Int) (q : Nat) (s : Int), v = .agg #[.int .i64 k, .int .i64 p, .int .u32 (q : Int), .int .i64 s] ∧ (Lit.int .i64 k).wf = true ∧ (Lit.int .i64 p).wf = true ∧ q < 4294967296 ∧ (Lit.int .i64 s).wf = true := by
  obtain ⟨cs, rfl, hsz⟩ := okWide_struct Tryd.underlying45 hv
  rw [cellsDeed] at hsz
  obtain ⟨l⟩ := cs
  match l, hsz with
  | [c0, c1, c2, c3], _ =>
    obtain ⟨fuel, hf⟩ := h
    obtain ⟨k, p, q, s, rfl, rfl, rfl, rfl, w0, w1, w2, w3⟩ := deed_cells (c0 := c0) (c1 := c1) (c2 := c2) (c3 := c3) (by simpa [Value.cells] using hf)
    exact ⟨k, p, q, s, rfl, w0, w1, w2, w3⟩
theorem open_deeds {fuel : Nat} {a : Option Addr} {len cap : Nat} {x : DataW H × List MemPlace}
    (h : DataW.trod enc Tryd.prog w base spare held fuel 22 (Value.slice a len cap).cells.toList = some x) : len < 9223372036854775808 ∧ ∃ (K P : Nat → Int) (Q : Nat → Nat) (T : Nat → Int), Deeds w a len K P Q T := by
  rcases open_slice Tryd.underlying22 h with ⟨hcs, _⟩ | ⟨a', len', cap', m, n, D, Pl, hcs, hbb, hl, hm, hmm, hx, hel⟩
  · simp [Value.cells] at hcs
    obtain ⟨rfl, rfl, rfl⟩ := hcs
    exact ⟨by omega, fun _ => 0, fun _ => 0, fun _ => 0, fun _ => 0, .inl rfl⟩
  · simp [Value.cells] at hcs
    obtain ⟨rfl, rfl, rfl⟩ := hcs
    have hlm : len ≤ m := by rw [hmm]; split <;> omega
    refine ⟨by unfold maxLen at hm; omega, ?_⟩
    have hone : ∀ i, i < len → ∃ r : Int × Int × Nat × Int, w.cell? (a'.add (i * 4)) = some (.int .i64 r.1) ∧ w.cell? ((a'.add (i * 4)).add 1) = some (.int .i64 r.2.1) ∧ w.cell? ((a'.add (i * 4)).add 2) = some (.int .u32 r.2.2.1) ∧ w.cell? ((a'.add (i * 4)).add 3) = some (.int .i64 r.2.2.2) := by
      intro i hi'
      obtain ⟨cs', h1, h2⟩ := hel i (by omega)
      rw [cellsDeed] at h1
      obtain ⟨_, hlen, hc⟩ := World.cells?_some h1
      match cs', hlen with
      | [c0, c1, c2, c3], _ =>
        obtain ⟨k, p, q, s, rfl, rfl, rfl, rfl, _⟩ := deed_cells h2
        have a0 := hc 0 (by omega)
        have az : ∀ x : Addr, x.add 0 = x := fun x => by unfold Addr.add; split <;> simp_all
        rw [az] at a0
        exact ⟨(k, p, q, s), a0, hc 1 (by omega), hc 2 (by omega), hc 3 (by omega)⟩
    obtain ⟨f, hf⟩ := choose_lt hone
    refine ⟨fun i => (f i).1, fun i => (f i).2.1, fun i => (f i).2.2.1, fun i => (f i).2.2.2, ?_⟩
    by_cases h0 : len = 0
    · exact .inl h0
    · right
      obtain ⟨b, off, spot⟩ := a'
      have hspot : spot = none := by
        have := World.cell?_spot (hf 0 (by omega)).1
        simpa [Addr.add] using this
      subst hspot
      have hlt : b < w.heap.size := by
        have := World.block_lt_of_cell? w _ (hf 0 (by omega)).1
        simpa [Addr.add] using this
      refine ⟨b, off, rfl, hlt, fun i hi' => ?_⟩
      obtain ⟨q1, q2, q3, q4⟩ := hf i hi'
      simp only [Go.WideShapes.add_plain] at q1 q2 q3 q4
      exact ⟨q1, q2, q3, q4⟩
end
end Go.Proofs.YtfhnepoegdhjmaaDoor
