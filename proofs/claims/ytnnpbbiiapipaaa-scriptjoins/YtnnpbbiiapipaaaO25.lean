/- ProgBytes, walked. -/
import Derived.Test.YtnnpbbiiapipaaaO24
namespace Go.Proofs.Ytnnpbbiiapipaaa
open Go.RowKit Go.Lib
set_option linter.unusedVariables false
theorem conv0 (w : World) (ad : Option Addr) (cap : Nat) : (convert 24 9 (.slice ad 0 cap)).run Try.prog w = .ok (.string (strOfNums [])) w := by
  cases ad with
  | none => exact run_convert_bytes_nil w _ _ Try.underlying24 Try.underlying5 0 cap _ Try.underlying9
  | some ad =>
    rw [run_convert_bytes_string w _ _ _ _ 0 cap Try.underlying24 Try.underlying5 Try.underlying9]
    have hl : (loadCells ad 0).run Try.prog w = .ok #[] w := by
      have := run_loadCells_list (P := Try.prog) w ad [] (fun j v hj => by simp at hj)
      simpa using this
    simp [Conv.bytesToString, go_sem]
    rfl
theorem says_arg {w : World} {a : Option Addr} {len cap : Nat} {X : Nat → Nat} (h : Byt w a len X) : Says w (.slice a len cap) (strOfNums ((List.range len).map fun j => (X j : Int))) := by
  intro W hb
  rcases h with rfl | ⟨lb, off, rfl, hlb, hx⟩
  · simpa using conv0 W a cap
  · refine run_convert_bytes_arg W _ _ Try.underlying24 Try.underlying5 lb off len cap _ (by simp) (fun i hi => ?_) _ Try.underlying9
    rw [(hb.cell (p := ⟨lb, off + i, none⟩) hlb).trans (hx i hi).1]
    simp [List.getD, hi]
def byteCells (X : Nat → Nat) (len : Nat) : List Value := ((List.range len).map fun j => (X j : Int)).map (Value.int .u8)
theorem byteCells_one (X : Nat → Nat) (len : Nat) : ∀ u ∈ byteCells X len, u.oneCell' = true := by
  intro u hu
  simp [byteCells] at hu
  obtain ⟨j, _, rfl⟩ := hu
  rfl
theorem own_byt {w : World} {base : Nat} {v : Value} {len : Nat} {X : Nat → Nat} (h : w.ownsRow base 5 1 v len (byteCells X len)) (hX : ∀ j, j < len → X j < 256) : ∃ a cap, v = .slice a len cap ∧ len ≤ cap ∧ cap ≤ maxLen ∧ Byt w a len X := by
  rcases h.2 with ⟨rfl, rfl⟩ | ⟨g, cap, cur, rfl, hb, hgg, hn, hm, hc, ht⟩
  · exact ⟨none, 0, rfl, by omega, by unfold maxLen; omega, .inl rfl⟩
  · refine ⟨_, cap, rfl, hn, hm, .inr ⟨g, 0, rfl, (Array.getElem?_eq_some_iff.1 hgg).1, fun j hj => ⟨?_, hX j hj⟩⟩⟩
    rw [Nat.zero_add, h.cellAt j (by omega)]
    simp [byteCells, hj]
theorem lit_none (w : World) (t : TypeId) : (w.alloc (.cells #[] t)).ownsRow w.heap.size t 1 (.slice (some ⟨w.heap.size, 0, none⟩) 0 0) 0 [] :=
  ⟨rfl, .inr ⟨w.heap.size, 0, #[], rfl, Nat.le_refl _, (MapKept.heap_alloc w _).1, Nat.le_refl _, by unfold maxLen; omega, rfl, rfl⟩⟩
theorem byt_news {w W : World} {ad : Addr} {len : Nat} {X : Nat → Nat} (h : Byt w (some ad) len X) (hb : Below w.heap.size w W) : ∀ j u, (byteCells X len)[j]? = some u → W.cell? (ad.add j) = some u := by
  intro j u hu
  have hj : j < len := by
    have := (List.getElem?_eq_some_iff.1 hu).1
    simpa [byteCells] using this
  rcases h with h | ⟨lb, off, e, hlb, hx⟩
  · omega
  · simp at e
    subst e
    have e2 : (⟨lb, off, none⟩ : Addr).add j = ⟨lb, off + j, none⟩ := by unfold Addr.add; split <;> simp_all
    rw [e2, (hb.cell (p := ⟨lb, off + j, none⟩) hlb).trans (hx j hj).1]
    simp [byteCells, hj] at hu
    rw [← hu]
end Go.Proofs.Ytnnpbbiiapipaaa
