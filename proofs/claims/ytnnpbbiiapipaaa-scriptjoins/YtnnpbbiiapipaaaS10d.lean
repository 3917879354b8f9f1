/-
  script: a program of an entry's bytes, on both sides; what is frozen.
-/
import Derived.Test.YtnnpbbiiapipaaaS10
import Derived.Test.YtnnpbbiiapipaaaS6
import Derived.Test.YtnnpbbiiapipaaaS10e
namespace Go.Proofs.Ytnnpbbiiapipaaa
open Go.RowKit Go.Lib
set_option linter.unusedVariables false
theorem below_drew {B : Nat} {w w' : World} (h : Below B w w') : Below B w w'.drew := ⟨h.os, h.tape, h.output, h.size, h.block⟩
theorem Bx.frozen {W : World} {k : Nat} {c : Array Value} {t : TypeId} (h : Bx W k c t) (i : Nat) : W.frozen? ⟨k, i, none⟩ = false := by
  unfold World.frozen?
  rw [show W.heap[(⟨k, i, none⟩ : Addr).block]? = _ from h]
  simp
theorem rdC_yes {m : List Nat} (h1 : m.length = 1 + 4 * m.getD 0 0) (h2 : RtC (decC m)) : rdC m = decC m := by unfold rdC; rw [if_pos ⟨h1, h2⟩]
theorem rdC_no {m : List Nat} (h : ¬ (m.length = 1 + 4 * m.getD 0 0 ∧ RtC (decC m))) : rdC m = [] := by unfold rdC; rw [if_neg h]
theorem rtc_rt (m : List Nat) : RtC (decC m) ↔ Rt (m.getD 0 0) (deO (fun j => m.getD j 0)) (deR (fun j => m.getD j 0)) := by
  unfold RtC
  rw [decC_length]
  exact ⟨fun h => rt_congr h (fun i hi => decC_at m hi), fun h => rt_congr h (fun i hi => ⟨(decC_at m hi).1.symm, (decC_at m hi).2.symm⟩)⟩
theorem pcellsCongr {O R O' R' : Nat → Int} : ∀ k, (∀ i, i < k → O i = O' i ∧ R i = R' i) → pcells O R k = pcells O' R' k
  | 0, _ => rfl
  | k + 1, h => by simp only [pcells, pcellsCongr k (fun i hi => h i (by omega)), (h k (by omega)).1, (h k (by omega)).2]
/-- A program's row. -/
def CRow (w : World) (base : Nat) (v : Value) (c : List (Int × Int)) : Prop := w.ownsRow base 64 2 v c.length (pcells (cO c) (cR c) c.length)
theorem crow_dec {w : World} {base : Nat} {v : Value} {m : List Nat} (h : w.ownsRow base 64 2 v (m.getD 0 0) (pcells (deO (fun j => m.getD j 0)) (deR (fun j => m.getD j 0)) (m.getD 0 0))) : CRow w base v (decC m) := by
  unfold CRow
  rw [decC_length, pcellsCongr _ (fun i hi => decC_at m hi)]
  exact h
theorem crow_nil (w : World) (base : Nat) : CRow w base (.slice none 0 0) [] := World.ownsRow_nil _ _ _ _
theorem CRow.cod {w : World} {base : Nat} {v : Value} {c : List (Int × Int)} (h : CRow w base v c) : ∃ a cap, v = .slice a c.length cap ∧ Cod w a c := prg_any h
theorem CRow.set {w : World} {base : Nat} {v : Value} {c : List (Int × Int)} (h : CRow w base v c) (a : Addr) (u : Value) (ha : a.block < base) : CRow (w.setCell a u) base v c := row_set h a u ha
theorem CRow.low {w : World} {base base' : Nat} {v : Value} {c : List (Int × Int)} (h : CRow w base v c) (hb : base' ≤ base) : CRow w base' v c := row_low h hb
theorem cod_of_row {w : World} {base : Nat} {a : Option Addr} {cap : Nat} {c : List (Int × Int)} (h : CRow w base (.slice a c.length cap) c) : Cod w a c := by
  obtain ⟨a2, c2, e2, hc⟩ := h.cod
  simp only [Value.slice.injEq, true_and] at e2
  rw [e2.1]
  exact hc
theorem decs (W : World) (lb o c : Nat) (m : List Nat) (h : Bl W lb o m) (hc : m.length ≤ c) (hc2 : c < 9223372036854775808) :
    Calls Try.prog 42 #[.slice (some ⟨lb, o, none⟩) m.length c] W fun e w' => ∃ v x, e = .returned (.tuple #[v, .int .i64 x]) ∧ CRow w' W.heap.size v (rdC m) ∧ Below W.heap.size W w' := by
  by_cases h1 : m.length = 1 + 4 * m.getD 0 0
  · have h0 : m.getD 0 0 < 256 := h.small _ (getD_mem (by omega))
    by_cases h2 : RtC (decC m)
    · refine (decode_row W _ m.length c (fun j => m.getD j 0) h.byt hc hc2 h0 h1 ((rtc_rt m).1 h2)).mono fun e w' hh => ?_
      obtain ⟨a', c', he, hp, hb⟩ := hh
      rw [rdC_yes h1 h2]
      exact ⟨_, 0, he, crow_dec hp, hb⟩
    · refine (decode_wrong W _ m.length c (fun j => m.getD j 0) h.byt hc hc2 h0 h1 (fun q => h2 ((rtc_rt m).2 q))).mono fun e w' hh => ?_
      obtain ⟨he, hb⟩ := hh
      rw [rdC_no (fun q => h2 q.2)]
      exact ⟨_, 3, he, crow_nil _ _, hb⟩
  · refine (decode_cut W _ m.length c (fun j => m.getD j 0) h.byt hc hc2 h1).mono fun e w' hh => ?_
    obtain ⟨he, hb⟩ := hh
    rw [rdC_no (fun q => h1 q.1)]
    exact ⟨_, 3, he, crow_nil _ _, hb⟩
theorem rdecs (W : World) (lb o c : Nat) (m : List Nat) (h : Bl W lb o m) (hc : m.length ≤ c) (hc2 : c < 9223372036854775808) :
    Calls Try.prog 44 #[.slice (some ⟨lb, o, none⟩) m.length c] W fun e w' => ∃ v x, e = .returned (.tuple #[v, .int .i64 x]) ∧ CRow w' W.heap.size v (rdC m) ∧ Below W.heap.size W w' := by
  by_cases h1 : m.length = 1 + 4 * m.getD 0 0
  · have h0 : m.getD 0 0 < 256 := h.small _ (getD_mem (by omega))
    refine (rdecode_row W lb o m.length c (fun j => m.getD j 0) h.lt (fun j hj => ⟨h.at_ j hj, h.small _ (getD_mem hj)⟩) h0 h1 hc2).mono fun e w' hh => ?_
    obtain ⟨hh, hb⟩ := hh
    rcases hh with ⟨hr, a', c', he, hp⟩ | ⟨hr, he⟩
    · rw [rdC_yes h1 ((rtc_rt m).2 hr)]
      exact ⟨_, 0, he, crow_dec hp, hb⟩
    · rw [rdC_no (fun q => hr ((rtc_rt m).1 q.2))]
      exact ⟨_, 3, he, crow_nil _ _, hb⟩
  · refine (rdecode_cut W _ m.length c (fun j => m.getD j 0) h.byt hc hc2 h1).mono fun e w' hh => ?_
    obtain ⟨he, hb⟩ := hh
    rw [rdC_no (fun q => h1 q.1)]
    exact ⟨_, 3, he, crow_nil _ _, hb⟩
end Go.Proofs.Ytnnpbbiiapipaaa
