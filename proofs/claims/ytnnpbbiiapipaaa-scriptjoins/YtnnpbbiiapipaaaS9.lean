/-
  script: bytes in memory, a number of bytes walked, on both sides.
-/
import Derived.Test.YtnnpbbiiapipaaaS1
import Derived.Lib.EndianBits
namespace Go.Proofs.Ytnnpbbiiapipaaa
open Go.RowKit Go.Lib
set_option linter.unusedVariables false
/-- Bytes in memory. -/
structure Bl (w : World) (lb off : Nat) (l : List Nat) : Prop where
  lt : lb < w.heap.size
  at_ : ∀ j, j < l.length → w.cell? ⟨lb, off + j, none⟩ = some (.int .u8 ((l.getD j 0 : Nat) : Int))
  small : ∀ y ∈ l, y < 256
theorem Bl.below {w w' : World} {lb off : Nat} {l : List Nat} (h : Bl w lb off l) (hb : Below w.heap.size w w') : Bl w' lb off l :=
  ⟨Nat.lt_of_lt_of_le h.lt hb.size, fun j hj => (hb.cell (p := ⟨lb, off + j, none⟩) h.lt).trans (h.at_ j hj), h.small⟩
theorem Bl.drop {w : World} {lb off : Nat} {l : List Nat} (h : Bl w lb off l) (k : Nat) : Bl w lb (off + k) (l.drop k) :=
  ⟨h.lt, fun j hj => by
    have := h.at_ (k + j) (by simp at hj; omega)
    rw [← Nat.add_assoc] at this
    rw [this]
    simp [List.getD], (take_small h.small k).2⟩
theorem Bl.take {w : World} {lb off : Nat} {l : List Nat} (h : Bl w lb off l) (k : Nat) : Bl w lb off (l.take k) :=
  ⟨h.lt, fun j hj => by
    rw [List.length_take] at hj
    rw [h.at_ j (by omega)]
    simp [List.getD, List.getElem?_take_of_lt (show j < k by omega)], (take_small h.small k).1⟩
theorem Bl.byt {w : World} {lb off : Nat} {l : List Nat} (h : Bl w lb off l) : Byt w (some ⟨lb, off, none⟩) l.length (fun j => l.getD j 0) :=
  .inr ⟨lb, off, rfl, h.lt, fun j hj => ⟨h.at_ j hj, h.small _ (getD_mem hj)⟩⟩
theorem unbe_snoc (l : List Nat) (x : Nat) : unbe (l ++ [x]) = unbe l * 256 + x := by simp [unbe]
theorem unbe_take {l : List Nat} {j : Nat} (h : j < l.length) : unbe (l.take (j + 1)) = unbe (l.take j) * 256 + l.getD j 0 := by
  rw [List.take_add_one, List.getElem?_eq_getElem h]
  show unbe (l.take j ++ [l[j]]) = _
  rw [unbe_snoc]
  simp [List.getD, List.getElem?_eq_getElem h]
theorem or8u (y x : Nat) (hy : y < 72057594037927936) (hx : x < 256) : bits .or .u64 ((y : Int) * 256) (x : Int) = (y : Int) * 256 + (x : Int) := by
  refine bits_join .u64 64 (by decide) (fun n h0 h1 => by simp [IntKind.wrap, IntKind.bits, IntKind.signed]; omega) 8 _ _ (by omega) (by omega) (by omega) (by omega) (by omega) (by omega)
theorem unbe_bound {l : List Nat} (hs : ∀ y ∈ l, y < 256) {j : Nat} (hj : j < 8) : unbe (l.take j) < 72057594037927936 := by
  have h1 := unbe_lt (take_small hs j).1
  have h2 : (l.take j).length ≤ 7 := by simp; omega
  have h3 : 256 ^ (l.take j).length ≤ 256 ^ 7 := Nat.pow_le_pow_right (by omega) h2
  omega
set_option maxRecDepth 100000 in
set_option maxHeartbeats 1000000 in
theorem readN_ok (w : World) (lb off cap : Nat) (l : List Nat) (h : Bl w lb off l) (hl : l.length ≤ 8) :
    Calls Try.prog 41 #[.slice (some ⟨lb, off, none⟩) l.length cap] w fun e w' => e = .returned (.int .u64 (unbe l : Int)) ∧ w' = w := by
  have HB := veil h
  clear h
  go_enter Try.func41, Try.ntmps41
  go_wp2
  go_loopw [3, 8] (fun s i wr => ∃ (j : Nat), j ≤ l.length ∧ i = .int .i64 (j : Int) ∧ s = .int .u64 (unbe (l.take j) : Int) ∧ wr = w) (fun _ i _ => l.length - (intOf i).toNat)
  case atStart => exact ⟨0, by omega, rfl, by simp [unbe], rfl⟩
  case round =>
    obtain ⟨j, hj, rfl, rfl, rfl⟩ := hrel
    by_cases hjl : j < l.length
    · have hjl' : (j : Int) < (l.length : Int) := by omega
      have y0 := HB.out.at_ j hjl
      have HT := veil (unbe_take hjl)
      have hx : l.getD j 0 < 256 := HB.out.small _ (getD_mem hjl)
      have hy := unbe_bound HB.out.small (j := j) (by omega)
      generalize l.getD j 0 = x at y0 HT hx
      generalize unbe (l.take j) = y at HT hy ⊢
      have hor := or8u y x hy hx
      go_wp2
      refine ⟨⟨j + 1, by omega, by go_num, ?_, trivial⟩, by simp [intOf]; omega⟩
      rw [HT.out]
      congr 1
    · have hjl' : ¬ (j : Int) < (l.length : Int) := by omega
      rw [show l.take j = l from List.take_of_length_le (by omega)]
      go_wp2
      go_ret
      exact ⟨rfl, rfl⟩
set_option maxRecDepth 100000 in
set_option maxHeartbeats 1000000 in
theorem rnum_ok (w : World) (lb off cap : Nat) (l : List Nat) (h : Bl w lb off l) (hl : l.length ≤ 8) :
    Calls Try.prog 43 #[.slice (some ⟨lb, off, none⟩) l.length cap] w fun e w' => e = .returned (.int .u64 (unbe l : Int)) ∧ w' = w := by
  have HB := veil h
  clear h
  go_enter Try.func43, Try.ntmps43
  go_wp2
  go_loopw [3, 4] (fun s i wr => ∃ (j : Nat), j ≤ l.length ∧ i = .int .i64 (j : Int) ∧ s = .int .u64 (unbe (l.take j) : Int) ∧ wr = w) (fun _ i _ => l.length - (intOf i).toNat)
  case atStart => exact ⟨0, by omega, rfl, by simp [unbe], rfl⟩
  case round =>
    obtain ⟨j, hj, rfl, rfl, rfl⟩ := hrel
    by_cases hjl : j < l.length
    · have hjl' : (j : Int) < (l.length : Int) := by omega
      have y0 := HB.out.at_ j hjl
      have HT := veil (unbe_take hjl)
      have hx : l.getD j 0 < 256 := HB.out.small _ (getD_mem hjl)
      have hy := unbe_bound HB.out.small (j := j) (by omega)
      generalize l.getD j 0 = x at y0 HT hx
      generalize unbe (l.take j) = y at HT hy ⊢
      have hor := or8u y x hy hx
      go_wp2
      refine ⟨⟨j + 1, by omega, by go_num, ?_, trivial⟩, by simp [intOf]; omega⟩
      rw [HT.out]
      congr 1
    · have hjl' : ¬ (j : Int) < (l.length : Int) := by omega
      rw [show l.take j = l from List.take_of_length_le (by omega)]
      go_wp2
      go_ret
      exact ⟨rfl, rfl⟩
end Go.Proofs.Ytnnpbbiiapipaaa
