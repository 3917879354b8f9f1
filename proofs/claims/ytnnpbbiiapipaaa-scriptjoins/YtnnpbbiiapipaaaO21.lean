/-
  prog: there and back: bytes of a program, a program of bytes.
-/
import Derived.Test.YtnnpbbiiapipaaaO20
namespace Go.Proofs.Ytnnpbbiiapipaaa
open Go.RowKit Go.Lib

/-- A program's bytes, as numbers. -/
def encN (len : Nat) (O R : Nat → Int) : Nat → List Nat
  | 0 => [len]
  | k + 1 => encN len O R k ++ [(O k).toNat, (R k).toNat / 65536 % 256, (R k).toNat / 256 % 256, (R k).toNat % 256]
theorem encN_length (len : Nat) (O R : Nat → Int) : ∀ k, (encN len O R k).length = 1 + 4 * k
  | 0 => rfl
  | k + 1 => by simp [encN, encN_length len O R k]; omega
theorem encN_enc {len : Nat} {O R : Nat → Int} : ∀ k, (∀ i, i < k → 0 ≤ O i) → enc len O R k = u8s (encN len O R k)
  | 0, _ => rfl
  | k + 1, h => by
    have h1 := h k (by omega)
    simp only [enc, encN, encN_enc k (fun i hi => h i (by omega)), lowByte, u8s, List.map_append, List.map_cons, List.map_nil, List.append_assoc, List.cons_append, List.nil_append, Int.toNat_of_nonneg h1]
theorem encN_first (len : Nat) (O R : Nat → Int) : ∀ k, (encN len O R k).getD 0 0 = len
  | 0 => rfl
  | k + 1 => by
    have h := encN_first len O R k
    simp only [encN]
    unfold List.getD at h ⊢
    rw [List.getElem?_append_left (by rw [encN_length]; omega)]
    exact h
theorem encN_at (len : Nat) (O R : Nat → Int) : ∀ k i, i < k → (encN len O R k).getD (1 + 4 * i) 0 = (O i).toNat ∧ (encN len O R k).getD (2 + 4 * i) 0 = (R i).toNat / 65536 % 256 ∧ (encN len O R k).getD (3 + 4 * i) 0 = (R i).toNat / 256 % 256 ∧ (encN len O R k).getD (4 + 4 * i) 0 = (R i).toNat % 256
  | k + 1, i, h => by
    by_cases q : i = k
    · subst q
      simp only [encN]
      unfold List.getD
      rw [List.getElem?_append_right (by rw [encN_length]; omega), List.getElem?_append_right (by rw [encN_length]; omega), List.getElem?_append_right (by rw [encN_length]; omega), List.getElem?_append_right (by rw [encN_length]; omega), encN_length]
      rw [show 1 + 4 * i - (1 + 4 * i) = 0 by omega, show 2 + 4 * i - (1 + 4 * i) = 1 by omega, show 3 + 4 * i - (1 + 4 * i) = 2 by omega, show 4 + 4 * i - (1 + 4 * i) = 3 by omega]
      exact ⟨rfl, rfl, rfl, rfl⟩
    · have := encN_at len O R k i (by omega)
      simp only [encN]
      unfold List.getD at this ⊢
      rw [List.getElem?_append_left (by rw [encN_length]; omega), List.getElem?_append_left (by rw [encN_length]; omega), List.getElem?_append_left (by rw [encN_length]; omega), List.getElem?_append_left (by rw [encN_length]; omega)]
      exact this
theorem encN_small {len : Nat} {O R : Nat → Int} (hl : len ≤ 64) : ∀ k, (∀ i, i < k → O i ≤ 9) → ∀ y ∈ encN len O R k, y < 256
  | 0, _ => by simp [encN]; omega
  | k + 1, h => by
    intro y hy
    have h1 := h k (by omega)
    simp only [encN, List.mem_append, List.mem_cons, List.not_mem_nil, or_false] at hy
    rcases hy with hy | rfl | rfl | rfl | rfl
    · exact encN_small hl k (fun i hi => h i (by omega)) y hy
    · omega
    · omega
    · omega
    · omega
/-- There and back. -/
theorem de_enc {len : Nat} {O R : Nat → Int} {i : Nat} (h : i < len) (ho : 0 ≤ O i) (h0 : 0 ≤ R i) (h1 : R i ≤ 65536) : deO (fun j => (encN len O R len).getD j 0) i = O i ∧ deR (fun j => (encN len O R len).getD j 0) i = R i := by
  obtain ⟨q1, q2, q3, q4⟩ := encN_at len O R len i h
  simp only [deO, deR, q1, q2, q3, q4]
  omega
/-- Back and there. -/
theorem enc_de {X : Nat → Nat} : ∀ k, (∀ j, j < 1 + 4 * k → X j < 256) → enc (X 0) (deO X) (deR X) k = u8s ((List.range (1 + 4 * k)).map X)
  | 0, _ => by simp [enc, u8s, List.range_succ]
  | k + 1, h => by
    have e := enc_de k (fun j hj => h j (by omega))
    have a2 := h (2 + 4 * k) (by omega)
    have a3 := h (3 + 4 * k) (by omega)
    have a4 := h (4 + 4 * k) (by omega)
    have e2 : lowByte ((deR X k).toNat / 65536) = Value.int .u8 (X (2 + 4 * k) : Int) := by simp only [lowByte, deR, Int.toNat_natCast]; congr 1; omega
    have e3 : lowByte ((deR X k).toNat / 256) = Value.int .u8 (X (3 + 4 * k) : Int) := by simp only [lowByte, deR, Int.toNat_natCast]; congr 1; omega
    have e4 : lowByte (deR X k).toNat = Value.int .u8 (X (4 + 4 * k) : Int) := by simp only [lowByte, deR, Int.toNat_natCast]; congr 1; omega
    rw [show 1 + 4 * (k + 1) = (1 + 4 * k) + 4 by omega, List.range_add]
    simp only [enc, e, e2, e3, e4, deO, u8s, List.map_append, List.append_assoc]
    congr 1
    simp only [show List.range 4 = [0, 1, 2, 3] from rfl, List.map_cons, List.map_nil, List.cons_append, List.nil_append]
    rw [show 1 + 4 * k + 0 = 1 + 4 * k by omega, show 1 + 4 * k + 1 = 2 + 4 * k by omega, show 1 + 4 * k + 2 = 3 + 4 * k by omega, show 1 + 4 * k + 3 = 4 + 4 * k by omega]
theorem row_below {w w' : World} {base : Nat} {e : TypeId} {size : Nat} {v : Value} {n : Nat} {xs : List Value} (h : w.ownsRow base e size v n xs) (hb : Below w.heap.size w w') : w'.ownsRow base e size v n xs := by
  refine ⟨h.1, ?_⟩
  rcases h.2 with hn | ⟨g, cap, cur, rfl, hb', hgg, rest⟩
  · exact .inl hn
  · exact .inr ⟨g, cap, cur, rfl, hb', (hb.block g (Array.getElem?_eq_some_iff.1 hgg).1).trans hgg, rest⟩
theorem prg_congr {w : World} {a : Option Addr} {len : Nat} {O R O' R' : Nat → Int} (h : Prg w a len O R) (he : ∀ i, i < len → O i = O' i ∧ R i = R' i) : Prg w a len O' R' := by
  rcases h with h | ⟨lb, off, h1, h2, hc⟩
  · exact .inl h
  · exact .inr ⟨lb, off, h1, h2, fun j hj => by rw [← (he j hj).1, ← (he j hj).2]; exact hc j hj⟩
theorem psame {w : World} {a b : Option Addr} {len ca cb : Nat} {O R : Nat → Int} (hl : 1 ≤ len) (hl2 : len ≤ 64) (h1 : Prg w a len O R) (h2 : Prg w b len O R) :
    Calls Try.prog 32 #[.slice a len ca, .slice b len cb] w fun e w' => e = .returned (.bool true) ∧ Below w.heap.size w w' := by
  rcases h1 with h | ⟨lb, off, rfl, _, hc⟩
  · omega
  rcases h2 with h | ⟨lb2, off2, rfl, _, hc2⟩
  · omega
  exact (psame_walk w lb off lb2 off2 len ca cb O R (by omega) hc hc2).mono fun e w' ⟨he, q, hw⟩ => ⟨he, by rw [hw]; exact below_drewN (Below.refl _ _) q⟩
/-- Decode of a program's own bytes. -/
theorem decode_own (w : World) (base : Nat) (v : Value) (m : Nat) (O R : Nat → Int) (hr : Rt m O R) (ho : w.ownsRow base 5 1 v (1 + 4 * m) (enc m O R m)) :
    ∃ a cap, v = .slice a (1 + 4 * m) cap ∧ Calls Try.prog 42 #[v] w fun e w' => ∃ a' cap', e = .returned (.tuple #[.slice a' m cap', .int .i64 0]) ∧ Prg w' a' m O R ∧ Below w.heap.size w w' := by
  obtain ⟨y0, hy0⟩ := hr
  obtain ⟨hl1, hl2, hall, hlast, rfl⟩ := hy0.zero
  have hbd : ∀ i, i < m → 1 ≤ O i ∧ O i ≤ 9 ∧ 0 ≤ R i ∧ R i ≤ 65536 := fun i hi => okI_bounds (by omega) (hall i hi)
  rw [encN_enc m (fun i hi => by have := hbd i hi; omega)] at ho
  have hlen := encN_length m O R m
  have hfst := encN_first m O R m
  have hde : ∀ i, i < m → deO (fun j => (encN m O R m).getD j 0) i = O i ∧ deR (fun j => (encN m O R m).getD j 0) i = R i := fun i hi => by
    have := hbd i hi
    exact de_enc hi (by omega) (by omega) (by omega)
  have hsm := encN_small (O := O) (R := R) hl2 m (fun i hi => (hbd i hi).2.1)
  generalize encN m O R m = ys at ho hlen hfst hde hsm
  rw [← hlen] at ho
  obtain ⟨g, cap, rfl, q2, q3, _, q5, q6⟩ := byt_row ho (by omega) hsm
  refine ⟨_, cap, by rw [hlen], ?_⟩
  have hchk : Chk ((fun j => ys.getD j 0) 0) (deO (fun j => ys.getD j 0)) (deR (fun j => ys.getD j 0)) 0 0 := by
    show Chk (ys.getD 0 0) _ _ 0 0
    rw [hfst]
    refine .inr (.inr (.inr ⟨hl1, hl2, fun i hi => ?_, ?_, rfl, rfl⟩))
    · rw [(hde i hi).1, (hde i hi).2]; exact hall i hi
    · rw [(hde (m - 1) (by omega)).1]; exact hlast
  refine (decode_yes w _ ys.length cap (fun j => ys.getD j 0) (.inr ⟨g, 0, rfl, q5, q6⟩) q2 (by unfold maxLen at q3; omega) (by show ys.getD 0 0 < 256; omega) (by show ys.length = 1 + 4 * ys.getD 0 0; omega) ⟨0, hchk⟩).mono ?_
  rintro e w' ⟨a', cap', he, hp, hb⟩
  rw [hfst] at he hp
  exact ⟨a', cap', he, prg_congr hp hde, hb⟩
end Go.Proofs.Ytnnpbbiiapipaaa
