/- TopChain: the model's way. -/
import Derived.Test.YtbhkgbhgofefjaaR20
namespace Go.Proofs.Ytbhkgbhgofefjaa
open Go.RowKit
set_option linter.unusedVariables false
def TT (lev : Nat → Nat) (n i : Nat) : List Th := (List.range 8).map (fun t => ⟨fixK (if t < n then (lev t : Int) else 0), if t < i then ((t + 1 : Nat) : Int) else -1⟩)
def LL (k i : Nat) : List Lk := (List.range 8).map (fun m => ⟨if m < k then (m : Int) else -1, if 1 ≤ m ∧ m ≤ i then [m - 1] else []⟩)
theorem TT_at (lev : Nat → Nat) (n i : Nat) {t : Nat} (h : t < 8) : (TT lev n i)[t]? = some ⟨fixK (if t < n then (lev t : Int) else 0), if t < i then ((t + 1 : Nat) : Int) else -1⟩ := by
  unfold TT
  rw [List.getElem?_map, List.getElem?_range h]
  rfl
theorem LL_at (k i : Nat) {m : Nat} (h : m < 8) : (LL k i)[m]? = some ⟨if m < k then (m : Int) else -1, if 1 ≤ m ∧ m ≤ i then [m - 1] else []⟩ := by
  unfold LL
  rw [List.getElem?_map, List.getElem?_range h]
  rfl
theorem TT_len (lev : Nat → Nat) (n i : Nat) : (TT lev n i).length = 8 := by simp [TT]
theorem LL_len (k i : Nat) : (LL k i).length = 8 := by simp [LL]
theorem ext8 {α : Type} {a b : List α} (ha : a.length = 8) (hb : b.length = 8) (h : ∀ t, t < 8 → a[t]? = b[t]?) : a = b := by
  apply List.ext_getElem?
  intro t
  by_cases ht : t < 8
  · exact h t ht
  · rw [List.getElem?_eq_none (by omega), List.getElem?_eq_none (by omega)]
theorem new_TT (lev : Nat → Nat) : newM 8 8 = ⟨TT lev 0 0, LL 0 0⟩ := by
  unfold newM
  congr 1
theorem ch_base {lev : Nat → Nat} {i : Nat} (hi : i < 8) : baseR ⟨TT lev i 0, LL 0 0⟩ (i : Int) (fixK (lev i)) = (0, ⟨TT lev (i + 1) 0, LL 0 0⟩) := by
  have e1 : inT (TT lev i 0) (i : Int) = true := by unfold inT; simp [TT_len]; omega
  unfold baseR
  simp only [e1, show rightK (fixK (lev i)) = true from rfl, Bool.and_self, if_true, Int.toNat_natCast, TT_at lev i 0 hi]
  congr 2
  refine ext8 (by simp [TT_len]) (TT_len _ _ _) (fun t ht => ?_)
  rw [List.getElem?_set, TT_at lev (i + 1) 0 ht]
  by_cases h : i = t
  · subst h
    rw [if_pos rfl, if_pos (by rw [TT_len]; exact hi)]
    simp
  · rw [if_neg h, TT_at lev i 0 ht]
    have e : (t < i) = (t < i + 1) := by apply propext; omega
    simp [e]
theorem ch_lock {lev : Nat → Nat} {n i : Nat} (hi : i < 8) : lockR ⟨TT lev n 0, LL i 0⟩ (i : Int) (i : Int) = ((true, 0), ⟨TT lev n 0, LL (i + 1) 0⟩) := by
  rw [lockR_free (M := ⟨TT lev n 0, LL i 0⟩) (TT_at lev n 0 hi) (by simp) (LL_at i 0 hi) (by simp)]
  congr 2
  refine ext8 (by simp [LL_len]) (LL_len _ _) (fun t ht => ?_)
  rw [List.getElem?_set, LL_at (i + 1) 0 ht]
  by_cases h : i = t
  · subst h
    rw [if_pos rfl, if_pos (by rw [LL_len]; exact hi)]
    simp
  · rw [if_neg h, LL_at i 0 ht]
    have e : (t < i) = (t < i + 1) := by apply propext; omega
    simp [e]
theorem ch_edge {k i a b : Nat} (h : Edge (LL k i) a b) : b = a + 1 ∧ a < i := by
  obtain ⟨y, hy, hin, hh⟩ := h
  obtain ⟨m, hm⟩ := List.mem_iff_getElem?.1 hy
  have hm8 : m < 8 := by have := (List.getElem?_eq_some_iff.1 hm).1; rw [LL_len] at this; exact this
  rw [LL_at k i hm8] at hm
  obtain rfl := Option.some.inj hm
  dsimp only at hin hh
  split at hin
  · simp at hin
    split at hh
    · omega
    · omega
  · simp at hin
theorem ch_wait {lev : Nat → Nat} {n i : Nat} (hn : n ≤ 8) (hi : i + 1 < n) : lockR ⟨TT lev n i, LL n i⟩ (i : Int) ((i : Int) + 1) = ((false, 0), ⟨TT lev n (i + 1), LL n (i + 1)⟩) := by
  have ha := TT_at lev n i (show i < 8 by omega)
  have hb := LL_at n i (show i + 1 < 8 by omega)
  rw [show ((i : Int) + 1) = ((i + 1 : Nat) : Int) by omega]
  rw [lockR_wait (M := ⟨TT lev n i, LL n i⟩) (o := i + 1) ha (by simp) hb (by simp [hi]) (by omega) (fun h => by
    cases h with
    | on e _ => have := ch_edge e; omega)]
  congr 2
  · refine ext8 (by simp [TT_len]) (TT_len _ _ _) (fun t ht => ?_)
    rw [List.getElem?_set, TT_at lev n (i + 1) ht]
    by_cases h : i = t
    · subst h
      rw [if_pos rfl, if_pos (by show i < (TT lev n i).length; rw [TT_len]; omega)]
      simp
    · rw [if_neg h, TT_at lev n i ht]
      have e : (t < i) = (t < i + 1) := by apply propext; omega
      simp [e]
  · refine ext8 (by simp [LL_len]) (LL_len _ _) (fun t ht => ?_)
    rw [List.getElem?_set, LL_at n (i + 1) ht]
    by_cases h : i + 1 = t
    · subst h
      rw [if_pos rfl, if_pos (by show i + 1 < (LL n i).length; rw [LL_len]; omega)]
      simp [hi]
    · rw [if_neg h, LL_at n i ht]
      have e : (t ≤ i) = (t ≤ i + 1) := by apply propext; omega
      simp [e]
theorem ch_leads {n : Nat} (hn : n ≤ 8) (i : Nat) (hi : i < n) : ∀ a, a ≤ i → Leads (LL n i) (i - a) i
  | 0, _ => by simpa using Leads.here (L := LL n i) i
  | a + 1, h => by
    have ih := ch_leads hn i hi a (by omega)
    refine .on (s := i - a) ⟨_, List.mem_of_getElem? (LL_at n i (show i - a < 8 by omega)), ?_, ?_⟩ ih
    · rw [if_pos (by omega)]
      simp
      omega
    · rw [if_pos (by omega)]
theorem ch_ring {lev : Nat → Nat} {i : Nat} (hi : i + 1 ≤ 8) (h0 : 0 < i) : lockR ⟨TT lev (i + 1) i, LL (i + 1) i⟩ (i : Int) 0 = ((false, 8), ⟨TT lev (i + 1) i, LL (i + 1) i⟩) := by
  have ha := TT_at lev (i + 1) i (show i < 8 by omega)
  have hb := LL_at (i + 1) i (show 0 < 8 by omega)
  have hl := ch_leads hi i (by omega) i (Nat.le_refl _)
  rw [Nat.sub_self] at hl
  exact lockR_ring (M := ⟨TT lev (i + 1) i, LL (i + 1) i⟩) (j := 0) (o := 0) ha (by simp) hb (by simp) (by omega) hl
/-- The greatest of the first levels. -/
def mx (lev : Nat → Nat) : Nat → Nat
  | 0 => 0
  | k + 1 => if mx lev k < lev k then lev k else mx lev k
theorem maxK_fix (a b : Nat) : maxK (fixK (a : Int)) (fixK (b : Int)) = fixK ((if a < b then b else a : Nat) : Int) := by
  unfold maxK up fixK
  by_cases h : a < b
  · simp [h]
  · simp [h]
theorem maxK_fix' (a b : Nat) : maxK (fixK (b : Int)) (fixK (a : Int)) = fixK ((if a < b then b else a : Nat) : Int) := by
  rw [maxK_fix]
  congr 2
  split <;> split <;> omega
set_option maxRecDepth 100000 in
theorem ch_behind : ∀ i, i < 8 → ∀ a, a < 8 → a ≤ i → behind (LL (i + 1) i) a = if a = 0 then [] else [a - 1] := by decide
set_option maxRecDepth 100000 in
theorem ch_behind2 : ∀ i, i < 8 → 0 < i → behind ((LL (i + 1) i).set i ⟨((i - 1 : Nat) : Int), []⟩) i = [] := by decide
theorem ch_key {lev : Nat → Nat} {i : Nat} (hi : i < 8) (h : Acyc (LL (i + 1) i)) : ∀ a, a ≤ i → keyOf (TT lev (i + 1) i) (LL (i + 1) i) a = fixK (mx lev (a + 1))
  | 0, _ => by
    rw [keyOf_eq h, ch_behind i hi 0 (by omega) (by omega), if_pos rfl]
    unfold ownK
    rw [TT_at lev (i + 1) i (by omega)]
    simp [mx]
    congr 1
    by_cases q : 0 < lev 0
    · simp [q]
    · simp [q]; omega
  | a + 1, ha => by
    have ih := ch_key (lev := lev) hi h a (by omega)
    rw [keyOf_eq h, ch_behind i hi (a + 1) (by omega) ha, if_neg (by omega)]
    simp only [Nat.add_sub_cancel, List.foldl_cons, List.foldl_nil]
    rw [ih]
    unfold ownK
    rw [TT_at lev (i + 1) i (by omega)]
    simp only [Option.map_some, Option.getD_some]
    rw [if_pos (by omega), maxK_fix']
    rfl
theorem ch_keyA {lev : Nat → Nat} {i : Nat} (hi : i < 8) (h : Acyc (LL (i + 1) i)) : keyA (TT lev (i + 1) i) (LL (i + 1) i) (i : Int) = fixK (mx lev (i + 1)) := by
  unfold keyA
  rw [if_pos (by unfold inT; simp [TT_len]; omega), Int.toNat_natCast]
  exact ch_key hi h i (Nat.le_refl _)
def chM (lev : Nat → Nat) (i : Nat) : Md := ⟨(TT lev (i + 1) i).set (i - 1) ⟨fixK (lev (i - 1)), -1⟩, (LL (i + 1) i).set i ⟨((i - 1 : Nat) : Int), []⟩⟩
theorem ch_unl {lev : Nat → Nat} {i : Nat} (hi : i < 8) (h0 : 0 < i) : unlR ⟨TT lev (i + 1) i, LL (i + 1) i⟩ (i : Int) (i : Int) = ((((i - 1 : Nat) : Int), 0), chM lev i) := by
  have ha := TT_at lev (i + 1) i hi
  have hb := LL_at (i + 1) i hi
  rw [if_pos (by omega), if_pos (by omega)] at hb
  have hm := may_zero (M := ⟨TT lev (i + 1) i, LL (i + 1) i⟩) ha (by simp) hb
  have hp : nextP ⟨TT lev (i + 1) i, LL (i + 1) i⟩ ⟨(i : Int), [i - 1]⟩ = 0 := by
    unfold nextP
    show (foreTo _ [i - 1] 1).1 = 0
    rw [foreTo, if_pos (.inl rfl)]
    rfl
  unfold unlR
  rw [if_neg (by simpa using hm)]
  simp only [Int.toNat_natCast, hb]
  rw [if_neg (by simp), hp]
  have hz := TT_at lev (i + 1) i (show i - 1 < 8 by omega)
  rw [if_pos (by omega)] at hz
  simp [hz, chM]
theorem ch_last {lev : Nat → Nat} {i : Nat} (hi : i < 8) (h0 : 0 < i) (h : Acyc (chM lev i).L) : keyA (chM lev i).T (chM lev i).L (i : Int) = fixK (lev i) := by
  unfold keyA
  rw [if_pos (by unfold inT chM; simp [TT_len]; omega), Int.toNat_natCast, keyOf_eq h]
  have e : behind (chM lev i).L i = [] := ch_behind2 i hi h0
  rw [e]
  unfold ownK chM
  simp only [List.foldl_nil]
  rw [List.getElem?_set_ne (by omega), TT_at lev (i + 1) i hi]
  simp
end Go.Proofs.Ytbhkgbhgofefjaa
