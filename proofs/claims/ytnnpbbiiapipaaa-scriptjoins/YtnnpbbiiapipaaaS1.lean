/-
  script: entries as plain data, their bytes, there and back.
-/
import Derived.Test.YtnnpbbiiapipaaaO21
namespace Go.Proofs.Ytnnpbbiiapipaaa
open Go.RowKit Go.Lib
set_option linter.unusedVariables false

/-- Bytes of a number, the highest first. -/
def be : Nat → Nat → List Nat
  | 0, _ => []
  | k + 1, n => (n / 256 ^ k % 256) :: be k n
def unbe (l : List Nat) : Nat := l.foldl (fun a x => a * 256 + x) 0
theorem be_length : ∀ k n, (be k n).length = k
  | 0, _ => rfl
  | k + 1, n => by simp [be, be_length k n]
theorem be_small : ∀ k n, ∀ y ∈ be k n, y < 256
  | 0, _ => by simp [be]
  | k + 1, n => by
    intro y hy
    simp only [be, List.mem_cons] at hy
    rcases hy with rfl | hy
    · exact Nat.mod_lt _ (by omega)
    · exact be_small k n y hy
theorem foldl_be : ∀ k n a, (be k n).foldl (fun a x => a * 256 + x) a = a * 256 ^ k + n % 256 ^ k
  | 0, n, a => by simp [be, Nat.mod_one]
  | k + 1, n, a => by
    simp only [be, List.foldl_cons, foldl_be k n]
    have h1 : n % 256 ^ (k + 1) = 256 ^ k * (n / 256 ^ k % 256) + n % 256 ^ k := by
      rw [Nat.pow_succ, Nat.mod_mul]
      omega
    rw [h1, Nat.pow_succ, Nat.add_mul, Nat.mul_assoc, Nat.mul_comm 256 (256 ^ k), Nat.mul_comm (256 ^ k) (n / 256 ^ k % 256)]
    omega
theorem unbe_be {k n : Nat} (h : n < 256 ^ k) : unbe (be k n) = n := by
  unfold unbe
  rw [foldl_be, Nat.mod_eq_of_lt h]
  omega
theorem foldl_lt : ∀ (l : List Nat) (a : Nat), (∀ y ∈ l, y < 256) → l.foldl (fun a x => a * 256 + x) a < (a + 1) * 256 ^ l.length
  | [], a, _ => by simp
  | x :: l, a, h => by
    have h1 := h x (by simp)
    have h2 := foldl_lt l (a * 256 + x) (fun y hy => h y (by simp [hy]))
    simp only [List.foldl_cons, List.length_cons, Nat.pow_succ]
    refine Nat.lt_of_lt_of_le h2 ?_
    rw [Nat.mul_comm (256 ^ l.length) 256, ← Nat.mul_assoc]
    exact Nat.mul_le_mul_right _ (by omega)
theorem unbe_lt {l : List Nat} (h : ∀ y ∈ l, y < 256) : unbe l < 256 ^ l.length := by
  have := foldl_lt l 0 h
  simpa [unbe] using this
theorem be_foldl : ∀ (l : List Nat) (a : Nat), (∀ y ∈ l, y < 256) → be l.length (l.foldl (fun a x => a * 256 + x) a) = l
  | [], a, _ => rfl
  | x :: l, a, h => by
    have hx := h x (by simp)
    have hl : ∀ y ∈ l, y < 256 := fun y hy => h y (by simp [hy])
    have h1 := be_foldl l (a * 256 + x) hl
    simp only [List.foldl_cons, List.length_cons, be]
    rw [h1]
    congr 1
    have h2 : ∀ (l : List Nat) (b : Nat), (∀ y ∈ l, y < 256) → l.foldl (fun a x => a * 256 + x) b = b * 256 ^ l.length + l.foldl (fun a x => a * 256 + x) 0 := by
      intro l
      induction l with
      | nil => intro b _; simp
      | cons y l ih =>
        intro b hb
        have hb' : ∀ z ∈ l, z < 256 := fun z hz => hb z (by simp [hz])
        simp only [List.foldl_cons, List.length_cons, Nat.pow_succ]
        rw [ih (b * 256 + y) hb', ih (0 * 256 + y) hb']
        rw [Nat.add_mul, Nat.mul_assoc, Nat.mul_comm 256 (256 ^ l.length)]
        simp only [Nat.zero_mul, Nat.zero_add]
        omega
    rw [h2 l (a * 256 + x) hl]
    have h3 : l.foldl (fun a x => a * 256 + x) 0 < 256 ^ l.length := unbe_lt hl
    rw [Nat.mul_comm, Nat.mul_add_div (Nat.pos_of_ne_zero (by simp)), Nat.div_eq_of_lt h3]
    omega
theorem be_unbe {l : List Nat} {k : Nat} (hk : l.length = k) (h : ∀ y ∈ l, y < 256) : be k (unbe l) = l := by
  subst hk
  exact be_foldl l 0 h

/-- A program as a list. -/
def cO (c : List (Int × Int)) (i : Nat) : Int := (c.getD i (0, 0)).1
def cR (c : List (Int × Int)) (i : Nat) : Int := (c.getD i (0, 0)).2
def RtC (c : List (Int × Int)) : Prop := Rt c.length (cO c) (cR c)
def encC (c : List (Int × Int)) : List Nat := encN c.length (cO c) (cR c) c.length
/-- The program that bytes tell. -/
def decC (l : List Nat) : List (Int × Int) := (List.range (l.getD 0 0)).map (fun i => (deO (fun j => l.getD j 0) i, deR (fun j => l.getD j 0) i))

/-- An entry. -/
structure En where
  d : Int
  p : Int
  dr : Nat
  n : Int
  code : List (Int × Int)
  bu : Nat
  pe : Nat
  pr : Int
  lv : Nat
  sv : Int
structure WfE (x : En) : Prop where
  dr : x.dr < 18446744073709551616
  bu : x.bu < 18446744073709551616
  pe : x.pe < 18446744073709551616
  lv : x.lv < 256
def mkStep (p : Int) (dr : Nat) : En := ⟨1, p, dr, 0, [], 0, 0, 0, 0, 0⟩
def mkTick (n : Int) : En := ⟨2, 0, 0, n, [], 0, 0, 0, 0, 0⟩
def mkLoad (c : List (Int × Int)) : En := ⟨3, 0, 0, 0, c, 0, 0, 0, 0, 0⟩
def mkAdmit (bu pe : Nat) : En := ⟨4, 0, 0, 0, [], bu, pe, 0, 0, 0⟩
def mkStart (pr : Int) (lv : Nat) (sv : Int) : En := ⟨5, 0, 0, 0, [], 0, 0, pr, lv, sv⟩
/-- Is an entry right? -/
def RightE (x : En) : Prop :=
  (x = mkStep x.p x.dr ∧ 0 ≤ x.p ∧ x.p ≤ 255) ∨ (x = mkTick x.n ∧ 1 ≤ x.n ∧ x.n ≤ 65535) ∨ (x = mkLoad x.code ∧ RtC x.code) ∨ (x = mkAdmit x.bu x.pe) ∨
  (x = mkStart x.pr x.lv x.sv ∧ 0 ≤ x.pr ∧ x.pr ≤ 255 ∧ -1 ≤ x.sv ∧ x.sv ≤ 254)
/-- Its bytes. -/
def bytes (x : En) : List Nat :=
  if x.d = 1 then 1 :: x.p.toNat :: be 8 x.dr
  else if x.d = 2 then 2 :: be 2 x.n.toNat
  else if x.d = 3 then 3 :: encC x.code
  else if x.d = 4 then 4 :: (be 8 x.bu ++ be 8 x.pe)
  else [5, x.pr.toNat, x.lv, (x.sv + 1).toNat]
theorem bytes_step (p dr) : bytes (mkStep p dr) = 1 :: p.toNat :: be 8 dr := rfl
theorem bytes_tick (n) : bytes (mkTick n) = 2 :: be 2 n.toNat := rfl
theorem bytes_load (c) : bytes (mkLoad c) = 3 :: encC c := rfl
theorem bytes_admit (b p) : bytes (mkAdmit b p) = 4 :: (be 8 b ++ be 8 p) := rfl
theorem bytes_start (p l s) : bytes (mkStart p l s) = [5, p.toNat, l, (s + 1).toNat] := rfl
/-- How many bytes the entry has that bytes begin with. -/
def szOf (b0 b1 len : Nat) : Nat :=
  if b0 = 1 then 10 else if b0 = 2 then 3 else if b0 = 3 then (if 2 ≤ len then 2 + 4 * b1 else 2) else if b0 = 4 then 17 else if b0 = 5 then 4 else 1
def sz (l : List Nat) : Nat := szOf (l.getD 0 0) (l.getD 1 0) l.length
open Classical in
/-- The program that an entry's bytes tell, if it is one. -/
noncomputable def rdC (l : List Nat) : List (Int × Int) := if l.length = 1 + 4 * l.getD 0 0 ∧ RtC (decC l) then decC l else []
/-- The entry that bytes of its length tell. -/
noncomputable def rdE (l : List Nat) : En :=
  if l.getD 0 0 = 1 then mkStep (l.getD 1 0 : Int) (unbe (l.drop 2))
  else if l.getD 0 0 = 2 then mkTick (unbe (l.drop 1) : Int)
  else if l.getD 0 0 = 3 then mkLoad (rdC (l.drop 1))
  else if l.getD 0 0 = 4 then mkAdmit (unbe ((l.drop 1).take 8)) (unbe (l.drop 9))
  else if l.getD 0 0 = 5 then mkStart (l.getD 1 0 : Int) (l.getD 2 0) ((l.getD 3 0 : Int) - 1)
  else ⟨(l.getD 0 0 : Int), 0, 0, 0, [], 0, 0, 0, 0, 0⟩

theorem decC_length (l : List Nat) : (decC l).length = l.getD 0 0 := by simp [decC]
theorem decC_at (l : List Nat) {i : Nat} (h : i < l.getD 0 0) : cO (decC l) i = deO (fun j => l.getD j 0) i ∧ cR (decC l) i = deR (fun j => l.getD j 0) i := by
  have : (decC l).getD i (0, 0) = (deO (fun j => l.getD j 0) i, deR (fun j => l.getD j 0) i) := by
    have h' : (List.range (l.getD 0 0))[i]? = some i := List.getElem?_range h
    unfold decC
    rw [List.getD_eq_getElem?_getD, List.getElem?_map, h']
    rfl
  unfold cO cR
  rw [this]
  exact ⟨rfl, rfl⟩
theorem rt_congr {len : Nat} {O R O' R' : Nat → Int} (h : Rt len O R) (he : ∀ i, i < len → O i = O' i ∧ R i = R' i) : Rt len O' R' := by
  obtain ⟨y, hy⟩ := h
  obtain ⟨h1, h2, h3, h4, rfl⟩ := hy.zero
  refine ⟨0, .inr (.inr (.inr ⟨h1, h2, fun i hi => ?_, ?_, rfl, rfl⟩))⟩
  · rw [← (he i hi).1, ← (he i hi).2]; exact h3 i hi
  · rw [← (he (len - 1) (by omega)).1]; exact h4
theorem rtc_facts {c : List (Int × Int)} (h : RtC c) : 1 ≤ c.length ∧ c.length ≤ 64 ∧ ∀ i, i < c.length → 1 ≤ cO c i ∧ cO c i ≤ 9 ∧ 0 ≤ cR c i ∧ cR c i ≤ 65536 := by
  obtain ⟨y, hy⟩ := h
  obtain ⟨h1, h2, h3, h4, rfl⟩ := hy.zero
  exact ⟨h1, h2, fun i hi => okI_bounds (by omega) (h3 i hi)⟩
theorem encC_length (c : List (Int × Int)) : (encC c).length = 1 + 4 * c.length := encN_length _ _ _ _
theorem encC_first (c : List (Int × Int)) : (encC c).getD 0 0 = c.length := encN_first _ _ _ _
theorem encC_small {c : List (Int × Int)} (h : RtC c) : ∀ y ∈ encC c, y < 256 := by
  obtain ⟨_, h2, h3⟩ := rtc_facts h
  exact encN_small h2 _ (fun i hi => (h3 i hi).2.1)
theorem ext_c {c d : List (Int × Int)} (hl : c.length = d.length) (h : ∀ i, i < c.length → cO c i = cO d i ∧ cR c i = cR d i) : c = d := by
  apply List.ext_getElem hl
  intro i h1 h2
  have := h i h1
  simp only [cO, cR, List.getD, List.getElem?_eq_getElem h1, List.getElem?_eq_getElem h2, Option.getD_some] at this
  exact Prod.ext this.1 this.2
theorem dec_enc {c : List (Int × Int)} (h : RtC c) : decC (encC c) = c := by
  obtain ⟨h1, h2, h3⟩ := rtc_facts h
  have hf := encC_first c
  refine ext_c (by rw [decC_length, hf]) (fun i hi => ?_)
  rw [decC_length, hf] at hi
  obtain ⟨q1, q2⟩ := decC_at (encC c) (i := i) (by rw [hf]; exact hi)
  rw [q1, q2]
  obtain ⟨b1, b2, b3, b4⟩ := h3 i hi
  exact de_enc hi (by omega) b3 b4
theorem enc_dec {l : List Nat} (hl : l.length = 1 + 4 * l.getD 0 0) (hs : ∀ y ∈ l, y < 256) : encC (decC l) = l := by
  have hX : ∀ j, j < 1 + 4 * l.getD 0 0 → (fun j => l.getD j 0) j < 256 := by
    intro j hj
    have : l.getD j 0 ∈ l := by simp [List.getD, List.getElem?_eq_getElem (show j < l.length by omega)]
    exact hs _ this
  have h1 := enc_de (X := fun j => l.getD j 0) (l.getD 0 0) hX
  have h2 : enc ((fun j => l.getD j 0) 0) (deO fun j => l.getD j 0) (deR fun j => l.getD j 0) (l.getD 0 0) = u8s (encN (l.getD 0 0) (deO fun j => l.getD j 0) (deR fun j => l.getD j 0) (l.getD 0 0)) :=
    encN_enc _ (fun i hi => by unfold deO; omega)
  rw [h2] at h1
  have inj : ∀ a b : List Nat, u8s a = u8s b → a = b := by
    intro a
    induction a with
    | nil => intro b h; cases b with
      | nil => rfl
      | cons _ _ => simp [u8s] at h
    | cons x a ih => intro b h; cases b with
      | nil => simp [u8s] at h
      | cons y b =>
        simp only [u8s, List.map_cons, List.cons.injEq, Value.int.injEq, true_and] at h
        rw [ih b h.2, show x = y by omega]
  have h3 := inj _ _ h1
  have h4 : encC (decC l) = encN (l.getD 0 0) (deO fun j => l.getD j 0) (deR fun j => l.getD j 0) (l.getD 0 0) := by
    unfold encC
    rw [decC_length]
    have gen : ∀ (n k : Nat) (O R O' R' : Nat → Int), (∀ i, i < k → O i = O' i ∧ R i = R' i) → encN n O R k = encN n O' R' k := by
      intro n k O R O' R'
      induction k with
      | zero => intro _; rfl
      | succ k ih =>
        intro h
        simp only [encN]
        rw [ih (fun i hi => h i (by omega)), (h k (by omega)).1, (h k (by omega)).2]
    exact gen _ _ _ _ _ _ (fun i hi => decC_at l hi)
  rw [h4, h3]
  apply List.ext_getElem (by simp [hl])
  intro i i1 i2
  simp only [List.getElem_map, List.getElem_range]
  simp [List.getD, List.getElem?_eq_getElem i2]
theorem getD_cons0 (x : Nat) (l : List Nat) : (x :: l).getD 0 0 = x := rfl
theorem getD_cons1 (x y : Nat) (l : List Nat) : (x :: y :: l).getD 1 0 = y := rfl
/-- There and back, of one entry. -/
theorem rd_bytes {x : En} (h : RightE x) (hw : WfE x) : rdE (bytes x) = x := by
  obtain ⟨w1, w2, w3, w4⟩ := hw
  rcases h with ⟨e, h1, h2⟩ | ⟨e, h1, h2⟩ | ⟨e, h1⟩ | e | ⟨e, h1, h2, h3, h4⟩
  · rw [e, bytes_step]
    have : rdE (1 :: x.p.toNat :: be 8 x.dr) = mkStep (x.p.toNat : Int) (unbe (be 8 x.dr)) := rfl
    rw [this, unbe_be (by simpa using w1), Int.toNat_of_nonneg h1]
  · rw [e, bytes_tick]
    have : rdE (2 :: be 2 x.n.toNat) = mkTick (unbe (be 2 x.n.toNat) : Int) := rfl
    rw [this, unbe_be (by simp; omega), Int.toNat_of_nonneg (by omega)]
  · rw [e, bytes_load]
    have : rdE (3 :: encC x.code) = mkLoad (rdC (encC x.code)) := rfl
    rw [this]
    unfold rdC
    rw [encC_length, encC_first, dec_enc h1, if_pos ⟨rfl, h1⟩]
  · rw [e, bytes_admit]
    have : rdE (4 :: (be 8 x.bu ++ be 8 x.pe)) = mkAdmit (unbe ((be 8 x.bu ++ be 8 x.pe).take 8)) (unbe ((be 8 x.bu ++ be 8 x.pe).drop 8)) := rfl
    rw [this, List.take_left' (be_length _ _), List.drop_left' (be_length _ _), unbe_be (by simpa using w2), unbe_be (by simpa using w3)]
  · rw [e, bytes_start]
    have : rdE [5, x.pr.toNat, x.lv, (x.sv + 1).toNat] = mkStart (x.pr.toNat : Int) x.lv (((x.sv + 1).toNat : Int) - 1) := rfl
    rw [this, Int.toNat_of_nonneg h1, Int.toNat_of_nonneg (by omega), show x.sv + 1 - 1 = x.sv by omega]
theorem bytes_small {x : En} (h : RightE x) (hw : WfE x) : ∀ y ∈ bytes x, y < 256 := by
  obtain ⟨w1, w2, w3, w4⟩ := hw
  rcases h with ⟨e, h1, h2⟩ | ⟨e, h1, h2⟩ | ⟨e, h1⟩ | e | ⟨e, h1, h2, h3, h4⟩
  · rw [e, bytes_step]
    intro y hy
    simp only [List.mem_cons] at hy
    rcases hy with rfl | rfl | hy
    · omega
    · omega
    · exact be_small _ _ y hy
  · rw [e, bytes_tick]
    intro y hy
    simp only [List.mem_cons] at hy
    rcases hy with rfl | hy
    · omega
    · exact be_small _ _ y hy
  · rw [e, bytes_load]
    intro y hy
    simp only [List.mem_cons] at hy
    rcases hy with rfl | hy
    · omega
    · exact encC_small h1 y hy
  · rw [e, bytes_admit]
    intro y hy
    simp only [List.mem_cons, List.mem_append] at hy
    rcases hy with rfl | hy | hy
    · omega
    · exact be_small _ _ y hy
    · exact be_small _ _ y hy
  · rw [e, bytes_start]
    intro y hy
    simp only [List.mem_cons, List.not_mem_nil, or_false] at hy
    rcases hy with rfl | rfl | rfl | rfl <;> omega
/-- The length of an entry's bytes is told by its beginning. -/
theorem sz_bytes {x : En} (h : RightE x) (hw : WfE x) (r : List Nat) : sz (bytes x ++ r) = (bytes x).length := by
  rcases h with ⟨e, h1, h2⟩ | ⟨e, h1, h2⟩ | ⟨e, h1⟩ | e | ⟨e, h1, h2, h3, h4⟩
  · rw [e, bytes_step]; simp [be_length]; rfl
  · rw [e, bytes_tick]; simp [be_length]; rfl
  · rw [e, bytes_load]
    have hl := encC_length x.code
    have hf := encC_first x.code
    cases hc : encC x.code with
    | nil => rw [hc] at hl; simp at hl; omega
    | cons y ys =>
      rw [hc] at hl hf
      simp only [List.length_cons] at hl
      have : y = x.code.length := hf
      subst this
      show szOf 3 x.code.length (3 :: x.code.length :: ys ++ r).length = _
      unfold szOf
      rw [if_neg (by decide), if_neg (by decide), if_pos rfl, if_pos (by simp)]
      simp
      omega
  · rw [e, bytes_admit]; simp [be_length]; rfl
  · rw [e, bytes_start]; rfl
theorem bytes_pos {x : En} : 0 < (bytes x).length := by
  unfold bytes
  repeat' split
  all_goals simp
theorem bytes_le {x : En} (h : RightE x) : (bytes x).length ≤ 258 := by
  rcases h with ⟨e, h1, h2⟩ | ⟨e, h1, h2⟩ | ⟨e, h1⟩ | e | ⟨e, h1, h2, h3, h4⟩
  · rw [e, bytes_step]; simp [be_length]
  · rw [e, bytes_tick]; simp [be_length]
  · rw [e, bytes_load]
    have := (rtc_facts h1).2.1
    simp [encC_length]; omega
  · rw [e, bytes_admit]; simp [be_length]
  · rw [e, bytes_start]; simp
theorem getD_mem {l : List Nat} {j : Nat} (h : j < l.length) : l.getD j 0 ∈ l := by simp [List.getD, List.getElem?_eq_getElem h]
theorem list_two {l : List Nat} (h : 2 ≤ l.length) : l = l.getD 0 0 :: l.getD 1 0 :: l.drop 2 := by
  match l, h with
  | a :: b :: r, _ => rfl
theorem list_one {l : List Nat} (h : 1 ≤ l.length) : l = l.getD 0 0 :: l.drop 1 := by
  match l, h with
  | a :: r, _ => rfl
theorem take_small {l : List Nat} (h : ∀ y ∈ l, y < 256) (k : Nat) : (∀ y ∈ l.take k, y < 256) ∧ ∀ y ∈ l.drop k, y < 256 := ⟨fun y hy => h y (List.mem_of_mem_take hy), fun y hy => h y (List.mem_of_mem_drop hy)⟩
theorem not_rtc_nil : ¬ RtC [] := fun h => by have := (rtc_facts h).1; simp at this
/-- Back and there, of one entry. -/
theorem bytes_rd {l : List Nat} (hs : ∀ y ∈ l, y < 256) (hl : l.length = sz l) (hr : RightE (rdE l)) : bytes (rdE l) = l := by
  by_cases h1 : l.getD 0 0 = 1
  · have e : rdE l = mkStep (l.getD 1 0 : Int) (unbe (l.drop 2)) := by unfold rdE; rw [if_pos h1]
    have hk : l.length = 10 := by rw [hl]; unfold sz szOf; rw [if_pos h1]
    rw [e, bytes_step, Int.toNat_natCast, be_unbe (by simp [hk]) (take_small hs 2).2]
    conv => rhs; rw [list_two (l := l) (by omega)]
    rw [h1]
  by_cases h2 : l.getD 0 0 = 2
  · have e : rdE l = mkTick (unbe (l.drop 1) : Int) := by unfold rdE; rw [if_neg h1, if_pos h2]
    have hk : l.length = 3 := by rw [hl]; unfold sz szOf; rw [if_neg h1, if_pos h2]
    rw [e, bytes_tick, Int.toNat_natCast, be_unbe (by simp [hk]) (take_small hs 1).2]
    conv => rhs; rw [list_one (l := l) (by omega)]
    rw [h2]
  by_cases h3 : l.getD 0 0 = 3
  · have e : rdE l = mkLoad (rdC (l.drop 1)) := by unfold rdE; rw [if_neg h1, if_neg h2, if_pos h3]
    have hc : ¬ rdC (l.drop 1) = [] := by
      intro q
      rw [e] at hr
      rcases hr with ⟨e', _⟩ | ⟨e', _⟩ | ⟨_, hr⟩ | e' | ⟨e', _⟩
      · simp [mkLoad, mkStep] at e'
      · simp [mkLoad, mkTick] at e'
      · have hr' : RtC (rdC (l.drop 1)) := hr
        rw [q] at hr'
        exact not_rtc_nil hr'
      · simp [mkLoad, mkAdmit] at e'
      · simp [mkLoad, mkStart] at e'
    have h4 : (l.drop 1).length = 1 + 4 * (l.drop 1).getD 0 0 ∧ RtC (decC (l.drop 1)) := by
      unfold rdC at hc
      split at hc
      · assumption
      · exact absurd rfl hc
    have e2 : rdC (l.drop 1) = decC (l.drop 1) := by unfold rdC; rw [if_pos h4]
    rw [e, e2, bytes_load, enc_dec h4.1 (take_small hs 1).2]
    conv => rhs; rw [list_one (l := l) (by rw [hl]; unfold sz szOf; rw [if_neg h1, if_neg h2, if_pos h3]; split <;> omega)]
    rw [h3]
  by_cases h4 : l.getD 0 0 = 4
  · have e : rdE l = mkAdmit (unbe ((l.drop 1).take 8)) (unbe (l.drop 9)) := by unfold rdE; rw [if_neg h1, if_neg h2, if_neg h3, if_pos h4]
    have hk : l.length = 17 := by rw [hl]; unfold sz szOf; rw [if_neg h1, if_neg h2, if_neg h3, if_pos h4]
    rw [e, bytes_admit, be_unbe (by simp [hk]) (take_small (take_small hs 1).2 8).1, be_unbe (by simp [hk]) (take_small hs 9).2]
    have h9 : l.drop 9 = (l.drop 1).drop 8 := by rw [List.drop_drop]
    rw [h9, List.take_append_drop]
    conv => rhs; rw [list_one (l := l) (by omega)]
    rw [h4]
  by_cases h5 : l.getD 0 0 = 5
  · have e : rdE l = mkStart (l.getD 1 0 : Int) (l.getD 2 0) ((l.getD 3 0 : Int) - 1) := by unfold rdE; rw [if_neg h1, if_neg h2, if_neg h3, if_neg h4, if_pos h5]
    have hk : l.length = 4 := by rw [hl]; unfold sz szOf; rw [if_neg h1, if_neg h2, if_neg h3, if_neg h4, if_pos h5]
    rw [e, bytes_start, Int.toNat_natCast]
    match l, hk with
    | [a, b, c, d], _ =>
      have : a = 5 := h5
      subst this
      show [5, b, c, ((d : Int) - 1 + 1).toNat] = [5, b, c, d]
      rw [show ((d : Int) - 1 + 1).toNat = d by omega]
  · have e : rdE l = ⟨(l.getD 0 0 : Int), 0, 0, 0, [], 0, 0, 0, 0, 0⟩ := by unfold rdE; rw [if_neg h1, if_neg h2, if_neg h3, if_neg h4, if_neg h5]
    rw [e] at hr
    rcases hr with ⟨e', _⟩ | ⟨e', _⟩ | ⟨e', _⟩ | e' | ⟨e', _⟩
    · have q : ((l.getD 0 0 : Nat) : Int) = 1 := congrArg En.d e'
      omega
    · have q : ((l.getD 0 0 : Nat) : Int) = 2 := congrArg En.d e'
      omega
    · have q : ((l.getD 0 0 : Nat) : Int) = 3 := congrArg En.d e'
      omega
    · have q : ((l.getD 0 0 : Nat) : Int) = 4 := congrArg En.d e'
      omega
    · have q : ((l.getD 0 0 : Nat) : Int) = 5 := congrArg En.d e'
      omega
theorem rd_wf {l : List Nat} (hs : ∀ y ∈ l, y < 256) (hl : l.length = sz l) : WfE (rdE l) := by
  have key : ∀ m : List Nat, (∀ y ∈ m, y < 256) → m.length ≤ 8 → unbe m < 18446744073709551616 := by
    intro m hm hl
    have h := unbe_lt hm
    have : 256 ^ m.length ≤ 256 ^ 8 := Nat.pow_le_pow_right (by omega) hl
    omega
  unfold rdE
  by_cases h1 : l.getD 0 0 = 1
  · have hk : l.length = 10 := by rw [hl]; unfold sz szOf; rw [if_pos h1]
    rw [if_pos h1]
    exact ⟨key _ (take_small hs 2).2 (by simp [hk]), by simp [mkStep], by simp [mkStep], by simp [mkStep]⟩
  rw [if_neg h1]
  by_cases h2 : l.getD 0 0 = 2
  · rw [if_pos h2]; exact ⟨by simp [mkTick], by simp [mkTick], by simp [mkTick], by simp [mkTick]⟩
  rw [if_neg h2]
  by_cases h3 : l.getD 0 0 = 3
  · rw [if_pos h3]; exact ⟨by simp [mkLoad], by simp [mkLoad], by simp [mkLoad], by simp [mkLoad]⟩
  rw [if_neg h3]
  by_cases h4 : l.getD 0 0 = 4
  · have hk : l.length = 17 := by rw [hl]; unfold sz szOf; rw [if_neg h1, if_neg h2, if_neg h3, if_pos h4]
    rw [if_pos h4]
    exact ⟨by simp [mkAdmit], key _ (take_small (take_small hs 1).2 8).1 (by simp [hk]), key _ (take_small hs 9).2 (by simp [hk]), by simp [mkAdmit]⟩
  rw [if_neg h4]
  by_cases h5 : l.getD 0 0 = 5
  · have hk : l.length = 4 := by rw [hl]; unfold sz szOf; rw [if_neg h1, if_neg h2, if_neg h3, if_neg h4, if_pos h5]
    rw [if_pos h5]
    exact ⟨by simp [mkStart], by simp [mkStart], by simp [mkStart], hs _ (getD_mem (by omega))⟩
  rw [if_neg h5]
  exact ⟨by simp, by simp, by simp, by simp⟩

/-- A script's bytes. -/
def all (L : List En) : List Nat := L.flatMap bytes
def Rights (L : List En) : Prop := ∀ x ∈ L, RightE x ∧ WfE x
/-- Bytes begin with no right entry. -/
def NoE (r : List Nat) : Prop := ∀ x t, RightE x → WfE x → r ≠ bytes x ++ t
/-- What bytes come to: the entries; or how many right ones stand ahead. -/
def Good (l : List Nat) (L : List En) : Prop := Rights L ∧ l = all L
def Bad (l : List Nat) (L : List En) : Prop := Rights L ∧ ∃ r, r ≠ [] ∧ NoE r ∧ l = all L ++ r
theorem all_nil : all [] = [] := rfl
theorem all_cons (x : En) (L : List En) : all (x :: L) = bytes x ++ all L := rfl
theorem all_append (L M : List En) : all (L ++ M) = all L ++ all M := by simp [all]
theorem all_one (L : List En) (x : En) : all (L ++ [x]) = all L ++ bytes x := by simp [all]
theorem first_one {x y : En} {r s : List Nat} (hx : RightE x) (hx' : WfE x) (hy : RightE y) (hy' : WfE y) (h : bytes x ++ r = bytes y ++ s) : x = y ∧ r = s := by
  have h1 := sz_bytes hx hx' r
  have h2 := sz_bytes hy hy' s
  rw [h] at h1
  have hl : (bytes x).length = (bytes y).length := by omega
  obtain ⟨e1, e2⟩ := List.append_inj h hl
  refine ⟨?_, e2⟩
  rw [← rd_bytes hx hx', ← rd_bytes hy hy', e1]
theorem good_one : ∀ {l : List Nat} {L M : List En}, Good l L → Good l M → L = M := by
  intro l L
  induction L generalizing l with
  | nil =>
    rintro M ⟨_, rfl⟩ ⟨hM, h⟩
    cases M with
    | nil => rfl
    | cons y M =>
      rw [all_cons, all_nil] at h
      have h1 := congrArg List.length h
      have h2 := bytes_pos (x := y)
      rw [List.length_append, List.length_nil] at h1
      omega
  | cons x L ih =>
    rintro M ⟨hL, rfl⟩ ⟨hM, h⟩
    cases M with
    | nil =>
      rw [all_cons, all_nil] at h
      have h1 := congrArg List.length h
      have h2 := bytes_pos (x := x)
      rw [List.length_append, List.length_nil] at h1
      omega
    | cons y M =>
      rw [all_cons, all_cons] at h
      obtain ⟨rfl, h2⟩ := first_one (hL x (by simp)).1 (hL x (by simp)).2 (hM y (by simp)).1 (hM y (by simp)).2 h
      rw [ih (M := M) ⟨fun z hz => hL z (by simp [hz]), rfl⟩ ⟨fun z hz => hM z (by simp [hz]), h2⟩]
theorem good_bad : ∀ {l : List Nat} {L M : List En}, Good l L → Bad l M → False := by
  intro l L
  induction L generalizing l with
  | nil =>
    rintro M ⟨_, rfl⟩ ⟨hM, r, hr, _, h⟩
    have h1 := congrArg List.length h
    have h2 : r.length ≠ 0 := fun q => hr (List.length_eq_zero_iff.1 q)
    rw [List.length_append, all_nil, List.length_nil] at h1
    omega
  | cons x L ih =>
    rintro M ⟨hL, rfl⟩ ⟨hM, r, hr, hn, h⟩
    cases M with
    | nil =>
      rw [all_cons, all_nil, List.nil_append] at h
      exact hn x _ (hL x (by simp)).1 (hL x (by simp)).2 h.symm
    | cons y M =>
      rw [all_cons, all_cons, List.append_assoc] at h
      obtain ⟨rfl, h2⟩ := first_one (hL x (by simp)).1 (hL x (by simp)).2 (hM y (by simp)).1 (hM y (by simp)).2 h
      exact ih (M := M) ⟨fun z hz => hL z (by simp [hz]), rfl⟩ ⟨fun z hz => hM z (by simp [hz]), r, hr, hn, h2⟩
theorem bad_one : ∀ {l : List Nat} {L M : List En}, Bad l L → Bad l M → L = M := by
  intro l L
  induction L generalizing l with
  | nil =>
    rintro M ⟨_, r, hr, hn, h0⟩ ⟨hM, s, hs, hn2, h⟩
    cases M with
    | nil => rfl
    | cons y M =>
      rw [h0, all_cons, all_nil, List.nil_append, List.append_assoc] at h
      exact (hn y _ (hM y (by simp)).1 (hM y (by simp)).2 h).elim
  | cons x L ih =>
    rintro M ⟨hL, r, hr, hn, rfl⟩ ⟨hM, s, hs, hn2, h⟩
    cases M with
    | nil =>
      rw [all_cons, all_nil, List.nil_append, List.append_assoc] at h
      exact (hn2 x _ (hL x (by simp)).1 (hL x (by simp)).2 h.symm).elim
    | cons y M =>
      rw [all_cons, all_cons, List.append_assoc, List.append_assoc] at h
      obtain ⟨rfl, h2⟩ := first_one (hL x (by simp)).1 (hL x (by simp)).2 (hM y (by simp)).1 (hM y (by simp)).2 h
      rw [ih (M := M) ⟨fun z hz => hL z (by simp [hz]), r, hr, hn, rfl⟩ ⟨fun z hz => hM z (by simp [hz]), s, hs, hn2, h2⟩]
/-- A round that goes on, one that does not. -/
theorem no_short {r : List Nat} (h : r.length < sz r) : NoE r := by
  rintro x t hx hw rfl
  rw [sz_bytes hx hw] at h
  simp at h
  omega
theorem szOf3 (b1 len : Nat) : szOf 3 b1 len = if 2 ≤ len then 2 + 4 * b1 else 2 := rfl
theorem szOf_other {b0 : Nat} (h : b0 ≠ 3) (b1 b1' len len' : Nat) : szOf b0 b1 len = szOf b0 b1' len' := by
  unfold szOf
  rw [if_neg h, if_neg h]
theorem szOf_pos (b0 b1 len : Nat) : 1 ≤ szOf b0 b1 len := by
  unfold szOf
  repeat' split
  all_goals omega
theorem sz_take {r : List Nat} (h : sz r ≤ r.length) : sz (r.take (sz r)) = sz r := by
  have h0 : ∀ k j, j < k → (r.take k).getD j 0 = r.getD j 0 := fun k j hj => by simp [List.getD, List.getElem?_take_of_lt hj]
  have h1 : 1 ≤ sz r := szOf_pos _ _ _
  have hk2 : sz r = szOf (r.getD 0 0) (r.getD 1 0) r.length := rfl
  generalize sz r = k at h h1 hk2
  show szOf ((r.take k).getD 0 0) ((r.take k).getD 1 0) (r.take k).length = k
  rw [h0 k 0 (by omega), List.length_take, Nat.min_eq_left h]
  by_cases h3 : r.getD 0 0 = 3
  · rw [h3, szOf3] at hk2
    have h2 : 2 ≤ k := by rw [hk2]; split <;> omega
    rw [h0 k 1 (by omega), h3, szOf3, if_pos h2]
    rw [if_pos (show 2 ≤ r.length by omega)] at hk2
    exact hk2.symm
  · rw [hk2]
    exact szOf_other h3 _ _ _ _
theorem no_wrong {r : List Nat} (h : sz r ≤ r.length) (hn : ¬ RightE (rdE (r.take (sz r)))) : NoE r := by
  rintro x t hx hw rfl
  rw [sz_bytes hx hw, List.take_left' rfl, rd_bytes hx hw] at hn
  exact hn hx
theorem yes_one {r : List Nat} (hs : ∀ y ∈ r, y < 256) (h : sz r ≤ r.length) (hy : RightE (rdE (r.take (sz r)))) : WfE (rdE (r.take (sz r))) ∧ r = bytes (rdE (r.take (sz r))) ++ r.drop (sz r) := by
  have hl : (r.take (sz r)).length = sz (r.take (sz r)) := by rw [sz_take h, List.length_take, Nat.min_eq_left h]
  refine ⟨rd_wf (take_small hs _).1 hl, ?_⟩
  rw [bytes_rd (take_small hs _).1 hl hy, List.take_append_drop]
end Go.Proofs.Ytnnpbbiiapipaaa
