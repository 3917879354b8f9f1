/- The whole of slices.Sort at uint64: what is permuted; order2, median, choosePivot. -/
import Derived.Test.YtjmbadadelelfaaWd1
namespace Go.Proofs.Ytjmbadadelelfaa
open Go.RowKit
set_option linter.unusedVariables false
set_option linter.unusedSimpArgs false
attribute [local go_sem ↓] Go.wp_at_zero Go.wp_at_succ
/-- The numbers at a ≤ j < b are the same in another order; no other has turned. -/
structure Prm (a b : Nat) (D D' : Nat → Nat) : Prop where
  out : ∀ j, j < a ∨ b ≤ j → D' j = D j
  mem : ∀ v, (∃ j, a ≤ j ∧ j < b ∧ D' j = v) ↔ ∃ j, a ≤ j ∧ j < b ∧ D j = v
  inj : (∀ x y, a ≤ x → x < b → a ≤ y → y < b → D x = D y → x = y) → ∀ x y, a ≤ x → x < b → a ≤ y → y < b → D' x = D' y → x = y
def sw (D : Nat → Nat) (i j : Nat) : Nat → Nat := upd (upd D i (D j)) j (D i)
def tr (i j x : Nat) : Nat := if x = j then i else if x = i then j else x
section
variable {a b c i j n : Nat} {D D' D'' : Nat → Nat}
theorem sw_at (i j x : Nat) : sw D i j x = if x = j then D i else if x = i then D j else D x := by
  unfold sw
  by_cases h1 : x = j
  · rw [if_pos h1, h1, upd_same]
  · rw [if_neg h1, upd_other _ _ _ _ h1]
    by_cases h2 : x = i
    · rw [if_pos h2, h2, upd_same]
    · rw [if_neg h2, upd_other _ _ _ _ h2]
theorem Prm.refl (a b : Nat) (D : Nat → Nat) : Prm a b D D := ⟨fun _ _ => rfl, fun _ => Iff.rfl, fun h => h⟩
theorem Prm.trans (h : Prm a b D D') (h' : Prm a b D' D'') : Prm a b D D'' := ⟨fun j hj => (h'.out j hj).trans (h.out j hj), fun v => (h'.mem v).trans (h.mem v), fun q => h'.inj (h.inj q)⟩
theorem Prm.swap (hi : a ≤ i ∧ i < b) (hj : a ≤ j ∧ j < b) : Prm a b D (sw D i j) := by
  refine ⟨fun x hx => ?_, fun v => ⟨?_, ?_⟩, fun q x y hx1 hx2 hy1 hy2 e => ?_⟩
  · rw [sw_at, if_neg (by omega), if_neg (by omega)]
  · rintro ⟨x, h1, h2, e⟩
    rw [sw_at] at e
    by_cases e1 : x = j
    · rw [if_pos e1] at e; exact ⟨i, hi.1, hi.2, e⟩
    · rw [if_neg e1] at e
      by_cases e2 : x = i
      · rw [if_pos e2] at e; exact ⟨j, hj.1, hj.2, e⟩
      · rw [if_neg e2] at e; exact ⟨x, h1, h2, e⟩
  · rintro ⟨x, h1, h2, e⟩
    by_cases e1 : x = i
    · exact ⟨j, hj.1, hj.2, by rw [sw_at, if_pos rfl, ← e1, e]⟩
    · by_cases e2 : x = j
      · refine ⟨i, hi.1, hi.2, ?_⟩
        rw [sw_at, if_neg (by omega), if_pos rfl, ← e2, e]
      · exact ⟨x, h1, h2, by rw [sw_at, if_neg e2, if_neg e1, e]⟩
  · have key : ∀ x, sw D i j x = D (tr i j x) := fun x => by
      rw [sw_at]
      unfold tr
      by_cases h1 : x = j
      · rw [if_pos h1, if_pos h1]
      · rw [if_neg h1, if_neg h1]
        by_cases h2 : x = i
        · rw [if_pos h2, if_pos h2]
        · rw [if_neg h2, if_neg h2]
    have hr : ∀ x, a ≤ x → x < b → a ≤ tr i j x ∧ tr i j x < b := fun x h1 h2 => by unfold tr; split <;> (try split) <;> omega
    rw [key, key] at e
    have := q _ _ (hr x hx1 hx2).1 (hr x hx1 hx2).2 (hr y hy1 hy2).1 (hr y hy1 hy2).2 e
    unfold tr at this
    split at this <;> split at this <;> (try split at this) <;> (try split at this) <;> omega
theorem Prm.wide (h : Prm a b D D') {a' b' : Nat} (ha : a' ≤ a) (hb : b ≤ b') : Prm a' b' D D' := by
  have key : ∀ v, (∃ j, a' ≤ j ∧ j < b' ∧ D' j = v) ↔ ∃ j, a' ≤ j ∧ j < b' ∧ D j = v := fun v => by
    constructor
    · rintro ⟨j, h1, h2, e⟩
      by_cases q : a ≤ j ∧ j < b
      · obtain ⟨j', g1, g2, g3⟩ := (h.mem v).1 ⟨j, q.1, q.2, e⟩
        exact ⟨j', by omega, by omega, g3⟩
      · exact ⟨j, h1, h2, by rw [← h.out j (by omega)]; exact e⟩
    · rintro ⟨j, h1, h2, e⟩
      by_cases q : a ≤ j ∧ j < b
      · obtain ⟨j', g1, g2, g3⟩ := (h.mem v).2 ⟨j, q.1, q.2, e⟩
        exact ⟨j', by omega, by omega, g3⟩
      · exact ⟨j, h1, h2, by rw [h.out j (by omega)]; exact e⟩
  refine ⟨fun j hj => h.out j (by omega), key, fun q x y hx1 hx2 hy1 hy2 e => ?_⟩
  have hin := h.inj (fun x y h1 h2 h3 h4 e => q x y (by omega) (by omega) (by omega) (by omega) e)
  by_cases hx : a ≤ x ∧ x < b
  · by_cases hy : a ≤ y ∧ y < b
    · exact hin x y hx.1 hx.2 hy.1 hy.2 e
    · obtain ⟨z, z1, z2, z3⟩ := (h.mem (D' x)).1 ⟨x, hx.1, hx.2, rfl⟩
      rw [e, h.out y (by omega)] at z3
      have := q z y (by omega) (by omega) (by omega) (by omega) z3
      omega
  · by_cases hy : a ≤ y ∧ y < b
    · obtain ⟨z, z1, z2, z3⟩ := (h.mem (D' y)).1 ⟨y, hy.1, hy.2, rfl⟩
      rw [← e, h.out x (by omega)] at z3
      have := q z x (by omega) (by omega) (by omega) (by omega) z3
      omega
    · rw [h.out x (by omega), h.out y (by omega)] at e
      exact q x y hx1 hx2 hy1 hy2 e
/-- What is true of all stays true of all. -/
theorem Prm.all (h : Prm a b D D') {p : Nat → Prop} (hp : ∀ j, a ≤ j → j < b → p (D j)) : ∀ j, a ≤ j → j < b → p (D' j) := fun j h1 h2 => by
  obtain ⟨z, z1, z2, z3⟩ := (h.mem (D' j)).1 ⟨j, h1, h2, rfl⟩
  rw [← z3]
  exact hp z z1 z2
end
section
variable {W W' : World} {r cap n : Nat} {D D' : Nat → Nat}
theorem RowU.swap (h : RowU W r cap n D) (i j : Nat) (hi : i < n) (hj : j < n) : RowU ((W.setCell ⟨r, i, none⟩ (.int .u64 (D j : Int))).setCell ⟨r, j, none⟩ (.int .u64 (D i : Int))) r cap n (sw D i j) :=
  (h.set i (D j) hi).set j (D i) hj
/-- A cell that counts. -/
structure Ctr (W : World) (s c : Nat) : Prop where
  cell : W.cell? ⟨s, 0, none⟩ = some (.int .i64 (c : Int))
  froz : W.frozen? ⟨s, 0, none⟩ = false
  lt : s < W.heap.size
theorem Ctr.put {s c : Nat} (h : Ctr W s c) (c' : Nat) : Ctr (W.setCell ⟨s, 0, none⟩ (.int .i64 (c' : Int))) s c' := by
  refine ⟨?_, by rw [World.frozen?_setCell]; exact h.froz, by simpa using h.lt⟩
  exact World.cell?_setCell_same _ _ _ h.cell
theorem Ctr.drew {s c : Nat} (h : Ctr W s c) : Ctr W.drew s c := ⟨h.cell, h.froz, h.lt⟩
end
set_option maxRecDepth 100000 in
set_option maxHeartbeats 2000000 in
theorem order2_ok (W : World) (r cap n : Nat) (D : Nat → Nat) (s c x y : Nat) (h : RowU W r cap n D) (hc : Ctr W s c) (hc9 : c ≤ 1000) (hx : x < n) (hy : y < n) (hn : n ≤ 100000) :
    Calls Try.prog 83 #[.slice (some ⟨r, 0, none⟩) n cap, .int .i64 (x : Int), .int .i64 (y : Int), .pointer (some ⟨s, 0, none⟩)] W fun e w' => ∃ x' y' c' : Nat, e = .returned (.tuple #[.int .i64 (x' : Int), .int .i64 (y' : Int)]) ∧ ((x' = x ∧ y' = y) ∨ (x' = y ∧ y' = x)) ∧ Ctr w' s c' ∧ c' ≤ c + 1 ∧ Fr (fun k => k = s) W w' := by
  have HL := veil (fun W => less_ok (D y : Int) (D x : Int) W)
  have e1 := h.cell x hx
  have e2 := h.cell y hy
  obtain ⟨k1, k2, k3⟩ := hc
  have hx' : (x : Int) < (n : Int) := by omega
  have hy' : (y : Int) < (n : Int) := by omega
  clear h
  by_cases hlt : D y < D x
  · have hlt' : decide ((D y : Int) < (D x : Int)) = true := by simp; omega
    rw [hlt'] at HL
    go_enter Try.func83, Try.ntmps83
    go_wp2
    go_region_held3 (fun w' => w'.cell? ⟨r, x, none⟩ = some (.int .u64 (D x : Int)) ∧ w'.cell? ⟨r, y, none⟩ = some (.int .u64 (D y : Int))) (go_keep)
      (first | (go_at_call 72; refine (HL.out _).mono ?_; rintro e w1 ⟨rfl, hw⟩; subst hw))
    go_wp2
    go_ret2
    exact ⟨y, x, c + 1, rfl, .inr ⟨rfl, rfl⟩, (Ctr.put ⟨k1, k2, k3⟩ (c + 1)).drew, by omega, (Fr.setCell (S := fun k => k = s) (Fr.refl _ _) (a := ⟨s, 0, none⟩) rfl _).drew⟩
  · have hlt' : decide ((D y : Int) < (D x : Int)) = false := by simp; omega
    rw [hlt'] at HL
    go_enter Try.func83, Try.ntmps83
    go_wp2
    go_region_held3 (fun w' => w'.cell? ⟨r, x, none⟩ = some (.int .u64 (D x : Int)) ∧ w'.cell? ⟨r, y, none⟩ = some (.int .u64 (D y : Int))) (go_keep)
      (first | (go_at_call 72; refine (HL.out _).mono ?_; rintro e w1 ⟨rfl, hw⟩; subst hw))
    go_wp2
    go_ret2
    exact ⟨x, y, c, rfl, .inl ⟨rfl, rfl⟩, ⟨k1, k2, k3⟩, by omega, (Fr.refl _ _).drew⟩
set_option maxRecDepth 100000 in
set_option maxHeartbeats 2000000 in
theorem median_ok (W : World) (r cap n : Nat) (D : Nat → Nat) (s c x y z : Nat) (h : RowU W r cap n D) (hrs : r ≠ s) (hc : Ctr W s c) (hc9 : c ≤ 900) (hx : x < n) (hy : y < n) (hz : z < n) (hn : n ≤ 100000) :
    Calls Try.prog 81 #[.slice (some ⟨r, 0, none⟩) n cap, .int .i64 (x : Int), .int .i64 (y : Int), .int .i64 (z : Int), .pointer (some ⟨s, 0, none⟩)] W fun e w' => ∃ m c' : Nat, e = .returned (.int .i64 (m : Int)) ∧ (m = x ∨ m = y ∨ m = z) ∧ Ctr w' s c' ∧ c' ≤ c + 3 ∧ Fr (fun k => k = s) W w' := by
  have HO := veil (fun W c x y h hc hc9 hx hy => order2_ok W r cap n D s c x y h hc hc9 hx hy hn)
  have HR : Hid (∀ W', Fr (fun k => k = s) W W' → RowU W' r cap n D) := fun W' hf => h.kept (hf.block r h.lt hrs)
  have HR0 := veil h
  have HC0 := veil hc
  clear h hc
  go_enter Try.func81, Try.ntmps81
  go_wp2_with (first
    | (go_at_call 83; (have hh := HF2.out; clear hh); refine (HO.out _ _ _ _ (HR.out _ HF2.out) HC2.out (by omega) (by omega) (by omega)).mono ?_; rintro e w3 ⟨x3, y3, c3, rfl, hxy3, hc3, hcc3, hf3⟩; have HC3 := veil hc3; have HF3 := veil (HF2.out.trans hf3); clear hc3 hf3)
    | (go_at_call 83; (have hh := HF1.out; clear hh); refine (HO.out _ _ _ _ (HR.out _ HF1.out) HC1.out (by omega) (by omega) (by omega)).mono ?_; rintro e w2 ⟨x2, y2, c2, rfl, hxy2, hc2, hcc2, hf2⟩; have HC2 := veil hc2; have HF2 := veil (HF1.out.trans hf2); clear hc2 hf2)
    | (go_at_call 83; refine (HO.out _ _ _ _ HR0.out HC0.out (by omega) hx hy).mono ?_; rintro e w1 ⟨x1, y1, c1, rfl, hxy1, hc1, hcc1, hf1⟩; have HC1 := veil hc1; have HF1 := veil hf1; clear hc1 hf1))
  go_ret
  exact ⟨y3, c3, rfl, by omega, HC3.out, by omega, HF3.out⟩
set_option maxRecDepth 100000 in
set_option maxHeartbeats 2000000 in
theorem adjacent_ok (W : World) (r cap n : Nat) (D : Nat → Nat) (s c x : Nat) (h : RowU W r cap n D) (hrs : r ≠ s) (hc : Ctr W s c) (hc9 : c ≤ 900) (hx0 : 1 ≤ x) (hx : x + 1 < n) (hn : n ≤ 100000) :
    Calls Try.prog 80 #[.slice (some ⟨r, 0, none⟩) n cap, .int .i64 (x : Int), .pointer (some ⟨s, 0, none⟩)] W fun e w' => ∃ m c' : Nat, e = .returned (.int .i64 (m : Int)) ∧ (x - 1 ≤ m ∧ m ≤ x + 1) ∧ Ctr w' s c' ∧ c' ≤ c + 3 ∧ Fr (fun k => k = s) W w' := by
  have HM : Hid (Calls Try.prog 81 #[.slice (some ⟨r, 0, none⟩) n cap, .int .i64 ((x : Int) - 1), .int .i64 (x : Int), .int .i64 ((x : Int) + 1), .pointer (some ⟨s, 0, none⟩)] W fun e w' => ∃ m c' : Nat, e = .returned (.int .i64 (m : Int)) ∧ (x - 1 ≤ m ∧ m ≤ x + 1) ∧ Ctr w' s c' ∧ c' ≤ c + 3 ∧ Fr (fun k => k = s) W w') := by
    have := median_ok W r cap n D s c (x - 1) x (x + 1) h hrs hc hc9 (by omega) (by omega) hx hn
    rw [show ((x - 1 : Nat) : Int) = (x : Int) - 1 by omega, show ((x + 1 : Nat) : Int) = (x : Int) + 1 by omega] at this
    exact this.mono (fun _ _ ⟨m, c', e, hm, q⟩ => ⟨m, c', e, by omega, q⟩)
  clear h hc
  go_enter Try.func80, Try.ntmps80
  go_wp2_with (first
    | (go_at_call 81; refine (HM.out).mono ?_; rintro e w1 ⟨m, c', rfl, hm, hq⟩; have HQ := veil hq; clear hq))
  go_ret
  exact ⟨m, c', rfl, hm, HQ.out⟩
end Go.Proofs.Ytjmbadadelelfaa
