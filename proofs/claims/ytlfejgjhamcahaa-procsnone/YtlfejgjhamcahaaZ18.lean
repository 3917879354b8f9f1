/-
  What the places hold, as lists; what each call answers and leaves, as functions of them. Put in all its cases.
-/
import Derived.Test.YtlfejgjhamcahaaZ17
import Derived.Test.YtlfejgjhamcahaaZ9
namespace Go.Proofs.Ytlfejgjhamcahaa
open Go.RowKit Go.Lib
set_option linter.unusedVariables false
attribute [local go_sem ↓] Go.wp_at_zero Go.wp_at_succ

/-- What stands at each place. -/
def Ms (H : List Hd) : List (List En) := H.map (·.M)
theorem Ms_len (H : List Hd) : (Ms H).length = H.length := by simp [Ms]
theorem Ms_at {H : List Hd} {i : Nat} {x : Hd} (h : H[i]? = some x) : (Ms H)[i]? = some x.M := by simp [Ms, h]
theorem Ms_set (H : List Hd) (i : Nat) (y : Hd) : Ms (H.set i y) = (Ms H).set i y.M := by simp [Ms, List.map_set]
section
variable {H X : List Hd}
theorem Ms_pt (e : Ms H = Ms X) {i : Nat} {x y : Hd} (hx : H[i]? = some x) (hy : X[i]? = some y) : x.M = y.M := by
  have h1 := Ms_at hx
  have h2 := Ms_at hy
  rw [e, h2] at h1
  injection h1 with h1
  exact h1.symm
theorem Ms_to (e : Ms H = Ms X) {i : Nat} {x : Hd} (hx : H[i]? = some x) : ∃ y, X[i]? = some y ∧ y.M = x.M := by
  have h1 := Ms_at hx
  rw [e] at h1
  simp only [Ms, List.getElem?_map] at h1
  cases hy : X[i]? with
  | none => rw [hy] at h1; cases h1
  | some y => rw [hy] at h1; exact ⟨y, rfl, by simpa using h1⟩
theorem MM_ms (H : List Hd) (x : Nat) : MM H x = ((Ms H)[x]?).getD [] := by
  unfold MM Ms
  rw [List.getElem?_map]
  cases H[x]? <;> rfl
theorem MM_eq (e : Ms H = Ms X) : MM H = MM X := funext fun x => by rw [MM_ms, MM_ms, e]
theorem bstep_eq (e : Ms H = Ms X) : bstep H = bstep X := by
  funext b x
  unfold bstep
  rw [MM_eq e]
theorem bst_eq (e : Ms H = Ms X) (l : List Nat) : bst H l = bst X l := by unfold bst; rw [bstep_eq e]
theorem bI_eq (e : Ms H = Ms X) (o : Option Nat) : bI H o = bI X o := by cases o <;> simp [bI, MM_eq e]
theorem bK_eq (e : Ms H = Ms X) (o : Option Nat) : bK H o = bK X o := by cases o <;> simp [bK, MM_eq e]
theorem sumH_ms (H : List Hd) : sumH H = ((Ms H).map List.length).sum := by unfold sumH Ms; rw [List.map_map]; rfl
theorem sumH_eq (e : Ms H = Ms X) : sumH H = sumH X := by rw [sumH_ms, sumH_ms, e]
theorem len_eq (e : Ms H = Ms X) : H.length = X.length := by rw [← Ms_len, ← Ms_len, e]
theorem whereF_eq (e : Ms H = Ms X) (n : Nat) (k id : Int) : whereF n H k id = whereF n X k id :=
  whereF_congr n id H X k (len_eq e) (fun i x x' hx hx' _ => by rw [Ms_pt e hx hx'])
theorem Un_eq (e : Ms H = Ms X) (h : Un H) : Un X := fun i j x y id hx hy h1 h2 => by
  obtain ⟨x', hx', ex⟩ := Ms_to e.symm hx
  obtain ⟨y', hy', ey⟩ := Ms_to e.symm hy
  exact h i j x' y' id hx' hy' (by rw [ex]; exact h1) (by rw [ey]; exact h2)
end
/-- Put: where it goes; the answer; what is there behind it. -/
def aPut (np n q : Nat) (H : List Hd) (p : Nat) : Nat := if (MM H p).length < min q n then p else np
def pputC (np n : Nat) (H : List Hd) (p id : Int) (k : Ke.K) : Int := if (p < 0 ∨ (np : Int) ≤ p) ∨ Bad n id k then 2 else if (whereF n H 0 id).isSome then 5 else 0
def pputG (np n q : Nat) (H : List Hd) (p id : Int) (k : Ke.K) : List (List En) := if pputC np n H p id k = 0 then (Ms H).set (aPut np n q H p.toNat) (put (id.toNat, k) (MM H (aPut np n q H p.toNat))) else Ms H
def pchgC (n : Nat) (H : List Hd) (id : Int) (k : Ke.K) : Int := if Bad n id k then 2 else if (whereF n H 0 id).isSome then 0 else 6
def aOf (n : Nat) (H : List Hd) (id : Int) : Nat := ((whereF n H 0 id).getD 0).toNat
def pchgG (n : Nat) (H : List Hd) (id : Int) (k : Ke.K) : List (List En) := if pchgC n H id k = 0 then (Ms H).set (aOf n H id) (chgL n (MM H (aOf n H id)) id k) else Ms H
def premC (n : Nat) (H : List Hd) (id : Int) : Int := if id < 0 ∨ (n : Int) ≤ id then 2 else if (whereF n H 0 id).isSome then 0 else 6
def premG (n : Nat) (H : List Hd) (id : Int) : List (List En) := if premC n H id = 0 then (Ms H).set (aOf n H id) (cut id.toNat (MM H (aOf n H id))) else Ms H
/-- What a processor would take: the place. -/
def bb (np : Nat) (H : List Hd) (p d : Int) : Option Nat := if 0 ≤ p ∧ p < (np : Int) then bst H (ords np p.toNat d.toNat) else none
def ptkG (np : Nat) (H : List Hd) (p d : Int) : List (List En) := match bb np H p d with
  | none => Ms H
  | some c => (Ms H).set c (MM H c).tail

section
variable {w w' wa wb : World} {base lo pb mb n np q T g cap : Nat} {v : Value} {H : List Hd}
theorem IsQ.more (h : IsQ w base lo pb mb n np q v T H) {T' : Nat} (ht : T ≤ T') : IsQ w base lo pb mb n np q v T' H := ⟨h.p, h.un, fun i x hx => Nat.le_trans (h.tn i x hx) ht⟩
/-- What a call leaves. -/
def Leaves (w w' : World) (base lo pb mb n np q : Nat) (v : Value) (T : Nat) (H : List Hd) (G : List (List En)) : Prop :=
  (∃ H', IsQ w' base lo pb mb n np q v (T + 1) H' ∧ Ms H' = G ∧ ∀ k, OwnP pb mb v H' k ↔ OwnP pb mb v H k) ∧ Fr (OwnP pb mb v H) w w'
theorem Leaves.same (h : IsQ w base lo pb mb n np q v T H) (hb : Below w.heap.size w w') : Leaves w w' base lo pb mb n np q v T H (Ms H) :=
  ⟨⟨H, (h.below hb).more (by omega), rfl, fun _ => Iff.rfl⟩, Fr.of_below' hb⟩
theorem own_set' {i : Nat} {x : Hd} (hx : H[i]? = some x) (t : Nat) (M : List En) (k : Nat) : OwnP pb mb v (H.set i (x.to t M)) k ↔ OwnP pb mb v H k := by
  refine ⟨own_set hx t M k, ?_⟩
  have hil : i < H.length := (List.getElem?_eq_some_iff.1 hx).1
  rintro (e | e | e | ⟨j, z, hz, hk⟩)
  · exact .inl e
  · exact .inr (.inl e)
  · exact .inr (.inr (.inl e))
  · by_cases hj : j = i
    · subst hj
      rw [hx] at hz
      injection hz with hz
      subst hz
      exact .inr (.inr (.inr ⟨j, x.to t M, List.getElem?_set_self hil, hk⟩))
    · exact .inr (.inr (.inr ⟨j, z, by rw [List.getElem?_set_ne (fun e => hj e.symm)]; exact hz, hk⟩))
theorem Leaves.put (h : IsQ w base lo pb mb n np q v T H) {i : Nat} {x : Hd} (hx : H[i]? = some x) {t : Nat} {M : List En} (hq : IsQ w' base lo pb mb n np q v (T + 1) (H.set i (x.to t M))) (hf : Fr (fun k => k = mb ∨ x.own k) w w') {G : List (List En)} (hG : G = (Ms H).set i M) : Leaves w w' base lo pb mb n np q v T H G := by
  refine ⟨⟨_, hq, ?_, own_set' hx t M⟩, hf.wide ?_⟩
  · rw [Ms_set, hG]; rfl
  · rintro k _ (e | e)
    · exact .inr (.inl e)
    · exact .inr (.inr (.inr ⟨i, x, hx, e⟩))
set_option maxHeartbeats 2000000 in
set_option maxRecDepth 20000 in
theorem pput_no (h : IsQ w base lo pb mb n np q v T H) (p id : Int) (k : Ke.K) (hno : (p < 0 ∨ (np : Int) ≤ p) ∨ Bad n id k) :
    Calls Try.prog 26 #[.pointer (some ⟨pb, 0, none⟩), .int .i64 p, .int .i64 id, .agg #[.bool k.e, .int .u64 k.d, .int .u8 k.l]] w fun e w' => e = .returned (.int .i64 2) ∧ Below w.heap.size w w' := by
  have HX := veil (boxP h k)
  have hA0 : Below (w.heap.size + 1) (w.alloc (.cells #[.bool k.e, .int .u64 k.d, .int .u8 k.l] 25)) (w.alloc (.cells #[.bool k.e, .int .u64 k.d, .int .u8 k.l] 25)) := Below.refl _ _
  obtain ⟨hQ0, _, hz0, hw0⟩ := boxP h k _ hA0
  have HW0 := veil hw0
  have HHAS := veil (phas_ok hQ0.p p)
  have HR := veil (fun W => Ke.right_ok W k)
  have c2 := hQ0.p.c2
  have hcs : decide (0 ≤ p ∧ p < (np : Int)) = false ∨ (decide (0 ≤ p ∧ p < (np : Int)) = true ∧ id < 0) ∨ (decide (0 ≤ p ∧ p < (np : Int)) = true ∧ ¬ id < 0 ∧ (n : Int) ≤ id) ∨ (decide (0 ≤ p ∧ p < (np : Int)) = true ∧ ¬ id < 0 ∧ ¬ (n : Int) ≤ id ∧ Ke.rightK k = false) := by
    by_cases q0 : 0 ≤ p ∧ p < (np : Int)
    · right
      rw [decide_eq_true q0]
      unfold Bad at hno
      by_cases q1 : id < 0
      · exact .inl ⟨rfl, q1⟩
      · by_cases q2 : (n : Int) ≤ id
        · exact .inr (.inl ⟨rfl, q1, q2⟩)
        · rcases hno with q | q | q | q
          · omega
          · exact absurd q q1
          · exact absurd q q2
          · exact .inr (.inr ⟨rfl, q1, q2, q⟩)
    · left
      exact decide_eq_false q0
  clear h hno hQ0 hA0
  generalize decide (0 ≤ p ∧ p < (np : Int)) = bh at *
  rcases hcs with rfl | ⟨rfl, h1⟩ | ⟨rfl, h1, h2⟩ | ⟨rfl, h1, h2, h3⟩
  · go_enter Try.func26, Try.ntmps26
    go_wp2_with (go_at_call 41; refine (HHAS.out).mono ?_; rintro e w1 ⟨rfl, hw1⟩; replace hw1 := hw1.symm; subst hw1)
    go_ret
    exact ⟨rfl, HW0.out⟩
  · go_enter Try.func26, Try.ntmps26
    go_wp2_with (go_at_call 41; refine (HHAS.out).mono ?_; rintro e w1 ⟨rfl, hw1⟩; replace hw1 := hw1.symm; subst hw1)
    go_ret
    exact ⟨rfl, HW0.out⟩
  · go_enter Try.func26, Try.ntmps26
    go_wp2_with (go_at_call 41; refine (HHAS.out).mono ?_; rintro e w1 ⟨rfl, hw1⟩; replace hw1 := hw1.symm; subst hw1)
    go_ret
    exact ⟨rfl, HW0.out⟩
  · rw [h3] at HR
    go_enter Try.func26, Try.ntmps26
    go_wp2_with (first
      | (go_at_call 41; refine (HHAS.out).mono ?_; rintro e w1 ⟨rfl, hw1⟩; replace hw1 := hw1.symm; subst hw1)
      | (go_at_call 49; refine (HR.out _).mono ?_; rintro e w2 ⟨rfl, hb2⟩; have HB2 := veil (HW0.out.trans (hb2.mono HW0.out.size)); clear hb2))
    go_ret
    exact ⟨rfl, HB2.out⟩
set_option maxHeartbeats 2000000 in
set_option maxRecDepth 20000 in
theorem pput_known (h : IsQ w base lo pb mb n np q v T H) (p : Nat) (hp : p < np) (id : Nat) (hi : id < n) (k : Ke.K) (hr : Ke.rightK k = true) (hw : (whereF n H 0 (id : Int)).isSome = true) :
    Calls Try.prog 26 #[.pointer (some ⟨pb, 0, none⟩), .int .i64 (p : Int), .int .i64 (id : Int), .agg #[.bool k.e, .int .u64 k.d, .int .u8 k.l]] w fun e w' => e = .returned (.int .i64 5) ∧ Below w.heap.size w w' := by
  have hn1 := h.p.n1
  have HX := veil (boxP h k)
  have hA0 : Below (w.heap.size + 1) (w.alloc (.cells #[.bool k.e, .int .u64 k.d, .int .u8 k.l] 25)) (w.alloc (.cells #[.bool k.e, .int .u64 k.d, .int .u8 k.l] 25)) := Below.refl _ _
  have HA := veil hA0
  obtain ⟨hQ0, _, hz0, hw0⟩ := boxP h k _ hA0
  have HHAS := veil (phasY hQ0.p p hp)
  have HR := veil (fun W => by have := Ke.right_ok W k; rw [hr] at this; exact this)
  have c2 := hQ0.p.c2
  have wfi := wf_nat (i := id) (by omega)
  have i0 : ¬ (id : Int) < 0 := by omega
  have i1 : ¬ (n : Int) ≤ (id : Int) := by omega
  have i2 : (id : Int) < (n : Int) := by omega
  have HWS := veil hw
  clear h hQ0 hA0 hw
  go_enter Try.func26, Try.ntmps26
  go_wp2_with (first
    | (go_at_call 41; refine (HHAS.out).mono ?_; rintro e w1 ⟨rfl, hw1⟩; replace hw1 := hw1.symm; subst hw1)
    | (go_at_call 49; refine (HR.out _).mono ?_; rintro e w2 ⟨rfl, hb2⟩; have HB2 := veil (HA.out.trans (hb2.mono hz0)); obtain ⟨hQ2, _, hz2, hbw⟩ := HX.out _ HB2.out; have HBW := veil hbw; have hl2 := hQ2.p.map.look id wfi; rw [HWS.out] at hl2; generalize (whereF n H 0 (id : Int)).getD 0 = ci at hl2; have c21 := hQ2.p.c1; clear hQ2 hb2 hbw))
  go_ret
  exact ⟨rfl, HBW.out⟩
theorem pput_all (h : IsQ w base lo pb mb n np q v T H) (hT : T ≤ 1000) (p id : Int) (k : Ke.K) (hk : k.ok) :
    Calls Try.prog 26 #[.pointer (some ⟨pb, 0, none⟩), .int .i64 p, .int .i64 id, .agg #[.bool k.e, .int .u64 k.d, .int .u8 k.l]] w fun e w' => e = .returned (.int .i64 (pputC np n H p id k)) ∧ Leaves w w' base lo pb mb n np q v T H (pputG np n q H p id k) := by
  unfold pputG pputC
  by_cases hno : (p < 0 ∨ (np : Int) ≤ p) ∨ Bad n id k
  · rw [if_pos hno, if_neg (by decide)]
    refine (pput_no h p id k hno).mono ?_
    rintro e w' ⟨rfl, hb⟩
    exact ⟨rfl, Leaves.same h hb⟩
  · rw [if_neg hno]
    have hnb : ¬ Bad n id k := fun q => hno (.inr q)
    rcases bad_cases n [] id k with hb | ⟨i, rfl, hi, hr, _⟩
    · exact absurd hb hnb
    obtain ⟨p, rfl⟩ := Int.eq_ofNat_of_zero_le (show 0 ≤ p by omega)
    have hp : p < np := by omega
    cases hw : whereF n H 0 (i : Int) with
    | some c =>
      rw [if_pos (show (some c).isSome = true from rfl), if_neg (by decide)]
      refine (pput_known h p hp i hi k hr (by rw [hw]; rfl)).mono ?_
      rintro e w' ⟨rfl, hb⟩
      exact ⟨rfl, Leaves.same h hb⟩
    | none =>
      rw [if_neg (by simp), if_pos rfl]
      obtain ⟨g, cap, rfl, _⟩ := h.p.rows
      obtain ⟨x, hx⟩ := h.p.at (i := p) (by omega)
      obtain ⟨y, hy⟩ := h.p.at (i := np) (by omega)
      have hfit := IsS.fit (h.p.sets.it p x hx)
      have hmo : moP np n q p = min q n := by unfold moP; rw [if_pos hp]
      rw [hmo] at hfit
      have e1 : (p : Int).toNat = p := rfl
      rw [e1]
      unfold aPut
      rw [MM_at hx]
      by_cases hl : x.M.length < min q n
      · rw [if_pos hl, MM_at hx]
        refine (pput_here h hT p hp hx i hi k hr hk hw (by rw [hmo]; exact hl)).mono ?_
        rintro e w' ⟨rfl, hq, hf⟩
        exact ⟨rfl, Leaves.put h hx hq hf rfl⟩
      · rw [if_neg hl, MM_at hy]
        refine (pput_over h hT p hp hx hy i hi k hr hk hw (by rw [hmo]; omega)).mono ?_
        rintro e w' ⟨rfl, hq, hf⟩
        exact ⟨rfl, Leaves.put h hy hq hf rfl⟩
end
end Go.Proofs.Ytlfejgjhamcahaa
