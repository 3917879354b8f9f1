/- YtjlbmmiomfpgiaaGreatDoorGh: of the texts Nc what is wanted. -/
import Derived.Test.YtjlbmmiomfpgiaaGreatDoorG0
import Derived.Test.YtjlbmmiomfpgiaaGreatDoorGg
import Derived.ProofKit
import Derived.OpenShut
import Derived.RowKit3
import Derived.Laws.IdiomArrays
import Derived.WideShapes
import Derived.ChangeOld
import Derived.Deep.Strs
import Derived.Deep.Slices
namespace Go.Proofs.YtjlbmmiomfpgiaaGreatDoor
set_option maxRecDepth 100000
open Go.RowKit Go.Lib
set_option linter.unusedVariables false
attribute [local go_sem ↓] Go.wp_at_zero Go.wp_at_succ
end Go.Proofs.YtjlbmmiomfpgiaaGreatDoor
namespace Go.Proofs.YtjlbmmiomfpgiaaGreatDoor
set_option maxRecDepth 100000
open Go.RowKit Go.Shelf
set_option linter.unusedVariables false
attribute [local go_sem] Oper.semAt_some
set_option maxRecDepth 100000 in
set_option maxHeartbeats 2000000 in
theorem pbest_no (w : World) (a : Option Addr) (p d : Int) (hh : ∀ W, Below w.heap.size w W → Calls Tryz.prog 139 #[.pointer a, .int .i64 p] W fun e w' => e = .returned (.bool false) ∧ w' = W) :
  Calls Tryz.prog 118 #[.pointer a, .int .i64 p, .int .u64 d] w fun e w' => e = .returned (.tuple #[.int .i64 0, .agg #[.bool false, .int .u64 0, .int .u8 0], .int .i64 0, .bool false]) ∧ Below w.heap.size w w' := by
 refine (callsIn_wide (n := 6)).1 ?_
 have HHAS := veil (fun W hW => (callsIn_wide (n := 5)).2 (hh W hW))
 clear hh
 refine callsIn_of_wp_marks Tryz.func118 rfl trivial ?_ rfl
 simp only [Tryz.ntmps118, List.size_toArray, List.length_cons, List.length_nil, Nat.reduceAdd, Nat.reduceSub, Array.replicate_succ, Array.replicate_zero, List.push_toArray, List.append_toArray, List.nil_append, List.cons_append]
 have hB5 : Below w.heap.size w (((((w.alloc (.cells #[.pointer a] 88)).alloc (.cells #[.int .i64 0] 3)).alloc (.cells #[.bool false, .int .u64 0, .int .u8 0] 67)).alloc (.cells #[.int .i64 0] 3)).alloc (.cells #[.bool false] 4)) := (((((Below.refl _ w).alloc (Nat.le_refl _) _).alloc (by simp) _).alloc (by simp; omega) _).alloc (by simp; omega) _).alloc (by simp; omega) _
 have HB5 := veil hB5
 clear hB5
 gi_wp2
 refine wpIn_wide.2 (wp_scope_straight ((wpIn_wide (n := 6)).1 ?_))
 gi_wp2_with (first
  | (refine ⟨trivial, ?_⟩; gi_at_call 139; refine (HHAS.out _ HB5.out).mono ?_; rintro e w1 ⟨rfl, hw1⟩; replace hw1 := hw1.symm; subst hw1))
 try simp only [Exit.noGoto]
 refine ⟨_, ?_, rfl, HB5.out⟩
 simp [results, Tryz.f118, go_sem]
end Go.Proofs.YtjlbmmiomfpgiaaGreatDoor
namespace Go.Proofs.YtjlbmmiomfpgiaaGreatDoor
set_option maxRecDepth 100000
open Go.RowKit Go.Lib
set_option linter.unusedVariables false
attribute [local go_sem ↓] Go.wp_at_zero Go.wp_at_succ
def Ms (H : List Hd) : List (List En) := H.map (·.M)
theorem Ms_len (H : List Hd) : (Ms H).length = H.length := by simp [Ms]
theorem Ms_at {H : List Hd} {i : Nat} {x : Hd} (h : H[i]? = some x) : (Ms H)[i]? = some x.M := by simp [Ms, h]
theorem Ms_set (H : List Hd) (i : Nat) (y : Hd) : Ms (H.set i y) = (Ms H).set i y.M := by simp [Ms, List.map_set]
section
variable {H X : List Hd}
theorem Ms_pt (e : Ms H = Ms X) {i : Nat} {x y : Hd} (hx : H[i]? = some x) (hy : X[i]? = some y) : x.M = y.M := by
 have h1 := Ms_at hx
 have h2 := Ms_at hy
 rw [e, h2] at h1
 injection h1 with h1
 exact h1.symm
theorem Ms_to (e : Ms H = Ms X) {i : Nat} {x : Hd} (hx : H[i]? = some x) : ∃ y, X[i]? = some y ∧ y.M = x.M := by
 have h1 := Ms_at hx
 rw [e] at h1
 simp only [Ms, List.getElem?_map] at h1
 cases hy : X[i]? with
 | none => rw [hy] at h1; cases h1
 | some y => rw [hy] at h1; exact ⟨y, rfl, by simpa using h1⟩
theorem MM_ms (H : List Hd) (x : Nat) : MM H x = ((Ms H)[x]?).getD [] := by
 unfold MM Ms
 rw [List.getElem?_map]
 cases H[x]? <;> rfl
theorem MM_eq (e : Ms H = Ms X) : MM H = MM X := funext fun x => by rw [MM_ms, MM_ms, e]
theorem bstep_eq (e : Ms H = Ms X) : bstep H = bstep X := by
 funext b x
 unfold bstep
 rw [MM_eq e]
theorem bst_eq (e : Ms H = Ms X) (l : List Nat) : bst H l = bst X l := by unfold bst; rw [bstep_eq e]
theorem bI_eq (e : Ms H = Ms X) (o : Option Nat) : bI H o = bI X o := by cases o <;> simp [bI, MM_eq e]
theorem bK_eq (e : Ms H = Ms X) (o : Option Nat) : bK H o = bK X o := by cases o <;> simp [bK, MM_eq e]
theorem len_eq (e : Ms H = Ms X) : H.length = X.length := by rw [← Ms_len, ← Ms_len, e]
theorem whereF_eq (e : Ms H = Ms X) (n : Nat) (k id : Int) : whereF n H k id = whereF n X k id :=
 whereF_congr n id H X k (len_eq e) (fun i x x' hx hx' _ => by rw [Ms_pt e hx hx'])
theorem Un_eq (e : Ms H = Ms X) (h : Un H) : Un X := fun i j x y id hx hy h1 h2 => by
 obtain ⟨x', hx', ex⟩ := Ms_to e.symm hx
 obtain ⟨y', hy', ey⟩ := Ms_to e.symm hy
 exact h i j x' y' id hx' hy' (by rw [ex]; exact h1) (by rw [ey]; exact h2)
end
def aPut (np n q : Nat) (H : List Hd) (p : Nat) : Nat := if (MM H p).length < min q n then p else np
def pputC (np n : Nat) (H : List Hd) (p id : Int) (k : Ke.K) : Int := if (p < 0 ∨ (np : Int) ≤ p) ∨ Bad n id k then 2 else if (whereF n H 0 id).isSome then 5 else 0
def pputG (np n q : Nat) (H : List Hd) (p id : Int) (k : Ke.K) : List (List En) := if pputC np n H p id k = 0 then (Ms H).set (aPut np n q H p.toNat) (put (id.toNat, k) (MM H (aPut np n q H p.toNat))) else Ms H
def pchgC (n : Nat) (H : List Hd) (id : Int) (k : Ke.K) : Int := if Bad n id k then 2 else if (whereF n H 0 id).isSome then 0 else 6
def aOf (n : Nat) (H : List Hd) (id : Int) : Nat := ((whereF n H 0 id).getD 0).toNat
def pchgG (n : Nat) (H : List Hd) (id : Int) (k : Ke.K) : List (List En) := if pchgC n H id k = 0 then (Ms H).set (aOf n H id) (chgL n (MM H (aOf n H id)) id k) else Ms H
def bb (np : Nat) (H : List Hd) (p d : Int) : Option Nat := if 0 ≤ p ∧ p < (np : Int) then bst H (ords np p.toNat d.toNat) else none
def ptkG (np : Nat) (H : List Hd) (p d : Int) : List (List En) := match bb np H p d with
 | none => Ms H
 | some c => (Ms H).set c (MM H c).tail
section
variable {w w' wa wb : World} {base lo pb mb n np q T g cap : Nat} {v : Value} {H : List Hd}
theorem IsQ.more (h : IsQ w base lo pb mb n np q v T H) {T' : Nat} (ht : T ≤ T') : IsQ w base lo pb mb n np q v T' H := ⟨h.p, h.un, fun i x hx => Nat.le_trans (h.tn i x hx) ht⟩
def Leaves (w w' : World) (base lo pb mb n np q : Nat) (v : Value) (T : Nat) (H : List Hd) (G : List (List En)) : Prop :=
 (∃ H', IsQ w' base lo pb mb n np q v (T + 1) H' ∧ Ms H' = G ∧ ∀ k, OwnP pb mb v H' k ↔ OwnP pb mb v H k) ∧ Fr (OwnP pb mb v H) w w'
theorem Leaves.same (h : IsQ w base lo pb mb n np q v T H) (hb : Below w.heap.size w w') : Leaves w w' base lo pb mb n np q v T H (Ms H) :=
 ⟨⟨H, (h.below hb).more (by omega), rfl, fun _ => Iff.rfl⟩, Fr.of_below' hb⟩
theorem own_set' {i : Nat} {x : Hd} (hx : H[i]? = some x) (t : Nat) (M : List En) (k : Nat) : OwnP pb mb v (H.set i (x.to t M)) k ↔ OwnP pb mb v H k := by
 refine ⟨own_set hx t M k, ?_⟩
 have hil : i < H.length := (List.getElem?_eq_some_iff.1 hx).1
 rintro (e | e | e | ⟨j, z, hz, hk⟩)
 ·exact .inl e
 ·exact .inr (.inl e)
 ·exact .inr (.inr (.inl e))
 ·by_cases hj : j = i
  ·subst hj
   rw [hx] at hz
   injection hz with hz
   subst hz
   exact .inr (.inr (.inr ⟨j, x.to t M, List.getElem?_set_self hil, hk⟩))
  ·exact .inr (.inr (.inr ⟨j, z, by rw [List.getElem?_set_ne (fun e => hj e.symm)]; exact hz, hk⟩))
theorem Leaves.put (h : IsQ w base lo pb mb n np q v T H) {i : Nat} {x : Hd} (hx : H[i]? = some x) {t : Nat} {M : List En} (hq : IsQ w' base lo pb mb n np q v (T + 1) (H.set i (x.to t M))) (hf : Fr (fun k => k = mb ∨ x.own k) w w') {G : List (List En)} (hG : G = (Ms H).set i M) : Leaves w w' base lo pb mb n np q v T H G := by
 refine ⟨⟨_, hq, ?_, own_set' hx t M⟩, hf.wide ?_⟩
 ·rw [Ms_set, hG]; rfl
 ·rintro k _ (e | e)
  ·exact .inr (.inl e)
  ·exact .inr (.inr (.inr ⟨i, x, hx, e⟩))
set_option maxHeartbeats 2000000 in
set_option maxRecDepth 20000 in
theorem pput_no (h : IsQ w base lo pb mb n np q v T H) (p id : Int) (k : Ke.K) (hno : (p < 0 ∨ (np : Int) ≤ p) ∨ Bad n id k) :
  Calls Tryz.prog 91 #[.pointer (some ⟨pb, 0, none⟩), .int .i64 p, .int .i64 id, .agg #[.bool k.e, .int .u64 k.d, .int .u8 k.l]] w fun e w' => e = .returned (.int .i64 2) ∧ Below w.heap.size w w' := by
 have HX := veil (boxP h k)
 have hA0 : Below (w.heap.size + 1) (w.alloc (.cells #[.bool k.e, .int .u64 k.d, .int .u8 k.l] 67)) (w.alloc (.cells #[.bool k.e, .int .u64 k.d, .int .u8 k.l] 67)) := Below.refl _ _
 obtain ⟨hQ0, _, hz0, hw0⟩ := boxP h k _ hA0
 have HW0 := veil hw0
 have HHAS := veil (phas_ok hQ0.p p)
 have HR := veil (fun W => Ke.right_ok W k)
 have c2 := hQ0.p.c2
 have hcs : decide (0 ≤ p ∧ p < (np : Int)) = false ∨ (decide (0 ≤ p ∧ p < (np : Int)) = true ∧ id < 0) ∨ (decide (0 ≤ p ∧ p < (np : Int)) = true ∧ ¬ id < 0 ∧ (n : Int) ≤ id) ∨ (decide (0 ≤ p ∧ p < (np : Int)) = true ∧ ¬ id < 0 ∧ ¬ (n : Int) ≤ id ∧ Ke.rightK k = false) := by
  by_cases q0 : 0 ≤ p ∧ p < (np : Int)
  ·right
   rw [decide_eq_true q0]
   unfold Bad at hno
   by_cases q1 : id < 0
   ·exact .inl ⟨rfl, q1⟩
   ·by_cases q2 : (n : Int) ≤ id
    ·exact .inr (.inl ⟨rfl, q1, q2⟩)
    ·rcases hno with q | q | q | q
     ·omega
     ·exact absurd q q1
     ·exact absurd q q2
     ·exact .inr (.inr ⟨rfl, q1, q2, q⟩)
  ·left
   exact decide_eq_false q0
 clear h hno hQ0 hA0
 generalize decide (0 ≤ p ∧ p < (np : Int)) = bh at *
 rcases hcs with rfl | ⟨rfl, h1⟩ | ⟨rfl, h1, h2⟩ | ⟨rfl, h1, h2, h3⟩
 ·go_enter Tryz.func91, Tryz.ntmps91
  go_wp2_with (go_at_call 139; refine (HHAS.out).mono ?_; rintro e w1 ⟨rfl, hw1⟩; replace hw1 := hw1.symm; subst hw1)
  go_ret
  exact ⟨rfl, HW0.out⟩
 ·go_enter Tryz.func91, Tryz.ntmps91
  go_wp2_with (go_at_call 139; refine (HHAS.out).mono ?_; rintro e w1 ⟨rfl, hw1⟩; replace hw1 := hw1.symm; subst hw1)
  go_ret
  exact ⟨rfl, HW0.out⟩
 ·go_enter Tryz.func91, Tryz.ntmps91
  go_wp2_with (go_at_call 139; refine (HHAS.out).mono ?_; rintro e w1 ⟨rfl, hw1⟩; replace hw1 := hw1.symm; subst hw1)
  go_ret
  exact ⟨rfl, HW0.out⟩
 ·rw [h3] at HR
  go_enter Tryz.func91, Tryz.ntmps91
  go_wp2_with (first
   | (go_at_call 139; refine (HHAS.out).mono ?_; rintro e w1 ⟨rfl, hw1⟩; replace hw1 := hw1.symm; subst hw1)
   | (go_at_call 126; refine (HR.out _).mono ?_; rintro e w2 ⟨rfl, hb2⟩; have HB2 := veil (HW0.out.trans (hb2.mono HW0.out.size)); clear hb2))
  go_ret
  exact ⟨rfl, HB2.out⟩
set_option maxHeartbeats 2000000 in
set_option maxRecDepth 20000 in
theorem pput_known (h : IsQ w base lo pb mb n np q v T H) (p : Nat) (hp : p < np) (id : Nat) (hi : id < n) (k : Ke.K) (hr : Ke.rightK k = true) (hw : (whereF n H 0 (id : Int)).isSome = true) :
  Calls Tryz.prog 91 #[.pointer (some ⟨pb, 0, none⟩), .int .i64 (p : Int), .int .i64 (id : Int), .agg #[.bool k.e, .int .u64 k.d, .int .u8 k.l]] w fun e w' => e = .returned (.int .i64 5) ∧ Below w.heap.size w w' := by
 have hn1 := h.p.n1
 have HX := veil (boxP h k)
 have hA0 : Below (w.heap.size + 1) (w.alloc (.cells #[.bool k.e, .int .u64 k.d, .int .u8 k.l] 67)) (w.alloc (.cells #[.bool k.e, .int .u64 k.d, .int .u8 k.l] 67)) := Below.refl _ _
 have HA := veil hA0
 obtain ⟨hQ0, _, hz0, hw0⟩ := boxP h k _ hA0
 have HHAS := veil (phasY hQ0.p p hp)
 have HR := veil (fun W => by have := Ke.right_ok W k; rw [hr] at this; exact this)
 have c2 := hQ0.p.c2
 have wfi := wf_nat (i := id) (by omega)
 have i0 : ¬ (id : Int) < 0 := by omega
 have i1 : ¬ (n : Int) ≤ (id : Int) := by omega
 have i2 : (id : Int) < (n : Int) := by omega
 have HWS := veil hw
 clear h hQ0 hA0 hw
 go_enter Tryz.func91, Tryz.ntmps91
 go_wp2_with (first
  | (go_at_call 139; refine (HHAS.out).mono ?_; rintro e w1 ⟨rfl, hw1⟩; replace hw1 := hw1.symm; subst hw1)
  | (go_at_call 126; refine (HR.out _).mono ?_; rintro e w2 ⟨rfl, hb2⟩; have HB2 := veil (HA.out.trans (hb2.mono hz0)); obtain ⟨hQ2, _, hz2, hbw⟩ := HX.out _ HB2.out; have HBW := veil hbw; have hl2 := hQ2.p.map.look id wfi; rw [HWS.out] at hl2; generalize (whereF n H 0 (id : Int)).getD 0 = ci at hl2; have c21 := hQ2.p.c1; clear hQ2 hb2 hbw))
 go_ret
 exact ⟨rfl, HBW.out⟩
theorem pput_all (h : IsQ w base lo pb mb n np q v T H) (hT : T ≤ 1000000000) (p id : Int) (k : Ke.K) (hk : k.ok) :
  Calls Tryz.prog 91 #[.pointer (some ⟨pb, 0, none⟩), .int .i64 p, .int .i64 id, .agg #[.bool k.e, .int .u64 k.d, .int .u8 k.l]] w fun e w' => e = .returned (.int .i64 (pputC np n H p id k)) ∧ Leaves w w' base lo pb mb n np q v T H (pputG np n q H p id k) := by
 unfold pputG pputC
 by_cases hno : (p < 0 ∨ (np : Int) ≤ p) ∨ Bad n id k
 ·rw [if_pos hno, if_neg (by decide)]
  refine (pput_no h p id k hno).mono ?_
  rintro e w' ⟨rfl, hb⟩
  exact ⟨rfl, Leaves.same h hb⟩
 ·rw [if_neg hno]
  have hnb : ¬ Bad n id k := fun q => hno (.inr q)
  rcases bad_cases n [] id k with hb | ⟨i, rfl, hi, hr, _⟩
  ·exact absurd hb hnb
  obtain ⟨p, rfl⟩ := Int.eq_ofNat_of_zero_le (show 0 ≤ p by omega)
  have hp : p < np := by omega
  cases hw : whereF n H 0 (i : Int) with
  | some c =>
   rw [if_pos (show (some c).isSome = true from rfl), if_neg (by decide)]
   refine (pput_known h p hp i hi k hr (by rw [hw]; rfl)).mono ?_
   rintro e w' ⟨rfl, hb⟩
   exact ⟨rfl, Leaves.same h hb⟩
  | none =>
   rw [if_neg (by simp), if_pos rfl]
   obtain ⟨g, cap, rfl, _⟩ := h.p.rows
   obtain ⟨x, hx⟩ := h.p.at (i := p) (by omega)
   obtain ⟨y, hy⟩ := h.p.at (i := np) (by omega)
   have hfit := IsS.fit (h.p.sets.it p x hx)
   have hmo : moP np n q p = min q n := by unfold moP; rw [if_pos hp]
   rw [hmo] at hfit
   have e1 : (p : Int).toNat = p := rfl
   rw [e1]
   unfold aPut
   rw [MM_at hx]
   by_cases hl : x.M.length < min q n
   ·rw [if_pos hl, MM_at hx]
    refine (pput_here h hT p hp hx i hi k hr hk hw (by rw [hmo]; exact hl)).mono ?_
    rintro e w' ⟨rfl, hq, hf⟩
    exact ⟨rfl, Leaves.put h hx hq hf rfl⟩
   ·rw [if_neg hl, MM_at hy]
    refine (pput_over h hT p hp hx hy i hi k hr hk hw (by rw [hmo]; omega)).mono ?_
    rintro e w' ⟨rfl, hq, hf⟩
    exact ⟨rfl, Leaves.put h hy hq hf rfl⟩
end
end Go.Proofs.YtjlbmmiomfpgiaaGreatDoor
namespace Go.Proofs.YtjlbmmiomfpgiaaGreatDoor
set_option maxRecDepth 100000
open Go.RowKit Go.Lib
set_option linter.unusedVariables false
attribute [local go_sem ↓] Go.wp_at_zero Go.wp_at_succ
section
variable {w w' wa wb : World} {base lo pb mb n np q T g cap : Nat} {v : Value} {H : List Hd}
set_option maxHeartbeats 2000000 in
set_option maxRecDepth 20000 in
theorem pchange_in (h : IsQ w base lo pb mb n np q v T H) (hT : T ≤ 1000000000) (id : Int) (k : Ke.K) (hk : k.ok) {i : Nat} {x : Hd} (hx : H[i]? = some x)
  (hs : ∀ W, IsP W base lo pb mb n np q v H → Calls Tryz.prog 129 #[.pointer (some ⟨pb, 0, none⟩), .int .i64 id] W fun e w' => e = .returned (.pointer (some ⟨x.sb, 0, none⟩)) ∧ Below W.heap.size W w') :
  Calls Tryz.prog 79 #[.pointer (some ⟨pb, 0, none⟩), .int .i64 id, .agg #[.bool k.e, .int .u64 k.d, .int .u8 k.l]] w fun e w' => e = .returned (.int .i64 (chgC n x.M id k)) ∧ (∃ t, t ≤ x.turn + 1 ∧ (x.to t (chgL n x.M id k)).is w' n (moP np n q i)) ∧ Fr x.own w w' := by
 have HX := veil (boxP h k)
 have hA0 : Below (w.heap.size + 1) (w.alloc (.cells #[.bool k.e, .int .u64 k.d, .int .u8 k.l] 67)) (w.alloc (.cells #[.bool k.e, .int .u64 k.d, .int .u8 k.l] 67)) := Below.refl _ _
 have HA := veil hA0
 obtain ⟨hQ0, ⟨k0, k1, k2⟩, hz0, hw0⟩ := boxP h k _ hA0
 have HSET : Hid (∀ W, Below (w.heap.size + 1) (w.alloc (.cells #[.bool k.e, .int .u64 k.d, .int .u8 k.l] 67)) W → Calls Tryz.prog 129 #[.pointer (some ⟨pb, 0, none⟩), .int .i64 id] W fun e w' => e = .returned (.pointer (some ⟨x.sb, 0, none⟩)) ∧ Below (w.heap.size + 1) (w.alloc (.cells #[.bool k.e, .int .u64 k.d, .int .u8 k.l] 67)) w') := fun W hW => by
  obtain ⟨hQ, _, hz, _⟩ := boxP h k W hW
  refine (hs W hQ.p).mono ?_
  rintro e w' ⟨rfl, hb⟩
  exact ⟨rfl, hW.trans (hb.mono hz)⟩
 have HCHG : Hid (∀ W, Below (w.heap.size + 1) (w.alloc (.cells #[.bool k.e, .int .u64 k.d, .int .u8 k.l] 67)) W → Calls Tryz.prog 130 #[.pointer (some ⟨x.sb, 0, none⟩), .int .i64 id, .agg #[.bool k.e, .int .u64 k.d, .int .u8 k.l]] W fun e w' => e = .returned (.int .i64 (chgC n x.M id k)) ∧ (w'.cell? ⟨w.heap.size, 0, none⟩ = some (.bool k.e) ∧ w'.cell? ⟨w.heap.size, 1, none⟩ = some (.int .u64 k.d) ∧ w'.cell? ⟨w.heap.size, 2, none⟩ = some (.int .u8 k.l)) ∧ (∃ t, t ≤ x.turn + 1 ∧ (x.to t (chgL n x.M id k)).is w' n (moP np n q i)) ∧ Fr x.own w w') := fun W hW => by
  obtain ⟨hQ, ⟨k0, k1, k2⟩, hz, hb⟩ := boxP h k W hW
  have hbl := (h.p.sets.it i x hx).blocks
  have nb : ¬ x.own w.heap.size := fun q => by have := hbl _ q; omega
  refine (schange_all (hQ.p.sets.it i x hx) (by have := h.tn i x hx; omega) id k hk).mono ?_
  rintro e w1 ⟨rfl, ht, hf⟩
  have hf' : Fr x.own W w1 := hf
  exact ⟨rfl, ⟨(hf'.cell (a := ⟨w.heap.size, 0, none⟩) (by show w.heap.size < _; omega) nb).trans k0, (hf'.cell (a := ⟨w.heap.size, 1, none⟩) (by show w.heap.size < _; omega) nb).trans k1, (hf'.cell (a := ⟨w.heap.size, 2, none⟩) (by show w.heap.size < _; omega) nb).trans k2⟩, ht, (Fr.of_below' hb).trans hf'⟩
 generalize chgC n x.M id k = cc at *
 clear h hQ0 hA0 hs hx hw0
 go_enter Tryz.func79, Tryz.ntmps79
 go_wp2
 go_region_held3 (fun w' => w'.cell? ⟨w.heap.size, 0, none⟩ = some (.bool k.e) ∧ w'.cell? ⟨w.heap.size, 1, none⟩ = some (.int .u64 k.d) ∧ w'.cell? ⟨w.heap.size, 2, none⟩ = some (.int .u8 k.l))
  (first
   | exact S3.out
   | exact ⟨k10, k11, k12⟩
   | go_keep)
  (first
   | (go_at_call 129; refine (HSET.out _ (by exact below_post HA.out rfl rfl rfl rfl)).mono ?_; rintro e w1 ⟨rfl, hb1⟩; have HB1 := veil hb1; obtain ⟨hQ1, ⟨k10, k11, k12⟩, hz1, _⟩ := HX.out _ HB1.out; clear hQ1 hb1)
   | (go_at_call 130; refine (HCHG.out _ (by exact below_post HB1.out rfl rfl rfl rfl)).mono ?_; rintro e w3 ⟨rfl, hs3, ht3, hf3⟩; have S3 := veil hs3; have HT3 := veil ht3; have HF3 := veil hf3; clear hs3 ht3 hf3))
 go_wp2
 go_ret
 exact ⟨rfl, HT3.out, HF3.out⟩
theorem chgL_has (n : Nat) (M : List En) (id : Int) (k : Ke.K) (j : Nat) : (keyOf (chgL n M id k) j).isSome = (keyOf M j).isSome := by
 unfold chgL
 split
 ·rename_i hc
  split
  ·rfl
  ·rw [Bool.eq_iff_iff, has_put, has_cut]
   have hs : (keyOf M id.toNat).isSome = true := by
    unfold chgC at hc
    split at hc
    ·cases hc
    ·split at hc
     ·assumption
     ·cases hc
   constructor
   ·rintro (rfl | q)
    ·exact hs
    ·exact q.2
   ·intro q
    by_cases e : j = id.toNat
    ·exact .inl e
    ·exact .inr ⟨e, q⟩
 ·rfl
theorem chgL_len (n : Nat) {M : List En} (hn : (M.map (·.1)).Nodup) (id : Int) (k : Ke.K) : (chgL n M id k).length = M.length := by
 unfold chgL
 split
 ·rename_i hc
  split
  ·rfl
  ·unfold chgC at hc
   split at hc
   ·cases hc
   ·split at hc
    ·rename_i hs
     obtain ⟨k', hk'⟩ := Option.isSome_iff_exists.1 hs
     have := len_cut hn ((keyOf_some hn).1 hk')
     rw [len_put]
     omega
    ·cases hc
 ·rfl
theorem Leaves.kept (h : IsQ w base lo pb mb n np q v T H) {i : Nat} {x : Hd} (hx : H[i]? = some x) {M : List En} (hi : ∀ j, (keyOf M j).isSome = (keyOf x.M j).isSome) (hl : M.length = x.M.length) (ht : ∃ t, t ≤ x.turn + 1 ∧ (x.to t M).is w' n (moP np n q i)) (hf : Fr x.own w w') : Leaves w w' base lo pb mb n np q v T H ((Ms H).set i M) := by
 obtain ⟨t, ht, hy⟩ := ht
 obtain ⟨u1, u2⟩ := where_same (n := n) (y := x.to t M) h.un hx hi
 have hs := sumH_set (y := x.to t M) hx
 have e : sumH (H.set i (x.to t M)) = sumH H := by
  have : (x.to t M).M.length = M.length := rfl
  omega
 have hsep := h.p.sep i x hx
 obtain ⟨a, b⟩ := h.turned hx ht hf hy (Fr.refl _ _) u1 (by
  rw [u2, e]
  exact h.p.map.block (hf.block _ h.p.map.lt (fun q => (hsep mb q).2.2 rfl)))
 exact Leaves.put h hx a b rfl
theorem set_same {G : List (List En)} {i : Nat} {M : List En} (h : G[i]? = some M) : G.set i M = G := by
 apply List.ext_getElem?
 intro j
 rw [List.getElem?_set]
 split
 ·rename_i e
  subst e
  split
  ·exact h.symm
  ·rename_i q
   exact absurd (List.getElem?_eq_some_iff.1 h).1 q
 ·rfl
theorem where_at (h : IsQ w base lo pb mb n np q v T H) {id c : Int} (hw : whereF n H 0 id = some c) : ∃ (i : Nat) (x : Hd), H[i]? = some x ∧ c = (i : Int) ∧ aOf n H id = i ∧ MM H i = x.M ∧ 0 ≤ id ∧ id < (n : Int) ∧ (keyOf x.M id.toNat).isSome = true := by
 obtain ⟨i, x, hx, hc, h1, h2, h3⟩ := whereF_inv n id H 0 c hw
 refine ⟨i, x, hx, by omega, ?_, MM_at hx, h1, h2, h3⟩
 unfold aOf
 rw [hw]
 simp only [Option.getD_some]
 omega
theorem pchange_all (h : IsQ w base lo pb mb n np q v T H) (hT : T ≤ 1000000000) (id : Int) (wfi : (Lit.int .i64 id).wf = true) (k : Ke.K) (hk : k.ok) :
  Calls Tryz.prog 79 #[.pointer (some ⟨pb, 0, none⟩), .int .i64 id, .agg #[.bool k.e, .int .u64 k.d, .int .u8 k.l]] w fun e w' => e = .returned (.int .i64 (pchgC n H id k)) ∧ Leaves w w' base lo pb mb n np q v T H (pchgG n H id k) := by
 have hn1 := h.p.n1
 cases hw : whereF n H 0 id with
 | some c =>
  obtain ⟨i, x, hx, rfl, ha, hm, h1, h2, h3⟩ := where_at h hw
  have hc : pchgC n H id k = chgC n x.M id k := by unfold pchgC chgC; rw [hw, if_pos (show (some (i : Int)).isSome = true from rfl), if_pos h3]
  refine (pchange_in h hT id k hk hx (fun W hW => (pset_at hW id wfi i x hx hw).mono (by rintro e w' ⟨rfl, rfl⟩; exact ⟨rfl, Below.refl _ _⟩))).mono ?_
  rintro e w' ⟨rfl, ht, hf⟩
  refine ⟨by rw [hc], ?_⟩
  have hL := Leaves.kept h hx (chgL_has n x.M id k) (chgL_len n (IsS.nd (h.p.sets.it i x hx)) id k) ht hf
  have e : pchgG n H id k = (Ms H).set i (chgL n x.M id k) := by
   unfold pchgG
   rw [ha, hm, hc]
   split
   ·rfl
   ·rename_i q
    have : chgL n x.M id k = x.M := by unfold chgL; rw [if_neg q]
    rw [this, set_same (Ms_at hx)]
  rw [e]
  exact hL
 | none =>
  obtain ⟨x, hx⟩ := h.p.at (i := np) (by omega)
  have hko : ∀ j : Nat, id = (j : Int) → j < n → keyOf x.M j = none := fun j e hj => whereF_no (by rw [← e]; exact hw) hj hx
  have hc : pchgC n H id k = chgC n x.M id k := by
   unfold pchgC chgC
   rw [hw]
   by_cases hb : Bad n id k
   ·rw [if_pos hb, if_pos hb]
   ·rw [if_neg hb, if_neg hb]
    unfold Bad at hb
    simp only [not_or] at hb
    obtain ⟨j, rfl⟩ := Int.eq_ofNat_of_zero_le (show 0 ≤ id by omega)
    rw [show ((j : Int)).toNat = j from rfl, hko j rfl (by omega)]
    rfl
  have hne : ¬ pchgC n H id k = 0 := by
   unfold pchgC
   rw [hw]
   split
   ·decide
   ·simp
  refine (pchange_in h hT id k hk hx (fun W hW => pset_no hW id wfi x hx hw)).mono ?_
  rintro e w' ⟨rfl, ht, hf⟩
  refine ⟨by rw [hc], ?_⟩
  have hL := Leaves.kept h hx (chgL_has n x.M id k) (chgL_len n (IsS.nd (h.p.sets.it np x hx)) id k) ht hf
  have e : pchgG n H id k = (Ms H).set np (chgL n x.M id k) := by
   unfold pchgG
   rw [if_neg hne]
   have : chgL n x.M id k = x.M := by unfold chgL; rw [if_neg (by rw [← hc]; exact hne)]
   rw [this, set_same (Ms_at hx)]
  rw [e]
  exact hL
theorem pbest_all (h : IsQ w base lo pb mb n np q v T H) (p d : Int) (hd : 0 ≤ d ∧ d < 18446744073709551616) :
  Calls Tryz.prog 118 #[.pointer (some ⟨pb, 0, none⟩), .int .i64 p, .int .u64 d] w fun e w' => e = .returned (.tuple #[.int .i64 (bI H (bb np H p d)), .agg #[.bool (bK H (bb np H p d)).e, .int .u64 (bK H (bb np H p d)).d, .int .u8 (bK H (bb np H p d)).l], .int .i64 (bA (bb np H p d)), .bool (bb np H p d).isSome]) ∧ Below w.heap.size w w' := by
 unfold bb
 by_cases hp : 0 ≤ p ∧ p < (np : Int)
 ·rw [if_pos hp]
  obtain ⟨p, rfl⟩ := Int.eq_ofNat_of_zero_le hp.1
  obtain ⟨d, rfl⟩ := Int.eq_ofNat_of_zero_le hd.1
  obtain ⟨g, cap, rfl, _⟩ := h.p.rows
  exact pbest_ok h.p p d (by omega) (by omega)
 ·rw [if_neg hp]
  refine pbest_no w _ p d (fun W hW => ?_)
  have := phas_ok (h.below hW).p p
  rw [decide_eq_false hp] at this
  exact this
end
end Go.Proofs.YtjlbmmiomfpgiaaGreatDoor
namespace Go.Proofs.YtjlbmmiomfpgiaaGreatDoor
set_option maxRecDepth 100000
open Go.RowKit Go.Lib
set_option linter.unusedVariables false
attribute [local go_sem ↓] Go.wp_at_zero Go.wp_at_succ
set_option maxHeartbeats 4000000 in
set_option maxRecDepth 20000 in
theorem ptake_no (w : World) (a : Option Addr) (p d : Int) (hh : ∀ W, Below w.heap.size w W → Calls Tryz.prog 118 #[.pointer a, .int .i64 p, .int .u64 d] W fun e w' => e = .returned (.tuple #[.int .i64 0, .agg #[.bool false, .int .u64 0, .int .u8 0], .int .i64 0, .bool false]) ∧ Below W.heap.size W w') :
  Calls Tryz.prog 122 #[.pointer a, .int .i64 p, .int .u64 d] w fun e w' => e = .returned (.tuple #[.int .i64 0, .agg #[.bool false, .int .u64 0, .int .u8 0], .int .i64 0, .bool false]) ∧ Below w.heap.size w w' := by
 have hbB : Below w.heap.size w (w.alloc (.cells #[.bool false, .int .u64 0, .int .u8 0] 67)) := (Below.refl _ _).alloc (Nat.le_refl _) _
 have HBEST := veil (hh _ hbB)
 have HK : Hid (∀ W, Below (w.alloc (.cells #[.bool false, .int .u64 0, .int .u8 0] 67)).heap.size (w.alloc (.cells #[.bool false, .int .u64 0, .int .u8 0] 67)) W →
   (∀ j, W.frozen? ⟨w.heap.size, j, none⟩ = false) ∧ W.cell? ⟨w.heap.size, 0, none⟩ = some (.bool false) ∧ W.cell? ⟨w.heap.size, 1, none⟩ = some (.int .u64 0) ∧ W.cell? ⟨w.heap.size, 2, none⟩ = some (.int .u8 0) ∧ (key3 W w.heap.size ⟨false, 0, 0⟩).heap[w.heap.size]? = some (.cells #[.bool false, .int .u64 0, .int .u8 0] 67 (0, 0)) ∧ Below w.heap.size w (key3 W w.heap.size ⟨false, 0, 0⟩)) := fun W hW => by
  have hblk : W.heap[w.heap.size]? = some (.cells #[.bool false, .int .u64 0, .int .u8 0] 67 (0, 0)) := (hW.block _ (by simp)).trans (World.alloc_heap_new w _)
  have hbw : Below w.heap.size w W := hbB.trans (hW.mono hbB.size)
  have hfk := fr_key3 W w.heap.size ⟨false, 0, 0⟩
  exact ⟨fun j => (blk_cell hblk j).2, (blk_cell hblk 0).1, (blk_cell hblk 1).1, (blk_cell hblk 2).1, blk_key3 (k0 := ⟨false, 0, 0⟩) hblk, hbw.trans (hfk.below hbw.size (fun k e => by omega))⟩
 clear hh hbB
 go_enter Tryz.func122, Tryz.ntmps122
 go_wp2_with (first
  | (go_at_call 118; refine (HBEST.out).mono ?_; rintro e w1 ⟨rfl, hb1⟩; obtain ⟨f1, k0, k1, k2, hblk, hB1⟩ := HK.out w1 hb1; have f10 := f1 0; have f11 := f1 1; have f12 := f1 2; have HBLK := veil hblk; have HB1 := veil hB1; clear f1 hblk hB1 hb1))
 have hkk : (((w1.setCell ⟨w.heap.size, 0, none⟩ (.bool false)).setCell ⟨w.heap.size, 1, none⟩ (.int .u64 0)).setCell ⟨w.heap.size, 2, none⟩ (.int .u8 0)) = key3 w1 w.heap.size ⟨false, 0, 0⟩ := rfl
 rw [hkk]
 generalize key3 w1 w.heap.size ⟨false, 0, 0⟩ = W2 at *
 have k20 := (blk_cell HBLK.out 0).1
 have k21 := (blk_cell HBLK.out 1).1
 have k22 := (blk_cell HBLK.out 2).1
 have f20 := (blk_cell HBLK.out 0).2
 have f21 := (blk_cell HBLK.out 1).2
 have f22 := (blk_cell HBLK.out 2).2
 clear k0 k1 k2 f10 f11 f12 hkk
 have HB3 := veil (blk_key3 (k0 := ⟨false, 0, 0⟩) (k1 := ⟨false, 0, 0⟩) HBLK.out)
 simp only [List.getElem?_toArray, List.getElem?_cons_zero, List.getElem?_cons_succ] at k20 k21 k22
 refine wp_region_noPanic ?_
 refine wp_region_held_drew (S := (fun w' => w'.cell? ⟨w.heap.size, 0, none⟩ = some (.bool false) ∧ w'.cell? ⟨w.heap.size, 1, none⟩ = some (.int .u64 0) ∧ w'.cell? ⟨w.heap.size, 2, none⟩ = some (.int .u8 0))) (by kernel_rfl) ?_ (fun hHeld => ?_)
 ·exact ⟨k20, k21, k22⟩
 refine tkX 0 (v := ?_) rfl ?v0 ?_
 case v0 => (intro w hSw; (try dsimp only at hSw); go_simp; try with_reducible rfl)
 try simp only [puX]
 refine tkX 1 (v := ?_) rfl ?v1 ?_
 case v1 => (intro w hSw; (try dsimp only at hSw); go_simp; try with_reducible rfl)
 try simp only [puX]
 refine tkX 2 (v := ?_) rfl ?v2 ?_
 case v2 => (intro w hSw; (try dsimp only at hSw); go_simp; try with_reducible rfl)
 try simp only [puX]
 refine tkX 3 (v := ?_) rfl ?v3 ?_
 case v3 => (intro w hSw; (try dsimp only at hSw); go_simp; try with_reducible rfl)
 try simp only [puX]
 refine tkX 4 (v := ?_) rfl ?v4 ?_
 case v4 => (intro w hSw; (try dsimp only at hSw); go_simp; try with_reducible rfl)
 try simp only [puX]
 refine wpAnyH_ready (rs := [5]) (by kernel_rfl) (by simp) ?_
 refine AllReadyH.cons rfl (fun K hK => ?_) AllReadyH.nil
 go_simp
 refine hK.out _ _ ?_ (fun hHeld => ?_)
 ·exact ⟨(blk_cell (drew_heap HB3.out) 0).1, (blk_cell (drew_heap HB3.out) 1).1, (blk_cell (drew_heap HB3.out) 2).1⟩
 clear hK K
 try simp only [puX]
 refine tkX 6 (v := ?_) rfl ?v6 ?_
 case v6 => (intro w hSw; (try dsimp only at hSw); go_simp; try with_reducible rfl)
 try simp only [puX]
 refine tkX 7 (v := ?_) rfl ?v7 ?_
 case v7 => (intro w hSw; (try dsimp only at hSw); go_simp; try with_reducible rfl)
 try simp only [puX]
 refine wpAnyH_done (by kernel_rfl) ?_ _
 simp only [NoPanic]
 have HW3 := veil (fr_key3 W2 w.heap.size ⟨false, 0, 0⟩)
 have HB4 := veil (drew_heap HB3.out)
 have HF4 : Hid (Fr (fun j => j = w.heap.size) W2 (key3 W2 w.heap.size ⟨false, 0, 0⟩).drew) := ⟨HW3.out.os, HW3.out.tape, HW3.out.output, HW3.out.size, HW3.out.block⟩
 clear HB3 HW3 k20 k21 k22 f20 f21 f22 hHeld
 have hkk : (((W2.setCell ⟨w.heap.size, 0, none⟩ (.bool false)).setCell ⟨w.heap.size, 1, none⟩ (.int .u64 0)).setCell ⟨w.heap.size, 2, none⟩ (.int .u8 0)).drew = (key3 W2 w.heap.size ⟨false, 0, 0⟩).drew := rfl
 rw [hkk]
 generalize (key3 W2 w.heap.size ⟨false, 0, 0⟩).drew = W4 at *
 have g0 := (blk_cell HB4.out 0).1
 have g1 := (blk_cell HB4.out 1).1
 have g2 := (blk_cell HB4.out 2).1
 simp at g0 g1 g2
 go_wp2
 refine bodyPost_ret (v := .tuple #[.int .i64 0, .agg #[.bool false, .int .u64 0, .int .u8 0], .int .i64 0, .bool false]) ?_ rfl ?_
 ·simp [results, Tryz.f122, go_sem, g0, g1, g2]
 refine ⟨rfl, HB1.out.trans (HF4.out.below HB1.out.size (fun k e => by omega))⟩
section
variable {w w' wa wb : World} {base lo pb mb n np q T g cap : Nat} {v : Value} {H : List Hd}
theorem bst_at (H : List Hd) : ∀ (l : List Nat) (b : Option Nat), (∀ c, b = some c → ∃ y M, MM H c = y :: M) → ∀ c, l.foldl (bstep H) b = some c → ∃ y M, MM H c = y :: M
 | [], b, h, c, hc => h c hc
 | x :: l, b, h, c, hc => by
  refine bst_at H l (bstep H b x) (fun c' hc' => ?_) c hc
  unfold bstep at hc'
  cases hM : MM H x with
  | nil => rw [hM] at hc'; exact h c' hc'
  | cons y M =>
   rw [hM] at hc'
   cases b with
   | none =>
    simp only at hc'
    injection hc' with hc'
    exact ⟨y, M, by rw [← hc']; exact hM⟩
   | some c0 =>
    simp only at hc'
    split at hc'
    ·injection hc' with hc'
     exact ⟨y, M, by rw [← hc']; exact hM⟩
    ·exact h c' hc'
theorem bb_at {p d : Int} {c : Nat} (h : bb np H p d = some c) : (0 ≤ p ∧ p < (np : Int)) ∧ bst H (ords np p.toNat d.toNat) = some c ∧ ∃ x z M', H[c]? = some x ∧ x.M = z :: M' := by
 unfold bb at h
 by_cases hp : 0 ≤ p ∧ p < (np : Int)
 ·rw [if_pos hp] at h
  obtain ⟨y, M, e⟩ := bst_at H _ none (fun c hc => by cases hc) c h
  refine ⟨hp, h, ?_⟩
  unfold MM at e
  cases hx : H[c]? with
  | none => rw [hx] at e; cases e
  | some x => rw [hx] at e; exact ⟨x, y, M, rfl, e⟩
 ·rw [if_neg hp] at h; cases h
theorem ptake_all (h : IsQ w base lo pb mb n np q v T H) (p d : Int) (hd : 0 ≤ d ∧ d < 18446744073709551616) :
  Calls Tryz.prog 122 #[.pointer (some ⟨pb, 0, none⟩), .int .i64 p, .int .u64 d] w fun e w' => e = .returned (.tuple #[.int .i64 (bI H (bb np H p d)), .agg #[.bool (bK H (bb np H p d)).e, .int .u64 (bK H (bb np H p d)).d, .int .u8 (bK H (bb np H p d)).l], .int .i64 (bA (bb np H p d)), .bool (bb np H p d).isSome]) ∧ Leaves w w' base lo pb mb n np q v T H (ptkG np H p d) := by
 unfold ptkG
 cases hbb : bb np H p d with
 | none =>
  refine (ptake_no w _ p d (fun W hW => ?_)).mono ?_
  ·have := pbest_all (h.below hW) p d hd
   rw [hbb] at this
   exact this
  ·rintro e w' ⟨rfl, hb⟩
   exact ⟨rfl, Leaves.same h hb⟩
 | some c =>
  obtain ⟨hp, hb, x, z, M', hx, hM⟩ := bb_at hbb
  obtain ⟨p, rfl⟩ := Int.eq_ofNat_of_zero_le hp.1
  obtain ⟨d, rfl⟩ := Int.eq_ofNat_of_zero_le hd.1
  obtain ⟨g, cap, rfl, _⟩ := h.p.rows
  have e1 : bI H (some c) = (z.1 : Int) := by show tkI (MM H c) = _; rw [MM_at hx, hM]; rfl
  have e2 : bK H (some c) = z.2 := by show tkK (MM H c) = _; rw [MM_at hx, hM]; rfl
  have e3 : bA (some c) = (c : Int) := rfl
  rw [e1, e2, e3]
  refine (ptake_at h p d (by omega) (by omega) hb hx hM).mono ?_
  rintro e w' ⟨rfl, t, hq, hf⟩
  refine ⟨rfl, Leaves.put h hx hq hf ?_⟩
  show (Ms H).set c (MM H c).tail = _
  rw [MM_at hx, hM]
  rfl
end
end Go.Proofs.YtjlbmmiomfpgiaaGreatDoor
namespace Go.Proofs.YtjlbmmiomfpgiaaGreatDoor
set_option maxRecDepth 100000
open Go.RowKit Go.Lib
set_option linter.unusedVariables false
attribute [local go_sem ↓] Go.wp_at_zero Go.wp_at_succ
def gh (G : List (List En)) : List Hd := G.map (fun M => ⟨0, 0, 0, 0, 0, 0, M⟩)
theorem Ms_gh (G : List (List En)) : Ms (gh G) = G := by
 unfold Ms gh
 rw [List.map_map]
 exact List.map_id G
section
variable {H X : List Hd}
theorem pputC_eq (e : Ms H = Ms X) (np n : Nat) (p id : Int) (k : Ke.K) : pputC np n H p id k = pputC np n X p id k := by unfold pputC; rw [whereF_eq e]
theorem aPut_eq (e : Ms H = Ms X) (np n q p : Nat) : aPut np n q H p = aPut np n q X p := by unfold aPut; rw [MM_eq e]
theorem pputG_eq (e : Ms H = Ms X) (np n q : Nat) (p id : Int) (k : Ke.K) : pputG np n q H p id k = pputG np n q X p id k := by unfold pputG; rw [pputC_eq e, aPut_eq e, MM_eq e, e]
theorem pchgC_eq (e : Ms H = Ms X) (n : Nat) (id : Int) (k : Ke.K) : pchgC n H id k = pchgC n X id k := by unfold pchgC; rw [whereF_eq e]
theorem aOf_eq (e : Ms H = Ms X) (n : Nat) (id : Int) : aOf n H id = aOf n X id := by unfold aOf; rw [whereF_eq e]
theorem pchgG_eq (e : Ms H = Ms X) (n : Nat) (id : Int) (k : Ke.K) : pchgG n H id k = pchgG n X id k := by unfold pchgG; rw [pchgC_eq e, aOf_eq e, MM_eq e, e]
theorem bb_eq (e : Ms H = Ms X) (np : Nat) (p d : Int) : bb np H p d = bb np X p d := by unfold bb; rw [bst_eq e]
theorem ptkG_eq (e : Ms H = Ms X) (np : Nat) (p d : Int) : ptkG np H p d = ptkG np X p d := by unfold ptkG; rw [bb_eq e, MM_eq e, e]
end
def PQ (w : World) (O : Nat → Prop) (pb n np q T : Nat) (G : List (List En)) : Prop :=
 ∃ (base lo mb : Nat) (v : Value) (H : List Hd), IsQ w base lo pb mb n np q v T H ∧ Ms H = G ∧ ∀ k, OwnP pb mb v H k ↔ O k
section
variable {w w' : World} {O : Nat → Prop} {pb n np q T : Nat} {G G' : List (List En)}
theorem PQ.below (h : PQ w O pb n np q T G) (hb : Below w.heap.size w w') : PQ w' O pb n np q T G := by
 obtain ⟨base, lo, mb, v, H, hQ, hG, hO⟩ := h
 exact ⟨base, lo, mb, v, H, hQ.below hb, hG, hO⟩
theorem PQ.frame {S : Nat → Prop} (h : PQ w O pb n np q T G) (hf : Fr S w w') (hn : ∀ k, O k → ¬ S k) : PQ w' O pb n np q T G := by
 obtain ⟨base, lo, mb, v, H, hQ, hG, hO⟩ := h
 exact ⟨base, lo, mb, v, H, hQ.frame hf (fun k hk => hn k ((hO k).1 hk)), hG, hO⟩
theorem PQ.more (h : PQ w O pb n np q T G) {T' : Nat} (ht : T ≤ T') : PQ w O pb n np q T' G := by
 obtain ⟨base, lo, mb, v, H, hQ, hG, hO⟩ := h
 exact ⟨base, lo, mb, v, H, hQ.more ht, hG, hO⟩
theorem PQ.blocks (h : PQ w O pb n np q T G) : ∀ k, O k → k < w.heap.size := by
 obtain ⟨base, lo, mb, v, H, hQ, hG, hO⟩ := h
 exact fun k hk => hQ.p.blocks k ((hO k).2 hk)
theorem PQ.len (h : PQ w O pb n np q T G) : G.length = np + 1 := by
 obtain ⟨base, lo, mb, v, H, hQ, hG, hO⟩ := h
 rw [← hG, Ms_len]; exact hQ.p.len
theorem PQ.un (h : PQ w O pb n np q T G) : Un (gh G) := by
 obtain ⟨base, lo, mb, v, H, hQ, hG, hO⟩ := h
 exact Un_eq (by rw [hG, Ms_gh]) hQ.un
theorem PQ.np1 (h : PQ w O pb n np q T G) : 1 ≤ np ∧ np ≤ 64 := by
 obtain ⟨base, lo, mb, v, H, hQ, hG, hO⟩ := h
 exact hQ.p.np1
theorem PQ.n1 (h : PQ w O pb n np q T G) : 1 ≤ n ∧ n ≤ 1024 := by
 obtain ⟨base, lo, mb, v, H, hQ, hG, hO⟩ := h
 exact hQ.p.n1
theorem PQ.at {i : Nat} {M : List En} (h : PQ w O pb n np q T G) (hi : G[i]? = some M) : (M.map (·.1)).Nodup ∧ (∀ y ∈ M, y.1 < n) ∧ M.length ≤ moP np n q i ∧ ∀ y ∈ M, Ke.rightK y.2 = true := by
 obtain ⟨base, lo, mb, v, H, hQ, hG, hO⟩ := h
 rw [← hG] at hi
 simp only [Ms, List.getElem?_map] at hi
 cases hx : H[i]? with
 | none => rw [hx] at hi; cases hi
 | some x =>
  rw [hx] at hi
  injection hi with hi
  subst hi
  have hs := hQ.p.sets.it i x hx
  refine ⟨IsS.nd hs, ?_, IsS.fit hs, ?_⟩
  ·obtain ⟨R, L, hS, hI⟩ := id_S hs
   exact hI.rng hS
  ·obtain ⟨R, L, hS, hI⟩ := id_S hs
   intro y hy
   have hy' : y ∈ x.M := hy
   rw [← hI.eq] at hy'
   rcases mem_all.1 hy' with ⟨d, s, _, h2⟩ | ⟨lv, _, _, h2⟩
   ·rw [h2]; rfl
   ·rw [h2]; rfl
theorem Leaves.pq {base lo mb : Nat} {v : Value} {H : List Hd} (hO : ∀ k, OwnP pb mb v H k ↔ O k) (h : Leaves w w' base lo pb mb n np q v T H G) : PQ w' O pb n np q (T + 1) G ∧ Fr O w w' := by
 obtain ⟨⟨H', hQ, hG, hO'⟩, hf⟩ := h
 exact ⟨⟨base, lo, mb, v, H', hQ, hG, fun k => (hO' k).trans (hO k)⟩, hf.wide (fun k _ q => (hO k).1 q)⟩
theorem PQ.put (h : PQ w O pb n np q T G) (hT : T ≤ 1000000000) (p id : Int) (k : Ke.K) (hk : k.ok) :
  Calls Tryz.prog 91 #[.pointer (some ⟨pb, 0, none⟩), .int .i64 p, .int .i64 id, .agg #[.bool k.e, .int .u64 k.d, .int .u8 k.l]] w fun e w' => e = .returned (.int .i64 (pputC np n (gh G) p id k)) ∧ PQ w' O pb n np q (T + 1) (pputG np n q (gh G) p id k) ∧ Fr O w w' := by
 obtain ⟨base, lo, mb, v, H, hQ, rfl, hO⟩ := h
 have e : Ms (gh (Ms H)) = Ms H := Ms_gh _
 rw [pputC_eq e, pputG_eq e]
 exact (pput_all hQ hT p id k hk).mono (fun e w' h => ⟨h.1, h.2.pq hO⟩)
theorem PQ.change (h : PQ w O pb n np q T G) (hT : T ≤ 1000000000) (id : Int) (wfi : (Lit.int .i64 id).wf = true) (k : Ke.K) (hk : k.ok) :
  Calls Tryz.prog 79 #[.pointer (some ⟨pb, 0, none⟩), .int .i64 id, .agg #[.bool k.e, .int .u64 k.d, .int .u8 k.l]] w fun e w' => e = .returned (.int .i64 (pchgC n (gh G) id k)) ∧ PQ w' O pb n np q (T + 1) (pchgG n (gh G) id k) ∧ Fr O w w' := by
 obtain ⟨base, lo, mb, v, H, hQ, rfl, hO⟩ := h
 have e : Ms (gh (Ms H)) = Ms H := Ms_gh _
 rw [pchgC_eq e, pchgG_eq e]
 exact (pchange_all hQ hT id wfi k hk).mono (fun e w' h => ⟨h.1, h.2.pq hO⟩)
theorem PQ.best (h : PQ w O pb n np q T G) (p d : Int) (hd : 0 ≤ d ∧ d < 18446744073709551616) :
  Calls Tryz.prog 118 #[.pointer (some ⟨pb, 0, none⟩), .int .i64 p, .int .u64 d] w fun e w' => e = .returned (.tuple #[.int .i64 (bI (gh G) (bb np (gh G) p d)), .agg #[.bool (bK (gh G) (bb np (gh G) p d)).e, .int .u64 (bK (gh G) (bb np (gh G) p d)).d, .int .u8 (bK (gh G) (bb np (gh G) p d)).l], .int .i64 (bA (bb np (gh G) p d)), .bool (bb np (gh G) p d).isSome]) ∧ Below w.heap.size w w' := by
 obtain ⟨base, lo, mb, v, H, hQ, rfl, hO⟩ := h
 have e : Ms (gh (Ms H)) = Ms H := Ms_gh _
 rw [bb_eq e, bI_eq e, bK_eq e]
 exact pbest_all hQ p d hd
theorem PQ.take (h : PQ w O pb n np q T G) (p d : Int) (hd : 0 ≤ d ∧ d < 18446744073709551616) :
  Calls Tryz.prog 122 #[.pointer (some ⟨pb, 0, none⟩), .int .i64 p, .int .u64 d] w fun e w' => e = .returned (.tuple #[.int .i64 (bI (gh G) (bb np (gh G) p d)), .agg #[.bool (bK (gh G) (bb np (gh G) p d)).e, .int .u64 (bK (gh G) (bb np (gh G) p d)).d, .int .u8 (bK (gh G) (bb np (gh G) p d)).l], .int .i64 (bA (bb np (gh G) p d)), .bool (bb np (gh G) p d).isSome]) ∧ PQ w' O pb n np q (T + 1) (ptkG np (gh G) p d) ∧ Fr O w w' := by
 obtain ⟨base, lo, mb, v, H, hQ, rfl, hO⟩ := h
 have e : Ms (gh (Ms H)) = Ms H := Ms_gh _
 rw [bb_eq e, bI_eq e, bK_eq e, ptkG_eq e]
 exact (ptake_all hQ p d hd).mono (fun e w' h => ⟨h.1, h.2.pq hO⟩)
end
theorem pnew_pq (np n q : Nat) (w : World) (h1 : 1 ≤ np ∧ np ≤ 64) (h2 : 1 ≤ n ∧ n ≤ 1024) (h3 : 1 ≤ q ∧ q ≤ 256) :
  Calls Tryz.prog 34 #[.int .i64 np, .int .i64 n, .int .i64 q] w fun e w' => ∃ O, e = .returned (.pointer (some ⟨w.heap.size + 1, 0, none⟩)) ∧ PQ w' O (w.heap.size + 1) n np q 0 (List.replicate (np + 1) []) ∧ (∀ k, O k → w.heap.size ≤ k) ∧ Below w.heap.size w w' := by
 refine (pnew_ok np n q w h1.1 h1.2 h2.1 h2.2 h3.1 h3.2).mono ?_
 rintro e w1 ⟨v, H, rfl, hl, hB⟩
 have hQ := hB.isQ hl h2 h1 h3
 refine ⟨OwnP (w.heap.size + 1) w.heap.size v H, rfl, ⟨_, _, _, v, H, hQ, ?_, fun _ => Iff.rfl⟩, ?_, hB.bel⟩
 ·apply List.ext_getElem?
  intro i
  rw [List.getElem?_replicate]
  unfold Ms
  rw [List.getElem?_map]
  split
  ·rename_i hi
   have hx : H[i]? = some (H[i]'(by omega)) := List.getElem?_eq_getElem _
   rw [hx]
   exact congrArg some (hB.fresh i _ hx).1
  ·rename_i hi
   rw [List.getElem?_eq_none (by omega)]
   rfl
 ·rintro k (e | e | e | ⟨i, x, hx, hk⟩)
  ·omega
  ·omega
  ·have := (Dc.own_ge hB.row k e).1; omega
  ·have := hB.sets.low i x hx k hk; omega
end Go.Proofs.YtjlbmmiomfpgiaaGreatDoor
namespace Go.Proofs.YtjlbmmiomfpgiaaGreatDoor
set_option maxRecDepth 100000
open Go.RowKit Go.Lib
set_option linter.unusedVariables false
attribute [local go_sem ↓] Go.wp_at_zero Go.wp_at_succ
end Go.Proofs.YtjlbmmiomfpgiaaGreatDoor
namespace Go.Proofs.YtjlbmmiomfpgiaaGreatDoor
set_option maxRecDepth 100000
open Go.RowKit Go.Lib Go.Deep Go.ChangeShapes Go.WideShapes Go.ChangeAt
set_option linter.unusedVariables false
section
variable {H : Type} {enc : TypeId × Value → H} {w : World} {base : Nat} {spare : Nat → Bool} {held : Bool}
end
end Go.Proofs.YtjlbmmiomfpgiaaGreatDoor
