/-
  What is best of the places, in an order.
-/
import Derived.Test.YtlfejgjhamcahaaZ10
namespace Go.Proofs.Ytlfejgjhamcahaa
open Go.RowKit Go.Shelf

/-- What a place holds. -/
def MM (H : List Hd) (x : Nat) : List En := match H[x]? with
  | some h => h.M
  | none => []
def bstep (H : List Hd) (b : Option Nat) (x : Nat) : Option Nat := match MM H x with
  | [] => b
  | y :: _ => match b with
    | none => some x
    | some c => if Ke.up y.2 (tkK (MM H c)) then some x else some c
def bst (H : List Hd) (l : List Nat) : Option Nat := l.foldl (bstep H) none
def bI (H : List Hd) : Option Nat → Int
  | none => 0
  | some c => tkI (MM H c)
def bK (H : List Hd) : Option Nat → Ke.K
  | none => ⟨false, 0, 0⟩
  | some c => tkK (MM H c)
def bA : Option Nat → Int
  | none => 0
  | some c => (c : Int)
def sumOn (H : List Hd) (l : List Nat) : Nat := (l.map (fun x => (MM H x).length)).sum
def ahd (H : List Hd) (l : List Nat) : Int := (sumH H : Int) - (sumOn H l : Int)
theorem MM_at {H : List Hd} {x : Nat} {h : Hd} (e : H[x]? = some h) : MM H x = h.M := by unfold MM; rw [e]
theorem bst_snoc (H : List Hd) (l : List Nat) (x : Nat) : bst H (l ++ [x]) = bstep H (bst H l) x := by unfold bst; rw [List.foldl_append]; rfl
theorem ahd_snoc (H : List Hd) (l : List Nat) (x : Nat) : ahd H (l ++ [x]) = ahd H l - ((MM H x).length : Int) := by
  unfold ahd sumOn
  rw [List.map_append, List.sum_append]
  simp
  omega
theorem bst_rest (H : List Hd) : ∀ (l r : List Nat), (∀ x ∈ r, MM H x = []) → bst H (l ++ r) = bst H l
  | l, [], _ => by rw [List.append_nil]
  | l, x :: r, h => by
    have e : l ++ x :: r = (l ++ [x]) ++ r := by simp
    rw [e, bst_rest H (l ++ [x]) r (fun y hy => h y (by simp [hy])), bst_snoc]
    unfold bstep
    rw [h x (by simp)]
theorem sumOn_le : ∀ (l : List Nat) (H : List Hd), l.Nodup → sumOn H l ≤ sumH H
  | [], _, _ => by simp [sumOn]
  | x :: l, H, hn => by
    rw [List.nodup_cons] at hn
    cases hx : H[x]? with
    | none =>
      have := sumOn_le l H hn.2
      have e : MM H x = [] := by unfold MM; rw [hx]
      simp only [sumOn, List.map_cons, List.sum_cons, e, List.length_nil] at this ⊢
      omega
    | some h =>
      have ih := sumOn_le l (H.set x (h.to 0 [])) hn.2
      have hs := sumH_set (y := h.to 0 []) hx
      have e : sumOn (H.set x (h.to 0 [])) l = sumOn H l := by
        unfold sumOn
        congr 1
        refine List.map_congr_left (fun y hy => ?_)
        have hne : x ≠ y := fun q => hn.1 (by rw [q]; exact hy)
        unfold MM
        rw [List.getElem?_set_ne hne]
      have e1 : (h.to 0 []).M.length = 0 := rfl
      have e2 := MM_at hx
      simp only [sumOn, List.map_cons, List.sum_cons, e2] at *
      omega
theorem ords_nodup (np p d : Nat) (hp : p < np) : (ords np p d).Nodup := by
  have hlt : ∀ i, plOf np p d i < np := fun i => Nat.mod_lt _ (by omega)
  have hm : ((List.range np).map (plOf np p d)).Nodup := by
    rw [List.Nodup, List.pairwise_map]
    refine List.Pairwise.imp_of_mem ?_ (List.nodup_range (n := np))
    intro a b ha hb hne
    rw [List.mem_range] at ha hb
    unfold plOf
    intro e
    apply hne
    have h1 := Nat.div_add_mod (p + 1 + d % np + a) np
    have h2 := Nat.div_add_mod (p + 1 + d % np + b) np
    rw [e] at h1
    rcases Nat.lt_trichotomy ((p + 1 + d % np + a) / np) ((p + 1 + d % np + b) / np) with q | q | q
    · have := Nat.mul_le_mul_left np (show (p + 1 + d % np + a) / np + 1 ≤ (p + 1 + d % np + b) / np from q)
      rw [Nat.mul_add] at this
      omega
    · rw [q] at h1; omega
    · have := Nat.mul_le_mul_left np (show (p + 1 + d % np + b) / np + 1 ≤ (p + 1 + d % np + a) / np from q)
      rw [Nat.mul_add] at this
      omega
  unfold ords ordsU
  rw [List.nodup_cons, List.nodup_cons]
  refine ⟨?_, ?_, hm.sublist List.filter_sublist⟩
  · simp only [List.mem_cons, List.mem_filter]
    rintro (q | q)
    · omega
    · simp at q
  · intro q
    obtain ⟨q1, _⟩ := List.mem_filter.1 q
    obtain ⟨i, _, e⟩ := List.mem_map.1 q1
    have := hlt i
    omega
/-- Where all that stand anywhere were passed, nothing better comes. -/
theorem bst_ahead (H : List Hd) (np p d : Nat) (hp : p < np) (l : List Nat) (hl : l <+: ords np p d) (h0 : ahd H l = 0) : bst H (ords np p d) = bst H l := by
  obtain ⟨r, hr⟩ := hl
  have h1 := sumOn_le (ords np p d) H (ords_nodup np p d hp)
  rw [← hr] at h1 ⊢
  unfold ahd at h0
  have h2 : sumOn H (l ++ r) = sumOn H l + sumOn H r := by unfold sumOn; rw [List.map_append, List.sum_append]
  have h3 : sumOn H r = 0 := by omega
  refine bst_rest H l r (fun x hx => ?_)
  unfold sumOn at h3
  rw [List.sum_eq_zero_iff_forall_eq_nat] at h3
  have := h3 _ (List.mem_map.2 ⟨x, hx, rfl⟩)
  exact List.length_eq_zero_iff.1 this
end Go.Proofs.Ytlfejgjhamcahaa
