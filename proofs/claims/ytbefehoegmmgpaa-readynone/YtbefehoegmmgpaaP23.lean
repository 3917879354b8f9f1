/-
  A heap as what it holds: of each id its deadline and number, or nothing; Insert, Delete, Change and Take of what is right.
-/
import Derived.Test.YtbefehoegmmgpaaP22
namespace Go.Proofs.Ytbefehoegmmgpaa.Ph
open Go.RowKit

/-- What is not there bears zeros. -/
def Wiped (n : Nat) (D S : Nat → Nat) (T : Nat → Bool) : Prop := ∀ id, id < n → T (id + 1) = false → D (id + 1) = 0 ∧ S (id + 1) = 0
theorem Wiped.cut {n x : Nat} {D S : Nat → Nat} {T : Nat → Bool} (h : Wiped n D S T) : Wiped n (upd D x 0) (upd S x 0) (upd T x false) := by
  intro i hi ht
  by_cases e : i + 1 = x
  · rw [e, upd_same, upd_same]; exact ⟨rfl, rfl⟩
  · rw [upd_other _ _ _ _ e] at ht
    rw [upd_other _ _ _ _ e, upd_other _ _ _ _ e]; exact h i hi ht
theorem Wiped.put {n x d s : Nat} {D S : Nat → Nat} {T : Nat → Bool} (h : Wiped n D S T) : Wiped n (upd D x d) (upd S x s) (upd T x true) := by
  intro i hi ht
  by_cases e : i + 1 = x
  · rw [e, upd_same] at ht; cases ht
  · rw [upd_other _ _ _ _ e] at ht
    rw [upd_other _ _ _ _ e, upd_other _ _ _ _ e]; exact h i hi ht
/-- The heap at b, g holds m, the tree t being how. -/
def Holds (w : World) (b g n : Nat) (m : Nat → Option (Nat × Nat)) (t : BT) : Prop :=
  ∃ D S I T, HeapAt w b g n D S I T t ∧ n ≤ 1024 ∧ (∀ id, id < n → m id = if T (id + 1) then some (D (id + 1), S (id + 1)) else none) ∧ Wiped n D S T

theorem spots_len : ∀ {n : Nat} {L : List Nat}, Spots n L → L.length ≤ n
  | 0, L, h => by
    cases L with
    | nil => simp
    | cons y _ => have := h.le y (by simp); omega
  | n + 1, L, h => by
    have k : Spots n (L.erase (n + 1)) := ⟨h.nd.erase _, fun y hy => by
      have := (h.nd.mem_erase_iff).1 hy
      have := h.le y this.2
      omega⟩
    have := spots_len k
    have := List.length_erase (a := n + 1) (l := L)
    split at this <;> omega

section
variable {w : World} {b g n : Nat} {D S I : Nat → Nat} {T : Nat → Bool} {t : BT} {m : Nat → Option (Nat × Nat)}
theorem remove_any (h : HeapAt w b g n D S I T t) (hn : n ≤ 1024) (x : Nat) (hx : x ∈ t.spots) :
    Calls Try.prog 71 #[.pointer (some ⟨b, 0, none⟩), .int .i64 (x : Int)] w fun e w' => e = .returned (.tuple #[]) ∧ ∃ t' : BT, (x :: t'.spots).Perm t.spots ∧ HeapAt w' b g n (upd D x 0) (upd S x 0) (upd I x 0) (upd T x false) t' ∧ Only b g w w' := by
  have hl := spots_len h.sp
  cases t with
  | nil => simp [BT.spots] at hx
  | node rt c y =>
    cases y with
    | node _ _ _ => have := h.wd; simp [BT.wide] at this
    | nil =>
      have hlen : c.spots.length ≤ 1024 := by simp only [BT.spots, List.append_nil, List.length_cons] at hl; omega
      by_cases e : x = rt
      · subst e
        refine (remove_first h hlen).mono ?_
        rintro e w' ⟨t', a, p, q, o⟩
        exact ⟨a, t', p, q, o⟩
      · refine (remove_other h (by simpa [BT.spots, e] using hx) hlen).mono ?_
        rintro e w' ⟨t', a, p, q, o⟩
        exact ⟨a, t', p, q, o⟩
theorem wiped_m {id : Nat} (hm : ∀ i, i < n → m i = if T (i + 1) then some (D (i + 1), S (i + 1)) else none) : ∀ i, i < n → upd m id none i = if upd T (id + 1) false (i + 1) then some (upd D (id + 1) 0 (i + 1), upd S (id + 1) 0 (i + 1)) else none := by
  intro i hi
  by_cases e : i = id
  · subst e; rw [upd_same, upd_same]; rfl
  · have e' : i + 1 ≠ id + 1 := by omega
    rw [upd_other _ _ _ _ e, upd_other _ _ _ _ e', upd_other _ _ _ _ e', upd_other _ _ _ _ e']; exact hm i hi
theorem put_m {id d s : Nat} (hm : ∀ i, i < n → m i = if T (i + 1) then some (D (i + 1), S (i + 1)) else none) : ∀ i, i < n → upd m id (some (d, s)) i = if upd T (id + 1) true (i + 1) then some (upd D (id + 1) d (i + 1), upd S (id + 1) s (i + 1)) else none := by
  intro i hi
  by_cases e : i = id
  · subst e; rw [upd_same, upd_same, upd_same, upd_same]; rfl
  · have e' : i + 1 ≠ id + 1 := by omega
    rw [upd_other _ _ _ _ e, upd_other _ _ _ _ e', upd_other _ _ _ _ e', upd_other _ _ _ _ e']; exact hm i hi
theorem holds_there {id : Nat} (hm : ∀ i, i < n → m i = if T (i + 1) then some (D (i + 1), S (i + 1)) else none) (hid : id < n) : (m id).isSome = T (id + 1) := by
  rw [hm id hid]; cases T (id + 1) <;> rfl

theorem insert_ok (h : Holds w b g n m t) (id d s : Nat) (hid : id < n) (hm : (m id).isSome = false) :
    Calls Try.prog 73 #[.pointer (some ⟨b, 0, none⟩), .int .i64 (id : Int), .int .u64 (d : Int), .int .u64 (s : Int)] w fun e w' => e = .returned (.int .i64 0) ∧ ∃ t', t'.spots.Perm ((id + 1) :: t.spots) ∧ Holds w' b g n (upd m id (some (d, s))) t' ∧ Only b g w w' := by
  obtain ⟨D, S, I, T, h1, h2, h3, h4⟩ := h
  have hT : T (id + 1) = false := (holds_there h3 hid).symm.trans hm
  obtain ⟨C, A, B, hR, _⟩ := h1.lk
  have hl := spots_len h1.sp
  refine insert_walk hR id d s h2 hid hT _ ((put_any h1 id d s hid h2 (by omega) hT).mono ?_)
  rintro e w' ⟨he, t', p, q, o⟩
  exact ⟨he, t', p, ⟨_, _, _, _, q, h2, put_m h3, h4.put⟩, o⟩
theorem delete_ok (h : Holds w b g n m t) (id : Nat) (hid : id < n) (hm : (m id).isSome = true) :
    Calls Try.prog 51 #[.pointer (some ⟨b, 0, none⟩), .int .i64 (id : Int)] w fun e w' => e = .returned (.int .i64 0) ∧ ∃ t', ((id + 1) :: t'.spots).Perm t.spots ∧ Holds w' b g n (upd m id none) t' ∧ Only b g w w' := by
  obtain ⟨D, S, I, T, h1, h2, h3, h4⟩ := h
  have hT : T (id + 1) = true := (holds_there h3 hid).symm.trans hm
  obtain ⟨C, A, B, hR, _⟩ := h1.lk
  refine delete_walk hR id h2 hid hT _ ((remove_any h1 h2 (id + 1) ((h1.th (id + 1) (by omega)).1 hT)).mono ?_)
  rintro e w' ⟨he, t', p, q, o⟩
  exact ⟨he, t', p, ⟨_, _, _, _, q, h2, wiped_m h3, h4.cut⟩, o⟩
end
end Go.Proofs.Ytbefehoegmmgpaa.Ph
