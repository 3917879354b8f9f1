/-
  All processors' sets: no id stands at two places; what a change of one place makes of the map.
-/
import Derived.Test.YtlfejgjhamcahaaZ5
import Derived.Test.YtlfejgjhamcahaaY14
namespace Go.Proofs.Ytlfejgjhamcahaa
open Go.RowKit Go.Lib

/-- No id stands at two places. -/
def Un (H : List Hd) : Prop := ∀ (i j : Nat) (x y : Hd) (id : Nat), H[i]? = some x → H[j]? = some y → (keyOf x.M id).isSome → (keyOf y.M id).isSome → i = j
def hasAt (n : Nat) (h : Hd) (id : Int) : Bool := ((if 0 ≤ id ∧ id < (n : Int) then keyOf h.M id.toNat else none : Option Ke.K)).isSome
theorem whereF_cons (n : Nat) (h : Hd) (H : List Hd) (k id : Int) : whereF n (h :: H) k id = if hasAt n h id = true then some k else whereF n H (k + 1) id := rfl
theorem hasAt_iff {n : Nat} {h : Hd} {id : Int} : hasAt n h id = true ↔ 0 ≤ id ∧ id < (n : Int) ∧ (keyOf h.M id.toNat).isSome = true := by
  unfold hasAt
  by_cases q : 0 ≤ id ∧ id < (n : Int)
  · rw [if_pos q]
    exact ⟨fun r => ⟨q.1, q.2, r⟩, fun r => r.2.2⟩
  · rw [if_neg q]
    exact ⟨fun r => (by cases r), fun r => absurd ⟨r.1, r.2.1⟩ q⟩
theorem whereF_none (n : Nat) (id : Int) : ∀ (H : List Hd) (k : Int), (∀ (i : Nat) (x : Hd), H[i]? = some x → 0 ≤ id → keyOf x.M id.toNat = none) → whereF n H k id = none
  | [], _, _ => rfl
  | h :: H, k, hn => by
    rw [whereF_cons, if_neg (fun q => by
      have q := hasAt_iff.1 q
      rw [hn 0 h rfl q.1] at q
      exact absurd q.2.2 (by decide))]
    exact whereF_none n id H (k + 1) (fun i x hx => hn (i + 1) x (by simpa using hx))
theorem whereF_inv (n : Nat) (id : Int) : ∀ (H : List Hd) (k c : Int), whereF n H k id = some c → ∃ (i : Nat) (x : Hd), H[i]? = some x ∧ c = k + (i : Int) ∧ 0 ≤ id ∧ id < (n : Int) ∧ (keyOf x.M id.toNat).isSome
  | [], _, _, h => by cases h
  | h :: H, k, c, hc => by
    rw [whereF_cons] at hc
    by_cases q : hasAt n h id = true
    · rw [if_pos q] at hc
      injection hc with hc
      exact ⟨0, h, rfl, by simp [hc], hasAt_iff.1 q⟩
    · rw [if_neg q] at hc
      obtain ⟨i, x, h1, h2, h3⟩ := whereF_inv n id H (k + 1) c hc
      exact ⟨i + 1, x, by simpa using h1, by rw [h2]; push_cast; omega, h3⟩
theorem whereF_miss {n : Nat} {id : Int} {x : Hd} : ∀ {H : List Hd} {k : Int} {i : Nat}, H[i]? = some x → whereF n H k id = none → hasAt n x id = false
  | [], _, _, h, _ => by simp at h
  | h :: H, k, i, hi, hn => by
    rw [whereF_cons] at hn
    by_cases q : hasAt n h id = true
    · rw [if_pos q] at hn
      cases hn
    · rw [if_neg q] at hn
      cases i with
      | zero =>
        simp at hi
        subst hi
        simpa using q
      | succ i => exact whereF_miss (i := i) (by simpa using hi) hn
theorem whereF_some (n : Nat) (H : List Hd) (hu : Un H) (i : Nat) (x : Hd) (hx : H[i]? = some x) (id : Nat) (hi : id < n) (hk : (keyOf x.M id).isSome) : whereF n H 0 (id : Int) = some (i : Int) := by
  cases hf : whereF n H 0 (id : Int) with
  | some c =>
    obtain ⟨j, y, h1, h2, _, _, h5⟩ := whereF_inv n _ H 0 c hf
    have := hu i j x y id hx h1 hk h5
    rw [h2, this]; simp
  | none =>
    have h1 := whereF_miss hx hf
    have h2 : hasAt n x (id : Int) = true := hasAt_iff.2 ⟨by omega, by omega, hk⟩
    rw [h1] at h2
    cases h2
theorem whereF_out (n : Nat) (H : List Hd) (k : Int) (id : Int) (hi : id < 0 ∨ (n : Int) ≤ id) : whereF n H k id = none := by
  cases hf : whereF n H k id with
  | none => rfl
  | some c =>
    obtain ⟨_, _, _, _, h3, h4, _⟩ := whereF_inv n _ H k c hf
    omega
theorem whereF_no {n : Nat} {H : List Hd} {id : Nat} (hw : whereF n H 0 (id : Int) = none) (hi : id < n) {i : Nat} {x : Hd} (hx : H[i]? = some x) : keyOf x.M id = none := by
  have h1 := whereF_miss hx hw
  cases hk : keyOf x.M id with
  | none => rfl
  | some k =>
    have h2 : hasAt n x (id : Int) = true := hasAt_iff.2 ⟨by omega, by omega, by simp [hk]⟩
    rw [h1] at h2
    cases h2
theorem whereF_congr (n : Nat) (id : Int) : ∀ (H H' : List Hd) (k : Int), H.length = H'.length → (∀ (i : Nat) (x x' : Hd), H[i]? = some x → H'[i]? = some x' → 0 ≤ id → (keyOf x.M id.toNat).isSome = (keyOf x'.M id.toNat).isSome) → whereF n H k id = whereF n H' k id
  | [], [], _, _, _ => rfl
  | [], _ :: _, _, h, _ => by simp at h
  | _ :: _, [], _, h, _ => by simp at h
  | h :: H, h' :: H', k, hl, hc => by
    have e : hasAt n h id = hasAt n h' id := by
      rw [Bool.eq_iff_iff, hasAt_iff, hasAt_iff]
      constructor
      · rintro ⟨q1, q2, q3⟩; exact ⟨q1, q2, by rw [← hc 0 h h' rfl rfl q1]; exact q3⟩
      · rintro ⟨q1, q2, q3⟩; exact ⟨q1, q2, by rw [hc 0 h h' rfl rfl q1]; exact q3⟩
    rw [whereF_cons, whereF_cons, e, whereF_congr n id H H' (k + 1) (by simpa using hl) (fun i x x' hx hx' => hc (i + 1) x x' (by simpa using hx) (by simpa using hx'))]
theorem set_key {H : List Hd} {i : Nat} {y : Hd} (hi : i < H.length) {j : Nat} {z : Hd} (hz : (H.set i y)[j]? = some z) : (j = i ∧ z = y) ∨ (j ≠ i ∧ H[j]? = some z) := by
  rcases Nat.decEq j i with q | q
  · rw [List.getElem?_set_ne (fun e => q e.symm)] at hz
    exact .inr ⟨q, hz⟩
  · subst q
    rw [List.getElem?_set_self hi] at hz
    exact .inl ⟨rfl, (Option.some.inj hz).symm⟩
theorem sumH_set : ∀ {H : List Hd} {i : Nat} {x y : Hd}, H[i]? = some x → sumH (H.set i y) + x.M.length = sumH H + y.M.length
  | [], _, _, _, h => by simp at h
  | h :: H, 0, x, y, hx => by
    simp at hx
    subst hx
    simp [sumH]
    omega
  | h :: H, i + 1, x, y, hx => by
    have := sumH_set (H := H) (i := i) (x := x) (y := y) (by simpa using hx)
    simp only [sumH, List.set_cons_succ, List.map_cons, List.sum_cons] at this ⊢
    omega
theorem sumH_le {b : Nat} : ∀ {H : List Hd}, (∀ (i : Nat) (x : Hd), H[i]? = some x → x.M.length ≤ b) → sumH H ≤ H.length * b
  | [], _ => by simp [sumH]
  | h :: H, hb => by
    have h1 := hb 0 h rfl
    have := sumH_le (H := H) (fun i x hx => hb (i + 1) x (by simpa using hx))
    simp only [sumH, List.map_cons, List.sum_cons, List.length_cons, Nat.add_mul, Nat.one_mul] at this ⊢
    omega
/-- Whether an id is there, behind a put, a cut. -/
theorem has_iff {M : List En} {id : Nat} : (keyOf M id).isSome = true ↔ ∃ y ∈ M, y.1 = id := by
  cases h : keyOf M id with
  | none =>
    have := keyOf_none.1 h
    simp only [Option.isSome_none]
    constructor
    · intro q; cases q
    · rintro ⟨y, hy, e⟩; exact absurd e (this y hy)
  | some k =>
    simp only [Option.isSome_some, true_iff]
    unfold keyOf at h
    cases hf : M.find? (fun y => y.1 == id) with
    | none => rw [hf] at h; cases h
    | some y => exact ⟨y, List.mem_of_find?_eq_some hf, by simpa using List.find?_some hf⟩
theorem has_put {M : List En} {id j : Nat} {k : Ke.K} : (keyOf (put (id, k) M) j).isSome = true ↔ j = id ∨ (keyOf M j).isSome = true := by
  rw [has_iff, has_iff]
  constructor
  · rintro ⟨y, hy, rfl⟩
    rcases mem_put.1 hy with rfl | hy
    · exact .inl rfl
    · exact .inr ⟨y, hy, rfl⟩
  · rintro (rfl | ⟨y, hy, rfl⟩)
    · exact ⟨_, mem_put.2 (.inl rfl), rfl⟩
    · exact ⟨y, mem_put.2 (.inr hy), rfl⟩
theorem has_cut {M : List En} {id j : Nat} : (keyOf (cut id M) j).isSome = true ↔ j ≠ id ∧ (keyOf M j).isSome = true := by
  rw [has_iff, has_iff]
  constructor
  · rintro ⟨y, hy, rfl⟩
    exact ⟨(mem_cut.1 hy).2, y, (mem_cut.1 hy).1, rfl⟩
  · rintro ⟨h, y, hy, rfl⟩
    exact ⟨y, mem_cut.2 ⟨hy, h⟩, rfl⟩
/-- An id that stood nowhere is put to a place. -/
theorem where_put {n : Nat} {H : List Hd} (hu : Un H) {i : Nat} {x y : Hd} (hx : H[i]? = some x) {id : Nat} (hi : id < n) {k : Ke.K} (hy : y.M = put (id, k) x.M) (hw : whereF n H 0 (id : Int) = none) :
    Un (H.set i y) ∧ whereF n (H.set i y) 0 = setF (whereF n H 0) (id : Int) (some (i : Int)) := by
  have hil : i < H.length := (List.getElem?_eq_some_iff.1 hx).1
  have U : Un (H.set i y) := by
    intro a b s t j hs ht h1 h2
    rcases set_key hil hs with ⟨rfl, rfl⟩ | ⟨q, q'⟩
    · rcases set_key hil ht with ⟨rfl, rfl⟩ | ⟨r, r'⟩
      · rfl
      · rw [hy, has_put] at h1
        rcases h1 with rfl | h1
        · rw [whereF_no hw hi r'] at h2; cases h2
        · exact hu _ _ x t j hx r' h1 h2
    · rcases set_key hil ht with ⟨rfl, rfl⟩ | ⟨r, r'⟩
      · rw [hy, has_put] at h2
        rcases h2 with rfl | h2
        · rw [whereF_no hw hi q'] at h1; cases h1
        · exact hu _ _ s x j q' hx h1 h2
      · exact hu a b s t j q' r' h1 h2
  refine ⟨U, funext fun j => ?_⟩
  unfold setF
  by_cases e : j = (id : Int)
  · subst e
    rw [if_pos rfl]
    refine whereF_some n _ U i y (List.getElem?_set_self hil) id hi ?_
    rw [hy, has_put]
    exact .inl rfl
  · rw [if_neg e]
    refine whereF_congr n j _ _ 0 (by simp) (fun a s t hs ht hj => ?_)
    rcases set_key hil hs with ⟨rfl, rfl⟩ | ⟨q, q'⟩
    · rw [hx] at ht
      injection ht with ht
      subst ht
      rw [Bool.eq_iff_iff, hy, has_put]
      constructor
      · rintro (q | q)
        · omega
        · exact q
      · exact .inr
    · rw [q'] at ht
      injection ht with ht
      rw [ht]
/-- An id is taken out of its place. -/
theorem where_cut {n : Nat} {H : List Hd} (hu : Un H) {i : Nat} {x y : Hd} (hx : H[i]? = some x) {id : Nat} (hy : y.M = cut id x.M) (hw : (keyOf x.M id).isSome = true) :
    Un (H.set i y) ∧ whereF n (H.set i y) 0 = setF (whereF n H 0) (id : Int) none := by
  have hil : i < H.length := (List.getElem?_eq_some_iff.1 hx).1
  have sub : ∀ (a : Nat) (s : Hd) (j : Nat), (H.set i y)[a]? = some s → (keyOf s.M j).isSome = true → ∃ t, H[a]? = some t ∧ (keyOf t.M j).isSome = true := by
    intro a s j hs h1
    rcases set_key hil hs with ⟨rfl, rfl⟩ | ⟨q, q'⟩
    · rw [hy, has_cut] at h1
      exact ⟨x, hx, h1.2⟩
    · exact ⟨s, q', h1⟩
  have U : Un (H.set i y) := by
    intro a b s t j hs ht h1 h2
    obtain ⟨s', p1, p2⟩ := sub a s j hs h1
    obtain ⟨t', p3, p4⟩ := sub b t j ht h2
    exact hu a b s' t' j p1 p3 p2 p4
  refine ⟨U, funext fun j => ?_⟩
  unfold setF
  by_cases e : j = (id : Int)
  · subst e
    rw [if_pos rfl]
    refine whereF_none n _ _ 0 (fun a s hs _ => ?_)
    simp only [Int.toNat_natCast]
    cases hk : keyOf s.M id with
    | none => rfl
    | some k =>
      exfalso
      rcases set_key hil hs with ⟨rfl, rfl⟩ | ⟨q, q'⟩
      · have := (has_cut (M := x.M) (id := id) (j := id)).1 (by rw [← hy, hk]; rfl)
        exact this.1 rfl
      · exact q (hu a i s x id q' hx (by rw [hk]; rfl) hw)
  · rw [if_neg e]
    refine whereF_congr n j _ _ 0 (by simp) (fun a s t hs ht hj => ?_)
    rcases set_key hil hs with ⟨rfl, rfl⟩ | ⟨q, q'⟩
    · rw [hx] at ht
      injection ht with ht
      subst ht
      rw [Bool.eq_iff_iff, hy, has_cut]
      constructor
      · exact fun q => q.2
      · exact fun q => ⟨by omega, q⟩
    · rw [q'] at ht
      injection ht with ht
      rw [ht]
/-- A place's set holds the same ids as before. -/
theorem where_same {n : Nat} {H : List Hd} (hu : Un H) {i : Nat} {x y : Hd} (hx : H[i]? = some x) (hy : ∀ id, (keyOf y.M id).isSome = (keyOf x.M id).isSome) :
    Un (H.set i y) ∧ whereF n (H.set i y) 0 = whereF n H 0 := by
  have hil : i < H.length := (List.getElem?_eq_some_iff.1 hx).1
  have sub : ∀ (a : Nat) (s : Hd) (j : Nat), (H.set i y)[a]? = some s → ∃ t, H[a]? = some t ∧ (keyOf t.M j).isSome = (keyOf s.M j).isSome := by
    intro a s j hs
    rcases set_key hil hs with ⟨rfl, rfl⟩ | ⟨q, q'⟩
    · exact ⟨x, hx, (hy j).symm⟩
    · exact ⟨s, q', rfl⟩
  refine ⟨fun a b s t j hs ht h1 h2 => ?_, funext fun j => ?_⟩
  · obtain ⟨s', p1, p2⟩ := sub a s j hs
    obtain ⟨t', p3, p4⟩ := sub b t j ht
    exact hu a b s' t' j p1 p3 (p2.trans h1) (p4.trans h2)
  · refine whereF_congr n j _ _ 0 (by simp) (fun a s t hs ht hj => ?_)
    obtain ⟨s', p1, p2⟩ := sub a s j.toNat hs
    rw [ht] at p1
    injection p1 with p1
    rw [p1, p2]
end Go.Proofs.Ytlfejgjhamcahaa
