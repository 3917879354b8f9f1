/-
  What each call answers and leaves, as functions of the list, of the program's heap and of the document's.
-/
import Derived.Test.YtiledmfnhahmiaaH10
namespace Go.Proofs.Ytiledmfnhahmiaa
open Go.RowKit Go.Lib

def hasId (L : List Item) (id : Int) : Prop := ∃ it ∈ L, (it.1 : Int) = id
instance (L : List Item) (id : Int) : Decidable (hasId L id) := by unfold hasId; exact inferInstance
def insC (n : Nat) (L : List Item) (id : Int) : Int := if id < 0 ∨ (n : Int) ≤ id then 2 else if hasId L id then 5 else 0
def delC (n : Nat) (L : List Item) (id : Int) : Int := if id < 0 ∨ (n : Int) ≤ id then 2 else if hasId L id then 0 else 6
def insL (n : Nat) (L : List Item) (id : Int) (d s : Nat) : List Item := if insC n L id = 0 then ins (id.toNat, d, s) L else L
def delL (n : Nat) (L : List Item) (id : Int) : List Item := if delC n L id = 0 then out id.toNat L else L
def chgL (n : Nat) (L : List Item) (id : Int) (d s : Nat) : List Item := if delC n L id = 0 then ins (id.toNat, d, s) (out id.toNat L) else L
def tkI : List Item → Int
  | [] => 0
  | x :: _ => (x.1 : Int)
def tkO : List Item → Bool
  | [] => false
  | _ :: _ => true
theorem ids_cases (n : Nat) (L : List Item) (hg : Good n L) (id : Int) : (id < 0 ∨ (n : Int) ≤ id) ∨ (∃ k d s : Nat, id = k ∧ k < n ∧ (k, d, s) ∈ L) ∨ (∃ k : Nat, id = k ∧ k < n ∧ ∀ it ∈ L, it.1 ≠ k) := by
  by_cases hi : id < 0 ∨ (n : Int) ≤ id
  · exact .inl hi
  · obtain ⟨k, rfl⟩ := Int.eq_ofNat_of_zero_le (show 0 ≤ id by omega)
    by_cases hm : ∃ it ∈ L, it.1 = k
    · obtain ⟨⟨i, d, s⟩, hm, rfl⟩ := hm
      exact .inr (.inl ⟨i, d, s, rfl, hg.rng _ hm, hm⟩)
    · exact .inr (.inr ⟨k, rfl, by omega, fun it hit e => hm ⟨it, hit, e⟩⟩)
section
variable {n : Nat} {L : List Item}
theorem has_yes {k d s : Nat} (h : (k, d, s) ∈ L) : hasId L k := ⟨_, h, rfl⟩
theorem has_no {k : Nat} (h : ∀ it ∈ L, it.1 ≠ k) : ¬ hasId L k := by rintro ⟨it, hit, e⟩; exact h it hit (by omega)
theorem insC_range {id : Int} (h : id < 0 ∨ (n : Int) ≤ id) : insC n L id = 2 := by rw [insC, if_pos h]
theorem delC_range {id : Int} (h : id < 0 ∨ (n : Int) ≤ id) : delC n L id = 2 := by rw [delC, if_pos h]
theorem insC_yes {k d s : Nat} (hk : k < n) (h : (k, d, s) ∈ L) : insC n L k = 5 := by rw [insC, if_neg (by omega), if_pos (has_yes h)]
theorem delC_yes {k d s : Nat} (hk : k < n) (h : (k, d, s) ∈ L) : delC n L k = 0 := by rw [delC, if_neg (by omega), if_pos (has_yes h)]
theorem insC_no {k : Nat} (hk : k < n) (h : ∀ it ∈ L, it.1 ≠ k) : insC n L k = 0 := by rw [insC, if_neg (by omega), if_neg (has_no h)]
theorem delC_no {k : Nat} (hk : k < n) (h : ∀ it ∈ L, it.1 ≠ k) : delC n L k = 6 := by rw [delC, if_neg (by omega), if_neg (has_no h)]
theorem insL_stay {id : Int} {d s : Nat} (h : insC n L id ≠ 0) : insL n L id d s = L := by rw [insL, if_neg h]
theorem delL_stay {id : Int} (h : delC n L id ≠ 0) : delL n L id = L := by rw [delL, if_neg h]
theorem chgL_stay {id : Int} {d s : Nat} (h : delC n L id ≠ 0) : chgL n L id d s = L := by rw [chgL, if_neg h]
theorem insL_ok {k d s : Nat} (h : insC n L k = 0) : insL n L k d s = ins (k, d, s) L := by rw [insL, if_pos h]; rfl
theorem delL_ok {k : Nat} (h : delC n L k = 0) : delL n L k = out k L := by rw [delL, if_pos h]; rfl
theorem chgL_ok {k d s : Nat} (h : delC n L k = 0) : chgL n L k d s = ins (k, d, s) (out k L) := by rw [chgL, if_pos h]; rfl
end

section
variable {w : World} {b g n : Nat} {L : List Item}
theorem hinsert_all (h : IsH w b g n L) (id : Int) (d s : Nat) :
    Calls Try.prog 23 #[.pointer (some ⟨b, 0, none⟩), .int .i64 id, .int .u64 (d : Int), .int .u64 (s : Int)] w fun e w' => e = .returned (.int .i64 (insC n L id)) ∧ IsH w' b g n (insL n L id d s) ∧ Fr (fun k => k = b ∨ k = g) w w' := by
  rcases ids_cases n L h.good id with hi | ⟨k, d0, s0, rfl, hk, hm⟩ | ⟨k, rfl, hk, hm⟩
  · have hc := insC_range (L := L) hi
    rw [insL_stay (by rw [hc]; decide), hc]
    refine (hinsert_range h id d s hi).mono ?_
    rintro e w' ⟨he, rfl⟩
    exact ⟨he, h, Fr.refl _ _⟩
  · have hc := insC_yes hk hm
    rw [insL_stay (by rw [hc]; decide), hc]
    refine (hinsert_known h k d s ⟨_, hm, rfl⟩).mono ?_
    rintro e w' ⟨he, rfl⟩
    exact ⟨he, h, Fr.refl _ _⟩
  · have hc := insC_no hk hm
    rw [insL_ok hc, hc]
    refine (hinsert_ok h k d s hk hm).mono ?_
    rintro e w' ⟨he, hh, ho⟩
    exact ⟨he, hh, Fr.of_only ho⟩
theorem hdelete_all (h : IsH w b g n L) (id : Int) :
    Calls Try.prog 22 #[.pointer (some ⟨b, 0, none⟩), .int .i64 id] w fun e w' => e = .returned (.int .i64 (delC n L id)) ∧ IsH w' b g n (delL n L id) ∧ Fr (fun k => k = b ∨ k = g) w w' := by
  rcases ids_cases n L h.good id with hi | ⟨k, d0, s0, rfl, hk, hm⟩ | ⟨k, rfl, hk, hm⟩
  · have hc := delC_range (L := L) hi
    rw [delL_stay (by rw [hc]; decide), hc]
    refine (hdelete_range h id hi).mono ?_
    rintro e w' ⟨he, rfl⟩
    exact ⟨he, h, Fr.refl _ _⟩
  · have hc := delC_yes hk hm
    rw [delL_ok hc, hc]
    refine (hdelete_ok h k d0 s0 hm).mono ?_
    rintro e w' ⟨he, hh, ho⟩
    exact ⟨he, hh, Fr.of_only ho⟩
  · have hc := delC_no hk hm
    rw [delL_stay (by rw [hc]; decide), hc]
    refine (hdelete_none h k hk hm).mono ?_
    rintro e w' ⟨he, rfl⟩
    exact ⟨he, h, Fr.refl _ _⟩
theorem hchange_all (h : IsH w b g n L) (id : Int) (d s : Nat) :
    Calls Try.prog 20 #[.pointer (some ⟨b, 0, none⟩), .int .i64 id, .int .u64 (d : Int), .int .u64 (s : Int)] w fun e w' => e = .returned (.int .i64 (delC n L id)) ∧ IsH w' b g n (chgL n L id d s) ∧ Fr (fun k => k = b ∨ k = g) w w' := by
  rcases ids_cases n L h.good id with hi | ⟨k, d0, s0, rfl, hk, hm⟩ | ⟨k, rfl, hk, hm⟩
  · have hc := delC_range (L := L) hi
    rw [chgL_stay (by rw [hc]; decide), hc]
    refine (change_refused w b id d s 2 (by decide) (hdelete_range h id hi)).mono ?_
    rintro e w' ⟨he, rfl⟩
    exact ⟨he, h, Fr.refl _ _⟩
  · have hc := delC_yes hk hm
    rw [chgL_ok hc, hc]
    refine (hchange_ok h k d s d0 s0 hm).mono ?_
    rintro e w' ⟨he, hh, ho⟩
    exact ⟨he, hh, Fr.of_only ho⟩
  · have hc := delC_no hk hm
    rw [chgL_stay (by rw [hc]; decide), hc]
    refine (change_refused w b k d s 6 (by decide) (hdelete_none h k hk hm)).mono ?_
    rintro e w' ⟨he, rfl⟩
    exact ⟨he, h, Fr.refl _ _⟩
theorem htake_all (h : IsH w b g n L) :
    Calls Try.prog 17 #[.pointer (some ⟨b, 0, none⟩)] w fun e w' => e = .returned (.tuple #[.int .i64 (tkI L), .bool (tkO L)]) ∧ IsH w' b g n L.tail ∧ Fr (fun k => k = b ∨ k = g) w w' := by
  cases L with
  | nil =>
    refine (htake_none h).mono ?_
    rintro e w' ⟨he, rfl⟩
    exact ⟨he, h, Fr.refl _ _⟩
  | cons x L =>
    refine (htake_ok h).mono ?_
    rintro e w' ⟨he, hh, ho⟩
    exact ⟨he, hh, Fr.of_only ho⟩
theorem hmin_all (h : IsH w b g n L) :
    Calls Try.prog 18 #[.pointer (some ⟨b, 0, none⟩)] w fun e w' => e = .returned (.tuple #[.int .i64 (tkI L), .bool (tkO L)]) ∧ Below w.heap.size w w' := by
  cases L with
  | nil =>
    refine (hmin_none h).mono ?_
    rintro e w' ⟨he, rfl⟩
    exact ⟨he, Below.refl _ _⟩
  | cons x L =>
    refine (hmin_ok h).mono ?_
    rintro e w' ⟨he, q, rfl⟩
    exact ⟨he, below_drewN (Below.refl _ _) _⟩
end
/-- What Get tells. -/
def getOf (L : List Item) (id : Int) : Nat × Nat × Bool :=
  match L.find? (fun it => decide ((it.1 : Int) = id)) with
  | some it => (it.2.1, it.2.2, true)
  | none => (0, 0, false)
theorem getOf_no {L : List Item} {id : Int} (h : ∀ it ∈ L, ¬ (it.1 : Int) = id) : getOf L id = (0, 0, false) := by
  unfold getOf
  rw [List.find?_eq_none.2 (fun it hit => by simpa using h it hit)]
theorem getOf_yes {n : Nat} {L : List Item} {k d s : Nat} (hg : Good n L) (h : (k, d, s) ∈ L) : getOf L k = (d, s, true) := by
  unfold getOf
  cases hf : L.find? (fun it => decide ((it.1 : Int) = (k : Int))) with
  | none => exact absurd (List.find?_eq_none.1 hf _ h) (by simp)
  | some it =>
    have h1 := List.find?_some hf
    have h2 := List.mem_of_find?_eq_some hf
    simp only [decide_eq_true_eq] at h1
    have := hg.uniq h2 h (by simp only; omega)
    subst this
    rfl
section
variable {w : World} {b g n : Nat} {L : List Item}
theorem hget_all (h : IsH w b g n L) (id : Int) :
    Calls Try.prog 16 #[.pointer (some ⟨b, 0, none⟩), .int .i64 id] w fun e w' => e = .returned (.tuple #[.int .u64 ((getOf L id).1 : Nat), .int .u64 ((getOf L id).2.1 : Nat), .bool (getOf L id).2.2]) ∧ Below w.heap.size w w' := by
  rcases ids_cases n L h.good id with hi | ⟨k, d0, s0, rfl, hk, hm⟩ | ⟨k, rfl, hk, hm⟩
  · rw [getOf_no (fun it hit e => by have := h.good.rng it hit; omega)]
    refine (hget_range h id hi).mono ?_
    rintro e w' ⟨he, rfl⟩
    exact ⟨he, Below.refl _ _⟩
  · rw [getOf_yes h.good hm]
    exact hget_some h k d0 s0 hm
  · rw [getOf_no (fun it hit e => hm it hit (by omega))]
    exact hget_none h k hk hm
end

section
variable {w : World} {base rb n : Nat} {v : Value} {L : List Item}
theorem rinsert_all (h : IsR w base rb n v L) (id : Int) (d s : Nat) :
    Calls Try.prog 36 #[.pointer (some ⟨rb, 0, none⟩), .int .i64 id, .int .u64 (d : Int), .int .u64 (s : Int)] w fun e w' => e = .returned (.int .i64 (insC n L id)) ∧ (∃ v', IsR w' base rb n v' (insL n L id d s)) ∧ Fr (fun k => k = rb) w w' := by
  rcases ids_cases n L h.good id with hi | ⟨k, d0, s0, rfl, hk, hm⟩ | ⟨k, rfl, hk, hm⟩
  · have hc := insC_range (L := L) hi
    rw [insL_stay (by rw [hc]; decide), hc]
    refine (rinsert_no w rb id d s 2 (by decide) (rmay_range h id false hi)).mono ?_
    rintro e w' ⟨he, rfl⟩
    exact ⟨he, ⟨v, h⟩, Fr.refl _ _⟩
  · have hc := insC_yes hk hm
    rw [insL_stay (by rw [hc]; decide), hc]
    obtain ⟨R1, R2, rfl⟩ := List.append_of_mem hm
    refine (rinsert_no w rb k d s 5 (by decide) (rmay_some h false)).mono ?_
    rintro e w' ⟨he, rfl⟩
    exact ⟨he, ⟨v, h⟩, Fr.refl _ _⟩
  · have hc := insC_no hk hm
    rw [insL_ok hc, hc]
    exact rinsert_ok h hk hm
theorem rdelete_all (h : IsR w base rb n v L) (id : Int) :
    Calls Try.prog 38 #[.pointer (some ⟨rb, 0, none⟩), .int .i64 id] w fun e w' => e = .returned (.int .i64 (delC n L id)) ∧ (∃ v', IsR w' base rb n v' (delL n L id)) ∧ Fr (fun k => k = rb) w w' := by
  rcases ids_cases n L h.good id with hi | ⟨k, d0, s0, rfl, hk, hm⟩ | ⟨k, rfl, hk, hm⟩
  · have hc := delC_range (L := L) hi
    rw [delL_stay (by rw [hc]; decide), hc]
    refine (rdelete_no w rb id 2 (by decide) (rmay_range h id true hi)).mono ?_
    rintro e w' ⟨he, rfl⟩
    exact ⟨he, ⟨v, h⟩, Fr.refl _ _⟩
  · have hc := delC_yes hk hm
    rw [delL_ok hc, hc]
    obtain ⟨R1, R2, rfl⟩ := List.append_of_mem hm
    rw [show out k (R1 ++ (k, d0, s0) :: R2) = R1 ++ R2 from out_split (x := (k, d0, s0)) h.good]
    exact rdelete_ok h
  · have hc := delC_no hk hm
    rw [delL_stay (by rw [hc]; decide), hc]
    refine (rdelete_no w rb k 6 (by decide) (rmay_none h true hk hm)).mono ?_
    rintro e w' ⟨he, rfl⟩
    exact ⟨he, ⟨v, h⟩, Fr.refl _ _⟩
theorem rchange_all (h : IsR w base rb n v L) (id : Int) (d s : Nat) :
    Calls Try.prog 37 #[.pointer (some ⟨rb, 0, none⟩), .int .i64 id, .int .u64 (d : Int), .int .u64 (s : Int)] w fun e w' => e = .returned (.int .i64 (delC n L id)) ∧ (∃ v', IsR w' base rb n v' (chgL n L id d s)) ∧ Fr (fun k => k = rb) w w' := by
  rcases ids_cases n L h.good id with hi | ⟨k, d0, s0, rfl, hk, hm⟩ | ⟨k, rfl, hk, hm⟩
  · have hc := delC_range (L := L) hi
    rw [chgL_stay (by rw [hc]; decide), hc]
    refine (rchange_no w rb id d s 2 (by decide) (rmay_range h id true hi)).mono ?_
    rintro e w' ⟨he, rfl⟩
    exact ⟨he, ⟨v, h⟩, Fr.refl _ _⟩
  · have hc := delC_yes hk hm
    rw [chgL_ok hc, hc]
    obtain ⟨R1, R2, rfl⟩ := List.append_of_mem hm
    rw [show out k (R1 ++ (k, d0, s0) :: R2) = R1 ++ R2 from out_split (x := (k, d0, s0)) h.good]
    exact rchange_ok h d s
  · have hc := delC_no hk hm
    rw [chgL_stay (by rw [hc]; decide), hc]
    refine (rchange_no w rb k d s 6 (by decide) (rmay_none h true hk hm)).mono ?_
    rintro e w' ⟨he, rfl⟩
    exact ⟨he, ⟨v, h⟩, Fr.refl _ _⟩
theorem rtake_all (h : IsR w base rb n v L) :
    Calls Try.prog 39 #[.pointer (some ⟨rb, 0, none⟩)] w fun e w' => e = .returned (.tuple #[.int .i64 (tkI L), .bool (tkO L)]) ∧ (∃ v', IsR w' base rb n v' L.tail) ∧ Fr (fun k => k = rb) w w' := by
  cases L with
  | nil =>
    refine (rtake_none h).mono ?_
    rintro e w' ⟨he, rfl⟩
    exact ⟨he, ⟨v, h⟩, Fr.refl _ _⟩
  | cons x L => exact rtake_some h
theorem rmin_all (h : IsR w base rb n v L) :
    Calls Try.prog 28 #[.pointer (some ⟨rb, 0, none⟩)] w fun e w' => e = .returned (.tuple #[.int .i64 (tkI L), .bool (tkO L)]) ∧ w' = w := by
  cases L with
  | nil => exact rmin_none h
  | cons x L => exact rmin_some h
theorem rget_all (h : IsR w base rb n v L) (id : Int) :
    Calls Try.prog 29 #[.pointer (some ⟨rb, 0, none⟩), .int .i64 id] w fun e w' => e = .returned (.tuple #[.int .u64 ((getOf L id).1 : Nat), .int .u64 ((getOf L id).2.1 : Nat), .bool (getOf L id).2.2]) ∧ Below w.heap.size w w' := by
  rcases ids_cases n L h.good id with hi | ⟨k, d0, s0, rfl, hk, hm⟩ | ⟨k, rfl, hk, hm⟩
  · have hno : ∀ it ∈ L, ¬ (it.1 : Int) = id := fun it hit e => by have := h.good.rng it hit; omega
    rw [getOf_no hno]
    refine (rget_none h id hno).mono ?_
    rintro e w' ⟨he, rfl⟩
    exact ⟨he, Below.refl _ _⟩
  · rw [getOf_yes h.good hm]
    obtain ⟨R1, R2, rfl⟩ := List.append_of_mem hm
    refine (rget_some h).mono ?_
    rintro e w' ⟨he, q, rfl⟩
    exact ⟨he, below_drewN (Below.refl _ _) _⟩
  · have hno : ∀ it ∈ L, ¬ (it.1 : Int) = (k : Int) := fun it hit e => hm it hit (by omega)
    rw [getOf_no hno]
    refine (rget_none h k hno).mono ?_
    rintro e w' ⟨he, rfl⟩
    exact ⟨he, Below.refl _ _⟩
end

/-- Both heaps hold the same, and lie apart. -/
structure Both (w : World) (base b g rb n : Nat) (v : Value) (L : List Item) : Prop where
  q : IsH w b g n L
  r : IsR w base rb n v L
  hb : b < base
  hg : g < base
  nb : rb ≠ b
  ng : rb ≠ g
section
variable {w w' w'' : World} {base b g rb n : Nat} {v v' : Value} {L L' : List Item}
theorem Both.row (h : Both w base b g rb n v L) (k : Nat) (hk : v.ownBlock = some k) : base ≤ k ∧ k < w.heap.size := h.r.own.lt k hk
theorem Both.frame {S : Nat → Prop} (h : Both w base b g rb n v L) (hf : Fr S w w') (h1 : ¬ S b) (h2 : ¬ S g) (h3 : ¬ S rb) (h4 : ∀ k, v.ownBlock = some k → ¬ S k) : Both w' base b g rb n v L :=
  ⟨h.q.frame hf h1 h2, h.r.frame hf h3 h4, h.hb, h.hg, h.nb, h.ng⟩
theorem Both.quiet (h : Both w base b g rb n v L) (hf : Fr (fun _ => False) w w') : Both w' base b g rb n v L := h.frame hf (fun q => q) (fun q => q) (fun q => q) (fun _ _ q => q)
theorem Both.alloc (h : Both w base b g rb n v L) (o : Obj) : Both (w.alloc o) base b g rb n v L := h.quiet ((Fr.refl _ _).alloc o)
theorem Both.drewN (h : Both w base b g rb n v L) (q : Nat) : Both (w.drewN q) base b g rb n v L := h.quiet ((Fr.refl _ _).drewN q)
theorem Both.below (h : Both w base b g rb n v L) (hb : Below w.heap.size w w') : Both w' base b g rb n v L := h.quiet (Fr.of_below' hb)
theorem Both.like (h : Both w base b g rb n v L) (a : w'.heap = w.heap) : Both w' base b g rb n v L := by
  refine ⟨h.q.like a, ?_, h.hb, h.hg, h.nb, h.ng⟩
  have hr := h.r
  exact ⟨hr.nle, hr.good, by rw [a]; exact hr.blk, ⟨hr.own.1, by rw [a]; exact hr.own.2⟩, hr.ne, by rw [a]; exact hr.bs⟩
/-- First the program's, then the document's. -/
theorem Both.join1 (h : Both w base b g rb n v L) (hq : IsH w' b g n L') (hf : Fr (fun k => k = b ∨ k = g) w w') (hr : ∃ v', IsR w'' base rb n v' L') (hf' : Fr (fun k => k = rb) w' w'') :
    (∃ v', Both w'' base b g rb n v' L') ∧ Fr (fun k => k = b ∨ k = g ∨ k = rb) w w'' := by
  obtain ⟨v', hr⟩ := hr
  refine ⟨⟨v', hq.frame hf' (fun q => h.nb q.symm) (fun q => h.ng q.symm), hr, h.hb, h.hg, h.nb, h.ng⟩, (hf.wide (fun k _ q => q.elim .inl (fun q => .inr (.inl q)))).trans (hf'.wide (fun k _ q => .inr (.inr q)))⟩
theorem Both.refOf (h : Both w base b g rb n v L) (hf : Fr (fun k => k = b ∨ k = g) w w') : IsR w' base rb n v L := by
  refine h.r.frame hf ?_ ?_
  · rintro (q | q)
    · exact h.nb q
    · exact h.ng q
  · have hb := h.hb
    have hg := h.hg
    rintro k hk (q | q) <;> (have := (h.row k hk).1; omega)
theorem Both.nots (h : Both w base b g rb n v L) : b < w.heap.size ∧ g < w.heap.size ∧ rb < w.heap.size := ⟨h.q.blocks.1, h.q.blocks.2.1, h.r.lt⟩
theorem Both.step {W : Nat} {w0 : World} (_h : Both w' base b g rb n v L) (hW : W ≤ w0.heap.size) (hb : Below W w0 w') (h1 : W ≤ b) (h2 : W ≤ g) (h3 : W ≤ rb)
    (hf : Fr (fun k => k = b ∨ k = g ∨ k = rb) w' w'') : Below W w0 w'' := by
  refine hb.trans (hf.below (Nat.le_trans hW hb.size) ?_)
  rintro k (q | q | q) <;> omega
end
end Go.Proofs.Ytiledmfnhahmiaa
