/-
  What each call answers and leaves, as functions of the list, of the program's set and of the document's; both of them.
-/
import Derived.Test.YtlfejgjhamcahaaY13
import Derived.Test.YtlfejgjhamcahaaY6
namespace Go.Proofs.Ytlfejgjhamcahaa
open Go.RowKit
set_option linter.unusedVariables false

def Bad (n : Nat) (id : Int) (k : Ke.K) : Prop := id < 0 ∨ (n : Int) ≤ id ∨ Ke.rightK k = false
instance (n : Nat) (id : Int) (k : Ke.K) : Decidable (Bad n id k) := inferInstanceAs (Decidable (_ ∨ _ ∨ _))
def putC (n most : Nat) (M : List En) (id : Int) (k : Ke.K) : Int := if Bad n id k then 2 else if (keyOf M id.toNat).isSome then 5 else if M.length = most then 4 else 0
def putL (n most : Nat) (M : List En) (id : Int) (k : Ke.K) : List En := if putC n most M id k = 0 then put (id.toNat, k) M else M
def chgC (n : Nat) (M : List En) (id : Int) (k : Ke.K) : Int := if Bad n id k then 2 else if (keyOf M id.toNat).isSome then 0 else 6
def chgL (n : Nat) (M : List En) (id : Int) (k : Ke.K) : List En := if chgC n M id k = 0 then (if keyOf M id.toNat = some k then M else put (id.toNat, k) (cut id.toNat M)) else M
def remC (n : Nat) (M : List En) (id : Int) : Int := if id < 0 ∨ (n : Int) ≤ id then 2 else if (keyOf M id.toNat).isSome then 0 else 6
def remL (n : Nat) (M : List En) (id : Int) : List En := if remC n M id = 0 then cut id.toNat M else M
def tkI : List En → Int
  | [] => 0
  | x :: _ => (x.1 : Int)
def tkK : List En → Ke.K
  | [] => ⟨false, 0, 0⟩
  | x :: _ => x.2
def tkO : List En → Bool
  | [] => false
  | _ :: _ => true
theorem bad_cases (n : Nat) (M : List En) (id : Int) (k : Ke.K) : Bad n id k ∨ (∃ i : Nat, id = i ∧ i < n ∧ Ke.rightK k = true ∧ ¬ Bad n (i : Int) k) := by
  by_cases h : Bad n id k
  · exact .inl h
  · have h' := h
    unfold Bad at h'
    simp only [not_or] at h'
    obtain ⟨i, rfl⟩ := Int.eq_ofNat_of_zero_le (show 0 ≤ id by omega)
    refine .inr ⟨i, rfl, by omega, ?_, h⟩
    simpa using h'.2.2
theorem cut_split {R1 R2 : List En} {id : Nat} {k : Ke.K} (h : ((R1 ++ (id, k) :: R2).map (·.1)).Nodup) : cut id (R1 ++ (id, k) :: R2) = R1 ++ R2 := by
  rw [List.map_append, List.map_cons, List.nodup_append] at h
  obtain ⟨_, h2, h3⟩ := h
  rw [List.nodup_cons] at h2
  unfold cut
  rw [List.filter_append, List.filter_cons_of_neg (by simp)]
  have e1 : cut id R1 = R1 := cut_miss (fun y hy e => h3 y.1 (List.mem_map.2 ⟨y, hy, rfl⟩) id (by simp) e)
  have e2 : cut id R2 = R2 := cut_miss (fun y hy e => h2.1 (List.mem_map.2 ⟨y, hy, e⟩))
  unfold cut at e1 e2
  rw [e1, e2]
theorem Fr.ofDc {S : Nat → Prop} {w w' : World} (h : Dc.Fr S w w') : Fr S w w' := ⟨h.os, h.tape, h.output, h.size, h.block⟩
theorem Fr.toDc {S : Nat → Prop} {w w' : World} (h : Fr S w w') : Dc.Fr S w w' := ⟨h.os, h.tape, h.output, h.size, h.block⟩

section
variable {w : World} {sb qb gq hb gh n most turn : Nat} {M : List En}
theorem IsS.nd (h : IsS w sb qb gq hb gh n most turn M) : (M.map (·.1)).Nodup := by obtain ⟨_, _, _, hI⟩ := h; exact hI.nd
theorem IsS.fit (h : IsS w sb qb gq hb gh n most turn M) : M.length ≤ most := by obtain ⟨_, _, _, hI⟩ := h; exact hI.fits
theorem sput_all (h : IsS w sb qb gq hb gh n most turn M) (ht : turn ≤ 1000) (id : Int) (k : Ke.K) (hk : k.ok) :
    Calls Try.prog 50 #[.pointer (some ⟨sb, 0, none⟩), .int .i64 id, .agg #[.bool k.e, .int .u64 k.d, .int .u8 k.l]] w fun e w' => e = .returned (.int .i64 (putC n most M id k)) ∧ (∃ t, t ≤ turn + 1 ∧ IsS w' sb qb gq hb gh n most t (putL n most M id k)) ∧ Fr (OwnS sb qb gq hb gh) w w' := by
  unfold putL putC
  rcases bad_cases n M id k with hb | ⟨i, rfl, hi, hr, hnb⟩
  · rw [if_pos hb, if_neg (by decide)]
    refine (sPut_no h id k hb).mono ?_
    rintro e w' ⟨rfl, hb'⟩
    exact ⟨rfl, ⟨turn, by omega, h.below hb'⟩, Fr.of_below' hb'⟩
  · rw [if_neg hnb]
    cases hko : keyOf M (i : Int).toNat with
    | some k' =>
      rw [if_pos (show (some k').isSome = true from rfl), if_neg (by decide)]
      refine (sPut_known h i hi k hr k' hko).mono ?_
      rintro e w' ⟨rfl, hb'⟩
      exact ⟨rfl, ⟨turn, by omega, h.below hb'⟩, Fr.of_below' hb'⟩
    | none =>
      rw [if_neg (by simp)]
      by_cases hf : M.length = most
      · rw [if_pos hf, if_neg (by decide)]
        refine (sPut_full h i hi k hr hko hf).mono ?_
        rintro e w' ⟨rfl, hb'⟩
        exact ⟨rfl, ⟨turn, by omega, h.below hb'⟩, Fr.of_below' hb'⟩
      · rw [if_neg hf, if_pos rfl]
        have := h.fit
        refine (put_new h ht i k hi hr hk hko (by omega)).mono ?_
        rintro e w' ⟨rfl, hs, hf'⟩
        exact ⟨rfl, ⟨turn + 1, by omega, hs⟩, hf'⟩
theorem schange_all (h : IsS w sb qb gq hb gh n most turn M) (ht : turn ≤ 1000) (id : Int) (k : Ke.K) (hk : k.ok) :
    Calls Try.prog 58 #[.pointer (some ⟨sb, 0, none⟩), .int .i64 id, .agg #[.bool k.e, .int .u64 k.d, .int .u8 k.l]] w fun e w' => e = .returned (.int .i64 (chgC n M id k)) ∧ (∃ t, t ≤ turn + 1 ∧ IsS w' sb qb gq hb gh n most t (chgL n M id k)) ∧ Fr (OwnS sb qb gq hb gh) w w' := by
  unfold chgL chgC
  rcases bad_cases n M id k with hb | ⟨i, rfl, hi, hr, hnb⟩
  · rw [if_pos hb, if_neg (by decide)]
    refine (sChange_no h id k hb).mono ?_
    rintro e w' ⟨rfl, hb'⟩
    exact ⟨rfl, ⟨turn, by omega, h.below hb'⟩, Fr.of_below' hb'⟩
  · rw [if_neg hnb]
    cases hko : keyOf M (i : Int).toNat with
    | none =>
      rw [if_neg (by simp), if_neg (by decide)]
      refine (sChange_none h i hi k hr hko).mono ?_
      rintro e w' ⟨rfl, hb'⟩
      exact ⟨rfl, ⟨turn, by omega, h.below hb'⟩, Fr.of_below' hb'⟩
    | some k' =>
      rw [if_pos (show (some k').isSome = true from rfl), if_pos rfl]
      by_cases hkk : k' = k
      · subst hkk
        rw [if_pos rfl]
        refine (sChange_same h i hi k' hr hko).mono ?_
        rintro e w' ⟨rfl, hb'⟩
        exact ⟨rfl, ⟨turn, by omega, h.below hb'⟩, Fr.of_below' hb'⟩
      · rw [if_neg (fun q => hkk (Option.some.inj q))]
        refine (sChange_other h ht i hi k hr hk k' hko hkk).mono ?_
        rintro e w' ⟨rfl, hs, hf'⟩
        exact ⟨rfl, ⟨turn + 1, by omega, hs⟩, hf'⟩
theorem Own.wide {k : Nat} (h : Own qb gq hb gh k) : OwnS sb qb gq hb gh k := .inr h
theorem sremove_all (h : IsS w sb qb gq hb gh n most turn M) (id : Int) :
    Calls Try.prog 59 #[.pointer (some ⟨sb, 0, none⟩), .int .i64 id] w fun e w' => e = .returned (.int .i64 (remC n M id)) ∧ (∃ t, t ≤ turn + 1 ∧ IsS w' sb qb gq hb gh n most t (remL n M id)) ∧ Fr (OwnS sb qb gq hb gh) w w' := by
  unfold remL remC
  by_cases hb : id < 0 ∨ (n : Int) ≤ id
  · rw [if_pos hb, if_neg (by decide)]
    obtain ⟨R, L, hS, hI⟩ := id_S h
    refine (sremove_range hS id hb).mono ?_
    rintro e w' ⟨rfl, rfl⟩
    exact ⟨rfl, ⟨turn, by omega, h⟩, Fr.refl _ _⟩
  · rw [if_neg hb]
    obtain ⟨i, rfl⟩ := Int.eq_ofNat_of_zero_le (show 0 ≤ id by omega)
    cases hko : keyOf M (i : Int).toNat with
    | none =>
      rw [if_neg (by simp), if_neg (by decide)]
      obtain ⟨R, L, hS, hI⟩ := id_S h
      have hm := keyOf_none.1 hko
      refine (sremove_none hS i (by omega) (hI.missR hm) (hI.missL hm)).mono ?_
      rintro e w' ⟨rfl, rfl⟩
      exact ⟨rfl, ⟨turn, by omega, h⟩, Fr.refl _ _⟩
    | some k' =>
      rw [if_pos (show (some k').isSome = true from rfl), if_pos rfl]
      refine (remove_ok h ((keyOf_some h.nd).1 hko)).mono ?_
      rintro e w' ⟨rfl, hs, hf'⟩
      exact ⟨rfl, ⟨turn, by omega, hs⟩, hf'.wide (fun k _ q => Own.wide q)⟩
theorem stop_all (h : IsS w sb qb gq hb gh n most turn M) :
    Calls Try.prog 43 #[.pointer (some ⟨sb, 0, none⟩)] w fun e w' => e = .returned (.tuple #[.int .i64 (tkI M), .agg #[.bool (tkK M).e, .int .u64 (tkK M).d, .int .u8 (tkK M).l], .bool (tkO M)]) ∧ Below w.heap.size w w' := by
  cases M with
  | nil => exact stop_none h.nil_parts
  | cons x M => exact top_ok h
end

section
variable {w : World} {base rb n most : Nat} {v : Value} {M : List En}
theorem rput_all (h : Dc.IsR w base rb n most v M) (id : Int) (k : Ke.K) :
    Calls Try.prog 80 #[.pointer (some ⟨rb, 0, none⟩), .int .i64 id, .agg #[.bool k.e, .int .u64 k.d, .int .u8 k.l]] w fun e w' => e = .returned (.int .i64 (putC n most M id k)) ∧ (∃ v', Dc.IsR w' base rb n most v' (putL n most M id k)) ∧ Fr (fun k => k = rb) w w' := by
  unfold putL putC
  rcases bad_cases n M id k with hb | ⟨i, rfl, hi, hr, hnb⟩
  · rw [if_pos hb, if_neg (by decide)]
    refine (Dc.rput_range h id k hb).mono ?_
    rintro e w' ⟨rfl, hb'⟩
    exact ⟨rfl, ⟨v, h.below hb'⟩, Fr.of_below' hb'⟩
  · rw [if_neg hnb]
    cases hko : keyOf M (i : Int).toNat with
    | some k' =>
      rw [if_pos (show (some k').isSome = true from rfl), if_neg (by decide)]
      obtain ⟨R1, R2, rfl⟩ := List.append_of_mem ((keyOf_some h.nd).1 hko)
      refine (Dc.rput_known h k hr).mono ?_
      rintro e w' ⟨rfl, hb'⟩
      exact ⟨rfl, ⟨v, h.below hb'⟩, Fr.of_below' hb'⟩
    | none =>
      rw [if_neg (by simp)]
      have hno := keyOf_none.1 hko
      by_cases hf : M.length = most
      · rw [if_pos hf, if_neg (by decide)]
        refine (Dc.rput_full h k hr hi hno hf).mono ?_
        rintro e w' ⟨rfl, hb'⟩
        exact ⟨rfl, ⟨v, h.below hb'⟩, Fr.of_below' hb'⟩
      · rw [if_neg hf, if_pos rfl]
        have := h.len
        refine (Dc.rput_new h k hr hi hno (by omega)).mono ?_
        rintro e w' ⟨rfl, hs, hf'⟩
        exact ⟨rfl, hs, Fr.ofDc hf'⟩
theorem rchange_all (h : Dc.IsR w base rb n most v M) (id : Int) (k : Ke.K) :
    Calls Try.prog 81 #[.pointer (some ⟨rb, 0, none⟩), .int .i64 id, .agg #[.bool k.e, .int .u64 k.d, .int .u8 k.l]] w fun e w' => e = .returned (.int .i64 (chgC n M id k)) ∧ (∃ v', Dc.IsR w' base rb n most v' (chgL n M id k)) ∧ Fr (fun k => k = rb) w w' := by
  unfold chgL chgC
  rcases bad_cases n M id k with hb | ⟨i, rfl, hi, hr, hnb⟩
  · rw [if_pos hb, if_neg (by decide)]
    refine (Dc.rchange_range h id k hb).mono ?_
    rintro e w' ⟨rfl, hb'⟩
    exact ⟨rfl, ⟨v, h.below hb'⟩, Fr.of_below' hb'⟩
  · rw [if_neg hnb]
    cases hko : keyOf M (i : Int).toNat with
    | none =>
      rw [if_neg (by simp), if_neg (by decide)]
      refine (Dc.rchange_none h k hr hi (keyOf_none.1 hko)).mono ?_
      rintro e w' ⟨rfl, hb'⟩
      exact ⟨rfl, ⟨v, h.below hb'⟩, Fr.of_below' hb'⟩
    | some k' =>
      rw [if_pos (show (some k').isSome = true from rfl), if_pos rfl]
      have hm := (keyOf_some h.nd).1 hko
      obtain ⟨R1, R2, e1⟩ := List.append_of_mem hm
      have hnd := h.nd
      rw [e1] at h hnd
      have hcs := cut_split hnd
      refine (Dc.rchange_some h k hr).mono ?_
      rintro e w' ⟨rfl, ⟨v', hs⟩, hf'⟩
      refine ⟨rfl, ⟨v', ?_⟩, Fr.ofDc hf'⟩
      rw [e1]
      by_cases hkk : k' = k
      · rw [if_pos hkk] at hs
        rw [if_pos (by rw [hkk])]
        exact hs
      · rw [if_neg hkk] at hs
        rw [if_neg (fun q => hkk (Option.some.inj q))]
        have e2 : cut (i : Int).toNat (R1 ++ ((i : Int).toNat, k') :: R2) = R1 ++ R2 := hcs
        rw [e2]
        exact hs
theorem rremove_all (h : Dc.IsR w base rb n most v M) (id : Int) :
    Calls Try.prog 73 #[.pointer (some ⟨rb, 0, none⟩), .int .i64 id] w fun e w' => e = .returned (.int .i64 (remC n M id)) ∧ (∃ v', Dc.IsR w' base rb n most v' (remL n M id)) ∧ Fr (fun k => k = rb) w w' := by
  unfold remL remC
  by_cases hb : id < 0 ∨ (n : Int) ≤ id
  · rw [if_pos hb, if_neg (by decide)]
    refine (Dc.rremove_range h id hb).mono ?_
    rintro e w' ⟨rfl, rfl⟩
    exact ⟨rfl, ⟨v, h⟩, Fr.refl _ _⟩
  · rw [if_neg hb]
    obtain ⟨i, rfl⟩ := Int.eq_ofNat_of_zero_le (show 0 ≤ id by omega)
    cases hko : keyOf M (i : Int).toNat with
    | none =>
      rw [if_neg (by simp), if_neg (by decide)]
      refine (Dc.rremove_none h (by omega) (keyOf_none.1 hko)).mono ?_
      rintro e w' ⟨rfl, rfl⟩
      exact ⟨rfl, ⟨v, h⟩, Fr.refl _ _⟩
    | some k' =>
      rw [if_pos (show (some k').isSome = true from rfl), if_pos rfl]
      have hm := (keyOf_some h.nd).1 hko
      obtain ⟨R1, R2, e1⟩ := List.append_of_mem hm
      have hnd := h.nd
      rw [e1] at h hnd
      have hcs : cut (i : Int).toNat (R1 ++ ((i : Int).toNat, k') :: R2) = R1 ++ R2 := cut_split hnd
      refine (Dc.rremove_ok h).mono ?_
      rintro e w' ⟨rfl, ⟨v', hs⟩, hf'⟩
      refine ⟨rfl, ⟨v', ?_⟩, Fr.ofDc hf'⟩
      rw [e1, hcs]
      exact hs
theorem rtake_all (h : Dc.IsR w base rb n most v M) :
    Calls Try.prog 82 #[.pointer (some ⟨rb, 0, none⟩)] w fun e w' => e = .returned (.tuple #[.int .i64 (tkI M), .agg #[.bool (tkK M).e, .int .u64 (tkK M).d, .int .u8 (tkK M).l], .bool (tkO M)]) ∧ (∃ v', Dc.IsR w' base rb n most v' M.tail) ∧ Fr (fun k => k = rb) w w' := by
  cases M with
  | nil =>
    refine (Dc.rtake_none h).mono ?_
    rintro e w' ⟨rfl, hb'⟩
    exact ⟨rfl, ⟨v, h.below hb'⟩, Fr.of_below' hb'⟩
  | cons x M =>
    refine (Dc.rtake_some h).mono ?_
    rintro e w' ⟨rfl, hs, hf'⟩
    exact ⟨rfl, hs, Fr.ofDc hf'⟩
theorem rtop_all (h : Dc.IsR w base rb n most v M) :
    Calls Try.prog 63 #[.pointer (some ⟨rb, 0, none⟩)] w fun e w' => e = .returned (.tuple #[.int .i64 (tkI M), .agg #[.bool (tkK M).e, .int .u64 (tkK M).d, .int .u8 (tkK M).l], .bool (tkO M)]) ∧ Below w.heap.size w w' := by
  cases M with
  | nil => exact Dc.rtop_none h
  | cons x M => exact Dc.rtop_some h
theorem rkey_all (h : Dc.IsR w base rb n most v M) (id : Int) :
    Calls Try.prog 64 #[.pointer (some ⟨rb, 0, none⟩), .int .i64 id] w fun e w' => e = .returned (.tuple #[.agg #[.bool (kz (keyAt n M id)).e, .int .u64 (kz (keyAt n M id)).d, .int .u8 (kz (keyAt n M id)).l], .bool (keyAt n M id).isSome]) ∧ Below w.heap.size w w' := by
  unfold keyAt
  by_cases hi : 0 ≤ id ∧ id < (n : Int)
  · rw [if_pos hi]
    obtain ⟨i, rfl⟩ := Int.eq_ofNat_of_zero_le hi.1
    cases hko : keyOf M (i : Int).toNat with
    | none =>
      have hno := keyOf_none.1 hko
      exact Dc.rkey_none h i (fun it hit e => hno it hit (by simpa using Int.ofNat.inj e))
    | some k' =>
      obtain ⟨R1, R2, rfl⟩ := List.append_of_mem ((keyOf_some h.nd).1 hko)
      exact Dc.rkey_some h
  · rw [if_neg hi]
    exact Dc.rkey_none h id (fun it hit e => by have := h.rng it hit; omega)
end

/-- Both sets hold the same, and lie apart. -/
structure Both (w : World) (base sb qb gq hb gh rb n most turn : Nat) (v : Value) (M : List En) : Prop where
  q : IsS w sb qb gq hb gh n most turn M
  r : Dc.IsR w base rb n most v M
  ob : ∀ k, OwnS sb qb gq hb gh k → k < base
  nb : ∀ k, OwnS sb qb gq hb gh k → rb ≠ k
section
variable {w w' w'' : World} {base sb qb gq hb gh rb n most turn turn' : Nat} {v v' : Value} {M M' : List En}
theorem Both.below (h : Both w base sb qb gq hb gh rb n most turn v M) (hb' : Below w.heap.size w w') : Both w' base sb qb gq hb gh rb n most turn v M := ⟨h.q.below hb', h.r.below hb', h.ob, h.nb⟩
theorem Both.refOf (h : Both w base sb qb gq hb gh rb n most turn v M) (hf : Fr (OwnS sb qb gq hb gh) w w') : Dc.IsR w' base rb n most v M :=
  h.r.frame hf.toDc (fun q => h.nb rb q rfl) (fun k hk q => by have := (h.r.own.lt k hk).1; have := h.ob k q; omega)
/-- First the program's, then the document's. -/
theorem Both.join (h : Both w base sb qb gq hb gh rb n most turn v M) (hq : ∃ t, t ≤ turn + 1 ∧ IsS w' sb qb gq hb gh n most t M') (hf : Fr (OwnS sb qb gq hb gh) w w') (hr : ∃ v', Dc.IsR w'' base rb n most v' M') (hf' : Fr (fun k => k = rb) w' w'') :
    (∃ t v', t ≤ turn + 1 ∧ Both w'' base sb qb gq hb gh rb n most t v' M') ∧ Fr (fun k => OwnS sb qb gq hb gh k ∨ k = rb) w w'' := by
  obtain ⟨t, ht, hq⟩ := hq
  obtain ⟨v', hr⟩ := hr
  exact ⟨⟨t, v', ht, hq.frame hf' (fun k hk e => h.nb k hk e.symm), hr, h.ob, h.nb⟩, (hf.wide (fun k _ q => .inl q)).trans (hf'.wide (fun k _ q => .inr q))⟩
theorem Both.step {W : Nat} {w0 : World} (_h : Both w' base sb qb gq hb gh rb n most turn v M) (hW : W ≤ w0.heap.size) (hb' : Below W w0 w') (h1 : ∀ k, OwnS sb qb gq hb gh k → W ≤ k) (h3 : W ≤ rb)
    (hf : Fr (fun k => OwnS sb qb gq hb gh k ∨ k = rb) w' w'') : Below W w0 w'' := by
  refine hb'.trans (hf.below (Nat.le_trans hW hb'.size) ?_)
  rintro k (q | q)
  · exact h1 k q
  · omega
theorem Both.lts (h : Both w base sb qb gq hb gh rb n most turn v M) : ∀ k, OwnS sb qb gq hb gh k ∨ k = rb → k < w.heap.size := by
  rintro k (q | rfl)
  · exact h.q.blocks k q
  · exact h.r.lt
end
end Go.Proofs.Ytlfejgjhamcahaa
