/- Each call said by one function of the model. -/
import Derived.Test.YtbhkgbhgofefjaaI31
namespace Go.Proofs.Ytbhkgbhgofefjaa
open Go.RowKit Go.Lib Go.Shelf
set_option linter.unusedVariables false
/-- A model: threads and locks. -/
structure Md where
  T : List Th
  L : List Lk
open Classical in
/-- Lock: what it answers, and the model behind it. -/
noncomputable def lockR (M : Md) (t m : Int) : (Bool × Int) × Md :=
  if mayE M.T M.L t m ≠ 0 then ((false, mayE M.T M.L t m), M) else
  match M.T[t.toNat]?, M.L[m.toNat]? with
  | some x, some y =>
    if y.h = t then ((false, 7), M) else
    if y.h = -1 then ((true, 0), ⟨M.T, M.L.set m.toNat ⟨t, y.l⟩⟩) else
    if Leads M.L y.h.toNat t.toNat then ((false, 8), M) else
    ((false, 0), ⟨M.T.set t.toNat ⟨x.k, m⟩, M.L.set m.toNat ⟨y.h, y.l ++ [t.toNat]⟩⟩)
  | _, _ => ((false, 0), M)
/-- The place in a line of who comes next. -/
noncomputable def nextP (M : Md) (y : Lk) : Int := (foreTo (keyOf M.T M.L) y.l y.l.length).1
/-- Unlock: what it answers, and the model behind it. -/
noncomputable def unlR (M : Md) (t m : Int) : (Int × Int) × Md :=
  if mayE M.T M.L t m ≠ 0 then ((-1, mayE M.T M.L t m), M) else
  match M.L[m.toNat]? with
  | some y =>
    if y.h ≠ t then ((-1, 9), M) else
    match y.l[(nextP M y).toNat]? with
    | none => ((-1, 0), ⟨M.T, M.L.set m.toNat ⟨-1, y.l⟩⟩)
    | some q => (((q : Int), 0), ⟨(match M.T[q]? with | some z => M.T.set q ⟨z.k, -1⟩ | none => M.T), M.L.set m.toNat ⟨(q : Int), y.l.eraseIdx (nextP M y).toNat⟩⟩)
  | none => ((-1, 0), M)
/-- Base: what it answers, and the model behind it. -/
def baseR (M : Md) (t : Int) (k : K) : Int × Md :=
  if inT M.T t && rightK k then match M.T[t.toNat]? with
    | some x => (0, ⟨M.T.set t.toNat ⟨k, x.u⟩, M.L⟩)
    | none => (2, M)
  else (2, M)
/-- The program's graph at s, in the blocks O, from b on, is M. -/
def PG (w : World) (b : Nat) (O : Nat → Prop) (s : Nat) (M : Md) : Prop := ∃ vt vl V, IsG w b s vt vl V M.T M.L ∧ ∀ k, own s vt vl V k ↔ O k
/-- Behind a call: the model anew; only blocks of O and new ones have changed. -/
def Stp (w w' : World) (b : Nat) (O : Nat → Prop) (s : Nat) (M : Md) : Prop := ∃ O', PG w' b O' s M ∧ Fr O w w' ∧ ∀ k, O' k → O k ∨ w.heap.size ≤ k
section
variable {w w' : World} {b s : Nat} {O : Nat → Prop} {M : Md}
theorem PG.f (h : PG w b O s M) : Fine M.T M.L := by obtain ⟨_, _, _, hg, _⟩ := h; exact hg.f
theorem PG.lt (h : PG w b O s M) {k : Nat} (hk : O k) : k < w.heap.size := by obtain ⟨_, _, _, hg, ho⟩ := h; exact hg.own_lt ((ho k).2 hk)
theorem PG.ge (h : PG w b O s M) {k : Nat} (hk : O k) : b ≤ k := by
  obtain ⟨vt, vl, V, hg, ho⟩ := h
  rcases (ho k).2 hk with rfl | q | q | ⟨v, hv, q⟩
  · exact hg.lo
  · exact (ownsRow_blk hg.tho q).1
  · exact (ownsRow_blk hg.lko q).1
  · obtain ⟨j, hj⟩ := List.mem_iff_getElem?.1 hv
    have hjl := (List.getElem?_eq_some_iff.1 hj).1
    rw [hg.vs] at hjl
    exact (ownsRow_blk (hg.lin j _ v (List.getElem?_eq_getElem hjl) hj) q).1
theorem PG.frame {S : Nat → Prop} (h : PG w b O s M) (hf : Fr S w w') (hn : ∀ k, O k → ¬ S k) : PG w' b O s M := by
  obtain ⟨vt, vl, V, hg, ho⟩ := h
  exact ⟨vt, vl, V, hg.frame hf (fun k hk => hn k ((ho k).1 hk)), ho⟩
theorem PG.below (h : PG w b O s M) (hf : Below w.heap.size w w') : PG w' b O s M := h.frame (Fr.of_below' (S := fun _ => False) hf) (fun _ _ => id)
theorem PG.stay (h : PG w b O s M) (hf : Below w.heap.size w w') : Stp w w' b O s M := ⟨O, h.below hf, Fr.of_below' hf, fun _ q => .inl q⟩
theorem Moved.stp {vt vl : Value} {V : List Value} (ho : ∀ k, own s vt vl V k ↔ O k) {T : List Th} {L : List Lk} (h : Moved w w' b s vt vl V T L) : Stp w w' b O s ⟨T, L⟩ := by
  obtain ⟨V', hg, hf, hn⟩ := h
  exact ⟨_, ⟨vt, vl, V', hg, fun k => Iff.rfl⟩, hf.wide (fun k _ q => (ho k).1 q), fun k q => (hn k q).imp (ho k).1 id⟩
theorem PG.lock (h : PG w b O s M) (t m : Int) : Calls Try.prog 28 #[.pointer (some ⟨s, 0, none⟩), .int .i64 t, .int .i64 m] w fun e w' => e = .returned (.tuple #[.bool (lockR M t m).1.1, .int .i64 (lockR M t m).1.2]) ∧ Stp w w' b O s (lockR M t m).2 := by
  have hp := h
  obtain ⟨vt, vl, V, hg, ho⟩ := h
  unfold lockR
  by_cases he : mayE M.T M.L t m = 0
  · rw [if_neg (by simpa using he)]
    obtain ⟨i, j, x, y, rfl, rfl, hi, hj, hx, hu, hy⟩ := may_yes he
    simp only [Int.toNat_natCast, hx, hy]
    by_cases h1 : y.h = (i : Int)
    · rw [if_pos h1]
      refine (lock_own hg i j he y hy h1).mono ?_
      rintro e w' ⟨rfl, rfl⟩
      exact ⟨rfl, hp.stay (Below.refl _ _)⟩
    · rw [if_neg h1]
      by_cases h2 : y.h = -1
      · rw [if_pos h2]
        refine (lock_free hg i j he y hy h2).mono ?_
        rintro e w' ⟨rfl, hg', hf⟩
        exact ⟨rfl, Moved.stp ho ⟨V, hg', hf.wide (fun k _ q => .inr (.inr (.inl q))), fun k q => .inl q⟩⟩
      · rw [if_neg h2]
        obtain ⟨k, hk⟩ : ∃ k : Nat, y.h = (k : Int) := ⟨y.h.toNat, by have := (hg.f.lk y (List.mem_of_getElem? hy)).1; omega⟩
        have hki : k ≠ i := fun e => h1 (by rw [hk, e])
        rw [hk, Int.toNat_natCast]
        by_cases h3 : Leads M.L k i
        · rw [if_pos h3]
          refine (lock_cycle hg i j he y hy k hk hki h3).mono ?_
          rintro e w' ⟨rfl, hb⟩
          exact ⟨rfl, hp.stay hb⟩
        · rw [if_neg h3]
          refine (lock_wait hg i j he x hx y hy k hk hki h3).mono ?_
          rintro e w' ⟨rfl, hmv⟩
          rw [hk] at hmv
          exact ⟨rfl, hmv.stp ho⟩
  · rw [if_pos he]
    refine (lock_may hg t m he).mono ?_
    rintro e w' ⟨rfl, rfl⟩
    exact ⟨rfl, hp.stay (Below.refl _ _)⟩
theorem nextP_none {y : Lk} (h : y.l = []) : y.l[(nextP M y).toNat]? = none := by rw [h]; rfl
theorem nextP_some {y : Lk} (h : y.l ≠ []) : ∃ p q : Nat, nextP M y = (p : Int) ∧ y.l[p]? = some q := by
  obtain ⟨p, hp, e, _⟩ := foreTo_some (keyOf M.T M.L) y.l y.l.length (Nat.le_refl _) (List.length_pos_iff.2 h)
  exact ⟨p, y.l[p], e, List.getElem?_eq_getElem hp⟩
theorem PG.unlock (h : PG w b O s M) (t m : Int) : Calls Try.prog 26 #[.pointer (some ⟨s, 0, none⟩), .int .i64 t, .int .i64 m] w fun e w' => e = .returned (.tuple #[.int .i64 (unlR M t m).1.1, .int .i64 (unlR M t m).1.2]) ∧ Stp w w' b O s (unlR M t m).2 := by
  have hp := h
  obtain ⟨vt, vl, V, hg, ho⟩ := h
  unfold unlR
  by_cases he : mayE M.T M.L t m = 0
  · rw [if_neg (by simpa using he)]
    obtain ⟨i, j, x, y, rfl, rfl, hi, hj, hx, hu, hy⟩ := may_yes he
    simp only [Int.toNat_natCast, hy]
    by_cases h1 : y.h = (i : Int)
    · rw [if_neg (by simpa using h1)]
      by_cases h2 : y.l = []
      · rw [nextP_none h2]
        refine (unlock_free hg i j he y hy h1 h2).mono ?_
        rintro e w' ⟨rfl, hmv⟩
        exact ⟨rfl, hmv.stp ho⟩
      · obtain ⟨p, q, e1, e2⟩ := nextP_some (M := M) h2
        have hql := (hg.f.lk y (List.mem_of_getElem? hy)).2.2.1 q (List.mem_of_getElem? e2)
        have hz : M.T[q]? = some _ := List.getElem?_eq_getElem hql
        rw [e1, Int.toNat_natCast, e2]
        simp only [hz]
        refine (unlock_next hg i j p q he y hy h1 e1 e2 _ hz).mono ?_
        rintro e w' ⟨rfl, hmv⟩
        exact ⟨rfl, hmv.stp ho⟩
    · rw [if_pos h1]
      refine (unlock_other hg i j he y hy h1).mono ?_
      rintro e w' ⟨rfl, rfl⟩
      exact ⟨rfl, hp.stay (Below.refl _ _)⟩
  · rw [if_pos he]
    refine (unlock_may hg t m he).mono ?_
    rintro e w' ⟨rfl, rfl⟩
    exact ⟨rfl, hp.stay (Below.refl _ _)⟩
theorem PG.base (h : PG w b O s M) (t : Int) (k : K) (hk : k.ok) : Calls Try.prog 21 #[.pointer (some ⟨s, 0, none⟩), .int .i64 t, .agg #[.bool k.e, .int .u64 k.d, .int .u8 k.l]] w fun e w' => e = .returned (.int .i64 (baseR M t k).1) ∧ Stp w w' b O s (baseR M t k).2 := by
  have hp := h
  obtain ⟨vt, vl, V, hg, ho⟩ := h
  unfold baseR
  cases ht : inT M.T t with
  | false =>
    simp only [Bool.false_and, Bool.false_eq_true, if_false]
    refine (base_no hg t k (.inl ht)).mono ?_
    rintro e w' ⟨rfl, hb⟩
    exact ⟨rfl, hp.stay hb⟩
  | true =>
    cases hr : rightK k with
    | false =>
      simp only [Bool.and_false, Bool.false_eq_true, if_false]
      refine (base_no hg t k (.inr hr)).mono ?_
      rintro e w' ⟨rfl, hb⟩
      exact ⟨rfl, hp.stay hb⟩
    | true =>
      obtain ⟨j, x, rfl, hj, hx, _⟩ := inT_yes ht
      simp only [Bool.and_true, if_true, Int.toNat_natCast, hx]
      refine (base_yes hg j x hx k hk hr).mono ?_
      rintro e w' ⟨rfl, hg', hf⟩
      exact ⟨rfl, Moved.stp ho ⟨V, hg', hf.wide (fun k _ q => .inr (.inl q)), fun k q => .inl q⟩⟩
theorem PG.key (h : PG w b O s M) (t : Int) : Calls Try.prog 24 #[.pointer (some ⟨s, 0, none⟩), .int .i64 t] w fun e w' => e = .returned (.agg #[.bool (keyA M.T M.L t).e, .int .u64 (keyA M.T M.L t).d, .int .u8 (keyA M.T M.L t).l]) ∧ Below w.heap.size w w' := by
  obtain ⟨vt, vl, V, hg, ho⟩ := h
  exact key_ok hg t
theorem PG.owner (h : PG w b O s M) (m : Int) : Calls Try.prog 18 #[.pointer (some ⟨s, 0, none⟩), .int .i64 m] w fun e w' => e = .returned (.int .i64 (ownerOf M.L m)) ∧ w' = w := by
  obtain ⟨vt, vl, V, hg, ho⟩ := h
  exact owner_ok hg m
theorem PG.waits (h : PG w b O s M) (t : Int) : Calls Try.prog 20 #[.pointer (some ⟨s, 0, none⟩), .int .i64 t] w fun e w' => e = .returned (.int .i64 (waitsOf M.T t)) ∧ w' = w := by
  obtain ⟨vt, vl, V, hg, ho⟩ := h
  exact waits_ok hg t
/-- A row of whole numbers of the call's own. -/
def IL (w : World) (base : Nat) (v : Value) (l : List Int) : Prop := w.ownsRow base 3 1 v l.length (l.map (Value.int .i64))
theorem PG.held (h : PG w b O s M) (t : Int) : Calls Try.prog 17 #[.pointer (some ⟨s, 0, none⟩), .int .i64 t] w fun e w' => ∃ v, e = .returned v ∧ IL w' w.heap.size v (heldA M.T M.L t) ∧ Below w.heap.size w w' := by
  obtain ⟨vt, vl, V, hg, ho⟩ := h
  exact Held_ok hg t
theorem PG.new (n m : Nat) (h1 : 1 ≤ n) (h2 : n ≤ 1024) (h3 : m ≤ 32) (w : World) : True := trivial
end
end Go.Proofs.Ytbhkgbhgofefjaa
