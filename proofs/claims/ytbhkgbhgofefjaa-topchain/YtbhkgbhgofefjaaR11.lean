/- The document's calls, each said by the same function of the model as the program's; both at once. -/
import Derived.Test.YtbhkgbhgofefjaaR10
namespace Go.Proofs.Ytbhkgbhgofefjaa
open Go.RowKit
set_option linter.unusedVariables false
/-- The document's graph at s, in the blocks D, from b on, is M. -/
def RG (w : World) (b : Nat) (D : Nat → Prop) (s : Nat) (M : Md) : Prop := ∃ vb vo vw V, IsR w b s vb vo vw V M.T M.L ∧ ∀ k, ownR s vb vo vw V k ↔ D k
def StR (w w' : World) (b : Nat) (D : Nat → Prop) (s : Nat) (M : Md) : Prop := ∃ D', RG w' b D' s M ∧ Fr D w w' ∧ ∀ k, D' k → D k ∨ w.heap.size ≤ k
section
variable {w w' : World} {b s : Nat} {D : Nat → Prop} {M : Md}
theorem RG.f (h : RG w b D s M) : Fine M.T M.L := by obtain ⟨_, _, _, _, hg, _⟩ := h; exact hg.f
theorem RG.lt (h : RG w b D s M) {k : Nat} (hk : D k) : k < w.heap.size := by obtain ⟨_, _, _, _, hg, ho⟩ := h; exact (hg.own_ge ((ho k).2 hk)).2
theorem RG.ge (h : RG w b D s M) {k : Nat} (hk : D k) : b ≤ k := by obtain ⟨_, _, _, _, hg, ho⟩ := h; exact (hg.own_ge ((ho k).2 hk)).1
theorem RG.frame {S : Nat → Prop} (h : RG w b D s M) (hf : Fr S w w') (hn : ∀ k, D k → ¬ S k) : RG w' b D s M := by
  obtain ⟨vb, vo, vw, V, hg, ho⟩ := h
  exact ⟨vb, vo, vw, V, hg.frame hf (fun k hk => hn k ((ho k).1 hk)), ho⟩
theorem RG.below (h : RG w b D s M) (hf : Below w.heap.size w w') : RG w' b D s M := h.frame (Fr.of_below' (S := fun _ => False) hf) (fun _ _ => id)
theorem RG.stay (h : RG w b D s M) (hf : Below w.heap.size w w') : StR w w' b D s M := ⟨D, h.below hf, Fr.of_below' hf, fun _ q => .inl q⟩
theorem MovedR.stp {vb vo vw : Value} {V : List Value} (ho : ∀ k, ownR s vb vo vw V k ↔ D k) {T : List Th} {L : List Lk} (h : MovedR w w' b s vb vo vw V T L) : StR w w' b D s ⟨T, L⟩ := by
  obtain ⟨V', hg, hf, hn⟩ := h
  exact ⟨_, ⟨vb, vo, vw, V', hg, fun k => Iff.rfl⟩, hf.wide (fun k _ q => (ho k).1 q), fun k q => (hn k q).imp (ho k).1 id⟩
theorem RG.lock (h : RG w b D s M) (t m : Int) : Calls Try.prog 55 #[.pointer (some ⟨s, 0, none⟩), .int .i64 t, .int .i64 m] w fun e w' => e = .returned (.tuple #[.bool (lockR M t m).1.1, .int .i64 (lockR M t m).1.2]) ∧ StR w w' b D s (lockR M t m).2 := by
  have hp := h
  obtain ⟨vb, vo, vw, V, hg, ho⟩ := h
  unfold lockR
  by_cases he : mayE M.T M.L t m = 0
  · rw [if_neg (by simpa using he)]
    obtain ⟨i, j, x, y, rfl, rfl, hi, hj, hx, hu, hy⟩ := may_yes he
    simp only [Int.toNat_natCast, hx, hy]
    by_cases h1 : y.h = (i : Int)
    · rw [if_pos h1]
      refine (rlock_own hg i j he y hy h1).mono ?_
      rintro e w' ⟨rfl, rfl⟩
      exact ⟨rfl, hp.stay (Below.refl _ _)⟩
    · rw [if_neg h1]
      by_cases h2 : y.h = -1
      · rw [if_pos h2]
        refine (rlock_free hg i j he y hy h2).mono ?_
        rintro e w' ⟨rfl, hmv⟩
        exact ⟨rfl, hmv.stp ho⟩
      · rw [if_neg h2]
        obtain ⟨k, hk⟩ : ∃ k : Nat, y.h = (k : Int) := ⟨y.h.toNat, by have := (hg.f.lk y (List.mem_of_getElem? hy)).1; omega⟩
        have hki : k ≠ i := fun e => h1 (by rw [hk, e])
        rw [hk, Int.toNat_natCast]
        refine (rlock_held hg i j he x hx y hy k hk hki).mono ?_
        rintro e w' (⟨h3, rfl, rfl⟩ | ⟨h3, rfl, hmv⟩)
        · rw [if_pos h3]
          exact ⟨rfl, hp.stay (Below.refl _ _)⟩
        · rw [if_neg h3]
          rw [hk] at hmv
          exact ⟨rfl, hmv.stp ho⟩
  · rw [if_pos he]
    refine (rlock_may hg t m he).mono ?_
    rintro e w' ⟨rfl, rfl⟩
    exact ⟨rfl, hp.stay (Below.refl _ _)⟩
theorem RG.unlock (h : RG w b D s M) (t m : Int) : Calls Try.prog 56 #[.pointer (some ⟨s, 0, none⟩), .int .i64 t, .int .i64 m] w fun e w' => e = .returned (.tuple #[.int .i64 (unlR M t m).1.1, .int .i64 (unlR M t m).1.2]) ∧ StR w w' b D s (unlR M t m).2 := by
  have hp := h
  obtain ⟨vb, vo, vw, V, hg, ho⟩ := h
  unfold unlR
  by_cases he : mayE M.T M.L t m = 0
  · rw [if_neg (by simpa using he)]
    obtain ⟨i, j, x, y, rfl, rfl, hi, hj, hx, hu, hy⟩ := may_yes he
    simp only [Int.toNat_natCast, hy]
    by_cases h1 : y.h = (i : Int)
    · rw [if_neg (by simpa using h1)]
      refine (runlock_own hg i j he y hy h1).mono ?_
      rintro e w' (⟨e0, h2, rfl, hmv⟩ | ⟨p, q, z, e1, e2, hz, rfl, hmv⟩)
      · rw [nextP_none h2]
        exact ⟨rfl, hmv.stp ho⟩
      · have e1' : nextP M y = (p : Int) := e1
        rw [e1', Int.toNat_natCast, e2]
        simp only [hz]
        exact ⟨trivial, hmv.stp ho⟩
    · rw [if_pos h1]
      refine (runlock_other hg i j he y hy h1).mono ?_
      rintro e w' ⟨rfl, rfl⟩
      exact ⟨rfl, hp.stay (Below.refl _ _)⟩
  · rw [if_pos he]
    refine (runlock_may hg t m he).mono ?_
    rintro e w' ⟨rfl, rfl⟩
    exact ⟨rfl, hp.stay (Below.refl _ _)⟩
theorem RG.base (h : RG w b D s M) (t : Int) (k : K) (hk : k.ok) : Calls Try.prog 22 #[.pointer (some ⟨s, 0, none⟩), .int .i64 t, .agg #[.bool k.e, .int .u64 k.d, .int .u8 k.l]] w fun e w' => e = .returned (.int .i64 (baseR M t k).1) ∧ StR w w' b D s (baseR M t k).2 := by
  have hp := h
  obtain ⟨vb, vo, vw, V, hg, ho⟩ := h
  unfold baseR
  cases ht : inT M.T t with
  | false =>
    simp only [Bool.false_and, Bool.false_eq_true, if_false]
    refine (rbase_no hg t k (.inl ht)).mono ?_
    rintro e w' ⟨rfl, hb⟩
    exact ⟨rfl, hp.stay hb⟩
  | true =>
    cases hr : rightK k with
    | false =>
      simp only [Bool.and_false, Bool.false_eq_true, if_false]
      refine (rbase_no hg t k (.inr hr)).mono ?_
      rintro e w' ⟨rfl, hb⟩
      exact ⟨rfl, hp.stay hb⟩
    | true =>
      obtain ⟨j, x, rfl, hj, hx, _⟩ := inT_yes ht
      simp only [Bool.and_true, if_true, Int.toNat_natCast, hx]
      refine (rbase_yes hg j x hx k hk hr).mono ?_
      rintro e w' ⟨rfl, hmv⟩
      exact ⟨rfl, hmv.stp ho⟩
theorem RG.key (h : RG w b D s M) (t : Int) : Calls Try.prog 35 #[.pointer (some ⟨s, 0, none⟩), .int .i64 t] w fun e w' => e = .returned (.agg #[.bool (keyA M.T M.L t).e, .int .u64 (keyA M.T M.L t).d, .int .u8 (keyA M.T M.L t).l]) ∧ Below w.heap.size w w' := by
  obtain ⟨vb, vo, vw, V, hg, ho⟩ := h
  exact rkey_ok hg t
theorem RG.owner (h : RG w b D s M) (m : Int) : Calls Try.prog 39 #[.pointer (some ⟨s, 0, none⟩), .int .i64 m] w fun e w' => e = .returned (.int .i64 (ownerOf M.L m)) ∧ w' = w := by
  obtain ⟨vb, vo, vw, V, hg, ho⟩ := h
  exact rowner_ok hg m
theorem RG.waits (h : RG w b D s M) (t : Int) : Calls Try.prog 36 #[.pointer (some ⟨s, 0, none⟩), .int .i64 t] w fun e w' => e = .returned (.int .i64 (waitsOf M.T t)) ∧ w' = w := by
  obtain ⟨vb, vo, vw, V, hg, ho⟩ := h
  exact rwaits_ok hg t
theorem RG.held (h : RG w b D s M) (t : Int) : Calls Try.prog 38 #[.pointer (some ⟨s, 0, none⟩), .int .i64 t] w fun e w' => ∃ v, e = .returned v ∧ IL w' w.heap.size v (heldA M.T M.L t) ∧ Below w.heap.size w w' := by
  obtain ⟨vb, vo, vw, V, hg, ho⟩ := h
  exact rheld_ok hg t
theorem RG.waiters (h : RG w b D s M) (m : Int) : Calls Try.prog 40 #[.pointer (some ⟨s, 0, none⟩), .int .i64 m] w fun e w' => ∃ v, e = .returned v ∧ IL w' w.heap.size v ((waitersOf M.L m).map (fun (t : Nat) => (t : Int))) ∧ Below w.heap.size w w' := by
  obtain ⟨vb, vo, vw, V, hg, ho⟩ := h
  exact rwaiters_ok hg m
end
theorem rgnew_ok (n m : Nat) (w : World) (h1 : 1 ≤ n) (h2 : n ≤ 1024) (h3 : m ≤ 32) :
    Calls Try.prog 34 #[.int .i64 n, .int .i64 m] w fun e w' => ∃ s D, e = .returned (.pointer (some ⟨s, 0, none⟩)) ∧ RG w' w.heap.size D s (newM n m) ∧ Below w.heap.size w w' := by
  refine (rnew_ok n m w h1 h2 h3).mono ?_
  rintro e w' ⟨s, vb, vo, vw, V, rfl, hr, hb⟩
  exact ⟨s, _, rfl, ⟨_, _, _, _, hr, fun k => Iff.rfl⟩, hb⟩
/-- Both are the same model, and lie apart. -/
structure Both (w : World) (b : Nat) (O D : Nat → Prop) (g r : Nat) (M : Md) : Prop where
  p : PG w b O g M
  r : RG w b D r M
  ap : ∀ k, O k → ¬ D k
def Bo (w : World) (b g r : Nat) (M : Md) : Prop := ∃ O D, Both w b O D g r M
section
variable {w w' w'' : World} {b g r : Nat} {O D : Nat → Prop} {M M' : Md}
theorem Both.below (h : Both w b O D g r M) (hb : Below w.heap.size w w') : Both w' b O D g r M := ⟨h.p.below hb, h.r.below hb, h.ap⟩
theorem Both.first (h : Both w b O D g r M) {O' : Nat → Prop} (hp : PG w' b O' g M') (hf : Fr O w w') (hn : ∀ k, O' k → O k ∨ w.heap.size ≤ k) : RG w' b D r M ∧ ∀ k, O' k → ¬ D k := by
  refine ⟨h.r.frame hf (fun k hk hs => h.ap k hs hk), fun k hk hd => ?_⟩
  rcases hn k hk with q | q
  · exact h.ap k q hd
  · have := h.r.lt hd; omega
/-- The program's call, then the document's. -/
theorem Both.step (h : Both w b O D g r M) (hp : Stp w w' b O g M') (hr : ∀ D0, RG w' b D0 r M → (∀ k, D0 k ↔ D k) → StR w' w'' b D0 r M') : ∃ O' D', Both w'' b O' D' g r M' ∧ Fr (fun k => O k ∨ D k) w w'' ∧ ∀ k, O' k ∨ D' k → O k ∨ D k ∨ w.heap.size ≤ k := by
  obtain ⟨O', hp', hf, hn⟩ := hp
  obtain ⟨h1, h2⟩ := h.first hp' hf hn
  obtain ⟨D', hr', hf', hn'⟩ := hr D h1 (fun _ => Iff.rfl)
  refine ⟨O', D', ⟨hp'.frame hf' h2, hr', fun k hk hd => ?_⟩, ?_, ?_⟩
  · rcases hn' k hd with q | q
    · exact h2 k hk q
    · have := hp'.lt hk; omega
  · exact (hf.wide (fun _ _ q => .inl q)).trans (hf'.wide (fun _ _ q => .inr q))
  · rintro k (q | q)
    · exact (hn k q).imp id .inr
    · rcases hn' k q with q' | q'
      · exact .inr (.inl q')
      · exact .inr (.inr (Nat.le_trans hf.size q'))
end
end Go.Proofs.Ytbhkgbhgofefjaa
