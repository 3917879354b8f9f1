/- A deed on both. -/
import Derived.Test.YtbhkgbhgofefjaaR11
import Derived.Test.YtbhkgbhgofefjaaI36
namespace Go.Proofs.Ytbhkgbhgofefjaa
open Go.RowKit
set_option linter.unusedVariables false
/-- The model behind a deed. -/
noncomputable def doM (M : Md) (x : Dp) : Md := if x.k = 0 then (lockR M x.p x.i).2 else if x.k = 1 then (unlR M x.p x.i).2 else if x.k = 2 then (baseR M x.p x.ky).2 else M
/-- Both behind a call that may change them. -/
def Gone (w w' : World) (b : Nat) (O D : Nat → Prop) (g r : Nat) (M : Md) : Prop := ∃ O' D', Both w' b O' D' g r M ∧ Fr (fun k => O k ∨ D k) w w' ∧ ∀ k, O' k ∨ D' k → O k ∨ D k ∨ w.heap.size ≤ k
section
variable {w w' w'' : World} {b g r : Nat} {O D : Nat → Prop} {M M' : Md}
theorem Both.lt (h : Both w b O D g r M) {k : Nat} (hk : O k ∨ D k) : k < w.heap.size := by
  rcases hk with q | q
  · exact h.p.lt q
  · exact h.r.lt q
theorem Both.ge (h : Both w b O D g r M) {k : Nat} (hk : O k ∨ D k) : b ≤ k := by
  rcases hk with q | q
  · exact h.p.ge q
  · exact h.r.ge q
theorem Gone.from (hb : Below w.heap.size w w') (h : Gone w' w'' b O D g r M) : Gone w w'' b O D g r M := by
  obtain ⟨O', D', h1, h2, h3⟩ := h
  refine ⟨O', D', h1, (Fr.of_below' hb).trans h2, fun k hk => ?_⟩
  rcases h3 k hk with q | q | q
  · exact .inl q
  · exact .inr (.inl q)
  · exact .inr (.inr (Nat.le_trans hb.size q))
theorem Gone.on (h : Gone w w' b O D g r M) (hb : Below w'.heap.size w' w'') : Gone w w'' b O D g r M := by
  obtain ⟨O', D', h1, h2, h3⟩ := h
  exact ⟨O', D', h1.below hb, h2.trans (Fr.of_below' hb), h3⟩
/-- What holds between the two calls of a deed. -/
structure Mid (w0 w1 : World) (b nb : Nat) (O D : Nat → Prop) (g r : Nat) (M M' : Md) (x : Dp) : Prop where
  st : Stp w0 w1 b O g M'
  db : DB w1 nb x
theorem Mid.ref (h : Both w b O D g r M) {nb : Nat} {x : Dp} (hm : Mid w w' b nb O D g r M M' x) : RG w' b D r M := by
  obtain ⟨O', hp', hf, hn⟩ := hm.st
  exact (h.first hp' hf hn).1
theorem Mid.fin (h : Both w b O D g r M) {nb : Nat} {x : Dp} (hm : Mid w w' b nb O D g r M M' x) (hr : StR w' w'' b D r M') : Gone w w'' b O D g r M' := by
  obtain ⟨O', D', h1, h2, h3⟩ := h.step hm.st (w'' := w'') (fun D0 _ he => by
    have : D0 = D := funext (fun k => propext (he k))
    rw [this]
    exact hr)
  exact ⟨O', D', h1, h2, h3⟩
theorem Mid.dbr {nb : Nat} {x : Dp} (hm : Mid w w' b nb O D g r M M' x) (hs : StR w' w'' b D r M') (hn : ¬ D nb) : DB w'' nb x := by
  obtain ⟨_, _, hf, _⟩ := hs
  exact hm.db.fr hf hn
theorem PG.drew {s : Nat} (h : PG w b O s M) : PG w.drew b O s M := by
  obtain ⟨vt, vl, V, hg, ho⟩ := h
  exact ⟨vt, vl, V, hg.drew, ho⟩
set_option maxHeartbeats 2000000 in
theorem do_lock (h : Both w b O D g r M) (xp xi : Int) (xe : Bool) (xd xl : Int) : Calls Try.prog 30 #[.pointer (some ⟨g, 0, none⟩), .pointer (some ⟨r, 0, none⟩), .agg #[.int .i64 0, .int .i64 xp, .int .i64 xi, .bool xe, .int .u64 xd, .int .u8 xl]] w fun e w' => e = .returned (.bool true) ∧ Gone w w' b O D g r (lockR M xp xi).2 := by
  have hb0 : Below w.heap.size w (w.alloc (.cells #[.int .i64 0, .int .i64 xp, .int .i64 xi, .bool xe, .int .u64 xd, .int .u8 xl] 38)) := (Below.refl _ _).alloc (Nat.le_refl _) _
  have hd0 : DB (w.alloc (.cells #[.int .i64 0, .int .i64 xp, .int .i64 xi, .bool xe, .int .u64 xd, .int .u8 xl] 38)) w.heap.size (⟨0, xp, xi, xe, xd, xl⟩ : Dp) := World.alloc_heap_new w _
  have h0 := h.below hb0
  have hnO : ¬ O w.heap.size := fun q => by have := h.p.lt q; omega
  have HB0 := veil hb0
  have HH := veil h0
  have hmid : ∀ (M' : Md) w1, Stp (w.alloc (.cells #[.int .i64 0, .int .i64 xp, .int .i64 xi, .bool xe, .int .u64 xd, .int .u8 xl] 38)) w1 b O g M' → Mid (w.alloc (.cells #[.int .i64 0, .int .i64 xp, .int .i64 xi, .bool xe, .int .u64 xd, .int .u8 xl] 38)) w1 b w.heap.size O D g r M M' (⟨0, xp, xi, xe, xd, xl⟩ : Dp) := fun M' w1 hs => ⟨hs, by obtain ⟨_, _, hf, _⟩ := hs; exact hd0.fr hf hnO⟩
  have HMID := veil hmid
  have HP := veil (h0.p.lock xp xi)
  have HR := veil (fun w1 (hr : RG w1 b D r M) => hr.lock xp xi)
  generalize lockR M xp xi = R at HP HR
  clear h h0 hb0 hd0 hmid
  go_enter Try.func30, Try.ntmps30
  go_wp2_with (first
    | (go_at_call 28; refine (HP.out).mono ?_; rintro e w1 ⟨rfl, hs⟩; have hm := HMID.out _ w1 hs; obtain ⟨d0, d1, d2, d3, d4, d5⟩ := hm.db.cells; replace hm := veil hm; clear hs)
    | (go_at_call 55; refine (HR.out _ (Mid.ref HH.out hm.out)).mono ?_; rintro e w2 ⟨rfl, hs⟩; have HS := veil hs; clear hs))
  go_ret
  exact ⟨by simp, (Mid.fin HH.out hm.out HS.out).from HB0.out⟩
set_option maxHeartbeats 2000000 in
theorem do_unlock (h : Both w b O D g r M) (xp xi : Int) (xe : Bool) (xd xl : Int) : Calls Try.prog 30 #[.pointer (some ⟨g, 0, none⟩), .pointer (some ⟨r, 0, none⟩), .agg #[.int .i64 1, .int .i64 xp, .int .i64 xi, .bool xe, .int .u64 xd, .int .u8 xl]] w fun e w' => e = .returned (.bool true) ∧ Gone w w' b O D g r (unlR M xp xi).2 := by
  have hb0 : Below w.heap.size w (w.alloc (.cells #[.int .i64 1, .int .i64 xp, .int .i64 xi, .bool xe, .int .u64 xd, .int .u8 xl] 38)) := (Below.refl _ _).alloc (Nat.le_refl _) _
  have hd0 : DB (w.alloc (.cells #[.int .i64 1, .int .i64 xp, .int .i64 xi, .bool xe, .int .u64 xd, .int .u8 xl] 38)) w.heap.size (⟨1, xp, xi, xe, xd, xl⟩ : Dp) := World.alloc_heap_new w _
  have h0 := h.below hb0
  have hnO : ¬ O w.heap.size := fun q => by have := h.p.lt q; omega
  have HB0 := veil hb0
  have HH := veil h0
  have hmid : ∀ (M' : Md) w1, Stp (w.alloc (.cells #[.int .i64 1, .int .i64 xp, .int .i64 xi, .bool xe, .int .u64 xd, .int .u8 xl] 38)) w1 b O g M' → Mid (w.alloc (.cells #[.int .i64 1, .int .i64 xp, .int .i64 xi, .bool xe, .int .u64 xd, .int .u8 xl] 38)) w1 b w.heap.size O D g r M M' (⟨1, xp, xi, xe, xd, xl⟩ : Dp) := fun M' w1 hs => ⟨hs, by obtain ⟨_, _, hf, _⟩ := hs; exact hd0.fr hf hnO⟩
  have HMID := veil hmid
  have HP := veil (h0.p.unlock xp xi)
  have HR := veil (fun w1 (hr : RG w1 b D r M) => hr.unlock xp xi)
  generalize unlR M xp xi = R at HP HR
  clear h h0 hb0 hd0 hmid
  go_enter Try.func30, Try.ntmps30
  go_wp2_with (first
    | (go_at_call 26; refine (HP.out).mono ?_; rintro e w1 ⟨rfl, hs⟩; have hm := HMID.out _ w1 hs; obtain ⟨d0, d1, d2, d3, d4, d5⟩ := hm.db.cells; replace hm := veil hm; clear hs)
    | (go_at_call 56; refine (HR.out _ (Mid.ref HH.out hm.out)).mono ?_; rintro e w2 ⟨rfl, hs⟩; have HS := veil hs; clear hs))
  go_ret
  exact ⟨by simp, (Mid.fin HH.out hm.out HS.out).from HB0.out⟩
set_option maxHeartbeats 2000000 in
theorem do_base (h : Both w b O D g r M) (xp xi : Int) (xe : Bool) (xd xl : Int) (hk : (⟨xe, xd, xl⟩ : K).ok) : Calls Try.prog 30 #[.pointer (some ⟨g, 0, none⟩), .pointer (some ⟨r, 0, none⟩), .agg #[.int .i64 2, .int .i64 xp, .int .i64 xi, .bool xe, .int .u64 xd, .int .u8 xl]] w fun e w' => e = .returned (.bool true) ∧ Gone w w' b O D g r (baseR M xp ⟨xe, xd, xl⟩).2 := by
  have hb0 : Below w.heap.size w (w.alloc (.cells #[.int .i64 2, .int .i64 xp, .int .i64 xi, .bool xe, .int .u64 xd, .int .u8 xl] 38)) := (Below.refl _ _).alloc (Nat.le_refl _) _
  have hd0 : DB (w.alloc (.cells #[.int .i64 2, .int .i64 xp, .int .i64 xi, .bool xe, .int .u64 xd, .int .u8 xl] 38)) w.heap.size (⟨2, xp, xi, xe, xd, xl⟩ : Dp) := World.alloc_heap_new w _
  have h0 := h.below hb0
  have hnO : ¬ O w.heap.size := fun q => by have := h.p.lt q; omega
  have HB0 := veil hb0
  have HH := veil h0
  have hmid : ∀ (M' : Md) w1, Stp (w.alloc (.cells #[.int .i64 2, .int .i64 xp, .int .i64 xi, .bool xe, .int .u64 xd, .int .u8 xl] 38)) w1 b O g M' → Mid (w.alloc (.cells #[.int .i64 2, .int .i64 xp, .int .i64 xi, .bool xe, .int .u64 xd, .int .u8 xl] 38)) w1 b w.heap.size O D g r M M' (⟨2, xp, xi, xe, xd, xl⟩ : Dp) := fun M' w1 hs => ⟨hs, by obtain ⟨_, _, hf, _⟩ := hs; exact hd0.fr hf hnO⟩
  have HMID := veil hmid
  have HP := veil (h0.p.drew.base xp ⟨xe, xd, xl⟩ hk)
  have HR := veil (fun w1 (hr : RG w1 b D r M) => hr.base xp ⟨xe, xd, xl⟩ hk)
  generalize baseR M xp ⟨xe, xd, xl⟩ = R at HP HR
  obtain ⟨c0, c1, c2, c3, c4, c5⟩ := hd0.cells
  have HC := veil (And.intro c1 (And.intro c3 (And.intro c4 c5)))
  have HCd : Hid ((w.alloc (.cells #[.int .i64 2, .int .i64 xp, .int .i64 xi, .bool xe, .int .u64 xd, .int .u8 xl] 38)).drew.cell? ⟨w.heap.size, 1, none⟩ = some (.int .i64 xp) ∧ (w.alloc (.cells #[.int .i64 2, .int .i64 xp, .int .i64 xi, .bool xe, .int .u64 xd, .int .u8 xl] 38)).drew.cell? ⟨w.heap.size, 3, none⟩ = some (.bool xe) ∧ (w.alloc (.cells #[.int .i64 2, .int .i64 xp, .int .i64 xi, .bool xe, .int .u64 xd, .int .u8 xl] 38)).drew.cell? ⟨w.heap.size, 4, none⟩ = some (.int .u64 xd) ∧ (w.alloc (.cells #[.int .i64 2, .int .i64 xp, .int .i64 xi, .bool xe, .int .u64 xd, .int .u8 xl] 38)).drew.cell? ⟨w.heap.size, 5, none⟩ = some (.int .u8 xl)) := ⟨c1, c3, c4, c5⟩
  have HST : Hid (∀ M' w1, Stp (w.alloc (.cells #[.int .i64 2, .int .i64 xp, .int .i64 xi, .bool xe, .int .u64 xd, .int .u8 xl] 38)).drew w1 b O g M' → Stp (w.alloc (.cells #[.int .i64 2, .int .i64 xp, .int .i64 xi, .bool xe, .int .u64 xd, .int .u8 xl] 38)) w1 b O g M') := fun M' w1 ⟨O', q1, q2, q3⟩ => ⟨O', q1, ⟨q2.os, q2.tape, q2.output, q2.size, q2.block⟩, q3⟩
  have HND : Hid (¬ D w.heap.size) := fun q => by have := h.r.lt q; omega
  clear h h0 hb0 hd0 hmid c0 c1 c2 c3 c4 c5
  go_enter Try.func30, Try.ntmps30
  go_wp2
  go_region_held3 (fun w' => (w'.cell? ⟨w.heap.size, 1, none⟩ = some (.int .i64 xp) ∧ w'.cell? ⟨w.heap.size, 3, none⟩ = some (.bool xe) ∧ w'.cell? ⟨w.heap.size, 4, none⟩ = some (.int .u64 xd) ∧ w'.cell? ⟨w.heap.size, 5, none⟩ = some (.int .u8 xl)))
    (first | with_reducible exact HC.out | with_reducible exact HCd.out | with_reducible exact HC2.out | with_reducible exact HC1.out)
    (first
      | (go_at_call 21; refine (HP.out).mono ?_; rintro e w1 ⟨rfl, hs⟩; have hm := HMID.out _ w1 (HST.out _ _ hs); obtain ⟨d0, d1, d2, d3, d4, d5⟩ := hm.db.cells; have HC1 := veil (And.intro d1 (And.intro d3 (And.intro d4 d5))); have HDB := veil hm.db; replace hm := veil hm; clear hs)
      | (go_at_call 22; refine (HR.out _ (Mid.ref HH.out hm.out)).mono ?_; rintro e w2 ⟨rfl, hs⟩; have HS := veil hs; obtain ⟨e0, e1, e2, e3, e4, e5⟩ := (Mid.dbr hm.out hs HND.out).cells; have HC2 := veil (And.intro e1 (And.intro e3 (And.intro e4 e5))); clear hs))
  all_goals go_wp2
  all_goals go_ret
  all_goals exact ⟨by simp, (Mid.fin HH.out hm.out HS.out).from HB0.out⟩
theorem do_ok (h : Both w b O D g r M) (x : Dp) (hx : x.ok) : Calls Try.prog 30 #[.pointer (some ⟨g, 0, none⟩), .pointer (some ⟨r, 0, none⟩), .agg #[.int .i64 x.k, .int .i64 x.p, .int .i64 x.i, .bool x.e, .int .u64 x.d, .int .u8 x.l]] w fun e w' => e = .returned (.bool true) ∧ Gone w w' b O D g r (doM M x) := by
  have hkk := hx.k
  obtain ⟨xk, xp, xi, xe, xd, xl⟩ := x
  unfold doM
  dsimp only
  by_cases k0 : xk = 0
  · subst k0
    rw [if_pos rfl]
    exact do_lock h xp xi xe xd xl
  · rw [if_neg k0]
    by_cases k1 : xk = 1
    · subst k1
      rw [if_pos rfl]
      exact do_unlock h xp xi xe xd xl
    · rw [if_neg k1]
      by_cases k2 : xk = 2
      · subst k2
        rw [if_pos rfl]
        exact do_base h xp xi xe xd xl hkk
      · rw [if_neg k2]
        have hb0 : Below w.heap.size w (w.alloc (.cells #[.int .i64 xk, .int .i64 xp, .int .i64 xi, .bool xe, .int .u64 xd, .int .u8 xl] 38)) := (Below.refl _ _).alloc (Nat.le_refl _) _
        have hG : Gone (w.alloc (.cells #[.int .i64 xk, .int .i64 xp, .int .i64 xi, .bool xe, .int .u64 xd, .int .u8 xl] 38)) (w.alloc (.cells #[.int .i64 xk, .int .i64 xp, .int .i64 xi, .bool xe, .int .u64 xd, .int .u8 xl] 38)) b O D g r M := ⟨O, D, h.below hb0, Fr.refl _ _, fun k q => q.elim .inl (fun q => .inr (.inl q))⟩
        have HG := veil (hG.from hb0)
        clear h hb0 hG hkk hx
        go_enter Try.func30, Try.ntmps30
        go_wp2
        go_ret
        exact ⟨rfl, HG.out⟩
end
end Go.Proofs.Ytbhkgbhgofefjaa
