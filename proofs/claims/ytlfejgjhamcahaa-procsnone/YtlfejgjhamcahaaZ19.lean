/-
  Change, Remove in all their cases; Best, Take, List of any number.
-/
import Derived.Test.YtlfejgjhamcahaaZ18
namespace Go.Proofs.Ytlfejgjhamcahaa
open Go.RowKit Go.Lib
set_option linter.unusedVariables false
attribute [local go_sem ↓] Go.wp_at_zero Go.wp_at_succ

theorem wf_i64 {i : Int} (h : -9223372036854775808 ≤ i ∧ i ≤ 9223372036854775807) : (Lit.int .i64 i).wf = true := by
  have h1 : IntKind.i64.min = -9223372036854775808 := by decide
  have h2 : IntKind.i64.max = 9223372036854775807 := by decide
  simp [Lit.wf, h1, h2]
  omega
section
variable {w w' wa wb : World} {base lo pb mb n np q T g cap : Nat} {v : Value} {H : List Hd}
set_option maxHeartbeats 2000000 in
set_option maxRecDepth 20000 in
theorem pchange_in (h : IsQ w base lo pb mb n np q v T H) (hT : T ≤ 1000) (id : Int) (k : Ke.K) (hk : k.ok) {i : Nat} {x : Hd} (hx : H[i]? = some x)
    (hs : ∀ W, IsP W base lo pb mb n np q v H → Calls Try.prog 57 #[.pointer (some ⟨pb, 0, none⟩), .int .i64 id] W fun e w' => e = .returned (.pointer (some ⟨x.sb, 0, none⟩)) ∧ Below W.heap.size W w') :
    Calls Try.prog 29 #[.pointer (some ⟨pb, 0, none⟩), .int .i64 id, .agg #[.bool k.e, .int .u64 k.d, .int .u8 k.l]] w fun e w' => e = .returned (.int .i64 (chgC n x.M id k)) ∧ (∃ t, t ≤ x.turn + 1 ∧ (x.to t (chgL n x.M id k)).is w' n (moP np n q i)) ∧ Fr x.own w w' := by
  have HX := veil (boxP h k)
  have hA0 : Below (w.heap.size + 1) (w.alloc (.cells #[.bool k.e, .int .u64 k.d, .int .u8 k.l] 25)) (w.alloc (.cells #[.bool k.e, .int .u64 k.d, .int .u8 k.l] 25)) := Below.refl _ _
  have HA := veil hA0
  obtain ⟨hQ0, ⟨k0, k1, k2⟩, hz0, hw0⟩ := boxP h k _ hA0
  have HSET : Hid (∀ W, Below (w.heap.size + 1) (w.alloc (.cells #[.bool k.e, .int .u64 k.d, .int .u8 k.l] 25)) W → Calls Try.prog 57 #[.pointer (some ⟨pb, 0, none⟩), .int .i64 id] W fun e w' => e = .returned (.pointer (some ⟨x.sb, 0, none⟩)) ∧ Below (w.heap.size + 1) (w.alloc (.cells #[.bool k.e, .int .u64 k.d, .int .u8 k.l] 25)) w') := fun W hW => by
    obtain ⟨hQ, _, hz, _⟩ := boxP h k W hW
    refine (hs W hQ.p).mono ?_
    rintro e w' ⟨rfl, hb⟩
    exact ⟨rfl, hW.trans (hb.mono hz)⟩
  have HCHG : Hid (∀ W, Below (w.heap.size + 1) (w.alloc (.cells #[.bool k.e, .int .u64 k.d, .int .u8 k.l] 25)) W → Calls Try.prog 58 #[.pointer (some ⟨x.sb, 0, none⟩), .int .i64 id, .agg #[.bool k.e, .int .u64 k.d, .int .u8 k.l]] W fun e w' => e = .returned (.int .i64 (chgC n x.M id k)) ∧ (w'.cell? ⟨w.heap.size, 0, none⟩ = some (.bool k.e) ∧ w'.cell? ⟨w.heap.size, 1, none⟩ = some (.int .u64 k.d) ∧ w'.cell? ⟨w.heap.size, 2, none⟩ = some (.int .u8 k.l)) ∧ (∃ t, t ≤ x.turn + 1 ∧ (x.to t (chgL n x.M id k)).is w' n (moP np n q i)) ∧ Fr x.own w w') := fun W hW => by
    obtain ⟨hQ, ⟨k0, k1, k2⟩, hz, hb⟩ := boxP h k W hW
    have hbl := (h.p.sets.it i x hx).blocks
    have nb : ¬ x.own w.heap.size := fun q => by have := hbl _ q; omega
    refine (schange_all (hQ.p.sets.it i x hx) (by have := h.tn i x hx; omega) id k hk).mono ?_
    rintro e w1 ⟨rfl, ht, hf⟩
    have hf' : Fr x.own W w1 := hf
    exact ⟨rfl, ⟨(hf'.cell (a := ⟨w.heap.size, 0, none⟩) (by show w.heap.size < _; omega) nb).trans k0, (hf'.cell (a := ⟨w.heap.size, 1, none⟩) (by show w.heap.size < _; omega) nb).trans k1, (hf'.cell (a := ⟨w.heap.size, 2, none⟩) (by show w.heap.size < _; omega) nb).trans k2⟩, ht, (Fr.of_below' hb).trans hf'⟩
  generalize chgC n x.M id k = cc at *
  clear h hQ0 hA0 hs hx hw0
  go_enter Try.func29, Try.ntmps29
  go_wp2
  go_region_held3 (fun w' => w'.cell? ⟨w.heap.size, 0, none⟩ = some (.bool k.e) ∧ w'.cell? ⟨w.heap.size, 1, none⟩ = some (.int .u64 k.d) ∧ w'.cell? ⟨w.heap.size, 2, none⟩ = some (.int .u8 k.l))
    (first
      | exact S3.out
      | exact ⟨k10, k11, k12⟩
      | go_keep)
    (first
      | (go_at_call 57; refine (HSET.out _ (by exact below_post HA.out rfl rfl rfl rfl)).mono ?_; rintro e w1 ⟨rfl, hb1⟩; have HB1 := veil hb1; obtain ⟨hQ1, ⟨k10, k11, k12⟩, hz1, _⟩ := HX.out _ HB1.out; clear hQ1 hb1)
      | (go_at_call 58; refine (HCHG.out _ (by exact below_post HB1.out rfl rfl rfl rfl)).mono ?_; rintro e w3 ⟨rfl, hs3, ht3, hf3⟩; have S3 := veil hs3; have HT3 := veil ht3; have HF3 := veil hf3; clear hs3 ht3 hf3))
  go_wp2
  go_ret
  exact ⟨rfl, HT3.out, HF3.out⟩
theorem chgL_has (n : Nat) (M : List En) (id : Int) (k : Ke.K) (j : Nat) : (keyOf (chgL n M id k) j).isSome = (keyOf M j).isSome := by
  unfold chgL
  split
  · rename_i hc
    split
    · rfl
    · rw [Bool.eq_iff_iff, has_put, has_cut]
      have hs : (keyOf M id.toNat).isSome = true := by
        unfold chgC at hc
        split at hc
        · cases hc
        · split at hc
          · assumption
          · cases hc
      constructor
      · rintro (rfl | q)
        · exact hs
        · exact q.2
      · intro q
        by_cases e : j = id.toNat
        · exact .inl e
        · exact .inr ⟨e, q⟩
  · rfl
theorem chgL_len (n : Nat) {M : List En} (hn : (M.map (·.1)).Nodup) (id : Int) (k : Ke.K) : (chgL n M id k).length = M.length := by
  unfold chgL
  split
  · rename_i hc
    split
    · rfl
    · unfold chgC at hc
      split at hc
      · cases hc
      · split at hc
        · rename_i hs
          obtain ⟨k', hk'⟩ := Option.isSome_iff_exists.1 hs
          have := len_cut hn ((keyOf_some hn).1 hk')
          rw [len_put]
          omega
        · cases hc
  · rfl
/-- One place's set holds the same ids as before: what is left. -/
theorem Leaves.kept (h : IsQ w base lo pb mb n np q v T H) {i : Nat} {x : Hd} (hx : H[i]? = some x) {M : List En} (hi : ∀ j, (keyOf M j).isSome = (keyOf x.M j).isSome) (hl : M.length = x.M.length) (ht : ∃ t, t ≤ x.turn + 1 ∧ (x.to t M).is w' n (moP np n q i)) (hf : Fr x.own w w') : Leaves w w' base lo pb mb n np q v T H ((Ms H).set i M) := by
  obtain ⟨t, ht, hy⟩ := ht
  obtain ⟨u1, u2⟩ := where_same (n := n) (y := x.to t M) h.un hx hi
  have hs := sumH_set (y := x.to t M) hx
  have e : sumH (H.set i (x.to t M)) = sumH H := by
    have : (x.to t M).M.length = M.length := rfl
    omega
  have hsep := h.p.sep i x hx
  obtain ⟨a, b⟩ := h.turned hx ht hf hy (Fr.refl _ _) u1 (by
    rw [u2, e]
    exact h.p.map.block (hf.block _ h.p.map.lt (fun q => (hsep mb q).2.2 rfl)))
  exact Leaves.put h hx a b rfl
theorem set_same {G : List (List En)} {i : Nat} {M : List En} (h : G[i]? = some M) : G.set i M = G := by
  apply List.ext_getElem?
  intro j
  rw [List.getElem?_set]
  split
  · rename_i e
    subst e
    split
    · exact h.symm
    · rename_i q
      exact absurd (List.getElem?_eq_some_iff.1 h).1 q
  · rfl
theorem where_at (h : IsQ w base lo pb mb n np q v T H) {id c : Int} (hw : whereF n H 0 id = some c) : ∃ (i : Nat) (x : Hd), H[i]? = some x ∧ c = (i : Int) ∧ aOf n H id = i ∧ MM H i = x.M ∧ 0 ≤ id ∧ id < (n : Int) ∧ (keyOf x.M id.toNat).isSome = true := by
  obtain ⟨i, x, hx, hc, h1, h2, h3⟩ := whereF_inv n id H 0 c hw
  refine ⟨i, x, hx, by omega, ?_, MM_at hx, h1, h2, h3⟩
  unfold aOf
  rw [hw]
  simp only [Option.getD_some]
  omega
theorem pchange_all (h : IsQ w base lo pb mb n np q v T H) (hT : T ≤ 1000) (id : Int) (wfi : (Lit.int .i64 id).wf = true) (k : Ke.K) (hk : k.ok) :
    Calls Try.prog 29 #[.pointer (some ⟨pb, 0, none⟩), .int .i64 id, .agg #[.bool k.e, .int .u64 k.d, .int .u8 k.l]] w fun e w' => e = .returned (.int .i64 (pchgC n H id k)) ∧ Leaves w w' base lo pb mb n np q v T H (pchgG n H id k) := by
  have hn1 := h.p.n1
  cases hw : whereF n H 0 id with
  | some c =>
    obtain ⟨i, x, hx, rfl, ha, hm, h1, h2, h3⟩ := where_at h hw
    have hc : pchgC n H id k = chgC n x.M id k := by unfold pchgC chgC; rw [hw, if_pos (show (some (i : Int)).isSome = true from rfl), if_pos h3]
    refine (pchange_in h hT id k hk hx (fun W hW => (pset_at hW id wfi i x hx hw).mono (by rintro e w' ⟨rfl, rfl⟩; exact ⟨rfl, Below.refl _ _⟩))).mono ?_
    rintro e w' ⟨rfl, ht, hf⟩
    refine ⟨by rw [hc], ?_⟩
    have hL := Leaves.kept h hx (chgL_has n x.M id k) (chgL_len n (IsS.nd (h.p.sets.it i x hx)) id k) ht hf
    have e : pchgG n H id k = (Ms H).set i (chgL n x.M id k) := by
      unfold pchgG
      rw [ha, hm, hc]
      split
      · rfl
      · rename_i q
        have : chgL n x.M id k = x.M := by unfold chgL; rw [if_neg q]
        rw [this, set_same (Ms_at hx)]
    rw [e]
    exact hL
  | none =>
    obtain ⟨x, hx⟩ := h.p.at (i := np) (by omega)
    have hko : ∀ j : Nat, id = (j : Int) → j < n → keyOf x.M j = none := fun j e hj => whereF_no (by rw [← e]; exact hw) hj hx
    have hc : pchgC n H id k = chgC n x.M id k := by
      unfold pchgC chgC
      rw [hw]
      by_cases hb : Bad n id k
      · rw [if_pos hb, if_pos hb]
      · rw [if_neg hb, if_neg hb]
        unfold Bad at hb
        simp only [not_or] at hb
        obtain ⟨j, rfl⟩ := Int.eq_ofNat_of_zero_le (show 0 ≤ id by omega)
        rw [show ((j : Int)).toNat = j from rfl, hko j rfl (by omega)]
        rfl
    have hne : ¬ pchgC n H id k = 0 := by
      unfold pchgC
      rw [hw]
      split
      · decide
      · simp
    refine (pchange_in h hT id k hk hx (fun W hW => pset_no hW id wfi x hx hw)).mono ?_
    rintro e w' ⟨rfl, ht, hf⟩
    refine ⟨by rw [hc], ?_⟩
    have hL := Leaves.kept h hx (chgL_has n x.M id k) (chgL_len n (IsS.nd (h.p.sets.it np x hx)) id k) ht hf
    have e : pchgG n H id k = (Ms H).set np (chgL n x.M id k) := by
      unfold pchgG
      rw [if_neg hne]
      have : chgL n x.M id k = x.M := by unfold chgL; rw [if_neg (by rw [← hc]; exact hne)]
      rw [this, set_same (Ms_at hx)]
    rw [e]
    exact hL
set_option maxHeartbeats 2000000 in
set_option maxRecDepth 20000 in
theorem premove_no (h : IsQ w base lo pb mb n np q v T H) (id : Int) (wfi : (Lit.int .i64 id).wf = true) (hw : whereF n H 0 id = none) :
    Calls Try.prog 30 #[.pointer (some ⟨pb, 0, none⟩), .int .i64 id] w fun e w' => e = .returned (.int .i64 (premC n H id)) ∧ Leaves w w' base lo pb mb n np q v T H (Ms H) := by
  obtain ⟨x, hx⟩ := h.p.at (i := np) (by omega)
  have hc : remC n x.M id = premC n H id ∧ ¬ premC n H id = 0 := by
    unfold premC remC
    rw [hw]
    by_cases hb : id < 0 ∨ (n : Int) ≤ id
    · rw [if_pos hb, if_pos hb]; decide
    · rw [if_neg hb, if_neg hb]
      obtain ⟨j, rfl⟩ := Int.eq_ofNat_of_zero_le (show 0 ≤ id by omega)
      rw [show ((j : Int)).toNat = j from rfl, whereF_no hw (by omega) hx]
      simp
  obtain ⟨hc1, hc2⟩ := hc
  have hl : remL n x.M id = x.M := by unfold remL; rw [if_neg (by rw [hc1]; exact hc2)]
  have HSET := veil (pset_no h.p id wfi x hx hw)
  have HREM : Hid (∀ W, Below w.heap.size w W → Calls Try.prog 59 #[.pointer (some ⟨x.sb, 0, none⟩), .int .i64 id] W fun e w' => e = .returned (.int .i64 (premC n H id)) ∧ Leaves w w' base lo pb mb n np q v T H (Ms H)) := fun W hW => by
    refine (sremove_all ((h.below hW).p.sets.it np x hx) id).mono ?_
    rintro e w1 ⟨rfl, ht, hf⟩
    rw [hl] at ht
    have hf' : Fr x.own w w1 := (Fr.of_below' hW).trans hf
    refine ⟨by rw [hc1], ?_⟩
    have := Leaves.kept h hx (fun _ => rfl) rfl ht hf'
    rw [set_same (Ms_at hx)] at this
    exact this
  generalize premC n H id = cc at *
  clear h hw hx hc1 hl
  go_enter Try.func30, Try.ntmps30
  go_wp2_with (first
    | (go_at_call 57; refine (HSET.out).mono ?_; rintro e w1 ⟨rfl, hb1⟩; have HB1 := veil hb1; clear hb1)
    | (go_at_call 59; refine (HREM.out _ HB1.out).mono ?_; rintro e w2 ⟨rfl, hL2⟩; have HL2 := veil hL2; clear hL2))
  go_ret
  exact ⟨rfl, HL2.out⟩
theorem premove_all (h : IsQ w base lo pb mb n np q v T H) (id : Int) (wfi : (Lit.int .i64 id).wf = true) :
    Calls Try.prog 30 #[.pointer (some ⟨pb, 0, none⟩), .int .i64 id] w fun e w' => e = .returned (.int .i64 (premC n H id)) ∧ Leaves w w' base lo pb mb n np q v T H (premG n H id) := by
  cases hw : whereF n H 0 id with
  | some c =>
    obtain ⟨i, x, hx, rfl, ha, hm, h1, h2, h3⟩ := where_at h hw
    obtain ⟨j, rfl⟩ := Int.eq_ofNat_of_zero_le h1
    have hc : premC n H (j : Int) = 0 := by unfold premC; rw [hw, if_neg (by omega)]; rfl
    have e : premG n H (j : Int) = (Ms H).set i (cut j x.M) := by unfold premG; rw [if_pos hc, ha, hm]; rfl
    rw [hc, e]
    refine (premove_at h j (by omega) hx h3).mono ?_
    rintro e w' ⟨rfl, t, hq, hf⟩
    exact ⟨rfl, Leaves.put h hx hq hf rfl⟩
  | none =>
    have hne : ¬ premC n H id = 0 := by
      unfold premC
      rw [hw]
      split
      · decide
      · simp
    have e : premG n H id = Ms H := by unfold premG; rw [if_neg hne]
    rw [e]
    exact premove_no h id wfi hw
theorem pbest_all (h : IsQ w base lo pb mb n np q v T H) (p d : Int) (hd : 0 ≤ d ∧ d < 18446744073709551616) :
    Calls Try.prog 17 #[.pointer (some ⟨pb, 0, none⟩), .int .i64 p, .int .u64 d] w fun e w' => e = .returned (.tuple #[.int .i64 (bI H (bb np H p d)), .agg #[.bool (bK H (bb np H p d)).e, .int .u64 (bK H (bb np H p d)).d, .int .u8 (bK H (bb np H p d)).l], .int .i64 (bA (bb np H p d)), .bool (bb np H p d).isSome]) ∧ Below w.heap.size w w' := by
  unfold bb
  by_cases hp : 0 ≤ p ∧ p < (np : Int)
  · rw [if_pos hp]
    obtain ⟨p, rfl⟩ := Int.eq_ofNat_of_zero_le hp.1
    obtain ⟨d, rfl⟩ := Int.eq_ofNat_of_zero_le hd.1
    obtain ⟨g, cap, rfl, _⟩ := h.p.rows
    exact pbest_ok h.p p d (by omega) (by omega)
  · rw [if_neg hp]
    refine pbest_no w _ p d (fun W hW => ?_)
    have := phas_ok (h.below hW).p p
    rw [decide_eq_false hp] at this
    exact this
end
end Go.Proofs.Ytlfejgjhamcahaa
