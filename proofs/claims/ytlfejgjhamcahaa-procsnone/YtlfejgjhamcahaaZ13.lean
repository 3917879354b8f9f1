/-
  Remove, Take; what New makes.
-/
import Derived.Test.YtlfejgjhamcahaaZ12
namespace Go.Proofs.Ytlfejgjhamcahaa
open Go.RowKit Go.Lib
set_option linter.unusedVariables false
attribute [local go_sem ↓] Go.wp_at_zero Go.wp_at_succ

theorem sumH_nil : ∀ {H : List Hd}, (∀ (i : Nat) (x : Hd), H[i]? = some x → x.M = []) → sumH H = 0
  | [], _ => rfl
  | h :: H, hh => by
    have h1 := hh 0 h rfl
    have := sumH_nil (H := H) (fun i x hx => hh (i + 1) x (by simpa using hx))
    simp only [sumH, List.map_cons, List.sum_cons, h1, List.length_nil] at this ⊢
    omega
theorem keyOf_nil (id : Nat) : keyOf [] id = none := rfl
/-- What New makes. -/
theorem Bld.isQ {w0 w : World} {n np q : Nat} {v : Value} {H : List Hd} (h : Bld w0 w n (moP np n q) v H) (hl : H.length = np + 1) (h1 : 1 ≤ n ∧ n ≤ 1024) (h2 : 1 ≤ np ∧ np ≤ 64) (h3 : 1 ≤ q ∧ q ≤ 256) : IsQ w (w0.heap.size + 2) (w0.heap.size + 2) (w0.heap.size + 1) w0.heap.size n np q v 0 H := by
  have hM : ∀ (i : Nat) (x : Hd), H[i]? = some x → x.M = [] := fun i x hx => (h.fresh i x hx).1
  have hvb := Dc.own_ge h.row
  have hw : whereF n H 0 = fun _ => none := funext fun id => whereF_none n id H 0 (fun i x hx _ => by rw [hM i x hx]; rfl)
  refine ⟨⟨h1, h2, h3, h.blk, h.row, hl, h.sets, ?_, fun i x hx k hk => ⟨h.sep i x hx k hk, ?_, ?_⟩, ⟨by omega, fun e => ?_, fun e => ?_⟩⟩, fun i j x y id hx hy h5 h6 => ?_, fun i x hx => by rw [(h.fresh i x hx).2]; exact Nat.le_refl _⟩
  · rw [hw, sumH_nil hM]; exact h.map
  · have := h.sets.low i x hx k hk; omega
  · have := h.sets.low i x hx k hk; omega
  · have := (hvb _ e).1; omega
  · have := (hvb _ e).1; omega
  · rw [hM i x hx] at h5; cases h5
section
variable {w w' wa wb : World} {base lo pb mb n np q T g cap : Nat} {v : Value} {H : List Hd}
/-- Remove of an id that stands at a place. -/
theorem rem_done (h : IsQ w base lo pb mb n np q v T H) {i : Nat} {x : Hd} (hx : H[i]? = some x) {id : Nat} (hk : (keyOf x.M id).isSome = true) (hw : whereF n H 0 (id : Int) = some (i : Int)) {t : Nat} (ht : t ≤ x.turn + 1)
    (hy : (x.to t (cut id x.M)).is wa n (moP np n q i)) (hf : Fr x.own w wa) (hg : wa.grownBy wb (some mb)) (hm : IsM wb mb (setF (whereF n H 0) (id : Int) none) (if (whereF n H 0 (id : Int)).isSome then sumH H - 1 else sumH H)) :
    IsQ wb base lo pb mb n np q v (T + 1) (H.set i (x.to t (cut id x.M))) ∧ Fr (fun k => k = mb ∨ x.own k) w wb := by
  obtain ⟨u1, u2⟩ := where_cut (n := n) (y := x.to t (cut id x.M)) h.un hx rfl hk
  refine h.turned hx ht hf hy ⟨hg.os, hg.tape, hg.output, hg.size, fun j hj hn => hg.block j hj (fun e => hn (Option.some.inj e))⟩ u1 ?_
  rw [u2]
  have hs := sumH_set (y := x.to t (cut id x.M)) hx
  obtain ⟨k, hkk⟩ := Option.isSome_iff_exists.1 hk
  have hc := len_cut (IsS.nd (h.p.sets.it i x hx)) ((keyOf_some (IsS.nd (h.p.sets.it i x hx))).1 hkk)
  have e : sumH (H.set i (x.to t (cut id x.M))) = sumH H - 1 := by
    have : (x.to t (cut id x.M)).M.length = (cut id x.M).length := rfl
    omega
  rw [e]
  rw [hw] at hm
  exact hm
set_option maxHeartbeats 4000000 in
set_option maxRecDepth 20000 in
theorem premove_at (h : IsQ w base lo pb mb n np q v T H) (id : Nat) (hi : id < n) {i : Nat} {x : Hd} (hx : H[i]? = some x) (hk : (keyOf x.M id).isSome = true) :
    Calls Try.prog 30 #[.pointer (some ⟨pb, 0, none⟩), .int .i64 (id : Int)] w fun e w' => e = .returned (.int .i64 0) ∧ ∃ t, IsQ w' base lo pb mb n np q v (T + 1) (H.set i (x.to t (cut id x.M))) ∧ Fr (fun k => k = mb ∨ x.own k) w w' := by
  have hn1 := h.p.n1
  have hw := whereF_some n H h.un i x hx id hi hk
  have wfi := wf_nat (i := id) (by omega)
  have HSET := veil (pset_at h.p (id : Int) wfi i x hx hw)
  have HDONE := veil (fun t ht wa wb a b c d => rem_done (wa := wa) (wb := wb) (t := t) h hx hk hw ht a b c d)
  have hrc : remC n x.M (id : Int) = 0 := by unfold remC; rw [if_neg (by omega), if_pos (by simpa using hk)]
  have hrl : remL n x.M (id : Int) = cut id x.M := by unfold remL; rw [if_pos hrc]; rfl
  have hsep := h.p.sep i x hx
  have HREM : Hid (Calls Try.prog 59 #[.pointer (some ⟨x.sb, 0, none⟩), .int .i64 (id : Int)] w fun e w' => e = .returned (.int .i64 0) ∧ (∃ t, t ≤ x.turn + 1 ∧ (x.to t (cut id x.M)).is w' n (moP np n q i)) ∧ Fr x.own w w' ∧ w'.cell? ⟨pb, 1, none⟩ = some (.map (some mb)) ∧ IsM w' mb (whereF n H 0) (sumH H)) := by
    refine (sremove_all (h.p.sets.it i x hx) (id : Int)).mono ?_
    rintro e w1 ⟨rfl, ⟨t, ht, hs⟩, hf⟩
    rw [hrl] at hs
    have hf' : Fr x.own w w1 := hf
    exact ⟨by rw [hrc], ⟨t, ht, hs⟩, hf', (hf'.cell (a := ⟨pb, 1, none⟩) h.p.pbl (fun q => (hsep pb q).2.1 rfl)).trans h.p.c1, h.p.map.block (hf'.block _ h.p.map.lt (fun q => (hsep mb q).2.2 rfl))⟩
  clear h hw hx hk hrc hrl hsep
  go_enter Try.func30, Try.ntmps30
  go_wp2_with (first
    | (go_at_call 57; refine (HSET.out).mono ?_; rintro e w1 ⟨rfl, hw1⟩; replace hw1 := hw1.symm; subst hw1)
    | (go_at_call 59; refine (HREM.out).mono ?_; rintro e w2 ⟨rfl, ⟨t, ht, hy2⟩, hf2, c21, hm2⟩; have HY2 := veil hy2; have HF2 := veil hf2; have HM2 := veil hm2; have HT := veil ht; clear hy2 hf2 hm2 ht)
    | (at_delete; refine wpList_delete_m rfl _ _ rfl (by exact HM2.out) (id : Int) wfi rfl rfl ?_; intro w3 hm3 hg3; have HD := veil (HDONE.out t HT.out _ _ HY2.out HF2.out (by exact hg3) hm3); clear hm3 hg3))
  go_ret
  exact ⟨rfl, t, HD.out⟩
end
end Go.Proofs.Ytlfejgjhamcahaa
