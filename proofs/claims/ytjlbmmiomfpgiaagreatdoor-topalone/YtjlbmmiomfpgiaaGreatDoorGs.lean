/- YtjlbmmiomfpgiaaGreatDoorGs: of the texts Bb1 Bb2 Bb3 Bb4 Bb5 Bb6 Bb7 what is wanted. -/
import Derived.Test.YtjlbmmiomfpgiaaGreatDoorGq
import Derived.ProofKit
import Derived.OpenShut
import Derived.Deep.Slices
import Derived.Deep.Strs
import Derived.ChangeOld
import Derived.ChangeSame
import Derived.Test.YtjlbmmiomfpgiaaGreatDoorGr
namespace Go.Proofs.YtjlbmmiomfpgiaaGreatDoor
set_option maxRecDepth 100000
open Go.RowKit Go.Lib
set_option linter.unusedVariables false
theorem nu_trans {a b c : Ke.K} (h : Ke.up a b = false) (k : Ke.up b c = false) : Ke.up a c = false := by
 obtain ⟨ae, ad, al⟩ := a
 obtain ⟨be, bd, bl⟩ := b
 obtain ⟨ce, cd, cl⟩ := c
 cases ae <;> cases be <;> cases ce <;> simp_all [Ke.up] <;> omega
theorem up_asy {a b : Ke.K} (h : Ke.up a b = true) : Ke.up b a = false := by
 obtain ⟨ae, ad, al⟩ := a
 obtain ⟨be, bd, bl⟩ := b
 cases ae <;> cases be <;> simp_all [Ke.up] <;> omega
theorem nu_refl (a : Ke.K) : Ke.up a a = false := by simp [Ke.up]
theorem bst_top (H : List Hd) : ∀ (l : List Nat) (b : Option Nat), (∀ c0, b = some c0 → ∃ c, l.foldl (bstep H) b = some c ∧ Ke.up (tkK (MM H c0)) (tkK (MM H c)) = false) ∧ ∀ x ∈ l, ∀ y M, MM H x = y :: M → ∃ c, l.foldl (bstep H) b = some c ∧ Ke.up y.2 (tkK (MM H c)) = false
 | [], b => ⟨fun c0 hc => ⟨c0, hc, nu_refl _⟩, fun x hx => by cases hx⟩
 | x :: l, b => by
  have A : ∀ c0, b = some c0 → ∃ c1, bstep H b x = some c1 ∧ Ke.up (tkK (MM H c0)) (tkK (MM H c1)) = false := by
   intro c0 hc
   subst hc
   unfold bstep
   cases hM : MM H x with
   | nil => exact ⟨c0, rfl, nu_refl _⟩
   | cons y M =>
    simp only
    cases hu : Ke.up y.2 (tkK (MM H c0)) with
    | true =>
     refine ⟨x, rfl, ?_⟩
     rw [hM]
     exact up_asy hu
    | false => exact ⟨c0, rfl, nu_refl _⟩
  have B : ∀ y M, MM H x = y :: M → ∃ c1, bstep H b x = some c1 ∧ Ke.up y.2 (tkK (MM H c1)) = false := by
   intro y M hM
   unfold bstep
   rw [hM]
   cases b with
   | none => exact ⟨x, rfl, by rw [hM]; exact nu_refl _⟩
   | some c0 =>
    simp only
    cases hu : Ke.up y.2 (tkK (MM H c0)) with
    | true => exact ⟨x, rfl, by rw [hM]; exact nu_refl _⟩
    | false => exact ⟨c0, rfl, hu⟩
  obtain ⟨i1, i2⟩ := bst_top H l (bstep H b x)
  refine ⟨fun c0 hc => ?_, fun z hz y M hM => ?_⟩
  ·obtain ⟨c1, e1, n1⟩ := A c0 hc
   obtain ⟨c, e2, n2⟩ := i1 c1 e1
   exact ⟨c, e2, nu_trans n1 n2⟩
  ·rcases List.mem_cons.1 hz with rfl | hz
   ·obtain ⟨c1, e1, n1⟩ := B y M hM
    obtain ⟨c, e2, n2⟩ := i1 c1 e1
    exact ⟨c, e2, nu_trans n1 n2⟩
   ·exact i2 z hz y M hM
theorem ords_mem {np p d x : Nat} (hp : p < np) (hx : x ≤ np) : x ∈ ords np p d := by
 unfold ords ordsU
 by_cases h1 : x = p
 ·rw [h1]; simp
 by_cases h2 : x = np
 ·rw [h2]; simp
 refine List.mem_cons_of_mem _ (List.mem_cons_of_mem _ (List.mem_filter.2 ⟨List.mem_map.2 ⟨(x + 2 * np - (p + 1 + d % np)) % np, List.mem_range.2 (Nat.mod_lt _ (by omega)), ?_⟩, by simpa using h1⟩))
 unfold plOf
 have hm : d % np < np := Nat.mod_lt _ (by omega)
 rw [Nat.add_mod_mod]
 have e : p + 1 + d % np + (x + 2 * np - (p + 1 + d % np)) = x + np * 2 := by omega
 rw [e, Nat.add_mul_mod_self_left]
 exact Nat.mod_eq_of_lt (by omega)
theorem gh_set (G : List (List En)) (c : Nat) (M : List En) : gh (G.set c M) = (gh G).set c ⟨0, 0, 0, 0, 0, 0, M⟩ := by unfold gh; rw [List.map_set]
theorem gh_at {G : List (List En)} {c : Nat} {x : Hd} (h : (gh G)[c]? = some x) : G[c]? = some x.M := by
 have := Ms_at h
 rw [Ms_gh] at this
 exact this
section
variable {w : World} {O : Nat → Prop} {pb n np q T : Nat} {G : List (List En)}
theorem PQ.nd (h : PQ w O pb n np q T G) {c : Nat} {x : Hd} (hx : (gh G)[c]? = some x) : (x.M.map (·.1)).Nodup ∧ (∀ y ∈ x.M, y.1 < n) ∧ ∀ y ∈ x.M, Ke.rightK y.2 = true := by
 obtain ⟨h1, h2, _, h4⟩ := h.at (gh_at hx)
 exact ⟨h1, h2, h4⟩
theorem PQ.took (h : PQ w O pb n np q T G) {p d : Int} {c : Nat} (hb : bb np (gh G) p d = some c) : ∃ z : En, bI (gh G) (some c) = (z.1 : Int) ∧ bK (gh G) (some c) = z.2 ∧ z.1 < n ∧ whereF n (gh (ptkG np (gh G) p d)) 0 (z.1 : Int) = none ∧ sumH (gh (ptkG np (gh G) p d)) + 1 = sumH (gh G) := by
 obtain ⟨_, _, x, z, M', hx, hM⟩ := bb_at hb
 obtain ⟨hnd, hrn, _⟩ := h.nd hx
 have e1 : bI (gh G) (some c) = (z.1 : Int) := by show tkI (MM (gh G) c) = _; rw [MM_at hx, hM]; rfl
 have e2 : bK (gh G) (some c) = z.2 := by show tkK (MM (gh G) c) = _; rw [MM_at hx, hM]; rfl
 have hg : ptkG np (gh G) p d = G.set c M' := by unfold ptkG; rw [hb, Ms_gh]; show G.set c (MM (gh G) c).tail = _; rw [MM_at hx, hM]; rfl
 have hcut : cut z.1 x.M = M' := by rw [hM]; exact cut_head (by rw [← hM]; exact hnd)
 have hzk : (keyOf x.M z.1).isSome = true := by rw [has_iff]; exact ⟨z, by rw [hM]; simp, rfl⟩
 rw [hg, gh_set]
 obtain ⟨_, u2⟩ := where_cut (n := n) (y := ⟨0, 0, 0, 0, 0, 0, M'⟩) h.un hx (id := z.1) hcut.symm hzk
 have hs := sumH_set (y := ⟨0, 0, 0, 0, 0, 0, M'⟩) hx
 refine ⟨z, e1, e2, hrn z (by rw [hM]; simp), ?_, ?_⟩
 ·rw [u2]
  unfold setF
  rw [if_pos rfl]
 ·have : x.M.length = M'.length + 1 := by rw [hM]; rfl
  simp only at hs
  omega
end
theorem gh_of {G : List (List En)} {i : Nat} {M : List En} (h : G[i]? = some M) : (gh G)[i]? = some ⟨0, 0, 0, 0, 0, 0, M⟩ := by unfold gh; rw [List.getElem?_map, h]; rfl
theorem bb_over {np : Nat} {G : List (List En)} {p d : Int} {c : Nat} (hl : G.length = np + 1) (hb : bb np (gh G) p d = some c) {i : Nat} {y : En} {M : List En} (hM : G[i]? = some (y :: M)) : Ke.up y.2 (tkK (MM (gh G) c)) = false := by
 obtain ⟨hp, h, _⟩ := bb_at hb
 have hil : i ≤ np := by have := (List.getElem?_eq_some_iff.1 hM).1; omega
 obtain ⟨_, t2⟩ := bst_top (gh G) (ords np p.toNat d.toNat) none
 obtain ⟨c', e1, n1⟩ := t2 i (ords_mem (by omega) hil) y M (MM_at (gh_of hM))
 have h' : (ords np p.toNat d.toNat).foldl (bstep (gh G)) none = some c := h
 rw [h'] at e1
 injection e1 with e1
 rw [e1]
 exact n1
theorem bb_any {np : Nat} {G : List (List En)} (hl : G.length = np + 1) {p : Int} (hp : 0 ≤ p ∧ p < (np : Int)) (d : Int) : (bb np (gh G) p d).isSome = decide (0 < sumH (gh G)) := by
 cases hb : bb np (gh G) p d with
 | some c =>
  obtain ⟨_, _, x, z, M', hx, hM⟩ := bb_at hb
  have hs := sumH_set (y := ⟨0, 0, 0, 0, 0, 0, []⟩) hx
  have e : x.M.length = M'.length + 1 := by rw [hM]; rfl
  simp only [List.length_nil] at hs
  exact (decide_eq_true (by omega)).symm
 | none =>
  refine (decide_eq_false (fun hpos => ?_)).symm
  have key : ∀ (i : Nat) (M : List En), G[i]? = some M → M = [] := fun i M hM => by
   cases M with
   | nil => rfl
   | cons y M =>
    exfalso
    have hil : i ≤ np := by have := (List.getElem?_eq_some_iff.1 hM).1; omega
    obtain ⟨_, t2⟩ := bst_top (gh G) (ords np p.toNat d.toNat) none
    obtain ⟨c', e1, _⟩ := t2 i (ords_mem (by omega) hil) y M (MM_at (gh_of hM))
    unfold bb at hb
    rw [if_pos hp] at hb
    unfold bst at hb
    rw [hb] at e1
    cases e1
  have := sumH_nil (H := gh G) (fun i x hx => key i x.M (gh_at hx))
  omega
def Falls (M : List En) : Prop := M.Pairwise (fun a b => Ke.up b.2 a.2 = false)
theorem falls_lev (R : List (Nat × Nat)) : ∀ k, Falls (lev R k)
 | 0 => List.Pairwise.nil
 | k + 1 => by
  unfold Falls
  rw [lev, List.pairwise_append]
  refine ⟨?_, falls_lev R k, ?_⟩
  ·refine List.Pairwise.imp_of_mem (R := fun _ _ => True) ?_ (List.pairwise_of_forall (fun _ _ => trivial))
   intro a b ha hb _
   rw [(mem_lvs.1 ha).2, (mem_lvs.1 hb).2, up_ff]
   simp
  ·intro a ha b hb
   obtain ⟨j, hj, _, e⟩ := mem_lev.1 hb
   rw [(mem_lvs.1 ha).2, e, up_ff]
   simp
   omega
theorem falls_dl (L : List Ph.Item) (h : Ph.Srt L) : Falls (dl L) := by
 unfold Falls dl
 rw [List.pairwise_map]
 refine List.Pairwise.imp ?_ h
 intro a b hab
 rw [up_dd]
 unfold Ph.ah at hab
 simp
 omega
theorem falls_all (R : List (Nat × Nat)) (L : List Ph.Item) (h : Ph.Srt L) : Falls (all R L) := by
 unfold Falls all
 rw [List.pairwise_append]
 refine ⟨falls_dl L h, falls_lev R 256, ?_⟩
 intro a ha b hb
 obtain ⟨d, s, _, e⟩ := mem_dl.1 ha
 obtain ⟨j, _, _, e'⟩ := mem_lev.1 hb
 rw [e, e']
 exact up_fd _ _
theorem IsS.falls {w : World} {sb qb gq hb gh n most turn : Nat} {M : List En} (h : IsS w sb qb gq hb gh n most turn M) : Falls M := by
 obtain ⟨R, L, hS, hI⟩ := h
 rw [← hI.eq]
 exact falls_all R L hS.h.good.srt
theorem PQ.falls {w : World} {O : Nat → Prop} {pb n np q T : Nat} {G : List (List En)} (h : PQ w O pb n np q T G) {i : Nat} {M : List En} (hi : G[i]? = some M) : Falls M := by
 obtain ⟨base, lo, mb, v, H, hQ, hG, hO⟩ := h
 rw [← hG] at hi
 simp only [Ms, List.getElem?_map] at hi
 cases hx : H[i]? with
 | none => rw [hx] at hi; cases hi
 | some x =>
  rw [hx] at hi
  injection hi with hi
  subst hi
  exact IsS.falls (hQ.p.sets.it i x hx)
def Ent (G : List (List En)) (z : En) : Prop := ∃ (i : Nat) (M : List En), G[i]? = some M ∧ z ∈ M
section
variable {w : World} {O : Nat → Prop} {pb n np q T : Nat} {G : List (List En)}
theorem took_sub {p d : Int} : ∀ z, Ent (ptkG np (gh G) p d) z → Ent G z := by
 rintro z ⟨i, M, hM, hz⟩
 unfold ptkG at hM
 cases hb : bb np (gh G) p d with
 | none => rw [hb, Ms_gh] at hM; exact ⟨i, M, hM, hz⟩
 | some c =>
  rw [hb, Ms_gh] at hM
  simp only at hM
  rcases Nat.decEq i c with e | e
  ·rw [List.getElem?_set_ne (fun q => e q.symm)] at hM
   exact ⟨i, M, hM, hz⟩
  ·subst e
   obtain ⟨_, _, x, z', M', hx, hM'⟩ := bb_at hb
   have hil : i < G.length := (List.getElem?_eq_some_iff.1 (gh_at hx)).1
   rw [List.getElem?_set_self hil, MM_at hx] at hM
   injection hM with hM
   subst hM
   exact ⟨i, x.M, gh_at hx, List.mem_of_mem_tail hz⟩
end
end Go.Proofs.YtjlbmmiomfpgiaaGreatDoor
namespace Go.Proofs.YtjlbmmiomfpgiaaGreatDoor
set_option maxRecDepth 100000
open Go.RowKit Go.Lib
set_option linter.unusedVariables false
theorem behind_nil {L : List Pi.Lk} (h : ∀ y ∈ L, y.l = []) (t : Nat) : Pi.behind L t = [] := by
 unfold Pi.behind
 rw [List.flatMap_eq_nil_iff]
 intro y hy
 exact h y (List.mem_filter.1 hy).1
theorem acyc_nil {L : List Pi.Lk} (h : ∀ y ∈ L, y.l = []) : Pi.Acyc L :=
 ⟨0, fun _ => 0, fun _ => Nat.le_refl _, fun t s e => by obtain ⟨y, hy, ht, _⟩ := e; rw [h y hy] at ht; cases ht⟩
theorem keyA_alone {T : List Pi.Th} {L : List Pi.Lk} (ha : Pi.Acyc L) {t : Nat} (ht : t < T.length) (hb : Pi.behind L t = []) : Pi.keyA T L (t : Int) = Pi.ownK T t := by
 unfold Pi.keyA Pi.inT
 rw [if_pos (by simpa using ht), show ((t : Int)).toNat = t from rfl, Pi.keyOf_eq ha, hb]
 rfl
theorem base_fold (n : Nat) (M : Mc) (κ : Nat → Ke.K) : ∀ (l : List Nat) (g : Pi.Md), (∀ x ∈ l, x < g.T.length ∧ ownOf M n (M.th x) = κ x ∧ Ke.rightK (κ x) = true) → (l.foldl (base1 n M) g).T.length = g.T.length ∧ (l.foldl (base1 n M) g).L = g.L ∧ ∀ x, (x ∈ l ∨ Pi.ownK g.T x = κ x) → Pi.ownK (l.foldl (base1 n M) g).T x = κ x
 | [], g, _ => ⟨rfl, rfl, fun x h => h.elim (fun q => by cases q) id⟩
 | y :: l, g, h => by
  obtain ⟨hy, ho, hr⟩ := h y (by simp)
  have e : base1 n M g y = ⟨g.T.set y ⟨κ y, (g.T[y]'hy).u⟩, g.L⟩ := by
   unfold base1 Pi.baseR
   rw [ho, if_pos (by simp [Pi.inT, hr, hy]), show ((y : Int)).toNat = y from rfl, List.getElem?_eq_getElem hy]
  rw [List.foldl_cons, e]
  obtain ⟨h1, h2, h3⟩ := base_fold n M κ l ⟨g.T.set y ⟨κ y, (g.T[y]'hy).u⟩, g.L⟩ (fun x hx => by have := h x (by simp [hx]); simpa using this)
  refine ⟨by rw [h1]; simp, h2, fun x hx => h3 x ?_⟩
  by_cases exy : x = y
  ·subst exy
   refine .inr ?_
   simp [Pi.ownK, hy]
  ·rcases hx with hx | hx
   ·rcases List.mem_cons.1 hx with q | q
    ·exact absurd q exy
    ·exact .inl q
   ·refine .inr ?_
    show Pi.ownK (g.T.set y _) x = _
    unfold Pi.ownK at hx ⊢
    rw [List.getElem?_set_ne (fun q => exy q.symm)]
    exact hx
theorem chg_same {n : Nat} {G : List (List En)} {x : Nat} {k : Ke.K} (h : ∀ z, Ent G z → z.1 = x → z.2 = k) : pchgG n (gh G) (x : Int) k = G := by
 unfold pchgG
 split
 case isFalse => exact Ms_gh G
 generalize aOf n (gh G) (x : Int) = i
 rw [Ms_gh]
 cases hi : G[i]? with
 | none => exact List.set_eq_of_length_le (List.getElem?_eq_none_iff.1 hi)
 | some M =>
  rw [MM_at (gh_of hi)]
  have e : chgL n M (x : Int) k = M := by
   unfold chgL
   split
   case isFalse => rfl
   case isTrue hc =>
    split
    case isTrue => rfl
    case isFalse hk =>
     exfalso
     unfold chgC at hc
     split at hc
     ·cases hc
     split at hc
     case isFalse => cases hc
     case isTrue hs =>
      rw [show ((x : Int)).toNat = x from rfl] at hk hs
      unfold keyOf at hk hs
      cases hf : M.find? (fun y => y.1 == x) with
      | none => rw [hf] at hs; cases hs
      | some y =>
       have hy := List.mem_of_find?_eq_some hf
       have hx : y.1 = x := by have := List.find?_some hf; simpa using this
       rw [hf] at hk
       exact hk (by rw [← h y ⟨i, M, hi, hy⟩ hx]; rfl)
  show G.set i (chgL n M (x : Int) k) = G
  rw [e]
  obtain ⟨hl, he⟩ := List.getElem?_eq_some_iff.1 hi
  rw [← he]
  exact List.set_getElem_self hl
theorem pl_in {S : Nat → Nat} {fr : Bool} {n : Nat} : ∀ k, k ≤ n → ∀ x : Fin n, x ∈ Gt.pl S fr n k ↔ x.val < k ∧ (S x.val == 0) = fr
 | 0, _, x => by simp [Gt.pl]
 | k + 1, hk, x => by
  have ih := pl_in (S := S) (fr := fr) k (by omega) x
  by_cases hs : (S k == 0) = fr
  ·rw [Gt.pl_yes (by omega) hs, List.mem_append, ih, List.mem_singleton]
   constructor
   ·rintro (h | h)
    ·exact ⟨by omega, h.2⟩
    ·subst h; exact ⟨Nat.lt_succ_self _, hs⟩
   ·rintro ⟨h1, h2⟩
    rcases Nat.lt_succ_iff_lt_or_eq.1 h1 with h | h
    ·exact .inl ⟨h, h2⟩
    ·exact .inr (Fin.ext h)
  ·rw [Gt.pl_no hs, ih]
   constructor
   ·rintro ⟨h1, h2⟩; exact ⟨by omega, h2⟩
   ·rintro ⟨h1, h2⟩
    rcases Nat.lt_succ_iff_lt_or_eq.1 h1 with h | h
    ·exact ⟨h, h2⟩
    ·rw [h] at h2; exact absurd h2 hs
theorem liveL_in {M : Mc} {n x : Nat} : x ∈ liveL M n ↔ x < n ∧ M.S x ≠ 0 := by
 unfold liveL
 rw [List.mem_map]
 constructor
 ·rintro ⟨y, hy, rfl⟩
  have := (pl_in n (Nat.le_refl _) y).1 hy
  exact ⟨this.1, by simpa using this.2⟩
 ·rintro ⟨h1, h2⟩
  exact ⟨⟨x, h1⟩, (pl_in n (Nat.le_refl _) _).2 ⟨h1, by simpa using h2⟩, rfl⟩
theorem foldl_fix {α β : Type} (f : β → α → β) (b : β) : ∀ l : List α, (∀ x ∈ l, f b x = b) → l.foldl f b = b
 | [], _ => rfl
 | x :: l, h => by rw [List.foldl_cons, h x (by simp)]; exact foldl_fix f b l (fun y hy => h y (by simp [hy]))
theorem settle_quiet {n : Nat} {M : Mc} {κ : Nat → Ke.K} (hlen : M.gr.T.length = n) (hnl : ∀ y ∈ M.gr.L, y.l = []) (ho : ∀ x, x < n → M.S x ≠ 0 → ownOf M n (M.th x) = κ x ∧ Ke.rightK (κ x) = true) (he : ∀ z, Ent M.pl z → z.2 = κ z.1) :
  ∃ g, settle M n = { M with gr := g } ∧ g.T.length = n ∧ g.L = M.gr.L ∧ ∀ x, x < n → M.S x ≠ 0 → Pi.keyA g.T g.L (x : Int) = κ x := by
 obtain ⟨h1, h2, h3⟩ := base_fold n M κ (liveL M n) M.gr (fun x hx => by
  obtain ⟨q1, q2⟩ := liveL_in.1 hx
  exact ⟨by rw [hlen]; exact q1, (ho x q1 q2).1, (ho x q1 q2).2⟩)
 have hk : ∀ x, x < n → M.S x ≠ 0 → Pi.keyA (grOf M n).T (grOf M n).L (x : Int) = κ x := fun x q1 q2 => by
  have hnl' : ∀ y ∈ (grOf M n).L, y.l = [] := by
   intro y hy
   exact hnl y (by rw [← h2]; exact hy)
  rw [keyA_alone (acyc_nil hnl') (by show x < ((liveL M n).foldl (base1 n M) M.gr).T.length; rw [h1, hlen]; exact q1) (behind_nil hnl' x)]
  exact h3 x (.inl (liveL_in.2 ⟨q1, q2⟩))
 refine ⟨grOf M n, ?_, h1.trans hlen, h2, hk⟩
 unfold settle
 have e : (liveL M n).foldl (chg1 n M (grOf M n)) M.pl = M.pl := foldl_fix _ _ _ (fun x hx => by
  obtain ⟨q1, q2⟩ := liveL_in.1 hx
  unfold chg1
  split
  ·rw [hk x q1 q2]
   exact chg_same (fun z hz ez => by rw [he z hz, ez])
  ·rfl)
 rw [e]
theorem hasB_yes {n : Nat} {G S : Nat → Nat} {x : Nat} (hx : x < n) (hs : S x ≠ 0) : Gt.hasB n G S (x : Int) (G x) = true := by
 unfold Gt.hasB
 simp [hx, hs]
theorem stOf_at {M : Mc} {n x : Nat} {t : Tr} (hx : x < n) (hp : t.p = (x : Int)) (hg : t.g = M.G x) (hs : M.S x ≠ 0) : stOf M n t = M.S x := by
 unfold stOf
 rw [hp, hg, hasB_yes hx hs]
 rfl
theorem moveS_yes {n : Nat} {G S : Nat → Nat} {x s : Nat} (hx : x < n) (hs : S x ≠ 0) (hm : Gt.mayB (S x) s = true) : moveS n G S (x : Int) (G x) s = Gt.upd S x s := by
 unfold moveS
 rw [if_pos ⟨hasB_yes hx hs, hm⟩]
 rfl
theorem moveS_no {n : Nat} {G S : Nat → Nat} {x s : Nat} (hm : Gt.mayB (S x) s = false) : moveS n G S (x : Int) (G x) s = S := by
 unfold moveS
 rw [if_neg (fun q => by have := q.2; rw [show ((x : Int)).toNat = x from rfl, hm] at this; cases this)]
end Go.Proofs.YtjlbmmiomfpgiaaGreatDoor
namespace Go.Proofs.YtjlbmmiomfpgiaaGreatDoor
set_option maxRecDepth 100000
open Go.RowKit Go.Lib
set_option linter.unusedVariables false
theorem put_iff {np n q : Nat} {G : List (List En)} (hl : G.length = np + 1) {p : Nat} (hp : p < np) {id : Nat} (hi : id < n) {k : Ke.K} (hr : Ke.rightK k = true) (hno : ∀ z, Ent G z → z.1 ≠ id) (z : En) :
  Ent (pputG np n q (gh G) (p : Int) (id : Int) k) z ↔ z = (id, k) ∨ Ent G z := by
 have hw : whereF n (gh G) 0 (id : Int) = none := whereF_none n _ (gh G) 0 (fun i x hx _ => keyOf_none.2 (fun y hy => hno y ⟨i, x.M, gh_at hx, hy⟩))
 have hc : pputC np n (gh G) (p : Int) (id : Int) k = 0 := by
  unfold pputC
  rw [if_neg (by unfold Bad; rintro ((q | q) | q | q | q); omega; omega; omega; omega; rw [hr] at q; cases q), hw]
  rfl
 have hal : aPut np n q (gh G) p < G.length := by
  rw [hl]
  unfold aPut
  split <;> omega
 have hx : G[aPut np n q (gh G) p]? = some (G[aPut np n q (gh G) p]'hal) := List.getElem?_eq_getElem _
 have hg : pputG np n q (gh G) (p : Int) (id : Int) k = G.set (aPut np n q (gh G) p) (Go.Proofs.YtjlbmmiomfpgiaaGreatDoor.put (id, k) (MM (gh G) (aPut np n q (gh G) p))) := by
  unfold pputG
  rw [if_pos hc, Ms_gh]
  rfl
 rw [hg]
 generalize aPut np n q (gh G) p = j at *
 generalize G[j] = X at hx
 rw [MM_at (gh_of hx)]
 constructor
 ·rintro ⟨i, M, hM, hz⟩
  by_cases e : i = j
  ·subst e
   rw [List.getElem?_set_self hal] at hM
   injection hM with hM
   subst hM
   exact (mem_put.1 hz).imp (fun q => q) (fun q => ⟨_, X, hx, q⟩)
  ·rw [List.getElem?_set_ne (fun q => e q.symm)] at hM
   exact .inr ⟨i, M, hM, hz⟩
 ·rintro (rfl | ⟨i, M, hM, hz⟩)
  ·exact ⟨j, _, List.getElem?_set_self hal, mem_put.2 (.inl rfl)⟩
  ·by_cases e : i = j
   ·subst e
    rw [hx] at hM
    injection hM with hM
    subst hM
    exact ⟨i, _, List.getElem?_set_self hal, mem_put.2 (.inr hz)⟩
   ·exact ⟨i, M, by rw [List.getElem?_set_ne (fun q => e q.symm)]; exact hM, hz⟩
theorem take_iff {w : World} {O : Nat → Prop} {pb n np q T : Nat} {G : List (List En)} (h : PQ w O pb n np q T G) {p d : Int} (hb : (bb np (gh G) p d).isSome = true) :
  ∃ (x : Nat) (k : Ke.K), x < n ∧ bI (gh G) (bb np (gh G) p d) = (x : Int) ∧ Ent G (x, k) ∧ (∀ z, Ent G z → Ke.up z.2 k = false) ∧ ∀ z, Ent (ptkG np (gh G) p d) z ↔ Ent G z ∧ z.1 ≠ x := by
 obtain ⟨c, hc⟩ := Option.isSome_iff_exists.1 hb
 obtain ⟨z, e1, e2, hz, hw, hs⟩ := h.took hc
 obtain ⟨_, _, y, z', M', hy, hM⟩ := bb_at hc
 have hzz : z' = z := by
  have q1 : bI (gh G) (some c) = (z'.1 : Int) := by show tkI (MM (gh G) c) = _; rw [MM_at hy, hM]; rfl
  have q2 : bK (gh G) (some c) = z'.2 := by show tkK (MM (gh G) c) = _; rw [MM_at hy, hM]; rfl
  rw [e1] at q1
  rw [e2] at q2
  exact Prod.ext (by omega) q2.symm
 subst hzz
 have hcl : c < G.length := (List.getElem?_eq_some_iff.1 (gh_at hy)).1
 have hG : G[c]? = some (z' :: M') := by rw [← hM]; exact gh_at hy
 have hg : ptkG np (gh G) p d = G.set c M' := by unfold ptkG; rw [hc, Ms_gh]; show G.set c (MM (gh G) c).tail = _; rw [MM_at hy, hM]; rfl
 refine ⟨z'.1, z'.2, hz, by rw [hc]; exact e1, ⟨c, _, hG, by simp⟩, ?_, ?_⟩
 ·rintro y ⟨i, M2, hM2, hy2⟩
  have hk : tkK (MM (gh G) c) = z'.2 := by rw [MM_at hy, hM]; rfl
  cases hM3 : M2 with
  | nil => rw [hM3] at hy2; cases hy2
  | cons y0 M4 =>
   have h0 : Ke.up y0.2 z'.2 = false := by rw [← hk]; exact bb_over h.len hc (by rw [← hM3]; exact hM2)
   rw [hM3] at hy2
   rcases List.mem_cons.1 hy2 with e | e
   ·rw [e]; exact h0
   ·have hf := h.falls hM2
    rw [hM3] at hf
    exact nu_trans ((List.pairwise_cons.1 hf).1 y e) h0
 ·intro y
  constructor
  ·intro hy2
   refine ⟨took_sub y hy2, ?_⟩
   obtain ⟨i, M2, hM2, hy3⟩ := hy2
   exact keyOf_none.1 (whereF_no hw hz (gh_of hM2)) y hy3
  ·rintro ⟨⟨i, M2, hM2, hy2⟩, hne⟩
   rw [hg]
   by_cases e : i = c
   ·subst e
    rw [hG] at hM2
    injection hM2 with hM2
    subst hM2
    rcases List.mem_cons.1 hy2 with q | q
    ·rw [q] at hne; exact absurd rfl hne
    ·exact ⟨i, M', List.getElem?_set_self hcl, q⟩
   ·exact ⟨i, M2, by rw [List.getElem?_set_ne (fun q => e q.symm)]; exact hM2, hy2⟩
theorem take_none {np : Nat} {G : List (List En)} (hl : G.length = np + 1) {p d : Int} (hp : 0 ≤ p ∧ p < (np : Int)) (hb : (bb np (gh G) p d).isSome = false) (z : En) : ¬ Ent G z := by
 rintro ⟨i, M, hM, hz⟩
 have h1 := bb_any hl hp d
 rw [hb] at h1
 have h2 := of_decide_eq_false h1.symm
 have hs := sumH_set (y := ⟨0, 0, 0, 0, 0, 0, []⟩) (gh_of hM)
 simp only [List.length_nil] at hs
 have : 0 < M.length := List.length_pos_of_mem hz
 omega
def cnt (f : Nat → Bool) : Nat → Nat
 | 0 => 0
 | c + 1 => cnt f c + (if f c then 1 else 0)
theorem cnt_mono {f g : Nat → Bool} : ∀ c, (∀ i, i < c → f i = true → g i = true) → cnt f c ≤ cnt g c
 | 0, _ => Nat.le_refl _
 | c + 1, h => by
  have := cnt_mono c (fun i hi => h i (by omega))
  have hc := h c (by omega)
  unfold cnt
  cases hf : f c with
  | false => simp; omega
  | true => rw [hc hf]; simp; omega
theorem cnt_lt {f g : Nat → Bool} {x : Nat} : ∀ c, (∀ i, i < c → f i = true → g i = true) → x < c → f x = false → g x = true → cnt f c < cnt g c
 | 0, _, h, _, _ => by omega
 | c + 1, h, hx, hf, hg => by
  unfold cnt
  by_cases e : x = c
  ·subst e
   have := cnt_mono x (fun i hi => h i (by omega))
   rw [hf, hg]; simp; omega
  ·have := cnt_lt c (fun i hi => h i (by omega)) (by omega) hf hg
   have hc := h c (by omega)
   cases hf' : f c with
   | false => simp; omega
   | true => rw [hc hf']; simp; omega
theorem cnt_congr {f g : Nat → Bool} (c : Nat) (h : ∀ i, i < c → f i = g i) : cnt f c = cnt g c :=
 Nat.le_antisymm (cnt_mono c (fun i hi q => by rw [← h i hi]; exact q)) (cnt_mono c (fun i hi q => by rw [h i hi]; exact q))
theorem cnt_upd {f g : Nat → Bool} {x : Nat} : ∀ c, (∀ i, i < c → i ≠ x → g i = f i) → x < c → f x = false → g x = true → cnt g c = cnt f c + 1
 | 0, _, h, _, _ => by omega
 | c + 1, h, hx, hf, hg => by
  unfold cnt
  by_cases e : x = c
  ·subst e
   have := cnt_congr (f := f) (g := g) x (fun i hi => (h i (by omega) (by omega)).symm)
   rw [hf, hg]; simp; omega
  ·have := cnt_upd c (fun i hi => h i (by omega)) (by omega) hf hg
   rw [h c (by omega) (fun q => e q.symm)]
   omega
theorem cnt_all {f : Nat → Bool} : ∀ c, (∀ i, i < c → f i = true) → cnt f c = c
 | 0, _ => rfl
 | c + 1, h => by unfold cnt; rw [cnt_all c (fun i hi => h i (by omega)), h c (by omega)]; rfl
theorem cnt_none {f : Nat → Bool} : ∀ c, (∀ i, i < c → f i = false) → cnt f c = 0
 | 0, _ => rfl
 | c + 1, h => by unfold cnt; rw [cnt_none c (fun i hi => h i (by omega)), h c (by omega)]; rfl
theorem freeOf_at {M : Mc} {n c : Nat} (hc : c < n) (h : ∀ x, x < c → M.S x ≠ 0) (h0 : M.S c = 0) : freeOf M n = some c := by
 have e : Gt.pl M.S true n c = [] := by
  cases hp : Gt.pl M.S true n c with
  | nil => rfl
  | cons y l =>
   have := (pl_in (S := M.S) (fr := true) c (by omega) y).1 (by rw [hp]; simp)
   exact absurd (by simpa using this.2) (h y.val this.1)
 have e2 := Gt.pl_yes (S := M.S) (fr := true) hc (by simp [h0])
 rw [e] at e2
 obtain ⟨t, ht⟩ := Gt.pl_le M.S true n (c + 1) (n - (c + 1))
 rw [e2, show c + 1 + (n - (c + 1)) = n by omega] at ht
 unfold freeOf
 rw [← ht]
 rfl
end Go.Proofs.YtjlbmmiomfpgiaaGreatDoor
namespace Go.Proofs.YtjlbmmiomfpgiaaGreatDoor
set_option maxRecDepth 100000
open Go.RowKit Go.Lib Go.Deep Go.ChangeShapes Go.WideShapes
set_option linter.unusedVariables false
theorem u8_of {z : Int} (h : (Lit.int .u8 z).wf = true) : ∃ n : Nat, z = n ∧ n < 256 := by
 simp [Lit.wf, IntKind.min, IntKind.max, IntKind.bits, IntKind.signed] at h
 exact ⟨z.toNat, by omega, by omega⟩
section
variable {H : Type} {enc : TypeId × Value → H} {w : World} {base : Nat} {spare : Nat → Bool} {held : Bool}
end
end Go.Proofs.YtjlbmmiomfpgiaaGreatDoor
namespace Go.Proofs.YtjlbmmiomfpgiaaGreatDoor
set_option maxRecDepth 100000
open Go.RowKit Go.Lib Go.Shelf
set_option linter.unusedVariables false
attribute [local go_sem ↓] Go.wp_at_zero Go.wp_at_succ
def Al (w wr : World) (ad : Ad) (P n q T : Nat) (M : Mc) : Prop := (∃ lab, IsMc wr lab ad P n q T M ∧ ∀ k, lab k ≠ 0 → w.heap.size ≤ k) ∧ Below w.heap.size w wr
section
variable {w wr w' : World} {ad : Ad} {P n q T T' : Nat} {M M' : Mc}
theorem Al.goes (h : Al w wr ad P n q T M) {lab : Nat → Nat} (hi : ∀ k, lab k ≠ 0 → w.heap.size ≤ k) (g : Goes wr w' lab ad P n q T' M') : Al w w' ad P n q T' M' := by
 obtain ⟨_, hb⟩ := h
 obtain ⟨lab', hi', hl, hf⟩ := g
 refine ⟨⟨lab', hi', fun k hk => ?_⟩, hb.trans ⟨hf.os, hf.tape, hf.output, hf.size, fun k hk => hf.block k (Nat.lt_of_lt_of_le hk hb.size) (fun q => by have := hi k q; omega)⟩⟩
 rcases Nat.lt_or_ge k wr.heap.size with q | q
 ·exact hi k (by rw [← hl.old k q]; exact hk)
 ·exact Nat.le_trans hb.size q
theorem Al.call (h : Al w wr ad P n q T M) {f : Nat} {args : Array Value} {R : Ending → World → Prop} (hc : ∀ lab, IsMc wr lab ad P n q T M → Calls Tryz.prog f args wr fun e w' => R e w' ∧ Goes wr w' lab ad P n q T' M') : Calls Tryz.prog f args wr fun e w' => R e w' ∧ Al w w' ad P n q T' M' := by
 have h0 := h
 obtain ⟨⟨lab, hi, hl⟩, hb⟩ := h
 exact (hc lab hi).mono (fun e w' ⟨r, g⟩ => ⟨r, h0.goes hl g⟩)
theorem Al.bel (h : Al w wr ad P n q T M) : Below w.heap.size w wr := h.2
end
end Go.Proofs.YtjlbmmiomfpgiaaGreatDoor
namespace Go.Proofs.YtjlbmmiomfpgiaaGreatDoor
set_option maxRecDepth 100000
open Go.RowKit Go.Lib Go.Shelf
set_option linter.unusedVariables false
attribute [local go_sem ↓] Go.wp_at_zero Go.wp_at_succ
section
variable {w wr w' : World} {ad : Ad} {P n q T T' : Nat} {M M' : Mc}
theorem new_al (P n q m qu ag : Nat) (hP : 1 ≤ P ∧ P ≤ 64) (hn : 1 ≤ n ∧ n ≤ 1024) (hq : 1 ≤ q ∧ q ≤ 256) (hm : m ≤ 32) (hqu : 1 ≤ qu ∧ qu < 18446744073709551616) (hag : 1 ≤ ag ∧ ag < 18446744073709551616) (w : World) (ht : Gt.Tab w) :
  Calls Tryz.prog 10 #[.agg #[.int .i64 (P : Int), .int .i64 (n : Int), .int .i64 (q : Int), .int .i64 (m : Int), .int .u64 (qu : Int), .int .u64 (ag : Int)]] w fun e w' => ∃ a, e = .returned (.pointer (some ⟨a.m, 0, none⟩)) ∧ Al w w' a P n q 0 (newMc P n m qu ag) :=
 (new_ok P n q m qu ag hP hn hq hm hqu hag w ht).mono (fun e w' ⟨a, lab, he, hi, hl, hb⟩ => ⟨a, he, ⟨lab, hi, hl⟩, hb⟩)
theorem Al.load_yes (h : Al w wr ad P n q T M) (ap : Option Addr) (len cap : Nat) (O R : Nat → Int) (hp : Ex.Prg wr ap len O R) (hr : Ex.Rt len O R) (hf : M.pr.length < 16) :
  Calls Tryz.prog 17 #[.pointer (some ⟨ad.m, 0, none⟩), .slice ap len cap] wr fun e w' => e = .returned (.tuple #[.int .i64 (M.pr.length : Int), .int .i64 0]) ∧ Al w w' ad P n q T { M with pr := M.pr ++ [⟨len, O, R⟩] } :=
 h.call (R := fun e _ => e = .returned (.tuple #[.int .i64 (M.pr.length : Int), .int .i64 0])) (fun lab hi => hi.load_yes ap len cap O R hp hr hf)
end
def oneMc (P : Nat) (p : Pm) : Mc := { newMc P 8 4 50 50 with pr := [p] }
set_option maxHeartbeats 1000000 in
theorem machine_ok (w : World) (ht : Gt.Tab w) (P : Nat) (hP : 1 ≤ P ∧ P ≤ 64) (ap : Option Addr) (len cap : Nat) (O R : Nat → Int) (hp : Ex.Prg w ap len O R) (hr : Ex.Rt len O R) :
  Calls Tryz.prog 28 #[.int .i64 (P : Int), .slice ap len cap] w fun e w' => ∃ ad, e = .returned (.pointer (some ⟨ad.m, 0, none⟩)) ∧ Al w w' ad P 8 8 0 (oneMc P ⟨len, O, R⟩) := by
 have HN : Hid (Calls Tryz.prog 10 #[.agg #[.int .i64 (P : Int), .int .i64 8, .int .i64 8, .int .i64 4, .int .u64 50, .int .u64 50]] w fun e w' => ∃ a, e = .returned (.pointer (some ⟨a.m, 0, none⟩)) ∧ Al w w' a P 8 8 0 (newMc P 8 4 50 50)) := new_al P 8 8 4 50 50 hP (by decide) (by decide) (by decide) (by decide) (by decide) w ht
 have HL : Hid (∀ V ad, Al w V ad P 8 8 0 (newMc P 8 4 50 50) → Calls Tryz.prog 17 #[.pointer (some ⟨ad.m, 0, none⟩), .slice ap len cap] V fun e w' => e = .returned (.tuple #[.int .i64 0, .int .i64 0]) ∧ Al w w' ad P 8 8 0 (oneMc P ⟨len, O, R⟩)) := fun V ad h => h.load_yes ap len cap O R (hp.below h.bel) hr (by show 0 < 16; decide)
 clear hp hr ht
 go_enter Tryz.func28, Tryz.ntmps28
 go_wp2_with (first
  | (go_at_call 10; refine (HN.out).mono ?_; rintro e w1 ⟨ad, rfl, hA⟩; have HA := veil hA; clear hA)
  | (go_at_call 17; refine (HL.out _ ad HA.out).mono ?_; rintro e w2 ⟨rfl, hA2⟩; have HA2 := veil hA2; clear hA2))
 go_ret
 exact ⟨ad, rfl, HA2.out⟩
end Go.Proofs.YtjlbmmiomfpgiaaGreatDoor
