/- YtjlbmmiomfpgiaaGreatDoorGs: of the texts Bb1 Bb2 Bb3 Bb4 Bb5 Bb6 Bb7 Bb8 what is wanted. -/
import Derived.Test.YtjlbmmiomfpgiaaGreatDoorGq
import Derived.ProofKit
import Derived.OpenShut
import Derived.Deep.Slices
import Derived.Deep.Strs
import Derived.ChangeOld
import Derived.ChangeSame
import Derived.Test.YtjlbmmiomfpgiaaGreatDoorGr
namespace Go.Proofs.YtjlbmmiomfpgiaaGreatDoor
set_option maxRecDepth 100000
open Go.RowKit Go.Lib
set_option linter.unusedVariables false
theorem nu_trans {a b c : Ke.K} (h : Ke.up a b = false) (k : Ke.up b c = false) : Ke.up a c = false := by
  obtain ⟨ae, ad, al⟩ := a
  obtain ⟨be, bd, bl⟩ := b
  obtain ⟨ce, cd, cl⟩ := c
  cases ae <;> cases be <;> cases ce <;> simp_all [Ke.up] <;> omega
theorem up_asy {a b : Ke.K} (h : Ke.up a b = true) : Ke.up b a = false := by
  obtain ⟨ae, ad, al⟩ := a
  obtain ⟨be, bd, bl⟩ := b
  cases ae <;> cases be <;> simp_all [Ke.up] <;> omega
theorem nu_refl (a : Ke.K) : Ke.up a a = false := by simp [Ke.up]
/-- All that is passed is no more urgent than what is best. -/
theorem bst_top (H : List Hd) : ∀ (l : List Nat) (b : Option Nat), (∀ c0, b = some c0 → ∃ c, l.foldl (bstep H) b = some c ∧ Ke.up (tkK (MM H c0)) (tkK (MM H c)) = false) ∧ ∀ x ∈ l, ∀ y M, MM H x = y :: M → ∃ c, l.foldl (bstep H) b = some c ∧ Ke.up y.2 (tkK (MM H c)) = false
  | [], b => ⟨fun c0 hc => ⟨c0, hc, nu_refl _⟩, fun x hx => by cases hx⟩
  | x :: l, b => by
    have A : ∀ c0, b = some c0 → ∃ c1, bstep H b x = some c1 ∧ Ke.up (tkK (MM H c0)) (tkK (MM H c1)) = false := by
      intro c0 hc
      subst hc
      unfold bstep
      cases hM : MM H x with
      | nil => exact ⟨c0, rfl, nu_refl _⟩
      | cons y M =>
        simp only
        cases hu : Ke.up y.2 (tkK (MM H c0)) with
        | true =>
          refine ⟨x, rfl, ?_⟩
          rw [hM]
          exact up_asy hu
        | false => exact ⟨c0, rfl, nu_refl _⟩
    have B : ∀ y M, MM H x = y :: M → ∃ c1, bstep H b x = some c1 ∧ Ke.up y.2 (tkK (MM H c1)) = false := by
      intro y M hM
      unfold bstep
      rw [hM]
      cases b with
      | none => exact ⟨x, rfl, by rw [hM]; exact nu_refl _⟩
      | some c0 =>
        simp only
        cases hu : Ke.up y.2 (tkK (MM H c0)) with
        | true => exact ⟨x, rfl, by rw [hM]; exact nu_refl _⟩
        | false => exact ⟨c0, rfl, hu⟩
    obtain ⟨i1, i2⟩ := bst_top H l (bstep H b x)
    refine ⟨fun c0 hc => ?_, fun z hz y M hM => ?_⟩
    · obtain ⟨c1, e1, n1⟩ := A c0 hc
      obtain ⟨c, e2, n2⟩ := i1 c1 e1
      exact ⟨c, e2, nu_trans n1 n2⟩
    · rcases List.mem_cons.1 hz with rfl | hz
      · obtain ⟨c1, e1, n1⟩ := B y M hM
        obtain ⟨c, e2, n2⟩ := i1 c1 e1
        exact ⟨c, e2, nu_trans n1 n2⟩
      · exact i2 z hz y M hM
theorem ords_mem {np p d x : Nat} (hp : p < np) (hx : x ≤ np) : x ∈ ords np p d := by
  unfold ords ordsU
  by_cases h1 : x = p
  · rw [h1]; simp
  by_cases h2 : x = np
  · rw [h2]; simp
  refine List.mem_cons_of_mem _ (List.mem_cons_of_mem _ (List.mem_filter.2 ⟨List.mem_map.2 ⟨(x + 2 * np - (p + 1 + d % np)) % np, List.mem_range.2 (Nat.mod_lt _ (by omega)), ?_⟩, by simpa using h1⟩))
  unfold plOf
  have hm : d % np < np := Nat.mod_lt _ (by omega)
  rw [Nat.add_mod_mod]
  have e : p + 1 + d % np + (x + 2 * np - (p + 1 + d % np)) = x + np * 2 := by omega
  rw [e, Nat.add_mul_mod_self_left]
  exact Nat.mod_eq_of_lt (by omega)
theorem gh_set (G : List (List En)) (c : Nat) (M : List En) : gh (G.set c M) = (gh G).set c ⟨0, 0, 0, 0, 0, 0, M⟩ := by unfold gh; rw [List.map_set]
theorem gh_at {G : List (List En)} {c : Nat} {x : Hd} (h : (gh G)[c]? = some x) : G[c]? = some x.M := by
  have := Ms_at h
  rw [Ms_gh] at this
  exact this
section
variable {w : World} {O : Nat → Prop} {pb n np q T : Nat} {G : List (List En)}
theorem PQ.nd (h : PQ w O pb n np q T G) {c : Nat} {x : Hd} (hx : (gh G)[c]? = some x) : (x.M.map (·.1)).Nodup ∧ (∀ y ∈ x.M, y.1 < n) ∧ ∀ y ∈ x.M, Ke.rightK y.2 = true := by
  obtain ⟨h1, h2, _, h4⟩ := h.at (gh_at hx)
  exact ⟨h1, h2, h4⟩
/-- Behind a Take of something: its id stands nowhere, and there is one less. -/
theorem PQ.took (h : PQ w O pb n np q T G) {p d : Int} {c : Nat} (hb : bb np (gh G) p d = some c) : ∃ z : En, bI (gh G) (some c) = (z.1 : Int) ∧ bK (gh G) (some c) = z.2 ∧ z.1 < n ∧ whereF n (gh (ptkG np (gh G) p d)) 0 (z.1 : Int) = none ∧ sumH (gh (ptkG np (gh G) p d)) + 1 = sumH (gh G) := by
  obtain ⟨_, _, x, z, M', hx, hM⟩ := bb_at hb
  obtain ⟨hnd, hrn, _⟩ := h.nd hx
  have e1 : bI (gh G) (some c) = (z.1 : Int) := by show tkI (MM (gh G) c) = _; rw [MM_at hx, hM]; rfl
  have e2 : bK (gh G) (some c) = z.2 := by show tkK (MM (gh G) c) = _; rw [MM_at hx, hM]; rfl
  have hg : ptkG np (gh G) p d = G.set c M' := by unfold ptkG; rw [hb, Ms_gh]; show G.set c (MM (gh G) c).tail = _; rw [MM_at hx, hM]; rfl
  have hcut : cut z.1 x.M = M' := by rw [hM]; exact cut_head (by rw [← hM]; exact hnd)
  have hzk : (keyOf x.M z.1).isSome = true := by rw [has_iff]; exact ⟨z, by rw [hM]; simp, rfl⟩
  rw [hg, gh_set]
  obtain ⟨_, u2⟩ := where_cut (n := n) (y := ⟨0, 0, 0, 0, 0, 0, M'⟩) h.un hx (id := z.1) hcut.symm hzk
  have hs := sumH_set (y := ⟨0, 0, 0, 0, 0, 0, M'⟩) hx
  refine ⟨z, e1, e2, hrn z (by rw [hM]; simp), ?_, ?_⟩
  · rw [u2]
    unfold setF
    rw [if_pos rfl]
  · have : x.M.length = M'.length + 1 := by rw [hM]; rfl
    simp only at hs
    omega
end
theorem gh_of {G : List (List En)} {i : Nat} {M : List En} (h : G[i]? = some M) : (gh G)[i]? = some ⟨0, 0, 0, 0, 0, 0, M⟩ := by unfold gh; rw [List.getElem?_map, h]; rfl
theorem bb_over {np : Nat} {G : List (List En)} {p d : Int} {c : Nat} (hl : G.length = np + 1) (hb : bb np (gh G) p d = some c) {i : Nat} {y : En} {M : List En} (hM : G[i]? = some (y :: M)) : Ke.up y.2 (tkK (MM (gh G) c)) = false := by
  obtain ⟨hp, h, _⟩ := bb_at hb
  have hil : i ≤ np := by have := (List.getElem?_eq_some_iff.1 hM).1; omega
  obtain ⟨_, t2⟩ := bst_top (gh G) (ords np p.toNat d.toNat) none
  obtain ⟨c', e1, n1⟩ := t2 i (ords_mem (by omega) hil) y M (MM_at (gh_of hM))
  have h' : (ords np p.toNat d.toNat).foldl (bstep (gh G)) none = some c := h
  rw [h'] at e1
  injection e1 with e1
  rw [e1]
  exact n1
theorem bb_any {np : Nat} {G : List (List En)} (hl : G.length = np + 1) {p : Int} (hp : 0 ≤ p ∧ p < (np : Int)) (d : Int) : (bb np (gh G) p d).isSome = decide (0 < sumH (gh G)) := by
  cases hb : bb np (gh G) p d with
  | some c =>
    obtain ⟨_, _, x, z, M', hx, hM⟩ := bb_at hb
    have hs := sumH_set (y := ⟨0, 0, 0, 0, 0, 0, []⟩) hx
    have e : x.M.length = M'.length + 1 := by rw [hM]; rfl
    simp only [List.length_nil] at hs
    exact (decide_eq_true (by omega)).symm
  | none =>
    refine (decide_eq_false (fun hpos => ?_)).symm
    have key : ∀ (i : Nat) (M : List En), G[i]? = some M → M = [] := fun i M hM => by
      cases M with
      | nil => rfl
      | cons y M =>
        exfalso
        have hil : i ≤ np := by have := (List.getElem?_eq_some_iff.1 hM).1; omega
        obtain ⟨_, t2⟩ := bst_top (gh G) (ords np p.toNat d.toNat) none
        obtain ⟨c', e1, _⟩ := t2 i (ords_mem (by omega) hil) y M (MM_at (gh_of hM))
        unfold bb at hb
        rw [if_pos hp] at hb
        unfold bst at hb
        rw [hb] at e1
        cases e1
    have := sumH_nil (H := gh G) (fun i x hx => key i x.M (gh_at hx))
    omega
def Falls (M : List En) : Prop := M.Pairwise (fun a b => Ke.up b.2 a.2 = false)
theorem falls_lev (R : List (Nat × Nat)) : ∀ k, Falls (lev R k)
  | 0 => List.Pairwise.nil
  | k + 1 => by
    unfold Falls
    rw [lev, List.pairwise_append]
    refine ⟨?_, falls_lev R k, ?_⟩
    · refine List.Pairwise.imp_of_mem (R := fun _ _ => True) ?_ (List.pairwise_of_forall (fun _ _ => trivial))
      intro a b ha hb _
      rw [(mem_lvs.1 ha).2, (mem_lvs.1 hb).2, up_ff]
      simp
    · intro a ha b hb
      obtain ⟨j, hj, _, e⟩ := mem_lev.1 hb
      rw [(mem_lvs.1 ha).2, e, up_ff]
      simp
      omega
theorem falls_dl (L : List Ph.Item) (h : Ph.Srt L) : Falls (dl L) := by
  unfold Falls dl
  rw [List.pairwise_map]
  refine List.Pairwise.imp ?_ h
  intro a b hab
  rw [up_dd]
  unfold Ph.ah at hab
  simp
  omega
theorem falls_all (R : List (Nat × Nat)) (L : List Ph.Item) (h : Ph.Srt L) : Falls (all R L) := by
  unfold Falls all
  rw [List.pairwise_append]
  refine ⟨falls_dl L h, falls_lev R 256, ?_⟩
  intro a ha b hb
  obtain ⟨d, s, _, e⟩ := mem_dl.1 ha
  obtain ⟨j, _, _, e'⟩ := mem_lev.1 hb
  rw [e, e']
  exact up_fd _ _
theorem IsS.falls {w : World} {sb qb gq hb gh n most turn : Nat} {M : List En} (h : IsS w sb qb gq hb gh n most turn M) : Falls M := by
  obtain ⟨R, L, hS, hI⟩ := h
  rw [← hI.eq]
  exact falls_all R L hS.h.good.srt
theorem PQ.falls {w : World} {O : Nat → Prop} {pb n np q T : Nat} {G : List (List En)} (h : PQ w O pb n np q T G) {i : Nat} {M : List En} (hi : G[i]? = some M) : Falls M := by
  obtain ⟨base, lo, mb, v, H, hQ, hG, hO⟩ := h
  rw [← hG] at hi
  simp only [Ms, List.getElem?_map] at hi
  cases hx : H[i]? with
  | none => rw [hx] at hi; cases hi
  | some x =>
    rw [hx] at hi
    injection hi with hi
    subst hi
    exact IsS.falls (hQ.p.sets.it i x hx)
/-- All entries that stand anywhere. -/
def Ent (G : List (List En)) (z : En) : Prop := ∃ (i : Nat) (M : List En), G[i]? = some M ∧ z ∈ M
section
variable {w : World} {O : Nat → Prop} {pb n np q T : Nat} {G : List (List En)}
theorem took_sub {p d : Int} : ∀ z, Ent (ptkG np (gh G) p d) z → Ent G z := by
  rintro z ⟨i, M, hM, hz⟩
  unfold ptkG at hM
  cases hb : bb np (gh G) p d with
  | none => rw [hb, Ms_gh] at hM; exact ⟨i, M, hM, hz⟩
  | some c =>
    rw [hb, Ms_gh] at hM
    simp only at hM
    rcases Nat.decEq i c with e | e
    · rw [List.getElem?_set_ne (fun q => e q.symm)] at hM
      exact ⟨i, M, hM, hz⟩
    · subst e
      obtain ⟨_, _, x, z', M', hx, hM'⟩ := bb_at hb
      have hil : i < G.length := (List.getElem?_eq_some_iff.1 (gh_at hx)).1
      rw [List.getElem?_set_self hil, MM_at hx] at hM
      injection hM with hM
      subst hM
      exact ⟨i, x.M, gh_at hx, List.mem_of_mem_tail hz⟩
end
end Go.Proofs.YtjlbmmiomfpgiaaGreatDoor
namespace Go.Proofs.YtjlbmmiomfpgiaaGreatDoor
set_option maxRecDepth 100000
open Go.RowKit Go.Lib
set_option linter.unusedVariables false
theorem behind_nil {L : List Pi.Lk} (h : ∀ y ∈ L, y.l = []) (t : Nat) : Pi.behind L t = [] := by
  unfold Pi.behind
  rw [List.flatMap_eq_nil_iff]
  intro y hy
  exact h y (List.mem_filter.1 hy).1
theorem acyc_nil {L : List Pi.Lk} (h : ∀ y ∈ L, y.l = []) : Pi.Acyc L :=
  ⟨0, fun _ => 0, fun _ => Nat.le_refl _, fun t s e => by obtain ⟨y, hy, ht, _⟩ := e; rw [h y hy] at ht; cases ht⟩
theorem keyA_alone {T : List Pi.Th} {L : List Pi.Lk} (ha : Pi.Acyc L) {t : Nat} (ht : t < T.length) (hb : Pi.behind L t = []) : Pi.keyA T L (t : Int) = Pi.ownK T t := by
  unfold Pi.keyA Pi.inT
  rw [if_pos (by simpa using ht), show ((t : Int)).toNat = t from rfl, Pi.keyOf_eq ha, hb]
  rfl
theorem base_fold (n : Nat) (M : Mc) (κ : Nat → Ke.K) : ∀ (l : List Nat) (g : Pi.Md), (∀ x ∈ l, x < g.T.length ∧ ownOf M n (M.th x) = κ x ∧ Ke.rightK (κ x) = true) → (l.foldl (base1 n M) g).T.length = g.T.length ∧ (l.foldl (base1 n M) g).L = g.L ∧ ∀ x, (x ∈ l ∨ Pi.ownK g.T x = κ x) → Pi.ownK (l.foldl (base1 n M) g).T x = κ x
  | [], g, _ => ⟨rfl, rfl, fun x h => h.elim (fun q => by cases q) id⟩
  | y :: l, g, h => by
    obtain ⟨hy, ho, hr⟩ := h y (by simp)
    have e : base1 n M g y = ⟨g.T.set y ⟨κ y, (g.T[y]'hy).u⟩, g.L⟩ := by
      unfold base1 Pi.baseR
      rw [ho, if_pos (by simp [Pi.inT, hr, hy]), show ((y : Int)).toNat = y from rfl, List.getElem?_eq_getElem hy]
    rw [List.foldl_cons, e]
    obtain ⟨h1, h2, h3⟩ := base_fold n M κ l ⟨g.T.set y ⟨κ y, (g.T[y]'hy).u⟩, g.L⟩ (fun x hx => by have := h x (by simp [hx]); simpa using this)
    refine ⟨by rw [h1]; simp, h2, fun x hx => h3 x ?_⟩
    by_cases exy : x = y
    · subst exy
      refine .inr ?_
      simp [Pi.ownK, hy]
    · rcases hx with hx | hx
      · rcases List.mem_cons.1 hx with q | q
        · exact absurd q exy
        · exact .inl q
      · refine .inr ?_
        show Pi.ownK (g.T.set y _) x = _
        unfold Pi.ownK at hx ⊢
        rw [List.getElem?_set_ne (fun q => exy q.symm)]
        exact hx
theorem chg_same {n : Nat} {G : List (List En)} {x : Nat} {k : Ke.K} (h : ∀ z, Ent G z → z.1 = x → z.2 = k) : pchgG n (gh G) (x : Int) k = G := by
  unfold pchgG
  split
  case isFalse => exact Ms_gh G
  generalize aOf n (gh G) (x : Int) = i
  rw [Ms_gh]
  cases hi : G[i]? with
  | none => exact List.set_eq_of_length_le (List.getElem?_eq_none_iff.1 hi)
  | some M =>
    rw [MM_at (gh_of hi)]
    have e : chgL n M (x : Int) k = M := by
      unfold chgL
      split
      case isFalse => rfl
      case isTrue hc =>
        split
        case isTrue => rfl
        case isFalse hk =>
          exfalso
          unfold chgC at hc
          split at hc
          · cases hc
          split at hc
          case isFalse => cases hc
          case isTrue hs =>
            rw [show ((x : Int)).toNat = x from rfl] at hk hs
            unfold keyOf at hk hs
            cases hf : M.find? (fun y => y.1 == x) with
            | none => rw [hf] at hs; cases hs
            | some y =>
              have hy := List.mem_of_find?_eq_some hf
              have hx : y.1 = x := by have := List.find?_some hf; simpa using this
              rw [hf] at hk
              exact hk (by rw [← h y ⟨i, M, hi, hy⟩ hx]; rfl)
    show G.set i (chgL n M (x : Int) k) = G
    rw [e]
    obtain ⟨hl, he⟩ := List.getElem?_eq_some_iff.1 hi
    rw [← he]
    exact List.set_getElem_self hl
theorem pl_in {S : Nat → Nat} {fr : Bool} {n : Nat} : ∀ k, k ≤ n → ∀ x : Fin n, x ∈ Gt.pl S fr n k ↔ x.val < k ∧ (S x.val == 0) = fr
  | 0, _, x => by simp [Gt.pl]
  | k + 1, hk, x => by
    have ih := pl_in (S := S) (fr := fr) k (by omega) x
    by_cases hs : (S k == 0) = fr
    · rw [Gt.pl_yes (by omega) hs, List.mem_append, ih, List.mem_singleton]
      constructor
      · rintro (h | h)
        · exact ⟨by omega, h.2⟩
        · subst h; exact ⟨Nat.lt_succ_self _, hs⟩
      · rintro ⟨h1, h2⟩
        rcases Nat.lt_succ_iff_lt_or_eq.1 h1 with h | h
        · exact .inl ⟨h, h2⟩
        · exact .inr (Fin.ext h)
    · rw [Gt.pl_no hs, ih]
      constructor
      · rintro ⟨h1, h2⟩; exact ⟨by omega, h2⟩
      · rintro ⟨h1, h2⟩
        rcases Nat.lt_succ_iff_lt_or_eq.1 h1 with h | h
        · exact ⟨h, h2⟩
        · rw [h] at h2; exact absurd h2 hs
theorem liveL_in {M : Mc} {n x : Nat} : x ∈ liveL M n ↔ x < n ∧ M.S x ≠ 0 := by
  unfold liveL
  rw [List.mem_map]
  constructor
  · rintro ⟨y, hy, rfl⟩
    have := (pl_in n (Nat.le_refl _) y).1 hy
    exact ⟨this.1, by simpa using this.2⟩
  · rintro ⟨h1, h2⟩
    exact ⟨⟨x, h1⟩, (pl_in n (Nat.le_refl _) _).2 ⟨h1, by simpa using h2⟩, rfl⟩
theorem foldl_fix {α β : Type} (f : β → α → β) (b : β) : ∀ l : List α, (∀ x ∈ l, f b x = b) → l.foldl f b = b
  | [], _ => rfl
  | x :: l, h => by rw [List.foldl_cons, h x (by simp)]; exact foldl_fix f b l (fun y hy => h y (by simp [hy]))
/-- settle where nobody waits and each stands with its own key. -/
theorem settle_quiet {n : Nat} {M : Mc} {κ : Nat → Ke.K} (hlen : M.gr.T.length = n) (hnl : ∀ y ∈ M.gr.L, y.l = []) (ho : ∀ x, x < n → M.S x ≠ 0 → ownOf M n (M.th x) = κ x ∧ Ke.rightK (κ x) = true) (he : ∀ z, Ent M.pl z → z.2 = κ z.1) :
    ∃ g, settle M n = { M with gr := g } ∧ g.T.length = n ∧ g.L = M.gr.L ∧ ∀ x, x < n → M.S x ≠ 0 → Pi.keyA g.T g.L (x : Int) = κ x := by
  obtain ⟨h1, h2, h3⟩ := base_fold n M κ (liveL M n) M.gr (fun x hx => by
    obtain ⟨q1, q2⟩ := liveL_in.1 hx
    exact ⟨by rw [hlen]; exact q1, (ho x q1 q2).1, (ho x q1 q2).2⟩)
  have hk : ∀ x, x < n → M.S x ≠ 0 → Pi.keyA (grOf M n).T (grOf M n).L (x : Int) = κ x := fun x q1 q2 => by
    have hnl' : ∀ y ∈ (grOf M n).L, y.l = [] := by
      intro y hy
      exact hnl y (by rw [← h2]; exact hy)
    rw [keyA_alone (acyc_nil hnl') (by show x < ((liveL M n).foldl (base1 n M) M.gr).T.length; rw [h1, hlen]; exact q1) (behind_nil hnl' x)]
    exact h3 x (.inl (liveL_in.2 ⟨q1, q2⟩))
  refine ⟨grOf M n, ?_, h1.trans hlen, h2, hk⟩
  unfold settle
  have e : (liveL M n).foldl (chg1 n M (grOf M n)) M.pl = M.pl := foldl_fix _ _ _ (fun x hx => by
    obtain ⟨q1, q2⟩ := liveL_in.1 hx
    unfold chg1
    split
    · rw [hk x q1 q2]
      exact chg_same (fun z hz ez => by rw [he z hz, ez])
    · rfl)
  rw [e]
theorem hasB_yes {n : Nat} {G S : Nat → Nat} {x : Nat} (hx : x < n) (hs : S x ≠ 0) : Gt.hasB n G S (x : Int) (G x) = true := by
  unfold Gt.hasB
  simp [hx, hs]
theorem stOf_at {M : Mc} {n x : Nat} {t : Tr} (hx : x < n) (hp : t.p = (x : Int)) (hg : t.g = M.G x) (hs : M.S x ≠ 0) : stOf M n t = M.S x := by
  unfold stOf
  rw [hp, hg, hasB_yes hx hs]
  rfl
theorem moveS_yes {n : Nat} {G S : Nat → Nat} {x s : Nat} (hx : x < n) (hs : S x ≠ 0) (hm : Gt.mayB (S x) s = true) : moveS n G S (x : Int) (G x) s = Gt.upd S x s := by
  unfold moveS
  rw [if_pos ⟨hasB_yes hx hs, hm⟩]
  rfl
theorem moveS_no {n : Nat} {G S : Nat → Nat} {x s : Nat} (hm : Gt.mayB (S x) s = false) : moveS n G S (x : Int) (G x) s = S := by
  unfold moveS
  rw [if_neg (fun q => by have := q.2; rw [show ((x : Int)).toNat = x from rfl, hm] at this; cases this)]
end Go.Proofs.YtjlbmmiomfpgiaaGreatDoor
namespace Go.Proofs.YtjlbmmiomfpgiaaGreatDoor
set_option maxRecDepth 100000
open Go.RowKit Go.Lib
set_option linter.unusedVariables false
theorem put_iff {np n q : Nat} {G : List (List En)} (hl : G.length = np + 1) {p : Nat} (hp : p < np) {id : Nat} (hi : id < n) {k : Ke.K} (hr : Ke.rightK k = true) (hno : ∀ z, Ent G z → z.1 ≠ id) (z : En) :
    Ent (pputG np n q (gh G) (p : Int) (id : Int) k) z ↔ z = (id, k) ∨ Ent G z := by
  have hw : whereF n (gh G) 0 (id : Int) = none := whereF_none n _ (gh G) 0 (fun i x hx _ => keyOf_none.2 (fun y hy => hno y ⟨i, x.M, gh_at hx, hy⟩))
  have hc : pputC np n (gh G) (p : Int) (id : Int) k = 0 := by
    unfold pputC
    rw [if_neg (by unfold Bad; rintro ((q | q) | q | q | q); omega; omega; omega; omega; rw [hr] at q; cases q), hw]
    rfl
  have hal : aPut np n q (gh G) p < G.length := by
    rw [hl]
    unfold aPut
    split <;> omega
  have hx : G[aPut np n q (gh G) p]? = some (G[aPut np n q (gh G) p]'hal) := List.getElem?_eq_getElem _
  have hg : pputG np n q (gh G) (p : Int) (id : Int) k = G.set (aPut np n q (gh G) p) (Go.Proofs.YtjlbmmiomfpgiaaGreatDoor.put (id, k) (MM (gh G) (aPut np n q (gh G) p))) := by
    unfold pputG
    rw [if_pos hc, Ms_gh]
    rfl
  rw [hg]
  generalize aPut np n q (gh G) p = j at *
  generalize G[j] = X at hx
  rw [MM_at (gh_of hx)]
  constructor
  · rintro ⟨i, M, hM, hz⟩
    by_cases e : i = j
    · subst e
      rw [List.getElem?_set_self hal] at hM
      injection hM with hM
      subst hM
      exact (mem_put.1 hz).imp (fun q => q) (fun q => ⟨_, X, hx, q⟩)
    · rw [List.getElem?_set_ne (fun q => e q.symm)] at hM
      exact .inr ⟨i, M, hM, hz⟩
  · rintro (rfl | ⟨i, M, hM, hz⟩)
    · exact ⟨j, _, List.getElem?_set_self hal, mem_put.2 (.inl rfl)⟩
    · by_cases e : i = j
      · subst e
        rw [hx] at hM
        injection hM with hM
        subst hM
        exact ⟨i, _, List.getElem?_set_self hal, mem_put.2 (.inr hz)⟩
      · exact ⟨i, M, by rw [List.getElem?_set_ne (fun q => e q.symm)]; exact hM, hz⟩
theorem take_iff {w : World} {O : Nat → Prop} {pb n np q T : Nat} {G : List (List En)} (h : PQ w O pb n np q T G) {p d : Int} (hb : (bb np (gh G) p d).isSome = true) :
    ∃ (x : Nat) (k : Ke.K), x < n ∧ bI (gh G) (bb np (gh G) p d) = (x : Int) ∧ Ent G (x, k) ∧ (∀ z, Ent G z → Ke.up z.2 k = false) ∧ ∀ z, Ent (ptkG np (gh G) p d) z ↔ Ent G z ∧ z.1 ≠ x := by
  obtain ⟨c, hc⟩ := Option.isSome_iff_exists.1 hb
  obtain ⟨z, e1, e2, hz, hw, hs⟩ := h.took hc
  obtain ⟨_, _, y, z', M', hy, hM⟩ := bb_at hc
  have hzz : z' = z := by
    have q1 : bI (gh G) (some c) = (z'.1 : Int) := by show tkI (MM (gh G) c) = _; rw [MM_at hy, hM]; rfl
    have q2 : bK (gh G) (some c) = z'.2 := by show tkK (MM (gh G) c) = _; rw [MM_at hy, hM]; rfl
    rw [e1] at q1
    rw [e2] at q2
    exact Prod.ext (by omega) q2.symm
  subst hzz
  have hcl : c < G.length := (List.getElem?_eq_some_iff.1 (gh_at hy)).1
  have hG : G[c]? = some (z' :: M') := by rw [← hM]; exact gh_at hy
  have hg : ptkG np (gh G) p d = G.set c M' := by unfold ptkG; rw [hc, Ms_gh]; show G.set c (MM (gh G) c).tail = _; rw [MM_at hy, hM]; rfl
  refine ⟨z'.1, z'.2, hz, by rw [hc]; exact e1, ⟨c, _, hG, by simp⟩, ?_, ?_⟩
  · rintro y ⟨i, M2, hM2, hy2⟩
    have hk : tkK (MM (gh G) c) = z'.2 := by rw [MM_at hy, hM]; rfl
    cases hM3 : M2 with
    | nil => rw [hM3] at hy2; cases hy2
    | cons y0 M4 =>
      have h0 : Ke.up y0.2 z'.2 = false := by rw [← hk]; exact bb_over h.len hc (by rw [← hM3]; exact hM2)
      rw [hM3] at hy2
      rcases List.mem_cons.1 hy2 with e | e
      · rw [e]; exact h0
      · have hf := h.falls hM2
        rw [hM3] at hf
        exact nu_trans ((List.pairwise_cons.1 hf).1 y e) h0
  · intro y
    constructor
    · intro hy2
      refine ⟨took_sub y hy2, ?_⟩
      obtain ⟨i, M2, hM2, hy3⟩ := hy2
      exact keyOf_none.1 (whereF_no hw hz (gh_of hM2)) y hy3
    · rintro ⟨⟨i, M2, hM2, hy2⟩, hne⟩
      rw [hg]
      by_cases e : i = c
      · subst e
        rw [hG] at hM2
        injection hM2 with hM2
        subst hM2
        rcases List.mem_cons.1 hy2 with q | q
        · rw [q] at hne; exact absurd rfl hne
        · exact ⟨i, M', List.getElem?_set_self hcl, q⟩
      · exact ⟨i, M2, by rw [List.getElem?_set_ne (fun q => e q.symm)]; exact hM2, hy2⟩
theorem take_none {np : Nat} {G : List (List En)} (hl : G.length = np + 1) {p d : Int} (hp : 0 ≤ p ∧ p < (np : Int)) (hb : (bb np (gh G) p d).isSome = false) (z : En) : ¬ Ent G z := by
  rintro ⟨i, M, hM, hz⟩
  have h1 := bb_any hl hp d
  rw [hb] at h1
  have h2 := of_decide_eq_false h1.symm
  have hs := sumH_set (y := ⟨0, 0, 0, 0, 0, 0, []⟩) (gh_of hM)
  simp only [List.length_nil] at hs
  have : 0 < M.length := List.length_pos_of_mem hz
  omega
theorem ptk_none {np : Nat} {G : List (List En)} {p d : Int} (hb : (bb np (gh G) p d).isSome = false) : ptkG np (gh G) p d = G := by
  unfold ptkG
  cases h : bb np (gh G) p d with
  | none => exact Ms_gh G
  | some c => rw [h] at hb; cases hb
/-- How many below c. -/
def cnt (f : Nat → Bool) : Nat → Nat
  | 0 => 0
  | c + 1 => cnt f c + (if f c then 1 else 0)
theorem cnt_le (f : Nat → Bool) : ∀ c, cnt f c ≤ c
  | 0 => Nat.le_refl _
  | c + 1 => by have := cnt_le f c; unfold cnt; split <;> omega
theorem cnt_mono {f g : Nat → Bool} : ∀ c, (∀ i, i < c → f i = true → g i = true) → cnt f c ≤ cnt g c
  | 0, _ => Nat.le_refl _
  | c + 1, h => by
    have := cnt_mono c (fun i hi => h i (by omega))
    have hc := h c (by omega)
    unfold cnt
    cases hf : f c with
    | false => simp; omega
    | true => rw [hc hf]; simp; omega
theorem cnt_lt {f g : Nat → Bool} {x : Nat} : ∀ c, (∀ i, i < c → f i = true → g i = true) → x < c → f x = false → g x = true → cnt f c < cnt g c
  | 0, _, h, _, _ => by omega
  | c + 1, h, hx, hf, hg => by
    unfold cnt
    by_cases e : x = c
    · subst e
      have := cnt_mono x (fun i hi => h i (by omega))
      rw [hf, hg]; simp; omega
    · have := cnt_lt c (fun i hi => h i (by omega)) (by omega) hf hg
      have hc := h c (by omega)
      cases hf' : f c with
      | false => simp; omega
      | true => rw [hc hf']; simp; omega
theorem cnt_congr {f g : Nat → Bool} (c : Nat) (h : ∀ i, i < c → f i = g i) : cnt f c = cnt g c :=
  Nat.le_antisymm (cnt_mono c (fun i hi q => by rw [← h i hi]; exact q)) (cnt_mono c (fun i hi q => by rw [h i hi]; exact q))
theorem cnt_upd {f g : Nat → Bool} {x : Nat} : ∀ c, (∀ i, i < c → i ≠ x → g i = f i) → x < c → f x = false → g x = true → cnt g c = cnt f c + 1
  | 0, _, h, _, _ => by omega
  | c + 1, h, hx, hf, hg => by
    unfold cnt
    by_cases e : x = c
    · subst e
      have := cnt_congr (f := f) (g := g) x (fun i hi => (h i (by omega) (by omega)).symm)
      rw [hf, hg]; simp; omega
    · have := cnt_upd c (fun i hi => h i (by omega)) (by omega) hf hg
      rw [h c (by omega) (fun q => e q.symm)]
      omega
theorem cnt_all {f : Nat → Bool} : ∀ c, (∀ i, i < c → f i = true) → cnt f c = c
  | 0, _ => rfl
  | c + 1, h => by unfold cnt; rw [cnt_all c (fun i hi => h i (by omega)), h c (by omega)]; rfl
theorem cnt_none {f : Nat → Bool} : ∀ c, (∀ i, i < c → f i = false) → cnt f c = 0
  | 0, _ => rfl
  | c + 1, h => by unfold cnt; rw [cnt_none c (fun i hi => h i (by omega)), h c (by omega)]; rfl
theorem freeOf_at {M : Mc} {n c : Nat} (hc : c < n) (h : ∀ x, x < c → M.S x ≠ 0) (h0 : M.S c = 0) : freeOf M n = some c := by
  have e : Gt.pl M.S true n c = [] := by
    cases hp : Gt.pl M.S true n c with
    | nil => rfl
    | cons y l =>
      have := (pl_in (S := M.S) (fr := true) c (by omega) y).1 (by rw [hp]; simp)
      exact absurd (by simpa using this.2) (h y.val this.1)
  have e2 := Gt.pl_yes (S := M.S) (fr := true) hc (by simp [h0])
  rw [e] at e2
  obtain ⟨t, ht⟩ := Gt.pl_le M.S true n (c + 1) (n - (c + 1))
  rw [e2, show c + 1 + (n - (c + 1)) = n by omega] at ht
  unfold freeOf
  rw [← ht]
  rfl
end Go.Proofs.YtjlbmmiomfpgiaaGreatDoor
namespace Go.Proofs.YtjlbmmiomfpgiaaGreatDoor
set_option maxRecDepth 100000
open Go.RowKit Go.Lib
set_option linter.unusedVariables false
structure Ok (t : Tr) (x v : Nat) : Prop where
  p : t.p = (x : Int)
  g : t.g = 1
  lv : t.lv = v
  lf : t.lf ≤ v
  sv : t.sv = -1
  sn : t.sn = 0
/-- Of c threads with levels lv; m of them run, on the first m processors. -/
structure Rn (P : Nat) (lv : Nat → Nat) (c m : Nat) (M : Mc) : Prop where
  c8 : c ≤ 8
  nw : M.nw = 0
  sv : M.sv = []
  pr : M.pr.length = 1
  tl : M.gr.T.length = 8
  nol : ∀ y ∈ M.gr.L, y.l = []
  old : ∀ x, c ≤ x → x < 8 → M.S x = 0 ∧ M.G x = 0
  st : ∀ x, x < c → (M.S x = 1 ∨ M.S x = 2) ∧ M.G x = 1
  th : ∀ x, x < c → Ok (M.th x) x (lv x)
  lvs : ∀ x, x < c → lv x < 256
  en : ∀ z, Ent M.pl z → z.1 < c ∧ M.S z.1 = 1 ∧ z.2 = Ke.fixK (lv z.1 : Int)
  ne : ∀ x, x < c → M.S x = 1 → Ent M.pl (x, Ke.fixK (lv x : Int))
  pm : ∀ p, m ≤ p → p < P → (M.pc p).r = -1
  pc : ∀ p, p < m → ∃ x, x < c ∧ (M.pc p).r = (x : Int) ∧ M.S x = 2
  cn : cnt (fun i => M.S i == 2) c = m
  top : ∀ x y, x < c → y < c → M.S x = 2 → M.S y = 1 → lv y ≤ lv x
section
variable {P c m : Nat} {lv : Nat → Nat} {M : Mc}
theorem aged0 {M : Mc} {t : Tr} (hn : M.nw = 0) (hs : t.sn = 0) (hl : t.lv < 256) : agedOf M t = (t.lv : Int) := by
  unfold agedOf Ag.levN
  split
  · rfl
  · have e : Ag.subN (M.nw : Int) (t.sn : Int) = 0 := by rw [hn, hs]; decide
    rw [e, Int.zero_ediv]
    split <;> omega
theorem atL_nil (i : Int) : Cb.atL [] i = ⟨0, 0, 0, 0⟩ := by unfold Cb.atL; split <;> rfl
theorem own0 {M : Mc} {n x v : Nat} (hx : x < n) (hn : M.nw = 0) (hsv : M.sv = []) (h : Ok (M.th x) x v) (hv : v < 256) (hG : M.G x = 1) (hS : M.S x = 1 ∨ M.S x = 2) : ownOf M n (M.th x) = Ke.fixK (v : Int) := by
  unfold ownOf
  rw [hsv, atL_nil, if_neg (by simp), stOf_at hx h.p (by rw [h.g, hG]) (by omega)]
  rcases hS with e | e
  · rw [if_pos e, aged0 hn h.sn (by rw [h.lv]; exact hv), h.lv]
  · rw [if_neg (by omega), if_pos e, h.lv]
    have := h.lf
    rw [show max ((v : Int)) ((M.th x).lf : Int) = (v : Int) by omega]
theorem Rn.own (h : Rn P lv c m M) {x : Nat} (hx : x < c) : ownOf M 8 (M.th x) = Ke.fixK (lv x : Int) :=
  own0 (by have := h.c8; omega) h.nw h.sv (h.th x hx) (h.lvs x hx) (h.st x hx).2 (h.st x hx).1
theorem Rn.gr (h : Rn P lv c m M) {g : Pi.Md} (h1 : g.T.length = 8) (h2 : g.L = M.gr.L) : Rn P lv c m { M with gr := g } :=
  ⟨h.c8, h.nw, h.sv, h.pr, h1, fun y hy => h.nol y (by rw [← h2]; exact hy), h.old, h.st, h.th, h.lvs, h.en, h.ne, h.pm, h.pc, h.cn, h.top⟩
theorem Rn.settle (h : Rn P lv c m M) : Rn P lv c m (Go.Proofs.YtjlbmmiomfpgiaaGreatDoor.settle M 8) := by
  obtain ⟨g, e, h1, h2, _⟩ := settle_quiet (κ := fun x => Ke.fixK (lv x : Int)) h.tl h.nol (fun x hx hs => by
    have hc : x < c := by
      rcases Nat.lt_or_ge x c with q | q
      · exact q
      · exact absurd (h.old x q hx).1 hs
    exact ⟨h.own hc, rfl⟩) (fun z hz => (h.en z hz).2.2)
  rw [e]
  exact h.gr h1 h2
/-- One more thread. -/
theorem Rn.start {q : Nat} (h : Rn P lv c 0 M) (hP : 1 ≤ P) (hpl : M.pl.length = P + 1) (hc : c < 8) (hv : lv c < 256) : Rn P lv (c + 1) 0 (startM P 8 q M c 0 (lv c) (-1)) := by
  have hno : ∀ x, x < c → M.S x = 1 := fun x hx => by
    rcases (h.st x hx).1 with e | e
    · exact e
    · exfalso
      have := cnt_lt (f := fun _ => false) (g := fun i => M.S i == 2) (x := x) c (fun i _ q => by cases q) hx rfl (by simp [e])
      rw [h.cn] at this
      omega
  unfold startM
  refine Rn.settle ?_
  obtain ⟨e0, e0'⟩ := h.old c (Nat.le_refl _) hc
  unfold beginM
  generalize hM1 : ({ allocM M c with th := Gt.upd M.th c { newTr 0 (lv c) (-1) with p := (c : Int), g := M.G c + 1 } } : Mc) = M1
  have t1 : M1.th c = ⟨(c : Int), 1, 0, lv c, 0, -1, 0, 0, 0, 0⟩ := by
    rw [← hM1]
    show Gt.upd M.th c _ c = _
    rw [Gt.upd_same, e0']
    rfl
  have s1 : M1.S c = 1 := by rw [← hM1]; exact Gt.upd_same _ _ _
  have g1 : M1.G c = 1 := by rw [← hM1]; show Gt.upd M.G c _ c = 1; rw [Gt.upd_same, e0']
  have hm : moveS 8 M1.G M1.S (M1.th c).p (M1.th c).g 1 = M1.S := by
    have := moveS_no (n := 8) (G := M1.G) (S := M1.S) (x := c) (s := 1) (by rw [s1]; decide)
    rw [t1]
    rw [g1] at this
    exact this
  have hst : stOf M1 8 (M1.th c) = 1 := by
    rw [stOf_at (x := c) hc (by rw [t1]) (by rw [t1, g1]) (by rw [s1]; omega), s1]
  have hsv1 : M1.sv = [] := by rw [← hM1]; exact h.sv
  have hnw1 : M1.nw = 0 := by rw [← hM1]; exact h.nw
  have hr2 : ready2 8 M1 c = { M1 with th := Gt.upd M1.th c { M1.th c with sn := 0, lf := 0 } } := by
    unfold ready2 ready1
    rw [hst, if_neg (by omega), hm, hsv1, hnw1]
    have : Cb.wakL [] (M1.th c).sv 0 = [] := by unfold Cb.wakL; split <;> rfl
    rw [this]
  -- the machine ahead of the Put
  have hR2 : ∃ g, ready3 8 M1 c = { { M1 with th := Gt.upd M1.th c { M1.th c with sn := 0, lf := 0 } } with gr := g } ∧ g.T.length = 8 ∧ g.L = M.gr.L ∧ Pi.keyA g.T g.L (c : Int) = Ke.fixK (lv c : Int) := by
    unfold ready3
    rw [hr2]
    have A : ∀ x, x < 8 → Gt.upd M.S c 1 x ≠ 0 → x < c ∨ x = c := fun x hx hs => by
      by_cases e : x = c
      · exact .inr e
      · rw [Gt.upd_other _ _ _ _ e] at hs
        rcases Nat.lt_or_ge x c with q | q
        · exact .inl q
        · exact absurd (h.old x q hx).1 hs
    obtain ⟨g, e, h1, h2, h3⟩ := settle_quiet (n := 8) (M := { M1 with th := Gt.upd M1.th c { M1.th c with sn := 0, lf := 0 } }) (κ := fun x => Ke.fixK (lv x : Int)) (by rw [← hM1]; exact h.tl) (by rw [← hM1]; exact h.nol) (fun x hx hs => by
      refine ⟨?_, rfl⟩
      rw [← hM1] at hs
      rcases A x hx hs with q | q
      · refine own0 hx hnw1 hsv1 ?_ (h.lvs x q) ?_ ?_
        · show Ok (Gt.upd M1.th c _ x) x (lv x)
          rw [Gt.upd_other _ _ _ _ (by omega), ← hM1]
          show Ok (Gt.upd M.th c _ x) x (lv x)
          rw [Gt.upd_other _ _ _ _ (by omega)]
          exact h.th x q
        · rw [← hM1]; show Gt.upd M.G c _ x = 1; rw [Gt.upd_other _ _ _ _ (by omega)]; exact (h.st x q).2
        · rw [← hM1]; show Gt.upd M.S c _ x = 1 ∨ Gt.upd M.S c _ x = 2; rw [Gt.upd_other _ _ _ _ (by omega)]; exact (h.st x q).1
      · subst q
        refine own0 hx hnw1 hsv1 ?_ hv g1 (.inl s1)
        show Ok (Gt.upd M1.th x _ x) x (lv x)
        rw [Gt.upd_same, t1]
        exact ⟨rfl, rfl, rfl, Nat.zero_le _, rfl, rfl⟩) (fun z hz => by
      rw [← hM1] at hz
      exact (h.en z hz).2.2)
    refine ⟨g, e, h1, by rw [h2, ← hM1]; rfl, h3 c hc (by rw [show ({ M1 with th := Gt.upd M1.th c { M1.th c with sn := 0, lf := 0 } } : Mc).S = M1.S from rfl, s1]; omega)⟩
  obtain ⟨g, e3, h1, h2, hk⟩ := hR2
  unfold ready
  rw [e3]
  show Rn P lv (c + 1) 0 { { { M1 with th := Gt.upd M1.th c { M1.th c with sn := 0, lf := 0 } } with gr := g } with pl := pputG P 8 q (gh M1.pl) 0 (c : Int) (Pi.keyA g.T g.L (c : Int)) }
  rw [hk]
  have hpl1 : M1.pl = M.pl := by rw [← hM1]; rfl
  rw [hpl1]
  have hput := fun z => put_iff (q := q) hpl (p := 0) (by omega) (id := c) (n := 8) hc (k := Ke.fixK (lv c : Int)) rfl (fun z hz => by have := (h.en z hz).1; omega) z
  have S1 : ∀ x, x ≠ c → M1.S x = M.S x := fun x hx => by rw [← hM1]; exact Gt.upd_other _ _ _ _ hx
  have G1 : ∀ x, x ≠ c → M1.G x = M.G x := fun x hx => by rw [← hM1]; exact Gt.upd_other _ _ _ _ hx
  refine ⟨by omega, hnw1, hsv1, by rw [← hM1]; exact h.pr, h1, fun y hy => h.nol y (by rw [← h2]; exact hy), ?_, ?_, ?_, ?_, ?_, ?_, ?_, ?_, ?_, ?_⟩
  · intro x hx hx8
    exact ⟨(S1 x (by omega)).trans (h.old x (by omega) hx8).1, (G1 x (by omega)).trans (h.old x (by omega) hx8).2⟩
  · intro x hx
    by_cases e : x = c
    · subst e; exact ⟨.inl s1, g1⟩
    · show (M1.S x = 1 ∨ M1.S x = 2) ∧ M1.G x = 1
      rw [S1 x e, G1 x e]; exact h.st x (by omega)
  · intro x hx
    show Ok (Gt.upd M1.th c _ x) x (lv x)
    by_cases e : x = c
    · subst e; rw [Gt.upd_same, t1]; exact ⟨rfl, rfl, rfl, Nat.zero_le _, rfl, rfl⟩
    · rw [Gt.upd_other _ _ _ _ e, ← hM1]
      show Ok (Gt.upd M.th c _ x) x (lv x)
      rw [Gt.upd_other _ _ _ _ e]
      exact h.th x (by omega)
  · intro x hx
    by_cases e : x = c
    · subst e; exact hv
    · exact h.lvs x (by omega)
  · intro z hz
    rcases (hput z).1 hz with q | q
    · subst q; exact ⟨by simp, s1, rfl⟩
    · obtain ⟨a1, a2, a3⟩ := h.en z q
      exact ⟨by omega, (S1 _ (by omega)).trans a2, a3⟩
  · intro x hx hs
    by_cases e : x = c
    · subst e; exact (hput _).2 (.inl rfl)
    · exact (hput _).2 (.inr (h.ne x (by omega) ((S1 x e).symm.trans hs)))
  · intro p hp hp2
    show (M1.pc p).r = -1
    rw [← hM1]; exact h.pm p hp hp2
  · intro p hp; omega
  · refine cnt_none _ (fun i hi => ?_)
    show (M1.S i == 2) = false
    by_cases e : i = c
    · subst e; rw [s1]; rfl
    · rw [S1 i e, hno i (by omega)]; rfl
  · intro x y hx hy hs _
    exfalso
    have hs' : M1.S x = 2 := hs
    by_cases e : x = c
    · subst e; rw [s1] at hs'; omega
    · rw [S1 x e, hno x (by omega)] at hs'; omega
theorem Rn.free (h : Rn P lv c m M) (hc : c < 8) : freeOf M 8 = some c :=
  freeOf_at hc (fun x hx => by have := (h.st x hx).1; omega) (h.old c (Nat.le_refl _) hc).1
theorem Rn.gok (h : Rn P lv c m M) : Go.Proofs.YtjlbmmiomfpgiaaGreatDoor.gok M 8 := fun x hx => by
  rcases Nat.lt_or_ge x c with q | q
  · rw [(h.st x q).2]; omega
  · rw [(h.old x q hx).2]; omega
/-- A processor that runs nothing takes what is best. -/
theorem Rn.disp {w : World} {O : Nat → Prop} {pb q T : Nat} (h : Rn P lv c m M) (hq : PQ w O pb 8 P q T M.pl) (hm : m < P) (d : Int) (hb : (bb P (gh M.pl) (m : Int) d).isSome = true) :
    ∃ x : Nat, x < 8 ∧ bI (gh M.pl) (bb P (gh M.pl) (m : Int) d) = (x : Int) ∧ Rn P lv c (m + 1) (Go.Proofs.YtjlbmmiomfpgiaaGreatDoor.settle (dispM P 8 M m x d) 8) := by
  obtain ⟨x, k, hx, hbi, hE, htop, htk⟩ := take_iff hq hb
  obtain ⟨hxc, hxs, hxk⟩ := h.en _ hE
  refine ⟨x, hx, hbi, Rn.settle ?_⟩
  have hxc' : x < c := hxc
  have hxs' : M.S x = 1 := hxs
  obtain rfl : k = Ke.fixK (lv x : Int) := hxk
  have hok := h.th x hxc'
  have hmv : moveS 8 M.G M.S (M.th x).p (M.th x).g 2 = Gt.upd M.S x 2 := by
    have := moveS_yes (n := 8) (G := M.G) (S := M.S) (x := x) (s := 2) hx (by omega) (by rw [hxs']; decide)
    rw [hok.p, hok.g]
    rw [(h.st x hxc').2] at this
    exact this
  have hag : (agedOf M (M.th x)).toNat = lv x := by
    rw [aged0 h.nw hok.sn (by rw [hok.lv]; exact h.lvs x hxc'), hok.lv]
    rfl
  unfold dispM dispB dispA tkM
  rw [hmv, hag]
  refine ⟨h.c8, h.nw, h.sv, h.pr, h.tl, h.nol, ?_, ?_, ?_, h.lvs, ?_, ?_, ?_, ?_, ?_, ?_⟩
  · intro y hy hy8
    show Gt.upd M.S x 2 y = 0 ∧ M.G y = 0
    rw [Gt.upd_other _ _ _ _ (by omega)]
    exact h.old y hy hy8
  · intro y hy
    show (Gt.upd M.S x 2 y = 1 ∨ Gt.upd M.S x 2 y = 2) ∧ M.G y = 1
    by_cases e : y = x
    · subst e; rw [Gt.upd_same]; exact ⟨.inr rfl, (h.st y hy).2⟩
    · rw [Gt.upd_other _ _ _ _ e]; exact h.st y hy
  · intro y hy
    show Ok (Gt.upd M.th x _ y) y (lv y)
    by_cases e : y = x
    · subst e; rw [Gt.upd_same]; exact ⟨hok.p, hok.g, hok.lv, Nat.le_refl _, hok.sv, hok.sn⟩
    · rw [Gt.upd_other _ _ _ _ e]; exact h.th y hy
  · intro z hz
    obtain ⟨q1, q2⟩ := (htk z).1 hz
    obtain ⟨a1, a2, a3⟩ := h.en z q1
    refine ⟨a1, ?_, a3⟩
    show Gt.upd M.S x 2 z.1 = 1
    rw [Gt.upd_other _ _ _ _ q2]; exact a2
  · intro y hy hs
    have hs' : Gt.upd M.S x 2 y = 1 := hs
    by_cases e : y = x
    · subst e; rw [Gt.upd_same] at hs'; omega
    · rw [Gt.upd_other _ _ _ _ e] at hs'
      exact (htk _).2 ⟨h.ne y hy hs', e⟩
  · intro p hp hp2
    show (Gt.upd M.pc m _ p).r = -1
    rw [Gt.upd_other _ _ _ _ (by omega)]
    exact h.pm p (by omega) hp2
  · intro p hp
    show ∃ y, y < c ∧ (Gt.upd M.pc m _ p).r = (y : Int) ∧ Gt.upd M.S x 2 y = 2
    by_cases e : p = m
    · subst e
      rw [Gt.upd_same]
      exact ⟨x, hxc', rfl, Gt.upd_same _ _ _⟩
    · rw [Gt.upd_other _ _ _ _ e]
      obtain ⟨y, a1, a2, a3⟩ := h.pc p (by omega)
      refine ⟨y, a1, a2, ?_⟩
      by_cases e2 : y = x
      · subst e2; exact Gt.upd_same _ _ _
      · rw [Gt.upd_other _ _ _ _ e2]; exact a3
  · have := cnt_upd (f := fun i => M.S i == 2) (g := fun i => Gt.upd M.S x 2 i == 2) (x := x) c (fun i _ hi => by show (Gt.upd M.S x 2 i == 2) = _; rw [Gt.upd_other _ _ _ _ hi]) hxc' (by simp [hxs']) (by show (Gt.upd M.S x 2 x == 2) = true; rw [Gt.upd_same]; rfl)
    rw [h.cn] at this
    exact this
  · intro y z hy hz h1 h2
    have h1' : Gt.upd M.S x 2 y = 2 := h1
    have h2' : Gt.upd M.S x 2 z = 1 := h2
    have ez : z ≠ x := fun e => by subst e; rw [Gt.upd_same] at h2'; omega
    rw [Gt.upd_other _ _ _ _ ez] at h2'
    by_cases e : y = x
    · subst e
      have := htop _ (h.ne z hz h2')
      simp [Ke.up, Ke.fixK] at this
      omega
    · rw [Gt.upd_other _ _ _ _ e] at h1'
      exact h.top y z hy hz h1' h2'
theorem Rn.none (h : Rn P lv c m M) (hpl : M.pl.length = P + 1) {p d : Int} (hp : 0 ≤ p ∧ p < (P : Int)) (hb : (bb P (gh M.pl) p d).isSome = false) : m = c ∧ ∀ x, x < c → M.S x = 2 := by
  have hall : ∀ x, x < c → M.S x = 2 := fun x hx => by
    rcases (h.st x hx).1 with e | e
    · exact absurd (h.ne x hx e) (take_none hpl hp hb _)
    · exact e
  refine ⟨?_, hall⟩
  rw [← h.cn]
  exact cnt_all _ (fun i hi => by simp [hall i hi])
/-- Fewer are above one that runs than there run. -/
theorem Rn.above (h : Rn P lv c m M) {x : Nat} (hx : x < c) (hs : M.S x = 2) : cnt (fun i => decide (lv x < lv i)) c < m := by
  rw [← h.cn]
  refine cnt_lt (x := x) c (fun i hi q => ?_) hx (by simp) (by simp [hs])
  have q' : lv x < lv i := of_decide_eq_true q
  rcases (h.st i hi).1 with e | e
  · have := h.top x i hx hi hs e
    omega
  · simp [e]
end
end Go.Proofs.YtjlbmmiomfpgiaaGreatDoor
namespace Go.Proofs.YtjlbmmiomfpgiaaGreatDoor
set_option maxRecDepth 100000
open Go.RowKit Go.Lib Go.Deep Go.ChangeShapes Go.WideShapes
set_option linter.unusedVariables false
def U8s (w : World) (a : Option Addr) (len : Nat) (D : Nat → Nat) : Prop :=
  len = 0 ∨ ∃ lb off, a = some ⟨lb, off, none⟩ ∧ lb < w.heap.size ∧ ∀ j, j < len → D j < 256 ∧ w.cell? ⟨lb, off + j, none⟩ = some (.int .u8 (D j : Int))
theorem u8_of {z : Int} (h : (Lit.int .u8 z).wf = true) : ∃ n : Nat, z = n ∧ n < 256 := by
  simp [Lit.wf, IntKind.min, IntKind.max, IntKind.bits, IntKind.signed] at h
  exact ⟨z.toNat, by omega, by omega⟩
section
variable {H : Type} {enc : TypeId × Value → H} {w : World} {base : Nat} {spare : Nat → Bool} {held : Bool}
theorem cellsU8b : Tryz.prog.cellsOf 5 = 1 := by kernel_rfl
theorem open_u8s {fuel : Nat} {a : Option Addr} {len cap : Nat} {x : DataW H × List MemPlace}
    (h : DataW.trod enc Tryz.prog w base spare held fuel 80 (Value.slice a len cap).cells.toList = some x) : len < 9223372036854775808 ∧ len ≤ cap ∧ cap < 9223372036854775808 ∧ ∃ D, U8s w a len D := by
  rcases open_slice Tryz.underlying80 h with ⟨hcs, _⟩ | ⟨a', len', cap', m, n, D, Pl, hcs, hbb, hl, hm, hmm, hx, hel⟩
  · simp [Value.cells] at hcs
    obtain ⟨rfl, rfl, rfl⟩ := hcs
    exact ⟨by omega, by omega, by omega, fun _ => 0, .inl rfl⟩
  · simp [Value.cells] at hcs
    obtain ⟨rfl, rfl, rfl⟩ := hcs
    have hlm : len ≤ m := by rw [hmm]; split <;> omega
    refine ⟨by unfold maxLen at hm; omega, hl, by unfold maxLen at hm; omega, ?_⟩
    have hone : ∀ i, i < len → ∃ r : Nat, r < 256 ∧ w.cell? (a'.add (i * 1)) = some (.int .u8 (r : Int)) := by
      intro i hi'
      obtain ⟨cs', h1, h2⟩ := hel i (by omega)
      rw [cellsU8b] at h1
      obtain ⟨_, hlen, hc⟩ := World.cells?_some h1
      match cs', hlen with
      | [c0], _ =>
        obtain ⟨z0, e0, _, w0⟩ := DataW.trod_int Tryz.underlying5 h2
        simp at e0
        subst e0
        obtain ⟨n0, rfl, q0⟩ := u8_of w0
        have a0 := hc 0 (by omega)
        have az : ∀ x : Addr, x.add 0 = x := fun x => by unfold Addr.add; split <;> simp_all
        rw [az] at a0
        exact ⟨n0, q0, a0⟩
    obtain ⟨f, hf⟩ := choose_lt' hone
    refine ⟨f, ?_⟩
    by_cases h0 : len = 0
    · exact .inl h0
    · right
      obtain ⟨b, off, spot⟩ := a'
      have hspot : spot = none := by
        have := World.cell?_spot (hf 0 (by omega)).2
        simpa [Addr.add] using this
      subst hspot
      have hlt : b < w.heap.size := by
        have := World.block_lt_of_cell? w _ (hf 0 (by omega)).2
        simpa [Addr.add] using this
      refine ⟨b, off, rfl, hlt, fun i hi' => ?_⟩
      obtain ⟨q0, q1⟩ := hf i hi'
      simp only [Go.WideShapes.add_plain, Nat.mul_one] at q1
      exact ⟨q0, q1⟩
end
end Go.Proofs.YtjlbmmiomfpgiaaGreatDoor
namespace Go.Proofs.YtjlbmmiomfpgiaaGreatDoor
set_option maxRecDepth 100000
open Go.RowKit Go.Lib Go.Shelf
set_option linter.unusedVariables false
attribute [local go_sem ↓] Go.wp_at_zero Go.wp_at_succ
/-- The machine lies behind w alone. -/
def Al (w wr : World) (ad : Ad) (P n q T : Nat) (M : Mc) : Prop := (∃ lab, IsMc wr lab ad P n q T M ∧ ∀ k, lab k ≠ 0 → w.heap.size ≤ k) ∧ Below w.heap.size w wr
section
variable {w wr w' : World} {ad : Ad} {P n q T T' : Nat} {M M' : Mc}
theorem Al.goes (h : Al w wr ad P n q T M) {lab : Nat → Nat} (hi : ∀ k, lab k ≠ 0 → w.heap.size ≤ k) (g : Goes wr w' lab ad P n q T' M') : Al w w' ad P n q T' M' := by
  obtain ⟨_, hb⟩ := h
  obtain ⟨lab', hi', hl, hf⟩ := g
  refine ⟨⟨lab', hi', fun k hk => ?_⟩, hb.trans ⟨hf.os, hf.tape, hf.output, hf.size, fun k hk => hf.block k (Nat.lt_of_lt_of_le hk hb.size) (fun q => by have := hi k q; omega)⟩⟩
  rcases Nat.lt_or_ge k wr.heap.size with q | q
  · exact hi k (by rw [← hl.old k q]; exact hk)
  · exact Nat.le_trans hb.size q
theorem Al.call (h : Al w wr ad P n q T M) {f : Nat} {args : Array Value} {R : Ending → World → Prop} (hc : ∀ lab, IsMc wr lab ad P n q T M → Calls Tryz.prog f args wr fun e w' => R e w' ∧ Goes wr w' lab ad P n q T' M') : Calls Tryz.prog f args wr fun e w' => R e w' ∧ Al w w' ad P n q T' M' := by
  have h0 := h
  obtain ⟨⟨lab, hi, hl⟩, hb⟩ := h
  exact (hc lab hi).mono (fun e w' ⟨r, g⟩ => ⟨r, h0.goes hl g⟩)
theorem Al.below (h : Al w wr ad P n q T M) (hb : Below wr.heap.size wr w') : Al w w' ad P n q T M := by
  have h0 := h
  obtain ⟨⟨lab, hi, hl⟩, _⟩ := h
  exact h0.goes hl (hi.stay hb)
theorem Al.callB (h : Al w wr ad P n q T M) {f : Nat} {args : Array Value} {R : Ending → World → Prop} (hc : ∀ lab, IsMc wr lab ad P n q T M → Calls Tryz.prog f args wr fun e w' => R e w' ∧ Below wr.heap.size wr w') : Calls Tryz.prog f args wr fun e w' => R e w' ∧ Al w w' ad P n q T M := by
  have h0 := h
  obtain ⟨⟨lab, hi, hl⟩, hb⟩ := h
  exact (hc lab hi).mono (fun e w' ⟨r, g⟩ => ⟨r, h0.below g⟩)
theorem Al.like (h : Al w wr ad P n q T M) (e1 : w'.heap = wr.heap) (e2 : w'.os = wr.os) (e3 : w'.tape = wr.tape) (e4 : w'.output = wr.output) : Al w w' ad P n q T M := h.below (bp (Below.refl _ _) e1 e2 e3 e4)
theorem Al.pq (h : Al w wr ad P n q T M) : ∃ O, PQ wr O ad.pb n P q T M.pl := by
  obtain ⟨⟨lab, hi, hl⟩, hb⟩ := h
  obtain ⟨O, p, _⟩ := hi.pl
  exact ⟨O, p⟩
theorem Al.bel (h : Al w wr ad P n q T M) : Below w.heap.size w wr := h.2
/-- Start of a thread. -/
theorem Al.start {lv : Nat → Nat} {c : Nat} (h : Al w wr ad P 8 q T M) (hR : Rn P lv c 0 M) (hc : c < 8) (hv : lv c < 256) (hT : T ≤ 1000) :
    Calls Tryz.prog 19 #[.pointer (some ⟨ad.m, 0, none⟩), .int .i64 0, .int .u8 (lv c : Int), .int .i64 (-1)] wr fun e w' => ∃ v M', e = .returned (.tuple #[v, .int .i64 0]) ∧ Al w w' ad P 8 q (T + 17) M' ∧ Rn P lv (c + 1) 0 M' := by
  obtain ⟨O, hq⟩ := h.pq
  have hno : startNo M 0 (-1) = false := by
    unfold startNo hasPg
    rw [hR.pr, hR.sv]
    decide
  have := h.call (R := fun e w' => ∃ v, e = .returned (.tuple #[v, .int .i64 0])) (fun lab hi => (hi.start_yes (by omega) hR.gok 0 (lv c) hv (-1) hno c (hR.free hc)).mono (fun e w' ⟨v, he, _, g⟩ => ⟨⟨v, he⟩, g⟩))
  refine this.mono ?_
  rintro e w' ⟨⟨v, he⟩, g⟩
  exact ⟨v, _, he, g, hR.start hq.np1.1 hq.len hc hv⟩
/-- Step of a processor that runs nothing. -/
theorem Al.step {lv : Nat → Nat} {c m k : Nat} (h : Al w wr ad P 8 q T M) (hR : Rn P lv c m M) (hm : m = k ∨ (m = c ∧ m < k)) (hk : k < P) (d : Int) (hd : 0 ≤ d ∧ d < 18446744073709551616) (hT : T ≤ 1000) :
    Calls Tryz.prog 13 #[.pointer (some ⟨ad.m, 0, none⟩), .int .i64 (k : Int), .int .u64 d] wr fun e w' => ∃ v M' m', e = .returned (.tuple #[v, .int .i64 0]) ∧ Al w w' ad P 8 q (T + 9) M' ∧ Rn P lv c m' M' ∧ (m' = k + 1 ∨ (m' = c ∧ m' < k + 1)) := by
  obtain ⟨O, hq⟩ := h.pq
  have hr : (M.pc k).r = -1 := hR.pm k (by omega) hk
  cases hb : (bb P (gh M.pl) (k : Int) d).isSome with
  | true =>
    have hmk : m = k := by
      rcases hm with e | ⟨e, _⟩
      · exact e
      · exfalso
        obtain ⟨x, kk, hx, _, hE, _, _⟩ := take_iff hq hb
        obtain ⟨q1, q2, _⟩ := hR.en _ hE
        have q1' : x < c := q1
        have q2' : M.S x = 1 := q2
        have := cnt_lt (f := fun i => M.S i == 2) (g := fun _ => true) (x := x) c (fun _ _ _ => rfl) q1' (by simp [q2']) rfl
        rw [hR.cn, cnt_all c (fun _ _ => rfl)] at this
        omega
    subst hmk
    obtain ⟨x, hx, hbi, hR'⟩ := hR.disp hq hk d hb
    have := h.call (R := fun e w' => ∃ v, e = .returned (.tuple #[v, .int .i64 0])) (fun lab hi => (hi.step_of (T' := T + 1) hk d (by omega) (fun W1 O hs => act_takes (P1 := fun V => SX wr W1 V lab ad P 8 q T M wr.heap.size m [] O) (hs.sx.giveWay_not hk d hd (.inl hr)) (fun V hV => hV.takeOne_takes (by simp) hk d hd hr hb x hx hbi))).mono (fun e w' ⟨v, he, _, g⟩ => ⟨⟨v, he⟩, g⟩))
    refine this.mono ?_
    rintro e w' ⟨⟨v, he⟩, g⟩
    exact ⟨v, _, m + 1, he, g, hR', .inl rfl⟩
  | false =>
    obtain ⟨hmc, hall⟩ := hR.none hq.len (by omega) hb
    have e0 : tkM P M k d = M := by unfold tkM; rw [ptk_none hb]
    have := h.call (R := fun e w' => ∃ v, e = .returned (.tuple #[v, .int .i64 0])) (fun lab hi => (hi.step_of (T' := T + 1) hk d (by omega) (fun W1 O hs => act_takes (P1 := fun V => SX wr W1 V lab ad P 8 q T M wr.heap.size k [] O) (hs.sx.giveWay_not hk d hd (.inl hr)) (fun V hV => hV.takeOne_idle (by simp) hk d hd hr hb))).mono (fun e w' ⟨v, he, _, g⟩ => ⟨⟨v, he⟩, g⟩))
    refine this.mono ?_
    rintro e w' ⟨⟨v, he⟩, g⟩
    rw [e0] at g
    exact ⟨v, _, m, he, g, hR.settle, .inr ⟨hmc, by omega⟩⟩
end
end Go.Proofs.YtjlbmmiomfpgiaaGreatDoor
namespace Go.Proofs.YtjlbmmiomfpgiaaGreatDoor
set_option maxRecDepth 100000
open Go.RowKit Go.Lib Go.Shelf
set_option linter.unusedVariables false
attribute [local go_sem ↓] Go.wp_at_zero Go.wp_at_succ
section
variable {w wr w' : World} {ad : Ad} {P n q T T' : Nat} {M M' : Mc}
theorem new_al (P n q m qu ag : Nat) (hP : 1 ≤ P ∧ P ≤ 64) (hn : 1 ≤ n ∧ n ≤ 1024) (hq : 1 ≤ q ∧ q ≤ 256) (hm : m ≤ 32) (hqu : 1 ≤ qu ∧ qu < 18446744073709551616) (hag : 1 ≤ ag ∧ ag < 18446744073709551616) (w : World) (ht : Gt.Tab w) :
    Calls Tryz.prog 10 #[.agg #[.int .i64 (P : Int), .int .i64 (n : Int), .int .i64 (q : Int), .int .i64 (m : Int), .int .u64 (qu : Int), .int .u64 (ag : Int)]] w fun e w' => ∃ a, e = .returned (.pointer (some ⟨a.m, 0, none⟩)) ∧ Al w w' a P n q 0 (newMc P n m qu ag) :=
  (new_ok P n q m qu ag hP hn hq hm hqu hag w ht).mono (fun e w' ⟨a, lab, he, hi, hl, hb⟩ => ⟨a, he, ⟨lab, hi, hl⟩, hb⟩)
theorem Al.load_yes (h : Al w wr ad P n q T M) (ap : Option Addr) (len cap : Nat) (O R : Nat → Int) (hp : Ex.Prg wr ap len O R) (hr : Ex.Rt len O R) (hf : M.pr.length < 16) :
    Calls Tryz.prog 17 #[.pointer (some ⟨ad.m, 0, none⟩), .slice ap len cap] wr fun e w' => e = .returned (.tuple #[.int .i64 (M.pr.length : Int), .int .i64 0]) ∧ Al w w' ad P n q T { M with pr := M.pr ++ [⟨len, O, R⟩] } :=
  h.call (R := fun e _ => e = .returned (.tuple #[.int .i64 (M.pr.length : Int), .int .i64 0])) (fun lab hi => hi.load_yes ap len cap O R hp hr hf)
theorem Al.runs_none (h : Al w wr ad P n q T M) (p : Nat) (hp : p < P) (hr : (M.pc p).r = -1) :
    Calls Tryz.prog 21 #[.pointer (some ⟨ad.m, 0, none⟩), .int .i64 (p : Int)] wr fun e w' => e = .returned (.tuple #[.agg #[.int .i64 0, .int .u32 0], .bool false]) ∧ Al w w' ad P n q T M :=
  h.callB (R := fun e _ => e = .returned (.tuple #[.agg #[.int .i64 0, .int .u32 0], .bool false])) (fun lab hi => hi.runs_none p hp hr)
theorem Al.runs_yes (h : Al w wr ad P n q T M) (p : Nat) (hp : p < P) (x : Nat) (hx : x < n) (hr : (M.pc p).r = (x : Int)) :
    Calls Tryz.prog 21 #[.pointer (some ⟨ad.m, 0, none⟩), .int .i64 (p : Int)] wr fun e w' => e = .returned (.tuple #[.agg #[.int .i64 (M.th x).p, .int .u32 ((M.th x).g : Int)], .bool true]) ∧ Al w w' ad P n q T M :=
  h.callB (R := fun e _ => e = .returned (.tuple #[.agg #[.int .i64 (M.th x).p, .int .u32 ((M.th x).g : Int)], .bool true])) (fun lab hi => hi.runs_yes p hp x hx hr)
end
/-- The law's machine with one program. -/
def oneMc (P : Nat) (p : Pm) : Mc := { newMc P 8 4 50 50 with pr := [p] }
set_option maxHeartbeats 1000000 in
theorem machine_ok (w : World) (ht : Gt.Tab w) (P : Nat) (hP : 1 ≤ P ∧ P ≤ 64) (ap : Option Addr) (len cap : Nat) (O R : Nat → Int) (hp : Ex.Prg w ap len O R) (hr : Ex.Rt len O R) :
    Calls Tryz.prog 28 #[.int .i64 (P : Int), .slice ap len cap] w fun e w' => ∃ ad, e = .returned (.pointer (some ⟨ad.m, 0, none⟩)) ∧ Al w w' ad P 8 8 0 (oneMc P ⟨len, O, R⟩) := by
  have HN : Hid (Calls Tryz.prog 10 #[.agg #[.int .i64 (P : Int), .int .i64 8, .int .i64 8, .int .i64 4, .int .u64 50, .int .u64 50]] w fun e w' => ∃ a, e = .returned (.pointer (some ⟨a.m, 0, none⟩)) ∧ Al w w' a P 8 8 0 (newMc P 8 4 50 50)) := new_al P 8 8 4 50 50 hP (by decide) (by decide) (by decide) (by decide) (by decide) w ht
  have HL : Hid (∀ V ad, Al w V ad P 8 8 0 (newMc P 8 4 50 50) → Calls Tryz.prog 17 #[.pointer (some ⟨ad.m, 0, none⟩), .slice ap len cap] V fun e w' => e = .returned (.tuple #[.int .i64 0, .int .i64 0]) ∧ Al w w' ad P 8 8 0 (oneMc P ⟨len, O, R⟩)) := fun V ad h => h.load_yes ap len cap O R (hp.below h.bel) hr (by show 0 < 16; decide)
  clear hp hr ht
  go_enter Tryz.func28, Tryz.ntmps28
  go_wp2_with (first
    | (go_at_call 10; refine (HN.out).mono ?_; rintro e w1 ⟨ad, rfl, hA⟩; have HA := veil hA; clear hA)
    | (go_at_call 17; refine (HL.out _ ad HA.out).mono ?_; rintro e w2 ⟨rfl, hA2⟩; have HA2 := veil hA2; clear hA2))
  go_ret
  exact ⟨ad, rfl, HA2.out⟩
theorem one_rn (P : Nat) (lv : Nat → Nat) (p : Pm) : Rn P lv 0 0 (oneMc P p) := by
  refine ⟨by decide, rfl, rfl, rfl, by simp [oneMc, newMc, Pi.newM, Pi.newT], ?_, fun x _ _ => ⟨rfl, rfl⟩, fun x hx => by omega, fun x hx => by omega, fun x hx => by omega, ?_, fun x hx => by omega, fun p _ _ => rfl, fun p hp => by omega, rfl, fun x y hx => by omega⟩
  · intro y hy
    have : y = ⟨-1, []⟩ := List.eq_of_mem_replicate hy
    rw [this]
  · rintro z ⟨i, M, hM, hz⟩
    have : M = [] := by
      have hM' : (List.replicate (P + 1) ([] : List En))[i]? = some M := hM
      rw [List.getElem?_replicate] at hM'
      split at hM'
      · injection hM' with q; exact q.symm
      · cases hM'
    rw [this] at hz
    cases hz
end Go.Proofs.YtjlbmmiomfpgiaaGreatDoor
namespace Go.Proofs.YtjlbmmiomfpgiaaGreatDoor
set_option maxRecDepth 100000
open Go.RowKit Go.Lib Go.Shelf
set_option linter.unusedVariables false
attribute [local go_sem ↓] Go.wp_at_zero Go.wp_at_succ
theorem buildIn (x y : Int) (w : World) : (Instr.build 64 #[(0, .int .i64 x), (1, .int .i64 y)]).run Tryz.prog w = .ok (.agg #[.int .i64 x, .int .i64 y]) w ∧ (Instr.build 64 #[(0, .int .i64 x)]).run Tryz.prog w = .ok (.agg #[.int .i64 x, .int .i64 0]) w := ⟨run_build w 64 _ _ (by kernel_rfl), run_build w 64 _ _ (by kernel_rfl)⟩
theorem rem4 (n : Nat) : Int.tmod (n : Int) 4 = ((n % 4 : Nat) : Int) := by
  rw [Int.tmod_eq_emod_of_nonneg (by omega)]
  omega
def rO (j : Nat) : Int := if j = 0 then 1 else 9
def rR (j : Nat) : Int := if j = 0 then 9 else 0
theorem r_rt : Ex.Rt 2 rO rR := by
  refine ⟨0, .inr (.inr (.inr ⟨by decide, by decide, ?_, .inr rfl, rfl, rfl⟩))⟩
  intro i hi
  match i, hi with
  | 0, _ => decide
  | 1, _ => decide
theorem r_prg (w : World) : Ex.Prg (w.alloc (.cells #[.int .i64 1, .int .i64 9, .int .i64 9, .int .i64 0] 64)) (some ⟨w.heap.size, 0, none⟩) 2 rO rR := by
  refine .inr ⟨w.heap.size, 0, rfl, by simp, fun j hj => ?_⟩
  match j, hj with
  | 0, _ => exact ⟨newc _ _ _ 0 _ rfl, newc _ _ _ 1 _ rfl⟩
  | 1, _ => exact ⟨newc _ _ _ 2 _ rfl, newc _ _ _ 3 _ rfl⟩
set_option maxHeartbeats 8000000 in
set_option maxRecDepth 20000 in
theorem TopRounds_walk (a : Option Addr) (len cap : Nat) (L : Nat → Nat) (hlen : len < 9223372036854775808) (n : Nat) (hn : n < 256) (d : Int) (hd : 0 ≤ d ∧ d < 18446744073709551616) (w : World) (ht : Gt.Tab w) (hL : U8s w a len L) :
    Calls Tryz.prog 9 #[.slice a len cap, .int .u8 (n : Int), .int .u64 d] w fun e w' => e = .returned (.bool true) ∧ Below w.heap.size w w' := by
  have hr := rem4 n
  have hr4 : n % 4 < 4 := Nat.mod_lt _ (by decide)
  have hwn : IntKind.i64.wrap (n : Int) = (n : Int) := by simp [IntKind.wrap, IntKind.bits, IntKind.signed]; omega
  generalize n % 4 = r at *
  obtain ⟨P, hPr⟩ : ∃ P, r + 1 = P := ⟨_, rfl⟩
  have hP : 1 ≤ P ∧ P ≤ 4 := by omega
  have hPe : (r : Int) + 1 = (P : Int) := by omega
  have hw0 : Below w.heap.size w (w.alloc (.cells #[.int .i64 1, .int .i64 9, .int .i64 9, .int .i64 0] 64)) := (Below.refl _ _).alloc (Nat.le_refl _) _
  have HMA := veil (machine_ok (w.alloc (.cells #[.int .i64 1, .int .i64 9, .int .i64 9, .int .i64 0] 64)) (ht.below hw0) P (by omega) (some ⟨w.heap.size, 0, none⟩) 2 2 rO rR (r_prg w) r_rt)
  have HLv : Hid (len = 0 ∨ ∃ lb off, a = some ⟨lb, off, none⟩ ∧ lb < w.heap.size ∧ ∀ j, j < len → L j < 256 ∧ w.cell? ⟨lb, off + j, none⟩ = some (.int .u8 (L j : Int))) := hL
  have HB0 := veil hw0
  have HD := veil hd
  have hbi := fun x y w => (buildIn x y w).1
  have hbi2 := fun x w => (buildIn x 0 w).2
  clear ht hL hw0 hPr
  go_enter Tryz.func9, Tryz.ntmps9
  go_wp2_with (go_at_call 28; refine (HMA.out).mono ?_; rintro e w1 ⟨ad, rfl, hA⟩; have HA := veil hA; clear hA)
  generalize (w.alloc (.cells #[.int .i64 1, .int .i64 9, .int .i64 9, .int .i64 0] 64)) = W0 at *
  go_loopw [9, 10] (fun mv iv wr => ∃ (j : Nat) (M : Mc), j ≤ len ∧ j ≤ 8 ∧ iv = .int .i64 j ∧ mv = .int .i64 j ∧ Al W0 wr ad P 8 8 (17 * j) M ∧ Rn P L j 0 M) (fun _ iv _ => 8 - (RowKit.intOf iv).toNat)
  case atStart => exact ⟨0, _, by omega, by omega, rfl, rfl, HA.out, one_rn P L _⟩
  case round =>
    obtain ⟨j, M, hj, hj8, rfl, rfl, hA1, hR1⟩ := hrel
    have HA1 := veil hA1
    have HR1 := veil hR1
    clear hA1 hR1 HA HMA
    by_cases hjl : j < len ∧ j < 8
    · have hjl' : (j : Int) < (len : Int) := by omega
      have hj8' : (j : Int) < 8 := by omega
      rcases HLv.out with h0 | ⟨lb, off, rfl, hlb, hc⟩
      · omega
      obtain ⟨hx, z1⟩ := hc j hjl.1
      have y1 : wr.cell? ⟨lb, off + j, none⟩ = some (.int .u8 (L j : Int)) := kc (bt HB0.out HA1.out.bel) z1
      have HST := veil (HA1.out.start HR1.out hjl.2 hx (by omega))
      clear hc z1
      go_wp2_with (go_at_call 19; refine (HST.out).mono ?_; rintro e w2 ⟨v, M2, rfl, hA2, hR2⟩; have HA2 := veil hA2; have HR2 := veil hR2; clear hA2 hR2)
      go_roundw
      case rel => exact ⟨j + 1, M2, by omega, by omega, by go_num, by go_num, HA2.out, HR2.out⟩
      case measure => simp [RowKit.intOf]; omega
    · have hways : (¬ (j : Int) < (len : Int)) ∨ ((j : Int) < (len : Int) ∧ ¬ (j : Int) < 8) := by omega
      have HT := veil (show 17 * j ≤ 200 by omega)
      clear hjl
      rcases hways with hq | ⟨hq, hq2⟩
      all_goals
        go_wp2
        go_loopw [13] (fun kv wr => ∃ (k m T : Nat) (M2 : Mc), k ≤ P ∧ kv = .int .i64 k ∧ T ≤ 200 + 9 * k ∧ Al W0 wr ad P 8 8 T M2 ∧ Rn P L j m M2 ∧ (m = k ∨ (m = j ∧ m < k))) (fun kv _ => P - (RowKit.intOf kv).toNat)
        case atStart => exact ⟨0, 0, _, M, by omega, rfl, by have := HT.out; omega, HA1.out, HR1.out, .inl rfl⟩
        case round =>
          obtain ⟨k, m, T, M2, hk, rfl, hTk, hA2, hR2, hmk⟩ := hrel
          have HA2 := veil hA2
          have HR2 := veil hR2
          have HMK := veil hmk
          clear hA2 hR2 HA1 HR1 hmk
          by_cases hkP : k < P
          · have hkP' : (k : Int) < (P : Int) := by omega
            have HSP := veil (HA2.out.step HR2.out HMK.out hkP d HD.out (by omega))
            go_wp2_with (go_at_call 13; refine (HSP.out).mono ?_; rintro e w3 ⟨v, M3, m3, rfl, hA3, hR3, hm3⟩; have HA3 := veil hA3; have HR3 := veil hR3; have HM3 := veil hm3; clear hA3 hR3 hm3)
            go_roundw
            case rel => exact ⟨k + 1, m3, T + 9, M3, by omega, by go_num, by omega, HA3.out, HR3.out, HM3.out⟩
            case measure => simp [RowKit.intOf]; omega
          · have hkP' : ¬ (k : Int) < (P : Int) := by omega
            obtain rfl : k = P := by omega
            have HMP : Hid (m ≤ k ∧ (m = k ∨ m = j)) := by
              have := HMK.out
              unfold Hid
              omega
            clear HMK hTk
            go_wp2
            go_loopw [14, 15] (fun rv pv wr => ∃ p : Nat, p ≤ k ∧ pv = .int .i64 p ∧ rv = .int .i64 (min p m : Nat) ∧ Al W0 wr ad k 8 8 T M2) (fun _ pv _ => k - (RowKit.intOf pv).toNat)
            case atStart => exact ⟨0, by omega, rfl, by simp, HA2.out⟩
            case round =>
              obtain ⟨p, hp, rfl, rfl, hA3⟩ := hrel
              have HA3 := veil hA3
              clear hA3 HA2
              by_cases hpk : p < k
              · have hpk' : (p : Int) < (k : Int) := by omega
                by_cases hpm : p < m
                · obtain ⟨x, hxj, hxr, hxs⟩ := HR2.out.pc p hpm
                  have hc8 := HR2.out.c8
                  have hth := HR2.out.th x hxj
                  have hru := HA3.out.runs_yes p hpk x (by omega) hxr
                  rw [hth.p, hth.g] at hru
                  have HRU := veil hru
                  have HXS := veil hxs
                  have hmin : min p m = p := by omega
                  have hmin2 : min (p + 1) m = p + 1 := by omega
                  rw [hmin]
                  clear hru hth hxr hxs
                  rcases HLv.out with h0 | ⟨lb, off, rfl, hlb, hcl⟩
                  · omega
                  have HCL := veil hcl
                  clear hcl
                  go_wp2_with (go_at_call 21; refine (HRU.out).mono ?_; rintro e w4 ⟨rfl, hA4⟩; have HA4 := veil hA4; clear hA4)
                  have HA5 := veil (HA4.out.below ((Below.refl w4.heap.size w4).alloc (Nat.le_refl _) (.cells #[.int .i64 (x : Int), .int .u32 1] 51)))
                  have HX5 : Hid ((w4.alloc (.cells #[.int .i64 (x : Int), .int .u32 1] 51)).cell? ⟨w4.heap.size, 0, none⟩ = some (.int .i64 (x : Int))) := newc _ _ _ 0 _ rfl
                  clear HA4
                  generalize (w4.alloc (.cells #[.int .i64 (x : Int), .int .u32 1] 51)) = W5 at *
                  obtain ⟨ib, hib⟩ : ∃ ib, w4.heap.size = ib := ⟨_, rfl⟩
                  rw [hib] at HX5 ⊢
                  clear hib
                  have HLx : Hid (∀ V, Al W0 V ad k 8 8 T M2 → V.cell? ⟨lb, off + x, none⟩ = some (.int .u8 (L x : Int))) := fun V hV => kc (bt HB0.out hV.bel) (HCL.out x (by omega)).2
                  have hmk := HMP.out
                  have HAB := veil (HR2.out.above hxj HXS.out)
                  go_loopw [18, 19] (fun av iv wr => ∃ i : Nat, i ≤ j ∧ iv = .int .i64 i ∧ av = .int .i64 (cnt (fun y => decide (L x < L y)) i : Nat) ∧ Al W0 wr ad k 8 8 T M2 ∧ wr.cell? ⟨ib, 0, none⟩ = some (.int .i64 (x : Int))) (fun _ iv _ => j - (RowKit.intOf iv).toNat)
                  case atStart => exact ⟨0, by omega, rfl, rfl, HA5.out, HX5.out⟩
                  case round =>
                    obtain ⟨i, hij, rfl, rfl, hA6, hx6⟩ := hrel
                    have HA6 := veil hA6
                    have HX6 := veil hx6
                    have hci := cnt_le (fun y => decide (L x < L y)) i
                    clear hA6 HA5 HX5
                    by_cases hil : i < j
                    · have hil' : (i : Int) < (j : Int) := by omega
                      have y2 := HLx.out _ HA6.out
                      obtain ⟨hli, z1⟩ := HCL.out i (by omega)
                      have y1 : wr.cell? ⟨lb, off + i, none⟩ = some (.int .u8 (L i : Int)) := kc (bt HB0.out HA6.out.bel) z1
                      have hlx := (HCL.out x (by omega)).1
                      have hil2 : (i : Int) < (len : Int) := by omega
                      have hxl2 : (x : Int) < (len : Int) := by omega
                      clear z1
                      have hstep : cnt (fun y => decide (L x < L y)) (i + 1) = cnt (fun y => decide (L x < L y)) i + (if decide (L x < L i) = true then 1 else 0) := rfl
                      have HSTP := veil hstep
                      clear hstep
                      generalize hcn : cnt (fun y => decide (L x < L y)) i = ci at *
                      clear hcn
                      by_cases hlt : L x < L i
                      · have hlt' : (L x : Int) < (L i : Int) := by omega
                        have HE : Hid (cnt (fun y => decide (L x < L y)) (i + 1) = ci + 1) := by unfold Hid; rw [HSTP.out]; simp [hlt]
                        go_wp2
                        go_region_held3 (fun w' => w'.cell? ⟨lb, off + i, none⟩ = some (.int .u8 (L i : Int)) ∧ w'.cell? ⟨ib, 0, none⟩ = some (.int .i64 (x : Int)) ∧ w'.cell? ⟨lb, off + x, none⟩ = some (.int .u8 (L x : Int)))
                          (go_keep)
                          (first | fail)
                        go_wp2
                        go_roundw
                        case rel => exact ⟨i + 1, by omega, by go_num, by rw [HE.out]; go_num, HA6.out.like rfl rfl rfl rfl, HX6.out⟩
                        case measure => simp [RowKit.intOf]; omega
                      · have hlt' : ¬ (L x : Int) < (L i : Int) := by omega
                        have HE : Hid (cnt (fun y => decide (L x < L y)) (i + 1) = ci) := by unfold Hid; rw [HSTP.out]; simp [hlt]
                        go_wp2
                        go_region_held3 (fun w' => w'.cell? ⟨lb, off + i, none⟩ = some (.int .u8 (L i : Int)) ∧ w'.cell? ⟨ib, 0, none⟩ = some (.int .i64 (x : Int)) ∧ w'.cell? ⟨lb, off + x, none⟩ = some (.int .u8 (L x : Int)))
                          (go_keep)
                          (first | fail)
                        go_wp2
                        go_roundw
                        case rel => exact ⟨i + 1, by omega, by go_num, by rw [HE.out], HA6.out.like rfl rfl rfl rfl, HX6.out⟩
                        case measure => simp [RowKit.intOf]; omega
                    · have hil' : ¬ (i : Int) < (j : Int) := by omega
                      obtain rfl : i = j := by omega
                      have hab := HAB.out
                      have hnp : ¬ (k : Int) ≤ ((cnt (fun y => decide (L x < L y)) i : Nat) : Int) := by omega
                      generalize hcn : cnt (fun y => decide (L x < L y)) i = ci at *
                      go_wp2
                      go_roundw
                      case rel =>
                        refine ⟨p + 1, by omega, by go_num, by rw [hmin2]; go_num, HA6.out⟩
                      case measure => simp [RowKit.intOf]; omega
                · have hmin : min p m = m := by omega
                  have hmin2 : min (p + 1) m = m := by omega
                  have HRU := veil (HA3.out.runs_none p hpk (HR2.out.pm p (by omega) hpk))
                  rw [hmin]
                  go_wp2_with (go_at_call 21; refine (HRU.out).mono ?_; rintro e w4 ⟨rfl, hA4⟩; have HA4 := veil hA4; clear hA4)
                  go_roundw
                  case rel =>
                    refine ⟨p + 1, by omega, by go_num, by rw [hmin2], ?_⟩
                    exact HA4.out.below ((Below.refl w4.heap.size w4).alloc (Nat.le_refl _) _)
                  case measure => simp [RowKit.intOf]; omega
              · have hpk' : ¬ (p : Int) < (k : Int) := by omega
                obtain rfl : p = k := by omega
                have hmp := HMP.out
                have hmin : min p m = m := by omega
                rw [hmin]
                have hcj : m ≤ j := by
                  rw [← HR2.out.cn]
                  exact cnt_le _ _
                by_cases hjp : j < p
                · have hjp' : (j : Int) < (p : Int) := by omega
                  obtain rfl : m = j := by omega
                  go_wp2
                  go_ret
                  exact ⟨by simp, bt HB0.out HA3.out.bel⟩
                · have hjp' : ¬ (j : Int) < (p : Int) := by omega
                  obtain rfl : m = p := by omega
                  go_wp2
                  go_ret
                  exact ⟨by simp, bt HB0.out HA3.out.bel⟩
end Go.Proofs.YtjlbmmiomfpgiaaGreatDoor
