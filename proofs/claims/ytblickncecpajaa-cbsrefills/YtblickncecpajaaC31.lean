/-
  The walk of CbsCharges.
-/
import Derived.Test.YtblickncecpajaaC30
namespace Go.Proofs.Ytblickncecpajaa
open Go.RowKit Go.Lib
set_option linter.unusedVariables false
attribute [local go_sem ↓] Go.wp_at_zero Go.wp_at_succ
theorem Pep.apart {w : World} {base s P : Nat} {v : Value} {L : List Srv} (h : Pep w base s P v L) (hs : base ≤ s) {k : Nat} (hk : k < base) : ¬ (k = s ∨ some k = v.ownBlock) := fun q => by
  rcases q with q | q
  · omega
  · have := (ownsRow_blk h.own q.symm).1; omega
/-- Others that were made later are as they were. -/
theorem Pep.past {w w' : World} {base base' s f P : Nat} {v v' : Value} {L L' : List Srv} (h : Pep w base s P v L) (hn : ∀ k, k = s ∨ some k = v.ownBlock → k < base') (hg : Pep w base' f P v' L') (hf : base' ≤ f) (hfr : Fr (fun k => k = s ∨ some k = v.ownBlock) w w') : Pep w' base' f P v' L' :=
  hg.frame hfr (fun q => by have := hn f q; omega) (fun k hk q => by have := hn k q; have := (ownsRow_blk hg.own hk).1; omega)
theorem Pep.lts {w : World} {base s P : Nat} {v : Value} {L : List Srv} (h : Pep w base s P v L) (k : Nat) (q : k = s ∨ some k = v.ownBlock) : k < w.heap.size := by
  rcases q with rfl | q
  · exact h.lt
  · exact (ownsRow_blk h.own q.symm).2.1
def wantN (L : List Srv) (i k : Int) : Nat := if k = i ∧ chgC L i = 0 then (atL L k).l - 1 else (atL L k).l
theorem charge_facts (L : List Srv) (i : Int) : (chgL L i).length = L.length ∧ ∀ k : Nat, k < L.length → (atL (chgL L i) k).l = wantN L i k ∧ (atL (chgL L i) k).d = (atL L k).d := by
  rcases inL_cases L i with ⟨h0, h1⟩ | ⟨j, x, rfl, hx⟩
  · have e : chgL L i = L := by unfold chgL; rw [h0]; simp
    have e2 : chgC L i = 2 := by unfold chgC; rw [h0]; simp
    rw [e]
    refine ⟨rfl, fun k hk => ⟨?_, rfl⟩⟩
    unfold wantN; rw [e2]; simp
  · obtain ⟨e1, e2⟩ := atL_some hx
    have hj : j < L.length := (List.getElem?_eq_some_iff.1 hx).1
    by_cases hl : x.l = 0
    · have e : chgL L (j : Int) = L := by unfold chgL; rw [e1, e2]; simp [hl]
      have e3 : chgC L (j : Int) = 6 := by unfold chgC; rw [e1, e2]; simp [hl]
      rw [e]
      refine ⟨rfl, fun k hk => ⟨?_, rfl⟩⟩
      unfold wantN; rw [e3]; simp
    · have e : chgL L (j : Int) = L.set j (tickS x) := by unfold chgL; rw [e1, e2, if_pos ⟨rfl, by omega⟩]; simp
      have e3 : chgC L (j : Int) = 0 := by unfold chgC; rw [e1, e2]; simp [hl]
      rw [e]
      refine ⟨by simp, fun k hk => ?_⟩
      unfold wantN
      rw [e3]
      by_cases hkj : k = j
      · subst hkj
        have q := (atL_some (L := L.set k (tickS x)) (k := k) (x := tickS x) (by simp [hk])).1
        rw [q, e1]
        simp [tickS]
      · have hy : L[k]? = some L[k] := List.getElem?_eq_getElem hk
        have q := (atL_some (L := L.set j (tickS x)) (k := k) (x := L[k]) (by rw [List.getElem?_set_ne (fun q => hkj q.symm)]; exact hy)).1
        have q2 := (atL_some hy).1
        have : ¬ (k : Int) = (j : Int) := by omega
        rw [q, q2]
        simp [this]
theorem charge_ends (L : List Srv) (i : Int) : (chgC L i = 2 ∧ chgB L i = false ∧ (atL L i).l = 0) ∨ (chgC L i = 6 ∧ chgB L i = false ∧ (atL L i).l = 0) ∨ (chgC L i = 0 ∧ 1 ≤ (atL L i).l ∧ (atL (chgL L i) i).l = (atL L i).l - 1 ∧ chgB L i = decide ((atL L i).l = 1)) := by
  rcases inL_cases L i with ⟨h0, h1⟩ | ⟨j, x, rfl, hx⟩
  · left
    refine ⟨by unfold chgC; rw [h0]; simp, by unfold chgB; rw [h0]; simp, by unfold atL; rw [if_neg h1]⟩
  · obtain ⟨e1, e2⟩ := atL_some hx
    have hj : j < L.length := (List.getElem?_eq_some_iff.1 hx).1
    by_cases hl : x.l = 0
    · right; left
      refine ⟨by unfold chgC; rw [e1, e2]; simp [hl], by unfold chgB; rw [e1, e2]; simp [hl], by rw [e1]; exact hl⟩
    · right; right
      have h3 : chgC L (j : Int) = 0 := by unfold chgC; rw [e1, e2]; simp [hl]
      refine ⟨h3, by rw [e1]; omega, ?_, by unfold chgB; rw [e1, e2]; simp⟩
      rw [((charge_facts L j).2 j hj).1]
      unfold wantN
      rw [if_pos ⟨rfl, h3⟩]
end Go.Proofs.Ytblickncecpajaa
