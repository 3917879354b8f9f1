/-
  What pair's loops keep: a row and what is made of it, of the same spots; how long a row is, read off the world.
-/
import Derived.Test.YtbefehoegmmgpaaP14
namespace Go.Proofs.Ytbefehoegmmgpaa.Ph
open Go.RowKit

/-- The row t and the trees m that are made already; L: the spots of both; all else is as it was. -/
structure PI (w : World) (b g n rt ct : Nat) (D S I : Nat → Nat) (T : Nat → Bool) (L : List Nat) (C0 A0 B0 : Nat → Nat) (wr : World) (t m : BT) : Prop where
  lk : ∃ C A B, Rep wr b g n rt ct D S I C A B T ∧ Row C A B t ∧ Row C A B m ∧ ∀ y, y ∉ L → C y = C0 y ∧ A y = A0 y ∧ B y = B0 y
  o1 : Ord (Le D S I) t
  o2 : Ord (Le D S I) m
  pm : (t.spots ++ m.spots).Perm L
  on : Only b g w wr
/-- What L must be. -/
structure Spots (n : Nat) (L : List Nat) : Prop where
  nd : L.Nodup
  le : ∀ y ∈ L, 1 ≤ y ∧ y ≤ n

def behindOf (w : World) (g r : Nat) : Nat := match w.cell? ⟨g, r * 7 + 5, none⟩ with
  | some v => (intOf v).toNat
  | none => 0
def chain (w : World) (g : Nat) : Nat → Nat → Nat
  | 0, _ => 0
  | f + 1, r => if r = 0 then 0 else chain w g f (behindOf w g r) + 1
theorem chain_wide {w : World} {b g n rt ct : Nat} {D S I C A B : Nat → Nat} {T : Nat → Bool} (h : Rep w b g n rt ct D S I C A B T) : ∀ (t : BT) (f : Nat), Row C A B t → (∀ y ∈ t.spots, 1 ≤ y ∧ y ≤ n) → t.wide ≤ f → chain w g f t.root = t.wide
  | .nil, f, _, _, _ => by
    cases f with
    | zero => rfl
    | succ f => rw [chain]; rfl
  | .node s c x, f, hr, hs, hf => by
    cases f with
    | zero => simp [BT.wide] at hf
    | succ f =>
      obtain ⟨h1, h2, h3, h4⟩ := hr
      obtain ⟨a1, a2⟩ := hs s (by simp [BT.spots])
      have hb : behindOf w g s = x.root := by
        rw [behindOf, h.nb s a2, h2]; simp [intOf]
      rw [BT.root, chain, if_neg (by omega), hb, BT.wide, chain_wide h x f h4 (fun y hy => hs y (by simp [BT.spots, hy])) (by rw [BT.wide] at hf; omega)]
theorem wide_le : ∀ t : BT, t.wide ≤ t.spots.length
  | .nil => Nat.le_refl _
  | .node s c x => by have := wide_le x; simp only [BT.wide, BT.spots, List.length_cons, List.length_append]; omega

section
variable {w : World} {b g n rt ct : Nat} {D S I : Nat → Nat} {T : Nat → Bool} {L : List Nat} {C0 A0 B0 : Nat → Nat} {wr : World} {t m : BT}
theorem PI.chain (h : PI w b g n rt ct D S I T L C0 A0 B0 wr t m) (hL : Spots n L) : chain wr g L.length t.root = t.wide := by
  obtain ⟨C, A, B, hr, h1, h2, h3⟩ := h.lk
  refine chain_wide hr t _ h1 (fun y hy => hL.le y (h.pm.mem_iff.1 (by simp [hy]))) ?_
  have := h.pm.length_eq
  have := wide_le t
  rw [List.length_append] at *
  omega
end
end Go.Proofs.Ytbefehoegmmgpaa.Ph
