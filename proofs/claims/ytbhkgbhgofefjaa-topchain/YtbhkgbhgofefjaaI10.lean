/- Who holds a lock, who holds the one that that one waits for, and so on: as holders yields them. -/
import Derived.Test.YtbhkgbhgofefjaaI9
namespace Go.Proofs.Ytbhkgbhgofefjaa
open Go.RowKit Go.Shelf
set_option linter.unusedVariables false
attribute [local go_sem] Oper.semAt_some
/-- The way from a lock on. -/
inductive Chn (T : List Th) (L : List Lk) : Int → List Int → Prop
  | stop : Chn T L (-1) []
  | on {m i : Nat} {y : Lk} {x : Th} {xs : List Int} : L[m]? = some y → y.h = (i : Int) → T[i]? = some x → Chn T L x.u xs → Chn T L (m : Int) ((i : Int) :: xs)
theorem Fine.chain {T : List Th} {L : List Lk} (f : Fine T L) : ∀ (m : Nat) (y : Lk), L[m]? = some y → 0 ≤ y.h → ∃ xs, Chn T L (m : Int) xs := by
  obtain ⟨B, r, hb, hr⟩ := f.ac
  suffices h : ∀ (k m : Nat) (y : Lk) (i : Nat), L[m]? = some y → y.h = (i : Int) → B - r i ≤ k → ∃ xs, Chn T L (m : Int) xs by
    intro m y hy h0
    exact h _ m y y.h.toNat hy (by omega) (Nat.le_refl _)
  intro k
  induction k with
  | zero =>
    intro m y i hy hi hk
    have ho := f.lk y (List.mem_of_getElem? hy)
    have hil : i < T.length := by have := ho.2.1; omega
    have hx : T[i]? = some _ := List.getElem?_eq_getElem hil
    have hok := f.th _ (List.mem_of_getElem? hx)
    by_cases hu : (T[i]).u = -1
    · exact ⟨_, .on hy hi hx (by rw [hu]; exact .stop)⟩
    · exfalso
      obtain ⟨m', hm'⟩ : ∃ m' : Nat, (T[i]).u = (m' : Int) := ⟨(T[i]).u.toNat, by have := hok.2.1; omega⟩
      have hml : m' < L.length := by have := hok.2.2; omega
      have hy' : L[m']? = some _ := List.getElem?_eq_getElem hml
      have hin := (f.wt i _ hx m' _ hy').2 hm'
      have h0 := (f.lk _ (List.mem_of_getElem? hy')).2.2.2.2 (List.ne_nil_of_mem hin)
      have := hr i (L[m']).h.toNat ⟨_, List.mem_of_getElem? hy', hin, by omega⟩
      have := hb (L[m']).h.toNat
      omega
  | succ k ih =>
    intro m y i hy hi hk
    have ho := f.lk y (List.mem_of_getElem? hy)
    have hil : i < T.length := by have := ho.2.1; omega
    have hx : T[i]? = some _ := List.getElem?_eq_getElem hil
    have hok := f.th _ (List.mem_of_getElem? hx)
    by_cases hu : (T[i]).u = -1
    · exact ⟨_, .on hy hi hx (by rw [hu]; exact .stop)⟩
    · obtain ⟨m', hm'⟩ : ∃ m' : Nat, (T[i]).u = (m' : Int) := ⟨(T[i]).u.toNat, by have := hok.2.1; omega⟩
      have hml : m' < L.length := by have := hok.2.2; omega
      have hy' : L[m']? = some _ := List.getElem?_eq_getElem hml
      have hin := (f.wt i _ hx m' _ hy').2 hm'
      have h0 := (f.lk _ (List.mem_of_getElem? hy')).2.2.2.2 (List.ne_nil_of_mem hin)
      have hlt := hr i (L[m']).h.toNat ⟨_, List.mem_of_getElem? hy', hin, by omega⟩
      have hbb := hb (L[m']).h.toNat
      obtain ⟨xs, hxs⟩ := ih m' _ (L[m']).h.toNat hy' (by omega) (by omega)
      exact ⟨_, .on hy hi hx (by rw [hm']; exact hxs)⟩
/-- Whom the way leads to. -/
theorem Chn.leads {T : List Th} {L : List Lk} (f : Fine T L) {at' : Int} {xs : List Int} (h : Chn T L at' xs) : ∀ (m : Nat) (y : Lk) (i : Nat), at' = (m : Int) → L[m]? = some y → y.h = (i : Int) → ∀ t : Nat, ((t : Int) ∈ xs ↔ Leads L i t) := by
  induction h with
  | stop => intro m y i e; omega
  | @on m0 i0 y0 x0 xs hy0 hi0 hx0 hc ih =>
    intro m y i e hy hi t
    obtain rfl : m0 = m := by omega
    obtain rfl : y0 = y := by rw [hy0] at hy; exact Option.some.inj hy
    obtain rfl : i0 = i := by omega
    have hok := f.th _ (List.mem_of_getElem? hx0)
    constructor
    · intro ht
      rcases List.mem_cons.1 ht with q | q
      · obtain rfl : t = i0 := by omega
        exact .here _
      · by_cases hu : x0.u = -1
        · rw [hu] at hc
          generalize hz : (-1 : Int) = z at hc
          cases hc with
          | stop => simp at q
          | on => omega
        · obtain ⟨m', hm'⟩ : ∃ m' : Nat, x0.u = (m' : Int) := ⟨x0.u.toNat, by have := hok.2.1; omega⟩
          have hml : m' < L.length := by have := hok.2.2; omega
          have hy' : L[m']? = some _ := List.getElem?_eq_getElem hml
          have hin := (f.wt i0 _ hx0 m' _ hy').2 hm'
          have h0 := (f.lk _ (List.mem_of_getElem? hy')).2.2.2.2 (List.ne_nil_of_mem hin)
          exact .on ⟨_, List.mem_of_getElem? hy', hin, (by omega : (L[m']).h = (((L[m']).h.toNat : Nat) : Int))⟩ ((ih m' _ (L[m']).h.toNat hm' hy' (by omega) t).1 q)
    · intro hl
      cases hl with
      | here => simp
      | @on _ s' _ e1 e2 =>
        right
        obtain ⟨z, hz, hin, hzh⟩ := e1
        obtain ⟨m', hm'⟩ := List.mem_iff_getElem?.1 hz
        have hu := (f.wt i0 _ hx0 m' z hm').1 hin
        exact (ih m' z s' hu hm' hzh t).2 e2
end Go.Proofs.Ytbhkgbhgofefjaa
