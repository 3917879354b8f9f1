/-
  All processors' sets: the whole; shared, has, Len, Where.
-/
import Derived.Test.YtlfejgjhamcahaaZ3
namespace Go.Proofs.Ytlfejgjhamcahaa
open Go.RowKit Go.Lib
attribute [local go_sem ↓] Go.wp_at_zero Go.wp_at_succ

/-- The place of an id, by what the sets hold. -/
def whereF (n : Nat) : List Hd → Int → Int → Option Int
  | [], _, _ => none
  | h :: H, i, id => if ((if 0 ≤ id ∧ id < (n : Int) then keyOf h.M id.toNat else none : Option Ke.K)).isSome then some i else whereF n H (i + 1) id
def sumH (H : List Hd) : Nat := (H.map (fun h => h.M.length)).sum
/-- All processors' sets at pb: np and the shared one. -/
structure IsP (w : World) (base lo pb mb n np q : Nat) (v : Value) (H : List Hd) : Prop where
  n1 : 1 ≤ n ∧ n ≤ 1024
  np1 : 1 ≤ np ∧ np ≤ 64
  q1 : 1 ≤ q ∧ q ≤ 256
  blk : w.heap[pb]? = some (.cells #[v, .map (some mb), .int .i64 (n : Int)] 77 (0, 0))
  row : w.ownsRow base 73 1 v H.length (ptrs H)
  len : H.length = np + 1
  sets : Sets w lo n (moP np n q) H
  map : IsM w mb (whereF n H 0) (sumH H)
  sep : ∀ (i : Nat) (h : Hd), H[i]? = some h → ∀ k, h.own k → v.ownBlock ≠ some k ∧ k ≠ pb ∧ k ≠ mb
  ne : pb ≠ mb ∧ v.ownBlock ≠ some pb ∧ v.ownBlock ≠ some mb
section
variable {w : World} {base lo pb mb n np q : Nat} {v : Value} {H : List Hd}
theorem IsP.c0 (h : IsP w base lo pb mb n np q v H) : w.cell? ⟨pb, 0, none⟩ = some v := by unfold World.cell?; simp only [h.blk]; rfl
theorem IsP.c1 (h : IsP w base lo pb mb n np q v H) : w.cell? ⟨pb, 1, none⟩ = some (.map (some mb)) := by unfold World.cell?; simp only [h.blk]; rfl
theorem IsP.c2 (h : IsP w base lo pb mb n np q v H) : w.cell? ⟨pb, 2, none⟩ = some (.int .i64 (n : Int)) := by unfold World.cell?; simp only [h.blk]; rfl
theorem wrap_np (np : Nat) (h : np ≤ 64) : IntKind.i64.wrap (((np + 1 : Nat) : Int) - 1) = (np : Int) := by
  simp [IntKind.wrap, IntKind.bits, IntKind.signed]
  omega
theorem pshared_ok (h : IsP w base lo pb mb n np q v H) :
    Calls Try.prog 51 #[.pointer (some ⟨pb, 0, none⟩)] w fun e w' => e = .returned (.int .i64 (np : Int)) ∧ w' = w := by
  obtain ⟨a, c, rfl⟩ := Dc.owns_slice h.row
  have c0 := h.c0
  rw [h.len] at c0
  have hnp := h.np1
  have hw := wrap_np np hnp.2
  clear h
  go_enter Try.func51, Try.ntmps51
  go_wp2
  go_ret
  exact ⟨by first | rfl | (simp; omega), rfl⟩
theorem plen_ok (h : IsP w base lo pb mb n np q v H) :
    Calls Try.prog 24 #[.pointer (some ⟨pb, 0, none⟩)] w fun e w' => e = .returned (.int .i64 (sumH H : Int)) ∧ w' = w := by
  have c1 := h.c1
  have hl := h.map.len
  clear h
  go_enter Try.func24, Try.ntmps24
  go_wp2
  go_ret
  exact ⟨rfl, rfl⟩
theorem pwhere_ok (h : IsP w base lo pb mb n np q v H) (id : Int) (hi : (Lit.int .i64 id).wf = true) :
    Calls Try.prog 23 #[.pointer (some ⟨pb, 0, none⟩), .int .i64 id] w fun e w' => e = .returned (.tuple #[.int .i64 ((whereF n H 0 id).getD 0), .bool (whereF n H 0 id).isSome]) ∧ w' = w := by
  have c1 := h.c1
  have hl := h.map.look id hi
  generalize whereF n H 0 id = o at *
  clear h
  go_enter Try.func23, Try.ntmps23
  go_wp2
  go_ret2
  exact ⟨rfl, rfl⟩
theorem phas_ok (h : IsP w base lo pb mb n np q v H) (p : Int) :
    Calls Try.prog 41 #[.pointer (some ⟨pb, 0, none⟩), .int .i64 p] w fun e w' => e = .returned (.bool (decide (0 ≤ p ∧ p < (np : Int)))) ∧ w' = w := by
  have HS := veil (pshared_ok h)
  clear h
  by_cases h0 : 0 ≤ p
  · by_cases h1 : p < (np : Int)
    · have e : decide (0 ≤ p ∧ p < (np : Int)) = true := decide_eq_true ⟨h0, h1⟩
      rw [e]
      go_enter Try.func41, Try.ntmps41
      go_wp2_with (go_at_call 51; refine (HS.out).mono ?_; rintro e w1 ⟨rfl, hw⟩; replace hw := hw.symm; subst hw)
      go_ret
      exact ⟨by first | rfl | simp [*], rfl⟩
    · have e : decide (0 ≤ p ∧ p < (np : Int)) = false := decide_eq_false (fun q => h1 q.2)
      rw [e]
      go_enter Try.func41, Try.ntmps41
      go_wp2_with (go_at_call 51; refine (HS.out).mono ?_; rintro e w1 ⟨rfl, hw⟩; replace hw := hw.symm; subst hw)
      go_ret
      exact ⟨by first | rfl | simp [*], rfl⟩
  · have e : decide (0 ≤ p ∧ p < (np : Int)) = false := decide_eq_false (fun q => h0 q.1)
    rw [e]
    have h0' : p < 0 := by omega
    go_enter Try.func41, Try.ntmps41
    go_wp2
    go_ret
    exact ⟨by first | rfl | simp [*], rfl⟩
end
end Go.Proofs.Ytlfejgjhamcahaa
