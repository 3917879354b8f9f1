/-
  How a heap of package pheap lies in memory: a slice of nodes, the root's spot and a count; and what one store into one of them makes of that.
-/
import Derived.Test.YtbefehoegmmgpaaRows
import Derived.WalkKit
import Derived.Below
import Derived.WalkSpells
import Derived.WalkLawsBesides
import Derived.StillTactics
import Derived.RegionTactic
import Derived.RowKit3
import Derived.Laws.MakeOwn
import Derived.OwnWalk
import Derived.Deep.QuietTactic
import Derived.BigQuiet
namespace Go.Proofs.Ytbefehoegmmgpaa.Ph
open Go.RowKit

theorem veil {p : Prop} (h : p) : Hid p := h
def upd {α : Type} (f : Nat → α) (i : Nat) (x : α) : Nat → α := fun j => if j = i then x else f j
theorem upd_same {α : Type} (f : Nat → α) (i : Nat) (x : α) : upd f i x i = x := by simp [upd]
theorem upd_other {α : Type} (f : Nat → α) (i : Nat) (x : α) (j : Nat) (h : j ≠ i) : upd f i x j = f j := by simp [upd, h]
theorem set_same (w : World) (a : Addr) (x u : Value) (h : w.cell? a = some u) : (w.setCell a x).cell? a = some x := World.cell?_setCell_same _ _ _ h
theorem set_other (w : World) (b o b' o' : Nat) (x : Value) (h : ¬ (b = b' ∧ o = o')) : (w.setCell ⟨b, o, none⟩ x).cell? ⟨b', o', none⟩ = w.cell? ⟨b', o', none⟩ :=
  World.cell?_setCell_other _ _ _ _ (by intro e; simp only [Addr.mk.injEq, and_true] at e; exact h e)

/-- Of what was there only the blocks b and g may have turned. -/
structure Only (b g : Nat) (w w' : World) : Prop where
  os : w'.os = w.os
  tape : w'.tape = w.tape
  output : w'.output = w.output
  size : w.heap.size ≤ w'.heap.size
  block : ∀ k, k < w.heap.size → k ≠ b → k ≠ g → w'.heap[k]? = w.heap[k]?
theorem Only.refl (b g : Nat) (w : World) : Only b g w w := ⟨rfl, rfl, rfl, Nat.le_refl _, fun _ _ _ _ => rfl⟩
theorem Only.trans {b g : Nat} {w1 w2 w3 : World} (h : Only b g w1 w2) (k : Only b g w2 w3) : Only b g w1 w3 :=
  ⟨k.os.trans h.os, k.tape.trans h.tape, k.output.trans h.output, Nat.le_trans h.size k.size, fun i hi a c => (k.block i (Nat.lt_of_lt_of_le hi h.size) a c).trans (h.block i hi a c)⟩
theorem Only.drew {b g : Nat} {w w' : World} (h : Only b g w w') : Only b g w w'.drew := ⟨h.os, h.tape, h.output, h.size, h.block⟩
theorem Only.drewN {b g : Nat} {w w' : World} (h : Only b g w w') (q : Nat) : Only b g w (w'.drewN q) := ⟨h.os, h.tape, h.output, h.size, h.block⟩
theorem Only.alloc {b g : Nat} {w w' : World} (h : Only b g w w') (o : Obj) : Only b g w (w'.alloc o) :=
  ⟨h.os, h.tape, h.output, Nat.le_trans h.size (by simp), fun k hk a c => by rw [Below.heap_alloc _ _ _ (Nat.lt_of_lt_of_le hk h.size)]; exact h.block k hk a c⟩
theorem Only.set {b g : Nat} {w w' : World} (h : Only b g w w') (p : Addr) (x : Value) (hp : p.block = b ∨ p.block = g) : Only b g w (w'.setCell p x) :=
  ⟨h.os, h.tape, h.output, by simp [World.setCell]; exact h.size, fun k hk a c => by rw [Below.heap_setCell _ _ _ _ (by rcases hp with e | e <;> omega)]; exact h.block k hk a c⟩
theorem Only.below {b g z : Nat} {w w' : World} (h : Only b g w w') (hb : z ≤ b) (hg : z ≤ g) (hz : z ≤ w.heap.size) : Below z w w' :=
  ⟨h.os, h.tape, h.output, h.size, fun k hk => h.block k (by omega) (by omega) (by omega)⟩
theorem Only.of_below {b g : Nat} {w w' : World} (h : Below w.heap.size w w') : Only b g w w' := ⟨h.os, h.tape, h.output, h.size, fun k hk _ _ => h.block k hk⟩

/-- The heap's block b and its nodes' block g: the root's spot, the count; of each spot its deadline, number and id, the first below it, what stands ahead of it and behind it, and whether it is there. -/
structure Rep (w : World) (b g n rt ct : Nat) (D S I C A B : Nat → Nat) (T : Nat → Bool) : Prop where
  bg : b ≠ g
  sl : ∃ cp, w.cell? ⟨b, 0, none⟩ = some (.slice (some ⟨g, 0, none⟩) (n + 1) cp)
  rt : w.cell? ⟨b, 1, none⟩ = some (.int .i64 (rt : Int))
  ct : w.cell? ⟨b, 2, none⟩ = some (.int .i64 (ct : Int))
  nd : ∀ x, x ≤ n → w.cell? ⟨g, x * 7, none⟩ = some (.int .u64 ((D x : Nat) : Int))
  ns : ∀ x, x ≤ n → w.cell? ⟨g, x * 7 + 1, none⟩ = some (.int .u64 ((S x : Nat) : Int))
  ni : ∀ x, x ≤ n → w.cell? ⟨g, x * 7 + 2, none⟩ = some (.int .i64 ((I x : Nat) : Int))
  nc : ∀ x, x ≤ n → w.cell? ⟨g, x * 7 + 3, none⟩ = some (.int .i64 ((C x : Nat) : Int))
  na : ∀ x, x ≤ n → w.cell? ⟨g, x * 7 + 4, none⟩ = some (.int .i64 ((A x : Nat) : Int))
  nb : ∀ x, x ≤ n → w.cell? ⟨g, x * 7 + 5, none⟩ = some (.int .i64 ((B x : Nat) : Int))
  nt : ∀ x, x ≤ n → w.cell? ⟨g, x * 7 + 6, none⟩ = some (.bool (T x))
  fb : ∀ o, w.frozen? ⟨b, o, none⟩ = false
  fg : ∀ o, w.frozen? ⟨g, o, none⟩ = false

section
variable {w : World} {b g n rt ct : Nat} {D S I C A B : Nat → Nat} {T : Nat → Bool}
theorem Rep.lt_b (h : Rep w b g n rt ct D S I C A B T) : b < w.heap.size := World.block_lt_of_cell? w ⟨b, 1, none⟩ h.rt
theorem Rep.lt_g (h : Rep w b g n rt ct D S I C A B T) : g < w.heap.size := World.block_lt_of_cell? w ⟨g, 0 * 7, none⟩ (h.nd 0 (Nat.zero_le _))
theorem Rep.kept {w' : World} (h : Rep w b g n rt ct D S I C A B T) (hb : w'.heap[b]? = w.heap[b]?) (hg : w'.heap[g]? = w.heap[g]?) : Rep w' b g n rt ct D S I C A B T := by
  have eb : ∀ o, w'.cell? ⟨b, o, none⟩ = w.cell? ⟨b, o, none⟩ := fun o => by simp only [World.cell?, hb]
  have eg : ∀ o, w'.cell? ⟨g, o, none⟩ = w.cell? ⟨g, o, none⟩ := fun o => by simp only [World.cell?, hg]
  have ib : ∀ o, w'.frozen? ⟨b, o, none⟩ = w.frozen? ⟨b, o, none⟩ := fun o => by simp only [World.frozen?, hb]
  have ig : ∀ o, w'.frozen? ⟨g, o, none⟩ = w.frozen? ⟨g, o, none⟩ := fun o => by simp only [World.frozen?, hg]
  exact ⟨h.bg, by simp only [eb]; exact h.sl, by rw [eb]; exact h.rt, by rw [eb]; exact h.ct, fun x hx => by rw [eg]; exact h.nd x hx, fun x hx => by rw [eg]; exact h.ns x hx, fun x hx => by rw [eg]; exact h.ni x hx, fun x hx => by rw [eg]; exact h.nc x hx, fun x hx => by rw [eg]; exact h.na x hx, fun x hx => by rw [eg]; exact h.nb x hx, fun x hx => by rw [eg]; exact h.nt x hx, fun o => by rw [ib]; exact h.fb o, fun o => by rw [ig]; exact h.fg o⟩
theorem Rep.like {w' : World} (h : Rep w b g n rt ct D S I C A B T) (e : w'.heap = w.heap) : Rep w' b g n rt ct D S I C A B T := h.kept (by rw [e]) (by rw [e])
theorem Rep.drew (h : Rep w b g n rt ct D S I C A B T) : Rep w.drew b g n rt ct D S I C A B T := h.like rfl
theorem Rep.drewN (h : Rep w b g n rt ct D S I C A B T) (q : Nat) : Rep (w.drewN q) b g n rt ct D S I C A B T := h.like rfl
theorem Rep.below (h : Rep w b g n rt ct D S I C A B T) {w' : World} (hw : Below w.heap.size w w') : Rep w' b g n rt ct D S I C A B T := h.kept (hw.block b h.lt_b) (hw.block g h.lt_g)
theorem Rep.alloc (h : Rep w b g n rt ct D S I C A B T) (o : Obj) : Rep (w.alloc o) b g n rt ct D S I C A B T := h.below ((Below.refl _ _).alloc (Nat.le_refl _) o)
theorem Rep.setR (h : Rep w b g n rt ct D S I C A B T) (v : Nat) : Rep (w.setCell ⟨b, 1, none⟩ (.int .i64 (v : Int))) b g n v ct D S I C A B T :=
  ⟨h.bg, by obtain ⟨cp, q⟩ := h.sl; exact ⟨cp, by rw [set_other _ _ _ _ _ _ (by omega)]; exact q⟩, set_same _ _ _ _ h.rt, by rw [set_other _ _ _ _ _ _ (by omega)]; exact h.ct, fun x hx => by rw [set_other _ _ _ _ _ _ (by have := h.bg; omega)]; exact h.nd x hx, fun x hx => by rw [set_other _ _ _ _ _ _ (by have := h.bg; omega)]; exact h.ns x hx, fun x hx => by rw [set_other _ _ _ _ _ _ (by have := h.bg; omega)]; exact h.ni x hx, fun x hx => by rw [set_other _ _ _ _ _ _ (by have := h.bg; omega)]; exact h.nc x hx, fun x hx => by rw [set_other _ _ _ _ _ _ (by have := h.bg; omega)]; exact h.na x hx, fun x hx => by rw [set_other _ _ _ _ _ _ (by have := h.bg; omega)]; exact h.nb x hx, fun x hx => by rw [set_other _ _ _ _ _ _ (by have := h.bg; omega)]; exact h.nt x hx, fun o => by simpa using h.fb o, fun o => by simpa using h.fg o⟩
theorem Rep.setN (h : Rep w b g n rt ct D S I C A B T) (v : Nat) : Rep (w.setCell ⟨b, 2, none⟩ (.int .i64 (v : Int))) b g n rt v D S I C A B T :=
  ⟨h.bg, by obtain ⟨cp, q⟩ := h.sl; exact ⟨cp, by rw [set_other _ _ _ _ _ _ (by omega)]; exact q⟩, by rw [set_other _ _ _ _ _ _ (by omega)]; exact h.rt, set_same _ _ _ _ h.ct, fun x hx => by rw [set_other _ _ _ _ _ _ (by have := h.bg; omega)]; exact h.nd x hx, fun x hx => by rw [set_other _ _ _ _ _ _ (by have := h.bg; omega)]; exact h.ns x hx, fun x hx => by rw [set_other _ _ _ _ _ _ (by have := h.bg; omega)]; exact h.ni x hx, fun x hx => by rw [set_other _ _ _ _ _ _ (by have := h.bg; omega)]; exact h.nc x hx, fun x hx => by rw [set_other _ _ _ _ _ _ (by have := h.bg; omega)]; exact h.na x hx, fun x hx => by rw [set_other _ _ _ _ _ _ (by have := h.bg; omega)]; exact h.nb x hx, fun x hx => by rw [set_other _ _ _ _ _ _ (by have := h.bg; omega)]; exact h.nt x hx, fun o => by simpa using h.fb o, fun o => by simpa using h.fg o⟩
theorem Rep.setD (h : Rep w b g n rt ct D S I C A B T) (p : Nat) (hp : p ≤ n) (v : Nat) : Rep (w.setCell ⟨g, p * 7, none⟩ (.int .u64 (v : Int))) b g n rt ct (upd D p v) S I C A B T :=
  ⟨h.bg, by obtain ⟨cp, q⟩ := h.sl; exact ⟨cp, by rw [set_other _ _ _ _ _ _ (by have := h.bg; omega)]; exact q⟩, by rw [set_other _ _ _ _ _ _ (by have := h.bg; omega)]; exact h.rt, by rw [set_other _ _ _ _ _ _ (by have := h.bg; omega)]; exact h.ct,
    fun x hx => by
      by_cases e : x = p
      · subst e; rw [upd_same]; exact set_same _ _ _ _ (h.nd x hx)
      · rw [upd_other _ _ _ _ e, set_other _ _ _ _ _ _ (by omega)]; exact h.nd x hx,
    fun x hx => by rw [set_other _ _ _ _ _ _ (by omega)]; exact h.ns x hx,
    fun x hx => by rw [set_other _ _ _ _ _ _ (by omega)]; exact h.ni x hx,
    fun x hx => by rw [set_other _ _ _ _ _ _ (by omega)]; exact h.nc x hx,
    fun x hx => by rw [set_other _ _ _ _ _ _ (by omega)]; exact h.na x hx,
    fun x hx => by rw [set_other _ _ _ _ _ _ (by omega)]; exact h.nb x hx,
    fun x hx => by rw [set_other _ _ _ _ _ _ (by omega)]; exact h.nt x hx,
    fun o => by simpa using h.fb o, fun o => by simpa using h.fg o⟩
theorem Rep.setS (h : Rep w b g n rt ct D S I C A B T) (p : Nat) (hp : p ≤ n) (v : Nat) : Rep (w.setCell ⟨g, p * 7 + 1, none⟩ (.int .u64 (v : Int))) b g n rt ct D (upd S p v) I C A B T :=
  ⟨h.bg, by obtain ⟨cp, q⟩ := h.sl; exact ⟨cp, by rw [set_other _ _ _ _ _ _ (by have := h.bg; omega)]; exact q⟩, by rw [set_other _ _ _ _ _ _ (by have := h.bg; omega)]; exact h.rt, by rw [set_other _ _ _ _ _ _ (by have := h.bg; omega)]; exact h.ct,
    fun x hx => by rw [set_other _ _ _ _ _ _ (by omega)]; exact h.nd x hx,
    fun x hx => by
      by_cases e : x = p
      · subst e; rw [upd_same]; exact set_same _ _ _ _ (h.ns x hx)
      · rw [upd_other _ _ _ _ e, set_other _ _ _ _ _ _ (by omega)]; exact h.ns x hx,
    fun x hx => by rw [set_other _ _ _ _ _ _ (by omega)]; exact h.ni x hx,
    fun x hx => by rw [set_other _ _ _ _ _ _ (by omega)]; exact h.nc x hx,
    fun x hx => by rw [set_other _ _ _ _ _ _ (by omega)]; exact h.na x hx,
    fun x hx => by rw [set_other _ _ _ _ _ _ (by omega)]; exact h.nb x hx,
    fun x hx => by rw [set_other _ _ _ _ _ _ (by omega)]; exact h.nt x hx,
    fun o => by simpa using h.fb o, fun o => by simpa using h.fg o⟩
theorem Rep.setI (h : Rep w b g n rt ct D S I C A B T) (p : Nat) (hp : p ≤ n) (v : Nat) : Rep (w.setCell ⟨g, p * 7 + 2, none⟩ (.int .i64 (v : Int))) b g n rt ct D S (upd I p v) C A B T :=
  ⟨h.bg, by obtain ⟨cp, q⟩ := h.sl; exact ⟨cp, by rw [set_other _ _ _ _ _ _ (by have := h.bg; omega)]; exact q⟩, by rw [set_other _ _ _ _ _ _ (by have := h.bg; omega)]; exact h.rt, by rw [set_other _ _ _ _ _ _ (by have := h.bg; omega)]; exact h.ct,
    fun x hx => by rw [set_other _ _ _ _ _ _ (by omega)]; exact h.nd x hx,
    fun x hx => by rw [set_other _ _ _ _ _ _ (by omega)]; exact h.ns x hx,
    fun x hx => by
      by_cases e : x = p
      · subst e; rw [upd_same]; exact set_same _ _ _ _ (h.ni x hx)
      · rw [upd_other _ _ _ _ e, set_other _ _ _ _ _ _ (by omega)]; exact h.ni x hx,
    fun x hx => by rw [set_other _ _ _ _ _ _ (by omega)]; exact h.nc x hx,
    fun x hx => by rw [set_other _ _ _ _ _ _ (by omega)]; exact h.na x hx,
    fun x hx => by rw [set_other _ _ _ _ _ _ (by omega)]; exact h.nb x hx,
    fun x hx => by rw [set_other _ _ _ _ _ _ (by omega)]; exact h.nt x hx,
    fun o => by simpa using h.fb o, fun o => by simpa using h.fg o⟩
theorem Rep.setC (h : Rep w b g n rt ct D S I C A B T) (p : Nat) (hp : p ≤ n) (v : Nat) : Rep (w.setCell ⟨g, p * 7 + 3, none⟩ (.int .i64 (v : Int))) b g n rt ct D S I (upd C p v) A B T :=
  ⟨h.bg, by obtain ⟨cp, q⟩ := h.sl; exact ⟨cp, by rw [set_other _ _ _ _ _ _ (by have := h.bg; omega)]; exact q⟩, by rw [set_other _ _ _ _ _ _ (by have := h.bg; omega)]; exact h.rt, by rw [set_other _ _ _ _ _ _ (by have := h.bg; omega)]; exact h.ct,
    fun x hx => by rw [set_other _ _ _ _ _ _ (by omega)]; exact h.nd x hx,
    fun x hx => by rw [set_other _ _ _ _ _ _ (by omega)]; exact h.ns x hx,
    fun x hx => by rw [set_other _ _ _ _ _ _ (by omega)]; exact h.ni x hx,
    fun x hx => by
      by_cases e : x = p
      · subst e; rw [upd_same]; exact set_same _ _ _ _ (h.nc x hx)
      · rw [upd_other _ _ _ _ e, set_other _ _ _ _ _ _ (by omega)]; exact h.nc x hx,
    fun x hx => by rw [set_other _ _ _ _ _ _ (by omega)]; exact h.na x hx,
    fun x hx => by rw [set_other _ _ _ _ _ _ (by omega)]; exact h.nb x hx,
    fun x hx => by rw [set_other _ _ _ _ _ _ (by omega)]; exact h.nt x hx,
    fun o => by simpa using h.fb o, fun o => by simpa using h.fg o⟩
theorem Rep.setA (h : Rep w b g n rt ct D S I C A B T) (p : Nat) (hp : p ≤ n) (v : Nat) : Rep (w.setCell ⟨g, p * 7 + 4, none⟩ (.int .i64 (v : Int))) b g n rt ct D S I C (upd A p v) B T :=
  ⟨h.bg, by obtain ⟨cp, q⟩ := h.sl; exact ⟨cp, by rw [set_other _ _ _ _ _ _ (by have := h.bg; omega)]; exact q⟩, by rw [set_other _ _ _ _ _ _ (by have := h.bg; omega)]; exact h.rt, by rw [set_other _ _ _ _ _ _ (by have := h.bg; omega)]; exact h.ct,
    fun x hx => by rw [set_other _ _ _ _ _ _ (by omega)]; exact h.nd x hx,
    fun x hx => by rw [set_other _ _ _ _ _ _ (by omega)]; exact h.ns x hx,
    fun x hx => by rw [set_other _ _ _ _ _ _ (by omega)]; exact h.ni x hx,
    fun x hx => by rw [set_other _ _ _ _ _ _ (by omega)]; exact h.nc x hx,
    fun x hx => by
      by_cases e : x = p
      · subst e; rw [upd_same]; exact set_same _ _ _ _ (h.na x hx)
      · rw [upd_other _ _ _ _ e, set_other _ _ _ _ _ _ (by omega)]; exact h.na x hx,
    fun x hx => by rw [set_other _ _ _ _ _ _ (by omega)]; exact h.nb x hx,
    fun x hx => by rw [set_other _ _ _ _ _ _ (by omega)]; exact h.nt x hx,
    fun o => by simpa using h.fb o, fun o => by simpa using h.fg o⟩
theorem Rep.setB (h : Rep w b g n rt ct D S I C A B T) (p : Nat) (hp : p ≤ n) (v : Nat) : Rep (w.setCell ⟨g, p * 7 + 5, none⟩ (.int .i64 (v : Int))) b g n rt ct D S I C A (upd B p v) T :=
  ⟨h.bg, by obtain ⟨cp, q⟩ := h.sl; exact ⟨cp, by rw [set_other _ _ _ _ _ _ (by have := h.bg; omega)]; exact q⟩, by rw [set_other _ _ _ _ _ _ (by have := h.bg; omega)]; exact h.rt, by rw [set_other _ _ _ _ _ _ (by have := h.bg; omega)]; exact h.ct,
    fun x hx => by rw [set_other _ _ _ _ _ _ (by omega)]; exact h.nd x hx,
    fun x hx => by rw [set_other _ _ _ _ _ _ (by omega)]; exact h.ns x hx,
    fun x hx => by rw [set_other _ _ _ _ _ _ (by omega)]; exact h.ni x hx,
    fun x hx => by rw [set_other _ _ _ _ _ _ (by omega)]; exact h.nc x hx,
    fun x hx => by rw [set_other _ _ _ _ _ _ (by omega)]; exact h.na x hx,
    fun x hx => by
      by_cases e : x = p
      · subst e; rw [upd_same]; exact set_same _ _ _ _ (h.nb x hx)
      · rw [upd_other _ _ _ _ e, set_other _ _ _ _ _ _ (by omega)]; exact h.nb x hx,
    fun x hx => by rw [set_other _ _ _ _ _ _ (by omega)]; exact h.nt x hx,
    fun o => by simpa using h.fb o, fun o => by simpa using h.fg o⟩
theorem Rep.setT (h : Rep w b g n rt ct D S I C A B T) (p : Nat) (hp : p ≤ n) (v : Bool) : Rep (w.setCell ⟨g, p * 7 + 6, none⟩ (.bool v)) b g n rt ct D S I C A B (upd T p v) :=
  ⟨h.bg, by obtain ⟨cp, q⟩ := h.sl; exact ⟨cp, by rw [set_other _ _ _ _ _ _ (by have := h.bg; omega)]; exact q⟩, by rw [set_other _ _ _ _ _ _ (by have := h.bg; omega)]; exact h.rt, by rw [set_other _ _ _ _ _ _ (by have := h.bg; omega)]; exact h.ct,
    fun x hx => by rw [set_other _ _ _ _ _ _ (by omega)]; exact h.nd x hx,
    fun x hx => by rw [set_other _ _ _ _ _ _ (by omega)]; exact h.ns x hx,
    fun x hx => by rw [set_other _ _ _ _ _ _ (by omega)]; exact h.ni x hx,
    fun x hx => by rw [set_other _ _ _ _ _ _ (by omega)]; exact h.nc x hx,
    fun x hx => by rw [set_other _ _ _ _ _ _ (by omega)]; exact h.na x hx,
    fun x hx => by rw [set_other _ _ _ _ _ _ (by omega)]; exact h.nb x hx,
    fun x hx => by
      by_cases e : x = p
      · subst e; rw [upd_same]; exact set_same _ _ _ _ (h.nt x hx)
      · rw [upd_other _ _ _ _ e, set_other _ _ _ _ _ _ (by omega)]; exact h.nt x hx,
    fun o => by simpa using h.fb o, fun o => by simpa using h.fg o⟩
end
end Go.Proofs.Ytbefehoegmmgpaa.Ph
