/-
  How a heap of package pheap lies in memory: a slice of nodes, the root's spot and a count; and what one store into one of them makes of that.
  The walks of a heap's own calls: New, may, before, join.
  The walk of join.
  The walks of put, cut, pair and remove, as far as a small heap asks them.
  The walks of cut, pair and remove, as far as a small heap asks them.
  The walks of remove, Insert, Delete, Change, Min, Take and Len, as far as a small heap asks them.
  The walks of a heap's exported calls, as far as a small heap asks them; of a nil heap's; of 'live'.
  The walks of a nil heap's calls.
  A heap's nodes as a tree: the first one below, the next one in the row; what joining two of them makes.
  The walk of cut, every way.
  A node cut out of a tree: what cut makes of the links.
  Rows of trees, whose word of what is ahead of them is stale: what a step of pair makes of two neighbours.
  The order of nodes; join of any two trees, whichever comes to the top.
  What pair's loops keep: a row and what is made of it, of the same spots; how long a row is, read off the world.
-/
import Derived.Test.YtjmbadadelelfaaRows
import Derived.WalkKit
import Derived.Below
import Derived.WalkSpells
import Derived.WalkLawsBesides
import Derived.StillTactics
import Derived.RegionTactic
import Derived.RowKit3
import Derived.Laws.MakeOwn
import Derived.OwnWalk
import Derived.Deep.QuietTactic
import Derived.BigQuiet
import Derived.Deep.RegionHeld3
import Derived.Deep.DrawnRows
import Derived.Lib.SmallJoins
import Derived.WalkMore
namespace Go.Proofs.Ytjmbadadelelfaa.Ph
open Go.RowKit

theorem veil {p : Prop} (h : p) : Hid p := h
def upd {α : Type} (f : Nat → α) (i : Nat) (x : α) : Nat → α := fun j => if j = i then x else f j
theorem upd_same {α : Type} (f : Nat → α) (i : Nat) (x : α) : upd f i x i = x := by simp [upd]
theorem upd_other {α : Type} (f : Nat → α) (i : Nat) (x : α) (j : Nat) (h : j ≠ i) : upd f i x j = f j := by simp [upd, h]
theorem set_same (w : World) (a : Addr) (x u : Value) (h : w.cell? a = some u) : (w.setCell a x).cell? a = some x := World.cell?_setCell_same _ _ _ h
theorem set_other (w : World) (b o b' o' : Nat) (x : Value) (h : ¬ (b = b' ∧ o = o')) : (w.setCell ⟨b, o, none⟩ x).cell? ⟨b', o', none⟩ = w.cell? ⟨b', o', none⟩ :=
  World.cell?_setCell_other _ _ _ _ (by intro e; simp only [Addr.mk.injEq, and_true] at e; exact h e)

/-- Of what was there only the blocks b and g may have turned. -/
structure Only (b g : Nat) (w w' : World) : Prop where
  os : w'.os = w.os
  tape : w'.tape = w.tape
  output : w'.output = w.output
  size : w.heap.size ≤ w'.heap.size
  block : ∀ k, k < w.heap.size → k ≠ b → k ≠ g → w'.heap[k]? = w.heap[k]?
theorem Only.refl (b g : Nat) (w : World) : Only b g w w := ⟨rfl, rfl, rfl, Nat.le_refl _, fun _ _ _ _ => rfl⟩
theorem Only.trans {b g : Nat} {w1 w2 w3 : World} (h : Only b g w1 w2) (k : Only b g w2 w3) : Only b g w1 w3 :=
  ⟨k.os.trans h.os, k.tape.trans h.tape, k.output.trans h.output, Nat.le_trans h.size k.size, fun i hi a c => (k.block i (Nat.lt_of_lt_of_le hi h.size) a c).trans (h.block i hi a c)⟩
theorem Only.drew {b g : Nat} {w w' : World} (h : Only b g w w') : Only b g w w'.drew := ⟨h.os, h.tape, h.output, h.size, h.block⟩
theorem Only.drewN {b g : Nat} {w w' : World} (h : Only b g w w') (q : Nat) : Only b g w (w'.drewN q) := ⟨h.os, h.tape, h.output, h.size, h.block⟩
theorem Only.alloc {b g : Nat} {w w' : World} (h : Only b g w w') (o : Obj) : Only b g w (w'.alloc o) :=
  ⟨h.os, h.tape, h.output, Nat.le_trans h.size (by simp), fun k hk a c => by rw [Below.heap_alloc _ _ _ (Nat.lt_of_lt_of_le hk h.size)]; exact h.block k hk a c⟩
theorem Only.set {b g : Nat} {w w' : World} (h : Only b g w w') (p : Addr) (x : Value) (hp : p.block = b ∨ p.block = g) : Only b g w (w'.setCell p x) :=
  ⟨h.os, h.tape, h.output, by simp [World.setCell]; exact h.size, fun k hk a c => by rw [Below.heap_setCell _ _ _ _ (by rcases hp with e | e <;> omega)]; exact h.block k hk a c⟩
theorem Only.below {b g z : Nat} {w w' : World} (h : Only b g w w') (hb : z ≤ b) (hg : z ≤ g) (hz : z ≤ w.heap.size) : Below z w w' :=
  ⟨h.os, h.tape, h.output, h.size, fun k hk => h.block k (by omega) (by omega) (by omega)⟩
theorem Only.of_below {b g : Nat} {w w' : World} (h : Below w.heap.size w w') : Only b g w w' := ⟨h.os, h.tape, h.output, h.size, fun k hk _ _ => h.block k hk⟩

/-- The heap's block b and its nodes' block g: the root's spot, the count; of each spot its deadline, number and id, the first below it, what stands ahead of it and behind it, and whether it is there. -/
structure Rep (w : World) (b g n rt ct : Nat) (D S I C A B : Nat → Nat) (T : Nat → Bool) : Prop where
  bg : b ≠ g
  sl : ∃ cp, w.cell? ⟨b, 0, none⟩ = some (.slice (some ⟨g, 0, none⟩) (n + 1) cp)
  rt : w.cell? ⟨b, 1, none⟩ = some (.int .i64 (rt : Int))
  ct : w.cell? ⟨b, 2, none⟩ = some (.int .i64 (ct : Int))
  nd : ∀ x, x ≤ n → w.cell? ⟨g, x * 7, none⟩ = some (.int .u64 ((D x : Nat) : Int))
  ns : ∀ x, x ≤ n → w.cell? ⟨g, x * 7 + 1, none⟩ = some (.int .u64 ((S x : Nat) : Int))
  ni : ∀ x, x ≤ n → w.cell? ⟨g, x * 7 + 2, none⟩ = some (.int .i64 ((I x : Nat) : Int))
  nc : ∀ x, x ≤ n → w.cell? ⟨g, x * 7 + 3, none⟩ = some (.int .i64 ((C x : Nat) : Int))
  na : ∀ x, x ≤ n → w.cell? ⟨g, x * 7 + 4, none⟩ = some (.int .i64 ((A x : Nat) : Int))
  nb : ∀ x, x ≤ n → w.cell? ⟨g, x * 7 + 5, none⟩ = some (.int .i64 ((B x : Nat) : Int))
  nt : ∀ x, x ≤ n → w.cell? ⟨g, x * 7 + 6, none⟩ = some (.bool (T x))
  fb : ∀ o, w.frozen? ⟨b, o, none⟩ = false
  fg : ∀ o, w.frozen? ⟨g, o, none⟩ = false

section
variable {w : World} {b g n rt ct : Nat} {D S I C A B : Nat → Nat} {T : Nat → Bool}
theorem Rep.lt_b (h : Rep w b g n rt ct D S I C A B T) : b < w.heap.size := World.block_lt_of_cell? w ⟨b, 1, none⟩ h.rt
theorem Rep.lt_g (h : Rep w b g n rt ct D S I C A B T) : g < w.heap.size := World.block_lt_of_cell? w ⟨g, 0 * 7, none⟩ (h.nd 0 (Nat.zero_le _))
theorem Rep.kept {w' : World} (h : Rep w b g n rt ct D S I C A B T) (hb : w'.heap[b]? = w.heap[b]?) (hg : w'.heap[g]? = w.heap[g]?) : Rep w' b g n rt ct D S I C A B T := by
  have eb : ∀ o, w'.cell? ⟨b, o, none⟩ = w.cell? ⟨b, o, none⟩ := fun o => by simp only [World.cell?, hb]
  have eg : ∀ o, w'.cell? ⟨g, o, none⟩ = w.cell? ⟨g, o, none⟩ := fun o => by simp only [World.cell?, hg]
  have ib : ∀ o, w'.frozen? ⟨b, o, none⟩ = w.frozen? ⟨b, o, none⟩ := fun o => by simp only [World.frozen?, hb]
  have ig : ∀ o, w'.frozen? ⟨g, o, none⟩ = w.frozen? ⟨g, o, none⟩ := fun o => by simp only [World.frozen?, hg]
  exact ⟨h.bg, by simp only [eb]; exact h.sl, by rw [eb]; exact h.rt, by rw [eb]; exact h.ct, fun x hx => by rw [eg]; exact h.nd x hx, fun x hx => by rw [eg]; exact h.ns x hx, fun x hx => by rw [eg]; exact h.ni x hx, fun x hx => by rw [eg]; exact h.nc x hx, fun x hx => by rw [eg]; exact h.na x hx, fun x hx => by rw [eg]; exact h.nb x hx, fun x hx => by rw [eg]; exact h.nt x hx, fun o => by rw [ib]; exact h.fb o, fun o => by rw [ig]; exact h.fg o⟩
theorem Rep.like {w' : World} (h : Rep w b g n rt ct D S I C A B T) (e : w'.heap = w.heap) : Rep w' b g n rt ct D S I C A B T := h.kept (by rw [e]) (by rw [e])
theorem Rep.drew (h : Rep w b g n rt ct D S I C A B T) : Rep w.drew b g n rt ct D S I C A B T := h.like rfl
theorem Rep.drewN (h : Rep w b g n rt ct D S I C A B T) (q : Nat) : Rep (w.drewN q) b g n rt ct D S I C A B T := h.like rfl
theorem Rep.below (h : Rep w b g n rt ct D S I C A B T) {w' : World} (hw : Below w.heap.size w w') : Rep w' b g n rt ct D S I C A B T := h.kept (hw.block b h.lt_b) (hw.block g h.lt_g)
theorem Rep.alloc (h : Rep w b g n rt ct D S I C A B T) (o : Obj) : Rep (w.alloc o) b g n rt ct D S I C A B T := h.below ((Below.refl _ _).alloc (Nat.le_refl _) o)
theorem Rep.setR (h : Rep w b g n rt ct D S I C A B T) (v : Nat) : Rep (w.setCell ⟨b, 1, none⟩ (.int .i64 (v : Int))) b g n v ct D S I C A B T :=
  ⟨h.bg, by obtain ⟨cp, q⟩ := h.sl; exact ⟨cp, by rw [set_other _ _ _ _ _ _ (by omega)]; exact q⟩, set_same _ _ _ _ h.rt, by rw [set_other _ _ _ _ _ _ (by omega)]; exact h.ct, fun x hx => by rw [set_other _ _ _ _ _ _ (by have := h.bg; omega)]; exact h.nd x hx, fun x hx => by rw [set_other _ _ _ _ _ _ (by have := h.bg; omega)]; exact h.ns x hx, fun x hx => by rw [set_other _ _ _ _ _ _ (by have := h.bg; omega)]; exact h.ni x hx, fun x hx => by rw [set_other _ _ _ _ _ _ (by have := h.bg; omega)]; exact h.nc x hx, fun x hx => by rw [set_other _ _ _ _ _ _ (by have := h.bg; omega)]; exact h.na x hx, fun x hx => by rw [set_other _ _ _ _ _ _ (by have := h.bg; omega)]; exact h.nb x hx, fun x hx => by rw [set_other _ _ _ _ _ _ (by have := h.bg; omega)]; exact h.nt x hx, fun o => by simpa using h.fb o, fun o => by simpa using h.fg o⟩
theorem Rep.setN (h : Rep w b g n rt ct D S I C A B T) (v : Nat) : Rep (w.setCell ⟨b, 2, none⟩ (.int .i64 (v : Int))) b g n rt v D S I C A B T :=
  ⟨h.bg, by obtain ⟨cp, q⟩ := h.sl; exact ⟨cp, by rw [set_other _ _ _ _ _ _ (by omega)]; exact q⟩, by rw [set_other _ _ _ _ _ _ (by omega)]; exact h.rt, set_same _ _ _ _ h.ct, fun x hx => by rw [set_other _ _ _ _ _ _ (by have := h.bg; omega)]; exact h.nd x hx, fun x hx => by rw [set_other _ _ _ _ _ _ (by have := h.bg; omega)]; exact h.ns x hx, fun x hx => by rw [set_other _ _ _ _ _ _ (by have := h.bg; omega)]; exact h.ni x hx, fun x hx => by rw [set_other _ _ _ _ _ _ (by have := h.bg; omega)]; exact h.nc x hx, fun x hx => by rw [set_other _ _ _ _ _ _ (by have := h.bg; omega)]; exact h.na x hx, fun x hx => by rw [set_other _ _ _ _ _ _ (by have := h.bg; omega)]; exact h.nb x hx, fun x hx => by rw [set_other _ _ _ _ _ _ (by have := h.bg; omega)]; exact h.nt x hx, fun o => by simpa using h.fb o, fun o => by simpa using h.fg o⟩
theorem Rep.setD (h : Rep w b g n rt ct D S I C A B T) (p : Nat) (hp : p ≤ n) (v : Nat) : Rep (w.setCell ⟨g, p * 7, none⟩ (.int .u64 (v : Int))) b g n rt ct (upd D p v) S I C A B T :=
  ⟨h.bg, by obtain ⟨cp, q⟩ := h.sl; exact ⟨cp, by rw [set_other _ _ _ _ _ _ (by have := h.bg; omega)]; exact q⟩, by rw [set_other _ _ _ _ _ _ (by have := h.bg; omega)]; exact h.rt, by rw [set_other _ _ _ _ _ _ (by have := h.bg; omega)]; exact h.ct,
    fun x hx => by
      by_cases e : x = p
      · subst e; rw [upd_same]; exact set_same _ _ _ _ (h.nd x hx)
      · rw [upd_other _ _ _ _ e, set_other _ _ _ _ _ _ (by omega)]; exact h.nd x hx,
    fun x hx => by rw [set_other _ _ _ _ _ _ (by omega)]; exact h.ns x hx,
    fun x hx => by rw [set_other _ _ _ _ _ _ (by omega)]; exact h.ni x hx,
    fun x hx => by rw [set_other _ _ _ _ _ _ (by omega)]; exact h.nc x hx,
    fun x hx => by rw [set_other _ _ _ _ _ _ (by omega)]; exact h.na x hx,
    fun x hx => by rw [set_other _ _ _ _ _ _ (by omega)]; exact h.nb x hx,
    fun x hx => by rw [set_other _ _ _ _ _ _ (by omega)]; exact h.nt x hx,
    fun o => by simpa using h.fb o, fun o => by simpa using h.fg o⟩
theorem Rep.setS (h : Rep w b g n rt ct D S I C A B T) (p : Nat) (hp : p ≤ n) (v : Nat) : Rep (w.setCell ⟨g, p * 7 + 1, none⟩ (.int .u64 (v : Int))) b g n rt ct D (upd S p v) I C A B T :=
  ⟨h.bg, by obtain ⟨cp, q⟩ := h.sl; exact ⟨cp, by rw [set_other _ _ _ _ _ _ (by have := h.bg; omega)]; exact q⟩, by rw [set_other _ _ _ _ _ _ (by have := h.bg; omega)]; exact h.rt, by rw [set_other _ _ _ _ _ _ (by have := h.bg; omega)]; exact h.ct,
    fun x hx => by rw [set_other _ _ _ _ _ _ (by omega)]; exact h.nd x hx,
    fun x hx => by
      by_cases e : x = p
      · subst e; rw [upd_same]; exact set_same _ _ _ _ (h.ns x hx)
      · rw [upd_other _ _ _ _ e, set_other _ _ _ _ _ _ (by omega)]; exact h.ns x hx,
    fun x hx => by rw [set_other _ _ _ _ _ _ (by omega)]; exact h.ni x hx,
    fun x hx => by rw [set_other _ _ _ _ _ _ (by omega)]; exact h.nc x hx,
    fun x hx => by rw [set_other _ _ _ _ _ _ (by omega)]; exact h.na x hx,
    fun x hx => by rw [set_other _ _ _ _ _ _ (by omega)]; exact h.nb x hx,
    fun x hx => by rw [set_other _ _ _ _ _ _ (by omega)]; exact h.nt x hx,
    fun o => by simpa using h.fb o, fun o => by simpa using h.fg o⟩
theorem Rep.setI (h : Rep w b g n rt ct D S I C A B T) (p : Nat) (hp : p ≤ n) (v : Nat) : Rep (w.setCell ⟨g, p * 7 + 2, none⟩ (.int .i64 (v : Int))) b g n rt ct D S (upd I p v) C A B T :=
  ⟨h.bg, by obtain ⟨cp, q⟩ := h.sl; exact ⟨cp, by rw [set_other _ _ _ _ _ _ (by have := h.bg; omega)]; exact q⟩, by rw [set_other _ _ _ _ _ _ (by have := h.bg; omega)]; exact h.rt, by rw [set_other _ _ _ _ _ _ (by have := h.bg; omega)]; exact h.ct,
    fun x hx => by rw [set_other _ _ _ _ _ _ (by omega)]; exact h.nd x hx,
    fun x hx => by rw [set_other _ _ _ _ _ _ (by omega)]; exact h.ns x hx,
    fun x hx => by
      by_cases e : x = p
      · subst e; rw [upd_same]; exact set_same _ _ _ _ (h.ni x hx)
      · rw [upd_other _ _ _ _ e, set_other _ _ _ _ _ _ (by omega)]; exact h.ni x hx,
    fun x hx => by rw [set_other _ _ _ _ _ _ (by omega)]; exact h.nc x hx,
    fun x hx => by rw [set_other _ _ _ _ _ _ (by omega)]; exact h.na x hx,
    fun x hx => by rw [set_other _ _ _ _ _ _ (by omega)]; exact h.nb x hx,
    fun x hx => by rw [set_other _ _ _ _ _ _ (by omega)]; exact h.nt x hx,
    fun o => by simpa using h.fb o, fun o => by simpa using h.fg o⟩
theorem Rep.setC (h : Rep w b g n rt ct D S I C A B T) (p : Nat) (hp : p ≤ n) (v : Nat) : Rep (w.setCell ⟨g, p * 7 + 3, none⟩ (.int .i64 (v : Int))) b g n rt ct D S I (upd C p v) A B T :=
  ⟨h.bg, by obtain ⟨cp, q⟩ := h.sl; exact ⟨cp, by rw [set_other _ _ _ _ _ _ (by have := h.bg; omega)]; exact q⟩, by rw [set_other _ _ _ _ _ _ (by have := h.bg; omega)]; exact h.rt, by rw [set_other _ _ _ _ _ _ (by have := h.bg; omega)]; exact h.ct,
    fun x hx => by rw [set_other _ _ _ _ _ _ (by omega)]; exact h.nd x hx,
    fun x hx => by rw [set_other _ _ _ _ _ _ (by omega)]; exact h.ns x hx,
    fun x hx => by rw [set_other _ _ _ _ _ _ (by omega)]; exact h.ni x hx,
    fun x hx => by
      by_cases e : x = p
      · subst e; rw [upd_same]; exact set_same _ _ _ _ (h.nc x hx)
      · rw [upd_other _ _ _ _ e, set_other _ _ _ _ _ _ (by omega)]; exact h.nc x hx,
    fun x hx => by rw [set_other _ _ _ _ _ _ (by omega)]; exact h.na x hx,
    fun x hx => by rw [set_other _ _ _ _ _ _ (by omega)]; exact h.nb x hx,
    fun x hx => by rw [set_other _ _ _ _ _ _ (by omega)]; exact h.nt x hx,
    fun o => by simpa using h.fb o, fun o => by simpa using h.fg o⟩
theorem Rep.setA (h : Rep w b g n rt ct D S I C A B T) (p : Nat) (hp : p ≤ n) (v : Nat) : Rep (w.setCell ⟨g, p * 7 + 4, none⟩ (.int .i64 (v : Int))) b g n rt ct D S I C (upd A p v) B T :=
  ⟨h.bg, by obtain ⟨cp, q⟩ := h.sl; exact ⟨cp, by rw [set_other _ _ _ _ _ _ (by have := h.bg; omega)]; exact q⟩, by rw [set_other _ _ _ _ _ _ (by have := h.bg; omega)]; exact h.rt, by rw [set_other _ _ _ _ _ _ (by have := h.bg; omega)]; exact h.ct,
    fun x hx => by rw [set_other _ _ _ _ _ _ (by omega)]; exact h.nd x hx,
    fun x hx => by rw [set_other _ _ _ _ _ _ (by omega)]; exact h.ns x hx,
    fun x hx => by rw [set_other _ _ _ _ _ _ (by omega)]; exact h.ni x hx,
    fun x hx => by rw [set_other _ _ _ _ _ _ (by omega)]; exact h.nc x hx,
    fun x hx => by
      by_cases e : x = p
      · subst e; rw [upd_same]; exact set_same _ _ _ _ (h.na x hx)
      · rw [upd_other _ _ _ _ e, set_other _ _ _ _ _ _ (by omega)]; exact h.na x hx,
    fun x hx => by rw [set_other _ _ _ _ _ _ (by omega)]; exact h.nb x hx,
    fun x hx => by rw [set_other _ _ _ _ _ _ (by omega)]; exact h.nt x hx,
    fun o => by simpa using h.fb o, fun o => by simpa using h.fg o⟩
theorem Rep.setB (h : Rep w b g n rt ct D S I C A B T) (p : Nat) (hp : p ≤ n) (v : Nat) : Rep (w.setCell ⟨g, p * 7 + 5, none⟩ (.int .i64 (v : Int))) b g n rt ct D S I C A (upd B p v) T :=
  ⟨h.bg, by obtain ⟨cp, q⟩ := h.sl; exact ⟨cp, by rw [set_other _ _ _ _ _ _ (by have := h.bg; omega)]; exact q⟩, by rw [set_other _ _ _ _ _ _ (by have := h.bg; omega)]; exact h.rt, by rw [set_other _ _ _ _ _ _ (by have := h.bg; omega)]; exact h.ct,
    fun x hx => by rw [set_other _ _ _ _ _ _ (by omega)]; exact h.nd x hx,
    fun x hx => by rw [set_other _ _ _ _ _ _ (by omega)]; exact h.ns x hx,
    fun x hx => by rw [set_other _ _ _ _ _ _ (by omega)]; exact h.ni x hx,
    fun x hx => by rw [set_other _ _ _ _ _ _ (by omega)]; exact h.nc x hx,
    fun x hx => by rw [set_other _ _ _ _ _ _ (by omega)]; exact h.na x hx,
    fun x hx => by
      by_cases e : x = p
      · subst e; rw [upd_same]; exact set_same _ _ _ _ (h.nb x hx)
      · rw [upd_other _ _ _ _ e, set_other _ _ _ _ _ _ (by omega)]; exact h.nb x hx,
    fun x hx => by rw [set_other _ _ _ _ _ _ (by omega)]; exact h.nt x hx,
    fun o => by simpa using h.fb o, fun o => by simpa using h.fg o⟩
theorem Rep.setT (h : Rep w b g n rt ct D S I C A B T) (p : Nat) (hp : p ≤ n) (v : Bool) : Rep (w.setCell ⟨g, p * 7 + 6, none⟩ (.bool v)) b g n rt ct D S I C A B (upd T p v) :=
  ⟨h.bg, by obtain ⟨cp, q⟩ := h.sl; exact ⟨cp, by rw [set_other _ _ _ _ _ _ (by have := h.bg; omega)]; exact q⟩, by rw [set_other _ _ _ _ _ _ (by have := h.bg; omega)]; exact h.rt, by rw [set_other _ _ _ _ _ _ (by have := h.bg; omega)]; exact h.ct,
    fun x hx => by rw [set_other _ _ _ _ _ _ (by omega)]; exact h.nd x hx,
    fun x hx => by rw [set_other _ _ _ _ _ _ (by omega)]; exact h.ns x hx,
    fun x hx => by rw [set_other _ _ _ _ _ _ (by omega)]; exact h.ni x hx,
    fun x hx => by rw [set_other _ _ _ _ _ _ (by omega)]; exact h.nc x hx,
    fun x hx => by rw [set_other _ _ _ _ _ _ (by omega)]; exact h.na x hx,
    fun x hx => by rw [set_other _ _ _ _ _ _ (by omega)]; exact h.nb x hx,
    fun x hx => by
      by_cases e : x = p
      · subst e; rw [upd_same]; exact set_same _ _ _ _ (h.nt x hx)
      · rw [upd_other _ _ _ _ e, set_other _ _ _ _ _ _ (by omega)]; exact h.nt x hx,
    fun o => by simpa using h.fb o, fun o => by simpa using h.fg o⟩
end
end Go.Proofs.Ytjmbadadelelfaa.Ph

namespace Go.Proofs.Ytjmbadadelelfaa.Ph
open Go.RowKit
attribute [local go_sem ↓] Go.wp_at_zero Go.wp_at_succ

def nodeZero : Value := .agg #[.int .u64 0, .int .u64 0, .int .i64 0, .int .i64 0, .int .i64 0, .int .i64 0, .bool false]
def nodeCells (n : Nat) : Array Value := madeCells nodeZero.cells ((n + 1) * 7)
theorem cell_new (w : World) (c : Array Value) (t : TypeId) (i : Nat) : (w.alloc (.cells c t)).cell? ⟨w.heap.size, i, none⟩ = c[i]? := by
  unfold World.cell?
  simp only [(MapKept.heap_alloc w (.cells c t)).1]
  rfl
theorem frozen_new (w : World) (c : Array Value) (t : TypeId) (i : Nat) : (w.alloc (.cells c t)).frozen? ⟨w.heap.size, i, none⟩ = false := by
  unfold World.frozen?
  simp only [(MapKept.heap_alloc w (.cells c t)).1]
  simp
theorem node_at (n k : Nat) (h : k < (n + 1) * 7) : (nodeCells n)[k]? = some ((#[Value.int .u64 0, .int .u64 0, .int .i64 0, .int .i64 0, .int .i64 0, .int .i64 0, .bool false] : Array Value)[k % 7]!) := by
  unfold nodeCells madeCells nodeZero
  simp [Value.cells, h]
theorem infoNode : (Try.prog.info? 94).map (fun i => (i.zero, i.size, i.bytes)) = some (some nodeZero, 7, 56) := by kernel_rfl

theorem new_rep (w : World) (n : Nat) :
    Rep ((w.alloc (.cells (nodeCells n) 94)).alloc (.cells #[.slice (some ⟨w.heap.size, 0, none⟩) (n + 1) (n + 1), .int .i64 0, .int .i64 0] 90)) (w.heap.size + 1) w.heap.size n 0 0 (fun _ => 0) (fun _ => 0) (fun _ => 0) (fun _ => 0) (fun _ => 0) (fun _ => 0) (fun _ => false) := by
  have e : w.heap.size + 1 = (w.alloc (.cells (nodeCells n) 94)).heap.size := by simp
  have hb : ∀ i, ((w.alloc (.cells (nodeCells n) 94)).alloc (.cells #[.slice (some ⟨w.heap.size, 0, none⟩) (n + 1) (n + 1), .int .i64 0, .int .i64 0] 90)).cell? ⟨w.heap.size + 1, i, none⟩ = (#[.slice (some ⟨w.heap.size, 0, none⟩) (n + 1) (n + 1), .int .i64 0, .int .i64 0] : Array Value)[i]? := by
    intro i
    rw [e]; exact cell_new _ _ _ _
  have hg : ∀ i, ((w.alloc (.cells (nodeCells n) 94)).alloc (.cells #[.slice (some ⟨w.heap.size, 0, none⟩) (n + 1) (n + 1), .int .i64 0, .int .i64 0] 90)).cell? ⟨w.heap.size, i, none⟩ = (nodeCells n)[i]? := by
    intro i
    rw [← cell_new w (nodeCells n) 94 i]
    simp only [World.cell?]
    rw [Below.heap_alloc _ _ _ (by simp)]
  have fg : ∀ i, ((w.alloc (.cells (nodeCells n) 94)).alloc (.cells #[.slice (some ⟨w.heap.size, 0, none⟩) (n + 1) (n + 1), .int .i64 0, .int .i64 0] 90)).frozen? ⟨w.heap.size, i, none⟩ = false := by
    intro i
    rw [← frozen_new w (nodeCells n) 94 i]
    simp only [World.frozen?]
    rw [Below.heap_alloc _ _ _ (by simp)]
  refine ⟨by omega, ⟨n + 1, by rw [hb]; rfl⟩, by rw [hb]; rfl, by rw [hb]; rfl, fun x hx => ?_, fun x hx => ?_, fun x hx => ?_, fun x hx => ?_, fun x hx => ?_, fun x hx => ?_, fun x hx => ?_, fun o => by rw [e]; exact frozen_new _ _ _ _, fg⟩
  · rw [hg, node_at n _ (by omega), show x * 7 % 7 = 0 by omega]; rfl
  · rw [hg, node_at n _ (by omega), show (x * 7 + 1) % 7 = 1 by omega]; rfl
  · rw [hg, node_at n _ (by omega), show (x * 7 + 2) % 7 = 2 by omega]; rfl
  · rw [hg, node_at n _ (by omega), show (x * 7 + 3) % 7 = 3 by omega]; rfl
  · rw [hg, node_at n _ (by omega), show (x * 7 + 4) % 7 = 4 by omega]; rfl
  · rw [hg, node_at n _ (by omega), show (x * 7 + 5) % 7 = 5 by omega]; rfl
  · rw [hg, node_at n _ (by omega), show (x * 7 + 6) % 7 = 6 by omega]; rfl

set_option maxHeartbeats 1000000 in
theorem new_ok (n : Nat) (w : World) (h1 : 1 ≤ n) (h2 : n ≤ 1024) :
    Calls Try.prog 27 #[.int .i64 n] w fun e w' => e = .returned (.pointer (some ⟨w.heap.size + 1, 0, none⟩)) ∧ Rep w' (w.heap.size + 1) w.heap.size n 0 0 (fun _ => 0) (fun _ => 0) (fun _ => 0) (fun _ => 0) (fun _ => 0) (fun _ => 0) (fun _ => false) ∧ Below w.heap.size w w' := by
  obtain ⟨i0, hi, hz0, hz1, hz2⟩ := info_parts infoNode
  have hmk : ∀ w, (Instr.makeSlice 88 (.int .i64 ((n : Int) + 1)) (.int .i64 ((n : Int) + 1))).run Try.prog w = .ok (.slice (some ⟨w.heap.size, 0, none⟩) (n + 1) (n + 1)) (w.alloc (.cells (nodeCells n) 94)) := by
    intro w
    have := run_make w 88 94 i0 nodeZero Try.underlying88 hi hz0 .i64 .i64 ((n : Int) + 1) ((n : Int) + 1) (by omega) (by omega) (by rw [hz2]; omega) (by omega)
    rw [hz1, show ((n : Int) + 1).toNat = n + 1 by omega] at this
    exact this
  have HR := veil (new_rep w n)
  clear hi hz0 hz1 hz2
  go_enter Try.func27, Try.ntmps27
  go_wp2
  go_ret
  exact ⟨rfl, HR.out, ((Below.refl _ _).alloc (Nat.le_refl _) _).alloc (by simp) _⟩
theorem new_not (n : Int) (w : World) (h : n < 1 ∨ 1024 < n) :
    Calls Try.prog 27 #[.int .i64 n] w fun e w' => e = .returned (.pointer none) ∧ w' = w := by
  by_cases h1 : n < 1
  · go_enter Try.func27, Try.ntmps27
    go_wp2
    go_ret
    exact ⟨rfl, rfl⟩
  · have h2 : 1024 < n := by omega
    go_enter Try.func27, Try.ntmps27
    go_wp2
    go_ret
    exact ⟨rfl, rfl⟩

/-- Which of two is ahead: by deadlines, then by numbers, then by ids. -/
def bef (d1 s1 i1 d2 s2 i2 : Nat) : Bool := if d1 = d2 then (if s1 = s2 then decide (i1 < i2) else decide (s1 < s2)) else decide (d1 < d2)

set_option maxHeartbeats 1000000 in
theorem before_ok (d1 s1 i1 d2 s2 i2 : Nat) (w : World) :
    Calls Try.prog 65 #[.agg #[.int .u64 d1, .int .u64 s1, .int .i64 i1], .agg #[.int .u64 d2, .int .u64 s2, .int .i64 i2]] w fun e w' => e = .returned (.bool (bef d1 s1 i1 d2 s2 i2)) ∧ Below w.heap.size w w' := by
  generalize hb : bef d1 s1 i1 d2 s2 i2 = bb
  unfold bef at hb
  by_cases h1 : d1 = d2
  · rw [if_pos h1] at hb
    by_cases h2 : s1 = s2
    · rw [if_pos h2] at hb
      subst h1 h2
      go_enter Try.func65, Try.ntmps65
      go_wp2
      go_ret
      exact ⟨by rw [← hb]; simp, ((Below.refl _ _).alloc (Nat.le_refl _) _).alloc (by simp) _⟩
    · rw [if_neg h2] at hb
      have h2' : ¬ (s1 : Int) = (s2 : Int) := by omega
      subst h1
      go_enter Try.func65, Try.ntmps65
      go_wp2
      go_ret
      exact ⟨by rw [← hb]; simp, ((Below.refl _ _).alloc (Nat.le_refl _) _).alloc (by simp) _⟩
  · rw [if_neg h1] at hb
    have h1' : ¬ (d1 : Int) = (d2 : Int) := by omega
    go_enter Try.func65, Try.ntmps65
    go_wp2
    go_ret
    exact ⟨by rw [← hb]; simp, ((Below.refl _ _).alloc (Nat.le_refl _) _).alloc (by simp) _⟩
end Go.Proofs.Ytjmbadadelelfaa.Ph

namespace Go.Proofs.Ytjmbadadelelfaa.Ph
open Go.RowKit
attribute [local go_sem ↓] Go.wp_at_zero Go.wp_at_succ

section
variable {w : World} {b g n rt ct : Nat} {D S I C A B : Nat → Nat} {T : Nat → Bool}
theorem join_left (two : Nat) (w : World) (b : Nat) :
    Calls Try.prog 60 #[.pointer (some ⟨b, 0, none⟩), .int .i64 0, .int .i64 two] w fun e w' => e = .returned (.int .i64 two) ∧ w' = w := by
  go_enter Try.func60, Try.ntmps60
  go_wp2
  go_ret
  exact ⟨rfl, rfl⟩
theorem join_right (one : Nat) (h1 : 1 ≤ one) (w : World) (b : Nat) :
    Calls Try.prog 60 #[.pointer (some ⟨b, 0, none⟩), .int .i64 one, .int .i64 0] w fun e w' => e = .returned (.int .i64 one) ∧ w' = w := by
  have h0 : ¬ (one : Int) = 0 := by omega
  go_enter Try.func60, Try.ntmps60
  go_wp2
  go_ret
  exact ⟨rfl, rfl⟩


set_option maxHeartbeats 4000000 in
set_option maxRecDepth 100000 in
theorem join_swap (h : Rep w b g n rt ct D S I C A B T) (p q : Nat) (hp : 1 ≤ p) (hpn : p ≤ n) (hq : 1 ≤ q) (hqn : q ≤ n) (hf : C p ≤ n) (hfq : C p ≠ q)
    (hbef : bef (D p) (S p) (I p) (D q) (S q) (I q) = true) :
    Calls Try.prog 60 #[.pointer (some ⟨b, 0, none⟩), .int .i64 q, .int .i64 p] w fun e w' => e = .returned (.int .i64 p) ∧
      Rep w' b g n rt ct D S I (upd C p q) (upd (if C p = 0 then A else upd A (C p) q) q p) (upd B q (C p)) T ∧ Only b g w w' := by
  obtain ⟨cp, e0⟩ := h.sl
  have ep0 := h.nd p hpn; have ep1 := h.ns p hpn; have ep2 := h.ni p hpn
  have eq0 := h.nd q hqn; have eq1 := h.ns q hqn; have eq2 := h.ni q hqn
  have p0 : ¬ (p : Int) = 0 := by omega
  have q0 : ¬ (q : Int) = 0 := by omega
  have pl : p < n + 1 := by omega
  have ql : q < n + 1 := by omega
  have pl0 : (0 : Int) ≤ (p : Int) := by omega
  have ql0 : (0 : Int) ≤ (q : Int) := by omega
  obtain ⟨L, hL⟩ : ∃ L, L = n + 1 := ⟨_, rfl⟩
  rw [← hL] at e0
  have pl1 : (p : Int) < (L : Int) := by omega
  have ql1 : (q : Int) < (L : Int) := by omega
  have HLe := veil hL
  clear hL pl ql
  have HB : Hid (∀ w1, Below w.heap.size w w1 → Rep w1 b g n rt ct D S I C A B T) := fun w1 hb => h.below hb
  have HE := before_ok (D p) (S p) (I p) (D q) (S q) (I q)
  rw [hbef] at HE
  have HE := veil HE
  have hbb := h.lt_b
  have hgg := h.lt_g
  clear h hbef
  go_enter Try.func60, Try.ntmps60
  go_wp2
  go_region_held3 (fun w' => w'.cell? ⟨b, 0, none⟩ = some (.slice (some ⟨g, 0, none⟩) L cp) ∧ w'.cell? ⟨g, p * 7, none⟩ = some (.int .u64 (D p)) ∧ w'.cell? ⟨g, p * 7 + 1, none⟩ = some (.int .u64 (S p)) ∧ w'.cell? ⟨g, p * 7 + 2, none⟩ = some (.int .i64 (I p)) ∧ w'.cell? ⟨g, q * 7, none⟩ = some (.int .u64 (D q)) ∧ w'.cell? ⟨g, q * 7 + 1, none⟩ = some (.int .u64 (S q)) ∧ w'.cell? ⟨g, q * 7 + 2, none⟩ = some (.int .i64 (I q)))
    (first | go_keep | exact ⟨(hb1.cell (p := ⟨b, 0, none⟩) hbb).trans e0, (hb1.cell (p := ⟨g, p * 7, none⟩) hgg).trans ep0, (hb1.cell (p := ⟨g, p * 7 + 1, none⟩) hgg).trans ep1, (hb1.cell (p := ⟨g, p * 7 + 2, none⟩) hgg).trans ep2, (hb1.cell (p := ⟨g, q * 7, none⟩) hgg).trans eq0, (hb1.cell (p := ⟨g, q * 7 + 1, none⟩) hgg).trans eq1, (hb1.cell (p := ⟨g, q * 7 + 2, none⟩) hgg).trans eq2⟩)
    ((go_at_call 65; refine (HE.out _).mono ?_; rintro e w1 ⟨rfl, hb1'⟩; have hb1 : Below w.heap.size w w1 := (show Below w.heap.size w w.drew from (Below.refl _ _).drew).trans hb1'; clear hb1'))
  have hr := HB.out _ hb1
  have HL := veil hb1
  have HR := veil hr
  clear hb1 e0 ep0 ep1 ep2 eq0 eq1 eq2
  obtain ⟨cp1, e0⟩ := hr.sl
  rw [← HLe.out] at e0
  have c1 := hr.nc p hpn
  have c2 := hr.na q hqn
  have c3 := hr.nb q hqn
  have fg := hr.fg
  by_cases hf0 : C p = 0
  · rw [hf0] at c1
    have c1' : w1.cell? ⟨g, p * 7 + 3, none⟩ = some (.int .i64 0) := c1
    have HF0 := veil hf0
    clear hr c1 hf0 hf hfq
    go_wp2
    go_region
    go_wp2
    go_ret
    refine ⟨rfl, ?_, ?_⟩
    · exact (((HR.out.setA q hqn p).setB q hqn 0).setC p hpn q).drew
    · exact ((((Only.of_below HL.out).set ⟨g, q * 7 + 4, none⟩ _ (Or.inr rfl)).set ⟨g, q * 7 + 5, none⟩ _ (Or.inr rfl)).set ⟨g, p * 7 + 3, none⟩ _ (Or.inr rfl)).drew
  · have c4 := hr.na (C p) hf
    have HF0 := veil hf0
    generalize hff : C p = f at *
    have f0 : ¬ (f : Int) = 0 := by omega
    have fl0 : (0 : Int) ≤ (f : Int) := by omega
    have fl1 : (f : Int) < (L : Int) := by have := HLe.out; omega
    clear hr
    go_wp2
    go_region
    go_wp2
    go_ret
    refine ⟨rfl, ?_, ?_⟩
    · exact ((((HR.out.setA f hf q).setA q hqn p).setB q hqn f).setC p hpn q).drew
    · exact (((((Only.of_below HL.out).set ⟨g, f * 7 + 4, none⟩ _ (Or.inr rfl)).set ⟨g, q * 7 + 4, none⟩ _ (Or.inr rfl)).set ⟨g, q * 7 + 5, none⟩ _ (Or.inr rfl)).set ⟨g, p * 7 + 3, none⟩ _ (Or.inr rfl)).drew

set_option maxHeartbeats 4000000 in
set_option maxRecDepth 100000 in
theorem join_keep (h : Rep w b g n rt ct D S I C A B T) (p q : Nat) (hp : 1 ≤ p) (hpn : p ≤ n) (hq : 1 ≤ q) (hqn : q ≤ n) (hf : C p ≤ n) (hfq : C p ≠ q)
    (hbef : bef (D q) (S q) (I q) (D p) (S p) (I p) = false) :
    Calls Try.prog 60 #[.pointer (some ⟨b, 0, none⟩), .int .i64 p, .int .i64 q] w fun e w' => e = .returned (.int .i64 p) ∧
      Rep w' b g n rt ct D S I (upd C p q) (upd (if C p = 0 then A else upd A (C p) q) q p) (upd B q (C p)) T ∧ Only b g w w' := by
  obtain ⟨cp, e0⟩ := h.sl
  have ep0 := h.nd p hpn; have ep1 := h.ns p hpn; have ep2 := h.ni p hpn
  have eq0 := h.nd q hqn; have eq1 := h.ns q hqn; have eq2 := h.ni q hqn
  have p0 : ¬ (p : Int) = 0 := by omega
  have q0 : ¬ (q : Int) = 0 := by omega
  have pl : p < n + 1 := by omega
  have ql : q < n + 1 := by omega
  have pl0 : (0 : Int) ≤ (p : Int) := by omega
  have ql0 : (0 : Int) ≤ (q : Int) := by omega
  obtain ⟨L, hL⟩ : ∃ L, L = n + 1 := ⟨_, rfl⟩
  rw [← hL] at e0
  have pl1 : (p : Int) < (L : Int) := by omega
  have ql1 : (q : Int) < (L : Int) := by omega
  have HLe := veil hL
  clear hL pl ql
  have HB : Hid (∀ w1, Below w.heap.size w w1 → Rep w1 b g n rt ct D S I C A B T) := fun w1 hb => h.below hb
  have HE := before_ok (D q) (S q) (I q) (D p) (S p) (I p)
  rw [hbef] at HE
  have HE := veil HE
  have hbb := h.lt_b
  have hgg := h.lt_g
  clear h hbef
  go_enter Try.func60, Try.ntmps60
  go_wp2
  go_region_held3 (fun w' => w'.cell? ⟨b, 0, none⟩ = some (.slice (some ⟨g, 0, none⟩) L cp) ∧ w'.cell? ⟨g, p * 7, none⟩ = some (.int .u64 (D p)) ∧ w'.cell? ⟨g, p * 7 + 1, none⟩ = some (.int .u64 (S p)) ∧ w'.cell? ⟨g, p * 7 + 2, none⟩ = some (.int .i64 (I p)) ∧ w'.cell? ⟨g, q * 7, none⟩ = some (.int .u64 (D q)) ∧ w'.cell? ⟨g, q * 7 + 1, none⟩ = some (.int .u64 (S q)) ∧ w'.cell? ⟨g, q * 7 + 2, none⟩ = some (.int .i64 (I q)))
    (first | go_keep | exact ⟨(hb1.cell (p := ⟨b, 0, none⟩) hbb).trans e0, (hb1.cell (p := ⟨g, p * 7, none⟩) hgg).trans ep0, (hb1.cell (p := ⟨g, p * 7 + 1, none⟩) hgg).trans ep1, (hb1.cell (p := ⟨g, p * 7 + 2, none⟩) hgg).trans ep2, (hb1.cell (p := ⟨g, q * 7, none⟩) hgg).trans eq0, (hb1.cell (p := ⟨g, q * 7 + 1, none⟩) hgg).trans eq1, (hb1.cell (p := ⟨g, q * 7 + 2, none⟩) hgg).trans eq2⟩)
    ((go_at_call 65; refine (HE.out _).mono ?_; rintro e w1 ⟨rfl, hb1'⟩; have hb1 : Below w.heap.size w w1 := (show Below w.heap.size w w.drew from (Below.refl _ _).drew).trans hb1'; clear hb1'))
  have hr := HB.out _ hb1
  have HL := veil hb1
  have HR := veil hr
  clear hb1 e0 ep0 ep1 ep2 eq0 eq1 eq2
  obtain ⟨cp1, e0⟩ := hr.sl
  rw [← HLe.out] at e0
  have c1 := hr.nc p hpn
  have c2 := hr.na q hqn
  have c3 := hr.nb q hqn
  have fg := hr.fg
  by_cases hf0 : C p = 0
  · rw [hf0] at c1
    have c1' : w1.cell? ⟨g, p * 7 + 3, none⟩ = some (.int .i64 0) := c1
    have HF0 := veil hf0
    clear hr c1 hf0 hf hfq
    go_wp2
    go_region
    go_wp2
    go_ret
    refine ⟨rfl, ?_, ?_⟩
    · exact (((HR.out.setA q hqn p).setB q hqn 0).setC p hpn q).drew
    · exact ((((Only.of_below HL.out).set ⟨g, q * 7 + 4, none⟩ _ (Or.inr rfl)).set ⟨g, q * 7 + 5, none⟩ _ (Or.inr rfl)).set ⟨g, p * 7 + 3, none⟩ _ (Or.inr rfl)).drew
  · have c4 := hr.na (C p) hf
    have HF0 := veil hf0
    generalize hff : C p = f at *
    have f0 : ¬ (f : Int) = 0 := by omega
    have fl0 : (0 : Int) ≤ (f : Int) := by omega
    have fl1 : (f : Int) < (L : Int) := by have := HLe.out; omega
    clear hr
    go_wp2
    go_region
    go_wp2
    go_ret
    refine ⟨rfl, ?_, ?_⟩
    · exact ((((HR.out.setA f hf q).setA q hqn p).setB q hqn f).setC p hpn q).drew
    · exact (((((Only.of_below HL.out).set ⟨g, f * 7 + 4, none⟩ _ (Or.inr rfl)).set ⟨g, q * 7 + 4, none⟩ _ (Or.inr rfl)).set ⟨g, q * 7 + 5, none⟩ _ (Or.inr rfl)).set ⟨g, p * 7 + 3, none⟩ _ (Or.inr rfl)).drew
end
end Go.Proofs.Ytjmbadadelelfaa.Ph

namespace Go.Proofs.Ytjmbadadelelfaa.Ph
open Go.RowKit
attribute [local go_sem ↓] Go.wp_at_zero Go.wp_at_succ

section
variable {w : World} {b g n rt ct : Nat} {D S I C A B : Nat → Nat} {T : Nat → Bool}
set_option maxHeartbeats 4000000 in
theorem put_walk (h : Rep w b g n rt ct D S I C A B T) (id d s r : Nat) (hid : id < n) (hn : n ≤ 1024) (hct : ct ≤ 1024) {D' S' I' C' A' B' : Nat → Nat} {T' : Nat → Bool}
    (hJ : ∀ w1, Rep w1 b g n rt ct (upd D (id + 1) d) (upd S (id + 1) s) (upd I (id + 1) id) (upd C (id + 1) 0) (upd A (id + 1) 0) (upd B (id + 1) 0) (upd T (id + 1) true) → Calls Try.prog 60 #[.pointer (some ⟨b, 0, none⟩), .int .i64 (rt : Int), .int .i64 ((id : Int) + 1)] w1 fun e w' => e = .returned (.int .i64 (r : Int)) ∧ Rep w' b g n rt ct D' S' I' C' A' B' T' ∧ Only b g w1 w') :
    Calls Try.prog 52 #[.pointer (some ⟨b, 0, none⟩), .agg #[.int .u64 (d : Int), .int .u64 (s : Int), .int .i64 (id : Int)]] w fun e w' => e = .returned (.tuple #[]) ∧ Rep w' b g n r (ct + 1) D' S' I' C' A' B' T' ∧ Only b g w w' := by
  have hi : id + 1 ≤ n := by omega
  obtain ⟨cp, e0⟩ := h.sl
  have e1 := h.rt
  have e2 := h.ct
  have n0 := h.nd (id + 1) hi; have n1 := h.ns (id + 1) hi; have n2 := h.ni (id + 1) hi; have n3 := h.nc (id + 1) hi; have n4 := h.na (id + 1) hi; have n5 := h.nb (id + 1) hi; have n6 := h.nt (id + 1) hi
  have fg := h.fg
  have fb := h.fb
  have hbb := h.lt_b
  have hgg := h.lt_g
  have hbg := h.bg
  have hgb : g ≠ b := fun e => hbg e.symm
  have y1 : ¬ b = w.heap.size := by omega
  have y2 : ¬ g = w.heap.size := by omega
  have HO0 : Hid (Only b g w (((((((((w.setCell ⟨g, (id + 1) * 7, none⟩ (.int .u64 (d : Int))).setCell ⟨g, (id + 1) * 7 + 1, none⟩ (.int .u64 (s : Int))).setCell ⟨g, (id + 1) * 7 + 2, none⟩ (.int .i64 (id : Int))).setCell ⟨g, (id + 1) * 7 + 3, none⟩ (.int .i64 0)).setCell ⟨g, (id + 1) * 7 + 4, none⟩ (.int .i64 0)).setCell ⟨g, (id + 1) * 7 + 5, none⟩ (.int .i64 0)).setCell ⟨g, (id + 1) * 7 + 6, none⟩ (.bool true)).alloc (.cells #[.int .u64 (d : Int), .int .u64 (s : Int), .int .i64 (id : Int)] 92)).drew)) :=
    ((((((((((Only.refl b g w).set _ _ (Or.inr rfl)).set _ _ (Or.inr rfl)).set _ _ (Or.inr rfl)).set _ _ (Or.inr rfl)).set _ _ (Or.inr rfl)).set _ _ (Or.inr rfl)).set _ _ (Or.inr rfl)).alloc _).drew)
  have HR0 : Hid (Rep (((((((((w.setCell ⟨g, (id + 1) * 7, none⟩ (.int .u64 (d : Int))).setCell ⟨g, (id + 1) * 7 + 1, none⟩ (.int .u64 (s : Int))).setCell ⟨g, (id + 1) * 7 + 2, none⟩ (.int .i64 (id : Int))).setCell ⟨g, (id + 1) * 7 + 3, none⟩ (.int .i64 0)).setCell ⟨g, (id + 1) * 7 + 4, none⟩ (.int .i64 0)).setCell ⟨g, (id + 1) * 7 + 5, none⟩ (.int .i64 0)).setCell ⟨g, (id + 1) * 7 + 6, none⟩ (.bool true)).alloc (.cells #[.int .u64 (d : Int), .int .u64 (s : Int), .int .i64 (id : Int)] 92)).drew) b g n rt ct (upd D (id + 1) d) (upd S (id + 1) s) (upd I (id + 1) id) (upd C (id + 1) 0) (upd A (id + 1) 0) (upd B (id + 1) 0) (upd T (id + 1) true)) :=
    ((((((((h.setD (id + 1) hi d).setS (id + 1) hi s).setI (id + 1) hi id).setC (id + 1) hi 0).setA (id + 1) hi 0).setB (id + 1) hi 0).setT (id + 1) hi true).alloc _).drew
  have HJ := veil hJ
  clear h hJ
  go_enter Try.func52, Try.ntmps52
  go_wp2
  go_region
  go_wp2_with (go_at_call 60; refine (HJ.out _ HR0.out).mono ?_; rintro e w2 ⟨rfl, hr2, ho2⟩; have r1 := hr2.rt; have r2 := hr2.ct; have r3 := hr2.fb; have HR2 := veil hr2; have HO2 := veil (HO0.out.trans ho2); clear hr2 ho2)
  go_end0
  refine ⟨rfl, (HR2.out.setR r).setN (ct + 1), (HO2.out.set ⟨b, 1, none⟩ _ (Or.inl rfl)).set ⟨b, 2, none⟩ _ (Or.inl rfl)⟩
end
end Go.Proofs.Ytjmbadadelelfaa.Ph

namespace Go.Proofs.Ytjmbadadelelfaa.Ph
open Go.RowKit
attribute [local go_sem ↓] Go.wp_at_zero Go.wp_at_succ

section
variable {w : World} {b g n rt ct : Nat} {D S I C A B : Nat → Nat} {T : Nat → Bool}
theorem pair_zero (w : World) (b : Nat) :
    Calls Try.prog 61 #[.pointer (some ⟨b, 0, none⟩), .int .i64 0] w fun e w' => e = .returned (.int .i64 0) ∧ Below w.heap.size w w' := by
  go_enter Try.func61, Try.ntmps61
  go_wp2
  go_step3
  go_wp2
  go_step3
  go_wp2
  go_loopw [1] (fun i wr => i = .int .i64 0 ∧ wr = w) (fun _ _ => 0)
  case atStart => exact ⟨rfl, rfl⟩
  case round =>
    obtain ⟨rfl, rfl⟩ := hrel
    go_wp2
    rw [Exit.noGoto_ret]
    go_ret
    exact ⟨rfl, Below.refl _ _⟩
set_option maxHeartbeats 2000000 in
theorem pair_single (h : Rep w b g n rt ct D S I C A B T) (x : Nat) (hx : 1 ≤ x) (hxn : x ≤ n) (h0 : B x = 0) :
    Calls Try.prog 61 #[.pointer (some ⟨b, 0, none⟩), .int .i64 x] w fun e w' => e = .returned (.int .i64 x) ∧ Below w.heap.size w w' := by
  obtain ⟨cp, e0⟩ := h.sl
  have e1 := h.nb x hxn
  rw [h0] at e1
  have e1' : w.cell? ⟨g, x * 7 + 5, none⟩ = some (.int .i64 0) := e1
  have x0 : ¬ (x : Int) = 0 := by omega
  have xl : x < n + 1 := by omega
  clear h e1
  go_enter Try.func61, Try.ntmps61
  go_wp2
  go_step3
  go_wp2
  go_step3
  go_wp2
  go_loopw [1] (fun i wr => i = .int .i64 x ∧ wr = w) (fun _ _ => 0)
  case atStart => exact ⟨rfl, rfl⟩
  case round =>
    obtain ⟨rfl, rfl⟩ := hrel
    go_wp2
    go_loopw [1, 5] (fun i m wr2 => i = .int .i64 x ∧ m = .int .i64 0 ∧ wr2 = wr) (fun _ _ _ => 0)
    case atStart => exact ⟨rfl, rfl, rfl⟩
    case round =>
      obtain ⟨rfl, rfl, rfl⟩ := hrel
      go_wp2
      go_quiet (fail)
      go_wp2
      first
        | (rw [Exit.noGoto_ret]; go_ret; exact ⟨rfl, below_drewN (Below.refl _ _) _⟩)
        | (show Exit.noGoto _ Exit.ret _ _; rw [Exit.noGoto_ret]; go_ret; exact ⟨rfl, below_drewN (Below.refl _ _) _⟩)

set_option maxHeartbeats 2000000 in
/-- A spot that is the first one below another one, and the last one too, is cut off. -/
theorem cut_child (h : Rep w b g n rt ct D S I C A B T) (x a : Nat) (hxn : x ≤ n) (han : a ≤ n) (h1 : A x = a) (h2 : C a = x) (h3 : B x = 0) :
    Calls Try.prog 62 #[.pointer (some ⟨b, 0, none⟩), .int .i64 x] w fun e w' => e = .returned (.tuple #[]) ∧ Rep w' b g n rt ct D S I (upd C a 0) A B T ∧ Only b g w w' := by
  obtain ⟨cp, e0⟩ := h.sl
  have n0 := h.nd x hxn; have n1 := h.ns x hxn; have n2 := h.ni x hxn; have n3 := h.nc x hxn; have n4 := h.na x hxn; have n5 := h.nb x hxn; have n6 := h.nt x hxn
  rw [h1] at n4
  rw [h3] at n5
  have n5' : w.cell? ⟨g, x * 7 + 5, none⟩ = some (.int .i64 0) := n5
  have c1 := h.nc a han
  rw [h2] at c1
  have fg := h.fg
  have hbb := h.lt_b
  have hgg := h.lt_g
  have y1 : ¬ b = w.heap.size := by omega
  have y2 : ¬ g = w.heap.size := by omega
  have xl : x < n + 1 := by omega
  have al : a < n + 1 := by omega
  have HR := veil h
  clear h h1 h2 h3 n5
  go_enter Try.func62, Try.ntmps62
  go_wp2
  go_quiet (fail)
  go_wp2
  go_region
  go_wp2
  go_end0
  exact ⟨rfl, ((HR.out.alloc _).drewN _).setC a han 0, (((Only.refl b g w).alloc _).drewN _).set _ _ (Or.inr rfl)⟩
end
end Go.Proofs.Ytjmbadadelelfaa.Ph

namespace Go.Proofs.Ytjmbadadelelfaa.Ph
open Go.RowKit
attribute [local go_sem ↓] Go.wp_at_zero Go.wp_at_succ

section
variable {w : World} {b g n rt ct : Nat} {D S I C A B : Nat → Nat} {T : Nat → Bool}
theorem zero_node (h : Rep w b g n rt ct D S I C A B T) (x : Nat) (hx : x ≤ n) :
    Rep (((((((w.setCell ⟨g, x * 7, none⟩ (.int .u64 0)).setCell ⟨g, x * 7 + 1, none⟩ (.int .u64 0)).setCell ⟨g, x * 7 + 2, none⟩ (.int .i64 0)).setCell ⟨g, x * 7 + 3, none⟩ (.int .i64 0)).setCell ⟨g, x * 7 + 4, none⟩ (.int .i64 0)).setCell ⟨g, x * 7 + 5, none⟩ (.int .i64 0)).setCell ⟨g, x * 7 + 6, none⟩ (.bool false)) b g n rt ct (upd D x 0) (upd S x 0) (upd I x 0) (upd C x 0) (upd A x 0) (upd B x 0) (upd T x false) :=
  ((((((h.setD x hx 0).setS x hx 0).setI x hx 0).setC x hx 0).setA x hx 0).setB x hx 0).setT x hx false

set_option maxHeartbeats 4000000 in
theorem remove_root (h : Rep w b g n rt (ct + 1) D S I C A B T) (x r : Nat) (hx : x = rt) (hxn : x ≤ n) (hct : ct ≤ 1024)
    (hP : Calls Try.prog 61 #[.pointer (some ⟨b, 0, none⟩), .int .i64 (C x : Int)] w fun e w' => e = .returned (.int .i64 (r : Int)) ∧ Below w.heap.size w w') :
    Calls Try.prog 53 #[.pointer (some ⟨b, 0, none⟩), .int .i64 (x : Int)] w fun e w' => e = .returned (.tuple #[]) ∧ Rep w' b g n r ct (upd D x 0) (upd S x 0) (upd I x 0) (upd C x 0) (upd A x 0) (upd B x 0) (upd T x false) ∧ Only b g w w' := by
  subst hx
  obtain ⟨cp, e0⟩ := h.sl
  have c1 := h.nc x hxn
  have xl : x < n + 1 := by omega
  have hbg := h.bg
  have hgb : g ≠ b := fun e => hbg e.symm
  have HP := veil hP
  have HB : Hid (∀ w1, Below w.heap.size w w1 → Rep w1 b g n x (ct + 1) D S I C A B T) := fun w1 hb => h.below hb
  clear h hP
  go_enter Try.func53, Try.ntmps53
  go_wp2_with (go_at_call 61; refine (HP.out).mono ?_; rintro e w1 ⟨rfl, hb1⟩; have hr := HB.out _ hb1; obtain ⟨cp1, e1⟩ := hr.sl; have r1 := hr.rt; have r2 := hr.ct; have m0 := hr.nd x hxn; have m1 := hr.ns x hxn; have m2 := hr.ni x hxn; have m3 := hr.nc x hxn; have m4 := hr.na x hxn; have m5 := hr.nb x hxn; have m6 := hr.nt x hxn; have fb := hr.fb; have fg := hr.fg; have HR := veil hr; have HL := veil hb1; clear hr hb1)
  go_end0
  refine ⟨rfl, ((zero_node (HR.out.setR r) x hxn).setN ct), ?_⟩
  exact ((((((((((Only.of_below HL.out).set ⟨b, 1, none⟩ _ (Or.inl rfl)).set ⟨g, x * 7, none⟩ _ (Or.inr rfl)).set ⟨g, x * 7 + 1, none⟩ _ (Or.inr rfl)).set ⟨g, x * 7 + 2, none⟩ _ (Or.inr rfl)).set ⟨g, x * 7 + 3, none⟩ _ (Or.inr rfl)).set ⟨g, x * 7 + 4, none⟩ _ (Or.inr rfl)).set ⟨g, x * 7 + 5, none⟩ _ (Or.inr rfl)).set ⟨g, x * 7 + 6, none⟩ _ (Or.inr rfl)).set ⟨b, 2, none⟩ _ (Or.inl rfl))

set_option maxHeartbeats 4000000 in
theorem remove_leaf (h : Rep w b g n rt (ct + 1) D S I C A B T) (x a : Nat) (hx : x ≠ rt) (hrt : 1 ≤ rt) (hxn : x ≤ n) (han : a ≤ n) (hct : ct ≤ 1024) (h0 : C x = 0) (h1 : A x = a) (h2 : C a = x) (h3 : B x = 0) :
    Calls Try.prog 53 #[.pointer (some ⟨b, 0, none⟩), .int .i64 (x : Int)] w fun e w' => e = .returned (.tuple #[]) ∧ Rep w' b g n rt ct (upd D x 0) (upd S x 0) (upd I x 0) (upd (upd C a 0) x 0) (upd A x 0) (upd B x 0) (upd T x false) ∧ Only b g w w' := by
  obtain ⟨cp, e0⟩ := h.sl
  have c1 := h.nc x hxn
  rw [h0] at c1
  have c1' : w.cell? ⟨g, x * 7 + 3, none⟩ = some (.int .i64 0) := c1
  have xl : x < n + 1 := by omega
  have xr : ¬ (x : Int) = (rt : Int) := by omega
  have hbg := h.bg
  have hgb : g ≠ b := fun e => hbg e.symm
  have HB : Hid (∀ w1, Below w.heap.size w w1 → Rep w1 b g n rt (ct + 1) D S I C A B T) := fun w1 hb => h.below hb
  have HC : Hid (∀ w1, Rep w1 b g n rt (ct + 1) D S I C A B T → Calls Try.prog 62 #[.pointer (some ⟨b, 0, none⟩), .int .i64 x] w1 fun e w' => e = .returned (.tuple #[]) ∧ Rep w' b g n rt (ct + 1) D S I (upd C a 0) A B T ∧ Only b g w1 w') := fun w1 hr => cut_child hr x a hxn han h1 h2 h3
  clear h c1 h0 h1 h2 h3
  go_enter Try.func53, Try.ntmps53
  go_wp2_with (first
    | (go_at_call 61; refine (pair_zero _ b).mono ?_; rintro e w1 ⟨rfl, hb1⟩; have hr := HB.out _ hb1; have r1 := hr.rt; have HR1 := veil hr; have HL := veil hb1; clear hr hb1)
    | (go_at_call 62; refine (HC.out _ HR1.out).mono ?_; rintro e w2 ⟨rfl, hr, ho⟩; obtain ⟨cp1, e1⟩ := hr.sl; have r12 := hr.rt; have r2 := hr.ct; have m0 := hr.nd x hxn; have m1 := hr.ns x hxn; have m2 := hr.ni x hxn; have m3 := hr.nc x hxn; have m4 := hr.na x hxn; have m5 := hr.nb x hxn; have m6 := hr.nt x hxn; have fb := hr.fb; have fg := hr.fg; have HR := veil hr; have HO := veil ((Only.of_below HL.out).trans ho); clear hr ho)
    | (go_at_call 60; refine (join_right rt hrt _ b).mono ?_; rintro e w3 ⟨rfl, hw⟩; replace hw := hw.symm; subst hw))
  go_end0
  refine ⟨rfl, ((zero_node (HR.out.setR rt) x hxn).setN ct), ?_⟩
  exact (((((((((HO.out.set ⟨b, 1, none⟩ _ (Or.inl rfl)).set ⟨g, x * 7, none⟩ _ (Or.inr rfl)).set ⟨g, x * 7 + 1, none⟩ _ (Or.inr rfl)).set ⟨g, x * 7 + 2, none⟩ _ (Or.inr rfl)).set ⟨g, x * 7 + 3, none⟩ _ (Or.inr rfl)).set ⟨g, x * 7 + 4, none⟩ _ (Or.inr rfl)).set ⟨g, x * 7 + 5, none⟩ _ (Or.inr rfl)).set ⟨g, x * 7 + 6, none⟩ _ (Or.inr rfl)).set ⟨b, 2, none⟩ _ (Or.inl rfl))
end
end Go.Proofs.Ytjmbadadelelfaa.Ph

namespace Go.Proofs.Ytjmbadadelelfaa.Ph
open Go.RowKit

section
variable {w : World} {b g n rt ct : Nat} {D S I C A B : Nat → Nat} {T : Nat → Bool}
theorem may_yes (h : Rep w b g n rt ct D S I C A B T) (id : Nat) (hn : n ≤ 1024) (hid : id < n) :
    Calls Try.prog 51 #[.pointer (some ⟨b, 0, none⟩), .int .i64 id] w fun e w' => e = .returned (.bool true) ∧ w' = w := by
  obtain ⟨cp, e0⟩ := h.sl
  clear h
  go_enter Try.func51, Try.ntmps51
  go_wp2
  go_ret
  exact ⟨by simp, rfl⟩
theorem insert_walk (h : Rep w b g n rt ct D S I C A B T) (id d s : Nat) (hn : n ≤ 1024) (hid : id < n) (hT : T (id + 1) = false) (P : World → Prop)
    (hP : Calls Try.prog 52 #[.pointer (some ⟨b, 0, none⟩), .agg #[.int .u64 (d : Int), .int .u64 (s : Int), .int .i64 (id : Int)]] w fun e w' => e = .returned (.tuple #[]) ∧ P w') :
    Calls Try.prog 28 #[.pointer (some ⟨b, 0, none⟩), .int .i64 (id : Int), .int .u64 (d : Int), .int .u64 (s : Int)] w fun e w' => e = .returned (.int .i64 0) ∧ P w' := by
  have HM := veil (may_yes h id hn hid)
  have HP := veil hP
  obtain ⟨cp, e0⟩ := h.sl
  have e1 := h.nt (id + 1) (by omega)
  rw [hT] at e1
  clear h hP hT
  go_enter Try.func28, Try.ntmps28
  go_wp2_with (first
    | (go_at_call 51; refine (HM.out).mono ?_; rintro e w1 ⟨rfl, hw⟩; replace hw := hw.symm; subst hw)
    | (go_at_call 52; refine (HP.out).mono ?_; rintro e w2 ⟨rfl, hp⟩; have HP2 := veil hp; clear hp))
  go_ret
  exact ⟨rfl, HP2.out⟩
theorem min_walk (h : Rep w b g n rt ct D S I C A B T) (h1 : 1 ≤ rt) (h2 : rt ≤ n) :
    Calls Try.prog 30 #[.pointer (some ⟨b, 0, none⟩)] w fun e w' => e = .returned (.tuple #[.int .i64 (I rt : Int), .bool true]) ∧ ∃ q, w' = w.drewN q := by
  obtain ⟨cp, e0⟩ := h.sl
  have e1 := h.rt
  have e2 := h.ni rt h2
  have r0 : ¬ (rt : Int) = 0 := by omega
  have rl : rt < n + 1 := by omega
  clear h
  go_enter Try.func30, Try.ntmps30
  go_wp2
  go_quiet (fail)
  go_wp2
  go_ret2
  exact ⟨rfl, _, rfl⟩
theorem take_walk (h : Rep w b g n rt ct D S I C A B T) (h1 : 1 ≤ rt) (h2 : rt ≤ n) (hn : n ≤ 1024) (hI : I rt + 1 = rt) (P : World → Prop)
    (hP : ∀ q, Calls Try.prog 53 #[.pointer (some ⟨b, 0, none⟩), .int .i64 ((I rt : Int) + 1)] (w.drewN q) fun e w' => e = .returned (.tuple #[]) ∧ P w') :
    Calls Try.prog 29 #[.pointer (some ⟨b, 0, none⟩)] w fun e w' => e = .returned (.tuple #[.int .i64 (I rt : Int), .bool true]) ∧ P w' := by
  have HM := veil (min_walk h h1 h2)
  have HP := veil hP
  have hb : I rt ≤ 1024 := by omega
  clear h hP hI
  generalize I rt = id at *
  go_enter Try.func29, Try.ntmps29
  go_wp2_with (first
    | (go_at_call 30; refine (HM.out).mono ?_; rintro e w1 ⟨rfl, q1, hw⟩; subst hw)
    | (go_at_call 53; refine (HP.out _).mono ?_; rintro e w2 ⟨rfl, hp⟩; have HP2 := veil hp; clear hp))
  go_ret2
  exact ⟨rfl, HP2.out⟩
theorem len_walk (h : Rep w b g n rt ct D S I C A B T) :
    Calls Try.prog 32 #[.pointer (some ⟨b, 0, none⟩)] w fun e w' => e = .returned (.int .i64 (ct : Int)) ∧ w' = w := by
  have e2 := h.ct
  clear h
  go_enter Try.func32, Try.ntmps32
  go_wp2
  go_ret
  exact ⟨rfl, rfl⟩
end
end Go.Proofs.Ytjmbadadelelfaa.Ph

namespace Go.Proofs.Ytjmbadadelelfaa.Ph
open Go.RowKit

theorem min_nil (w : World) :
    Calls Try.prog 30 #[.pointer none] w fun e w' => e = .returned (.tuple #[.int .i64 0, .bool false]) ∧ w' = w := by
  go_enter Try.func30, Try.ntmps30
  go_wp2
  go_ret2
  exact ⟨rfl, rfl⟩
theorem take_nil (w : World) :
    Calls Try.prog 29 #[.pointer none] w fun e w' => e = .returned (.tuple #[.int .i64 0, .bool false]) ∧ w' = w := by
  go_enter Try.func29, Try.ntmps29
  go_wp2_with (go_at_call 30; refine (min_nil _).mono ?_; rintro e w1 ⟨rfl, hw⟩; subst hw)
  go_ret2
  exact ⟨rfl, rfl⟩
theorem get_nil (id : Int) (w : World) :
    Calls Try.prog 31 #[.pointer none, .int .i64 id] w fun e w' => e = .returned (.tuple #[.int .u64 0, .int .u64 0, .bool false]) ∧ w' = w := by
  go_enter Try.func31, Try.ntmps31
  go_wp2
  go_ret3
  exact ⟨rfl, rfl⟩
theorem insert_nil (id d s : Int) (w : World) :
    Calls Try.prog 28 #[.pointer none, .int .i64 id, .int .u64 d, .int .u64 s] w fun e w' => e = .returned (.int .i64 1) ∧ w' = w := by
  go_enter Try.func28, Try.ntmps28
  go_wp2
  go_ret
  exact ⟨rfl, rfl⟩
theorem len_nil (w : World) :
    Calls Try.prog 32 #[.pointer none] w fun e w' => e = .returned (.int .i64 0) ∧ w' = w := by
  go_enter Try.func32, Try.ntmps32
  go_wp2
  go_ret
  exact ⟨rfl, rfl⟩
end Go.Proofs.Ytjmbadadelelfaa.Ph

namespace Go.Proofs.Ytjmbadadelelfaa.Ph

inductive BT where
  | nil : BT
  | node (s : Nat) (c x : BT) : BT
def BT.root : BT → Nat
  | .nil => 0
  | .node s _ _ => s
def BT.spots : BT → List Nat
  | .nil => []
  | .node s c x => s :: (c.spots ++ x.spots)
/-- The row t, whose first one stands behind p (or below it). -/
def Linked (C A B : Nat → Nat) : Nat → BT → Prop
  | _, .nil => True
  | p, .node s c x => A s = p ∧ C s = c.root ∧ B s = x.root ∧ Linked C A B s c ∧ Linked C A B s x
/-- A tree by itself: r at its top, c below it. -/
def Tree (C A B : Nat → Nat) (r : Nat) (c : BT) : Prop := C r = c.root ∧ B r = 0 ∧ Linked C A B r c

theorem linked_congr {C A B C' A' B' : Nat → Nat} : ∀ (t : BT) (p : Nat), (∀ s ∈ t.spots, C' s = C s ∧ A' s = A s ∧ B' s = B s) → Linked C A B p t → Linked C' A' B' p t
  | .nil, _, _, _ => trivial
  | .node s c x, p, h, hl => by
    obtain ⟨h1, h2, h3, h4, h5⟩ := hl
    obtain ⟨a1, a2, a3⟩ := h s (by simp [BT.spots])
    exact ⟨a2.trans h1, a1.trans h2, a3.trans h3, linked_congr c s (fun y hy => h y (by simp [BT.spots, hy])) h4, linked_congr x s (fun y hy => h y (by simp [BT.spots, hy])) h5⟩
/-- The same row behind another one: only its first one's word of what is ahead of it turns. -/
theorem linked_move {C A B A' : Nat → Nat} (t : BT) (p q : Nat) (hn : t.spots.Nodup) (h0 : t.root ∈ t.spots → A' t.root = q) (h : ∀ s ∈ t.spots, s ≠ t.root → A' s = A s) (hl : Linked C A B p t) : Linked C A' B q t := by
  cases t with
  | nil => trivial
  | node s c x =>
    obtain ⟨h1, h2, h3, h4, h5⟩ := hl
    simp only [BT.spots, List.nodup_cons, List.mem_append, not_or] at hn
    refine ⟨h0 (by simp [BT.spots, BT.root]), h2, h3, ?_, ?_⟩
    · exact linked_congr c s (fun y hy => ⟨rfl, h y (by simp [BT.spots, hy]) (fun e => hn.1.1 (by rw [BT.root] at e; exact e ▸ hy)), rfl⟩) h4
    · exact linked_congr x s (fun y hy => ⟨rfl, h y (by simp [BT.spots, hy]) (fun e => hn.1.2 (by rw [BT.root] at e; exact e ▸ hy)), rfl⟩) h5

theorem root_zero {t : BT} (h : ∀ s ∈ t.spots, s ≠ 0) : t.root = 0 ↔ t = .nil := by
  cases t with
  | nil => simp [BT.root]
  | node s c x => simp [BT.root, h s (by simp [BT.spots])]
theorem root_mem {t : BT} (h : t ≠ .nil) : t.root ∈ t.spots := by
  cases t with
  | nil => exact absurd rfl h
  | node s c x => simp [BT.root, BT.spots]

/-- Two trees made one, as join does it. -/
theorem tree_join {C A B : Nat → Nat} {p q : Nat} {cp cq : BT} (hp : Tree C A B p cp) (hq : Tree C A B q cq) (hn : (p :: q :: (cq.spots ++ cp.spots)).Nodup) (h0 : ∀ s ∈ cp.spots, s ≠ 0) :
    Tree (upd C p q) (upd (if C p = 0 then A else upd A (C p) q) q p) (upd B q (C p)) p (.node q cq cp) := by
  obtain ⟨p1, p2, p3⟩ := hp
  obtain ⟨q1, q2, q3⟩ := hq
  simp only [List.nodup_cons, List.mem_cons, List.mem_append, not_or, List.nodup_append] at hn
  obtain ⟨⟨npq, npc, npd⟩, ⟨nqc, nqd⟩, hc, hd, hcd⟩ := hn
  have hqp : q ≠ p := fun e => npq e.symm
  refine ⟨by rw [upd_same]; rfl, by rw [upd_other _ _ _ _ npq]; exact p2, by rw [upd_same], by rw [upd_other _ _ _ _ hqp]; exact q1, by rw [upd_same]; exact p1, ?_, ?_⟩
  · refine linked_congr cq q (fun s hs => ⟨upd_other _ _ _ _ (fun e => npc (e ▸ hs)), ?_, upd_other _ _ _ _ (fun e => nqc (e ▸ hs))⟩) q3
    have hsq : s ≠ q := fun e => nqc (e ▸ hs)
    rw [upd_other _ _ _ _ hsq]
    by_cases hz : C p = 0
    · rw [if_pos hz]
    · rw [if_neg hz, upd_other]
      intro e
      have hne : cp ≠ .nil := fun q => hz (by rw [p1, q]; rfl)
      exact hcd s hs (C p) (by rw [p1]; exact root_mem hne) e
  · have hm : Linked C (upd (if C p = 0 then A else upd A (C p) q) q p) B q cp := by
      refine linked_move cp p q hd (fun hr => ?_) (fun s hs hne => ?_) p3
      · have hz : ¬ C p = 0 := by rw [p1]; exact h0 _ hr
        have hrq : cp.root ≠ q := fun e => nqd (e ▸ hr)
        rw [upd_other _ _ _ _ hrq, if_neg hz, p1, upd_same]
      · have hsq : s ≠ q := fun e => nqd (e ▸ hs)
        rw [upd_other _ _ _ _ hsq]
        by_cases hz : C p = 0
        · rw [if_pos hz]
        · rw [if_neg hz, upd_other _ _ _ _ (by rw [p1]; exact hne)]
    exact linked_congr cp q (fun s hs => ⟨upd_other _ _ _ _ (fun e => npd (e ▸ hs)), rfl, upd_other _ _ _ _ (fun e => nqd (e ▸ hs))⟩) hm

/-- Nothing below is before: le a b says that a may stand above b. -/
def Ord (le : Nat → Nat → Prop) : BT → Prop
  | .nil => True
  | .node s c x => (∀ y ∈ c.spots, le s y) ∧ Ord le c ∧ Ord le x
theorem ord_join {le : Nat → Nat → Prop} (tr : ∀ a b c, le a b → le b c → le a c) {p q : Nat} {cp cq : BT} (hpq : le p q) (hp : ∀ y ∈ cp.spots, le p y) (hq : ∀ y ∈ cq.spots, le q y) (op : Ord le cp) (oq : Ord le cq) :
    (∀ y ∈ (BT.node q cq cp).spots, le p y) ∧ Ord le (.node q cq cp) := by
  refine ⟨fun y hy => ?_, hq, oq, op⟩
  simp only [BT.spots, List.mem_cons, List.mem_append] at hy
  rcases hy with rfl | hy | hy
  · exact hpq
  · exact tr _ _ _ hpq (hq y hy)
  · exact hp y hy
end Go.Proofs.Ytjmbadadelelfaa.Ph

namespace Go.Proofs.Ytjmbadadelelfaa.Ph
open Go.RowKit
attribute [local go_sem ↓] Go.wp_at_zero Go.wp_at_succ

section
variable {w : World} {b g n rt ct : Nat} {D S I C A B : Nat → Nat} {T : Nat → Bool}
set_option maxHeartbeats 4000000 in
theorem cut_any (h : Rep w b g n rt ct D S I C A B T) (x a f : Nat) (hxn : x ≤ n) (han : a ≤ n) (hfn : f ≤ n) (h1 : A x = a) (h3 : B x = f) :
    Calls Try.prog 62 #[.pointer (some ⟨b, 0, none⟩), .int .i64 x] w fun e w' => e = .returned (.tuple #[]) ∧ Rep w' b g n rt ct D S I (if C a = x then upd C a f else C) (if f = 0 then A else upd A f a) (if C a = x then B else upd B a f) T ∧ Only b g w w' := by
  obtain ⟨cp, e0⟩ := h.sl
  have n0 := h.nd x hxn; have n1 := h.ns x hxn; have n2 := h.ni x hxn; have n3 := h.nc x hxn; have n4 := h.na x hxn; have n5 := h.nb x hxn; have n6 := h.nt x hxn
  rw [h1] at n4
  rw [h3] at n5
  have c1 := h.nc a han
  have c2 := h.nb a han
  have c3 := h.na f hfn
  have fg := h.fg
  have hbb := h.lt_b
  have hgg := h.lt_g
  have y1 : ¬ b = w.heap.size := by omega
  have y2 : ¬ g = w.heap.size := by omega
  have xl : x < n + 1 := by omega
  have al : a < n + 1 := by omega
  have fl : f < n + 1 := by omega
  have HR := veil h
  clear h h1 h3
  by_cases hc : C a = x
  · have hci : (C a : Int) = (x : Int) := by omega
    by_cases hf : f = 0
    · subst hf
      rw [hc] at c1
      have n5' : w.cell? ⟨g, x * 7 + 5, none⟩ = some (.int .i64 0) := n5
      clear hci n5
      go_enter Try.func62, Try.ntmps62
      go_wp2
      go_quiet (fail)
      go_wp2
      go_region
      go_wp2
      go_end0
      exact ⟨rfl, ((HR.out.alloc _).drewN _).setC a han 0, (((Only.refl b g w).alloc _).drewN _).set _ _ (Or.inr rfl)⟩
    · have f0 : ¬ (f : Int) = 0 := by omega
      rw [hc] at c1
      clear hci
      go_enter Try.func62, Try.ntmps62
      go_wp2
      go_quiet (fail)
      go_wp2
      go_region
      go_wp2
      go_region
      go_wp2
      go_end0
      exact ⟨rfl, ((((HR.out.alloc _).drewN _).setC a han f).setA f hfn a).drew, (((((Only.refl b g w).alloc _).drewN _).set _ _ (Or.inr rfl)).set _ _ (Or.inr rfl)).drew⟩
  · have hci : ¬ (C a : Int) = (x : Int) := by omega
    by_cases hf : f = 0
    · subst hf
      have n5' : w.cell? ⟨g, x * 7 + 5, none⟩ = some (.int .i64 0) := n5
      clear n5
      go_enter Try.func62, Try.ntmps62
      go_wp2
      go_quiet (fail)
      go_wp2
      go_region
      go_wp2
      go_end0
      exact ⟨rfl, ((HR.out.alloc _).drewN _).setB a han 0, (((Only.refl b g w).alloc _).drewN _).set _ _ (Or.inr rfl)⟩
    · have f0 : ¬ (f : Int) = 0 := by omega
      go_enter Try.func62, Try.ntmps62
      go_wp2
      go_quiet (fail)
      go_wp2
      go_region
      go_wp2
      go_region
      go_wp2
      go_end0
      exact ⟨rfl, ((((HR.out.alloc _).drewN _).setB a han f).setA f hfn a).drew, (((((Only.refl b g w).alloc _).drewN _).set _ _ (Or.inr rfl)).set _ _ (Or.inr rfl)).drew⟩
end
end Go.Proofs.Ytjmbadadelelfaa.Ph

namespace Go.Proofs.Ytjmbadadelelfaa.Ph

def BT.cut (s : Nat) : BT → BT
  | .nil => .nil
  | .node r c x => if r = s then x else .node r (c.cut s) (x.cut s)

theorem cut_out (s : Nat) : ∀ t : BT, s ∉ t.spots → t.cut s = t
  | .nil, _ => rfl
  | .node r c x, h => by
    simp only [BT.spots, List.mem_cons, List.mem_append, not_or] at h
    rw [BT.cut, if_neg (fun e => h.1 e.symm), cut_out s c h.2.1, cut_out s x h.2.2]
theorem cut_root (s : Nat) (t : BT) (h : t.root ≠ s) : (t.cut s).root = t.root := by
  cases t with
  | nil => rfl
  | node r c x => rw [BT.cut, if_neg (show ¬ r = s from h)]; rfl
/-- Where the links of one in a row lead. -/
theorem linked_near {C A B : Nat → Nat} : ∀ (t : BT) (p s : Nat), Linked C A B p t → s ∈ t.spots →
    ((s = t.root ∧ A s = p) ∨ A s ∈ t.spots) ∧ (B s = 0 ∨ B s ∈ t.spots)
  | .nil, _, _, _, h => by simp [BT.spots] at h
  | .node r c x, p, s, hl, hs => by
    obtain ⟨h1, h2, h3, h4, h5⟩ := hl
    simp only [BT.spots, List.mem_cons, List.mem_append] at hs ⊢
    rcases hs with rfl | hs | hs
    · refine ⟨.inl ⟨rfl, h1⟩, ?_⟩
      rw [h3]
      cases x with
      | nil => exact .inl rfl
      | node y cy xy => exact .inr (.inr (.inr (by simp [BT.root, BT.spots])))
    · obtain ⟨a, b⟩ := linked_near c r s h4 hs
      refine ⟨.inr ?_, ?_⟩
      · rcases a with ⟨_, a⟩ | a
        · exact .inl a
        · exact .inr (.inl a)
      · rcases b with b | b
        · exact .inl b
        · exact .inr (.inr (.inl b))
    · obtain ⟨a, b⟩ := linked_near x r s h5 hs
      refine ⟨.inr ?_, ?_⟩
      · rcases a with ⟨_, a⟩ | a
        · exact .inl a
        · exact .inr (.inr a)
      · rcases b with b | b
        · exact .inl b
        · exact .inr (.inr (.inr b))

def cutC (C A B : Nat → Nat) (s : Nat) : Nat → Nat := if C (A s) = s then upd C (A s) (B s) else C
def cutB (C A B : Nat → Nat) (s : Nat) : Nat → Nat := if C (A s) = s then B else upd B (A s) (B s)
def cutA (_C A B : Nat → Nat) (s : Nat) : Nat → Nat := if B s = 0 then A else upd A (B s) (A s)
theorem cutC_off {C A B : Nat → Nat} {s y : Nat} (h : y ≠ A s) : cutC C A B s y = C y := by
  rw [cutC]; split
  · exact upd_other _ _ _ _ h
  · rfl
theorem cutB_off {C A B : Nat → Nat} {s y : Nat} (h : y ≠ A s) : cutB C A B s y = B y := by
  rw [cutB]; split
  · rfl
  · exact upd_other _ _ _ _ h
theorem cutA_off {C A B : Nat → Nat} {s y : Nat} (h : B s = 0 ∨ y ≠ B s) : cutA C A B s y = A y := by
  rw [cutA]; split
  · rfl
  · rename_i hz
    exact upd_other _ _ _ _ (h.resolve_left hz)

theorem linked_cut {C A B : Nat → Nat} : ∀ (t : BT) (p s : Nat), Linked C A B p t → (p :: t.spots).Nodup → (∀ y ∈ t.spots, y ≠ 0) → s ∈ t.spots →
    Linked (cutC C A B s) (cutA C A B s) (cutB C A B s) p (t.cut s) ∧ (s = t.root → (t.cut s).root = B s)
  | .nil, _, _, _, _, _, h => by simp [BT.spots] at h
  | .node r c x, p, s, hl, hn, h0, hs => by
    obtain ⟨h1, h2, h3, h4, h5⟩ := hl
    simp only [BT.spots, List.nodup_cons, List.mem_cons, List.mem_append, not_or, List.nodup_append] at hn hs
    obtain ⟨⟨npr, npc, npx⟩, ⟨nrc, nrx⟩, hc, hx, hcx⟩ := hn
    have h0c : ∀ y ∈ c.spots, y ≠ 0 := fun y hy => h0 y (by simp [BT.spots, hy])
    have h0x : ∀ y ∈ x.spots, y ≠ 0 := fun y hy => h0 y (by simp [BT.spots, hy])
    have ncr : (r :: c.spots).Nodup := List.nodup_cons.2 ⟨nrc, hc⟩
    have nxr : (r :: x.spots).Nodup := List.nodup_cons.2 ⟨nrx, hx⟩
    rcases hs with rfl | hs | hs
    · have e : (BT.node s c x).cut s = x := by rw [BT.cut, if_pos rfl]
      rw [e]
      refine ⟨?_, fun _ => h3.symm⟩
      have hm : Linked C (cutA C A B s) B p x := by
        refine linked_move x s p hx (fun hr => ?_) (fun y hy hne => cutA_off (.inr (by rw [h3]; exact hne))) h5
        have hz : B s ≠ 0 := by rw [h3]; exact h0x _ hr
        rw [cutA, if_neg hz, h3, upd_same, h1]
      exact linked_congr x p (fun y hy => ⟨cutC_off (by rw [h1]; exact fun e => npx (e ▸ hy)), rfl, cutB_off (by rw [h1]; exact fun e => npx (e ▸ hy))⟩) hm
    · have hrs : r ≠ s := fun e => nrc (e ▸ hs)
      have nsx : s ∉ x.spots := fun q => hcx s hs s q rfl
      have e : (BT.node r c x).cut s = .node r (c.cut s) x := by rw [BT.cut, if_neg hrs, cut_out s x nsx]
      rw [e]
      refine ⟨?_, fun q => absurd q.symm hrs⟩
      obtain ⟨i1, i2⟩ := linked_cut c r s h4 ncr h0c hs
      obtain ⟨a, b⟩ := linked_near c r s h4 hs
      have hbx : ∀ y ∈ x.spots, B s = 0 ∨ y ≠ B s := fun y hy => b.imp id (fun b q => hcx _ b y hy q.symm)
      have hax : ∀ y ∈ x.spots, y ≠ A s := fun y hy q => by
        rcases a with ⟨_, a⟩ | a
        · exact nrx (by rw [← a, ← q]; exact hy)
        · exact hcx _ a y hy q.symm
      refine ⟨?_, ?_, ?_, i1, linked_congr x r (fun y hy => ⟨cutC_off (hax y hy), cutA_off (hbx y hy), cutB_off (hax y hy)⟩) h5⟩
      · rw [cutA_off (y := r) (s := s) (b.imp id (fun b q => nrc (by rw [q]; exact b)))]; exact h1
      · by_cases hq : s = c.root
        · have ha : A s = r := by
            rcases a with ⟨_, a⟩ | a
            · exact a
            · cases c with
              | nil => simp [BT.spots] at hs
              | node z cz xz => rw [BT.root] at hq; rw [hq]; exact h4.1
          rw [cutC, if_pos (by rw [ha, h2]; exact hq.symm), ha, upd_same, i2 hq]
        · have ha : r ≠ A s := by
            rcases a with ⟨a, _⟩ | a
            · exact absurd a hq
            · exact fun q => nrc (q ▸ a)
          rw [cutC_off ha, cut_root s c (fun q => hq q.symm)]; exact h2
      · by_cases hq : s = c.root
        · have ha : A s = r := by
            cases c with
              | nil => simp [BT.spots] at hs
              | node z cz xz => rw [BT.root] at hq; rw [hq]; exact h4.1
          rw [cutB, if_pos (by rw [ha, h2]; exact hq.symm)]; exact h3
        · have ha : r ≠ A s := by
            rcases a with ⟨a, _⟩ | a
            · exact absurd a hq
            · exact fun q => nrc (q ▸ a)
          rw [cutB_off ha]; exact h3
    · have hrs : r ≠ s := fun e => nrx (e ▸ hs)
      have nsc : s ∉ c.spots := fun q => hcx s q s hs rfl
      have e : (BT.node r c x).cut s = .node r c (x.cut s) := by rw [BT.cut, if_neg hrs, cut_out s c nsc]
      rw [e]
      refine ⟨?_, fun q => absurd q.symm hrs⟩
      obtain ⟨i1, i2⟩ := linked_cut x r s h5 nxr h0x hs
      obtain ⟨a, b⟩ := linked_near x r s h5 hs
      have hbc : ∀ y ∈ c.spots, B s = 0 ∨ y ≠ B s := fun y hy => b.imp id (fun b q => hcx y hy _ b q)
      have hac : ∀ y ∈ c.spots, y ≠ A s := fun y hy q => by
        rcases a with ⟨_, a⟩ | a
        · exact nrc (by rw [← a, ← q]; exact hy)
        · exact hcx y hy _ a q
      have hcs : c.root ≠ s := fun q => by
        cases c with
        | nil => exact h0x s hs q.symm
        | node z cz xz => exact nsc (by rw [BT.root] at q; simp [BT.spots, q])
      refine ⟨?_, ?_, ?_, linked_congr c r (fun y hy => ⟨cutC_off (hac y hy), cutA_off (hbc y hy), cutB_off (hac y hy)⟩) h4, i1⟩
      · rw [cutA_off (y := r) (s := s) (b.imp id (fun b q => nrx (by rw [q]; exact b)))]; exact h1
      · by_cases ha : r = A s
        · rw [cutC, if_neg (by rw [← ha, h2]; exact hcs)]; exact h2
        · rw [cutC_off ha]; exact h2
      · by_cases hq : s = x.root
        · have ha : A s = r := by
            cases x with
              | nil => simp [BT.spots] at hs
              | node z cz xz => rw [BT.root] at hq; rw [hq]; exact h5.1
          rw [cutB, if_neg (by rw [ha, h2]; exact hcs), ha, upd_same, i2 hq]
        · have ha : r ≠ A s := by
            rcases a with ⟨a, _⟩ | a
            · exact absurd a hq
            · exact fun q => nrx (q ▸ a)
          rw [cutB_off ha, cut_root s x (fun q => hq q.symm)]; exact h3

/-- What is left. -/
theorem cut_spots (s : Nat) : ∀ (t : BT) (y : Nat), y ∈ (t.cut s).spots → y ∈ t.spots
  | .nil, _, h => h
  | .node r c x, y, h => by
    rw [BT.cut] at h
    split at h
    · simp [BT.spots, h]
    · simp only [BT.spots, List.mem_cons, List.mem_append] at h ⊢
      rcases h with h | h | h
      · exact .inl h
      · exact .inr (.inl (cut_spots s c y h))
      · exact .inr (.inr (cut_spots s x y h))
theorem ord_cut {le : Nat → Nat → Prop} (s : Nat) : ∀ (t : BT), Ord le t → Ord le (t.cut s)
  | .nil, _ => trivial
  | .node r c x, ⟨h1, h2, h3⟩ => by
    rw [BT.cut]
    split
    · exact h3
    · exact ⟨fun y hy => h1 y (cut_spots s c y hy), ord_cut s c h2, ord_cut s x h3⟩
end Go.Proofs.Ytjmbadadelelfaa.Ph

namespace Go.Proofs.Ytjmbadadelelfaa.Ph

/-- A row of trees of which nothing is said as to what stands ahead of each. -/
def Row (C A B : Nat → Nat) : BT → Prop
  | .nil => True
  | .node s c x => C s = c.root ∧ B s = x.root ∧ Linked C A B s c ∧ Row C A B x
theorem linked_row {C A B : Nat → Nat} : ∀ (t : BT) (p : Nat), Linked C A B p t → Row C A B t
  | .nil, _, _ => trivial
  | .node s _ x, _, ⟨_, h2, h3, h4, h5⟩ => ⟨h2, h3, h4, linked_row x s h5⟩
theorem row_congr {C A B C' A' B' : Nat → Nat} : ∀ (t : BT), (∀ s ∈ t.spots, C' s = C s ∧ A' s = A s ∧ B' s = B s) → Row C A B t → Row C' A' B' t
  | .nil, _, _ => trivial
  | .node s c x, h, ⟨h2, h3, h4, h5⟩ => by
    obtain ⟨a1, _, a3⟩ := h s (by simp [BT.spots])
    exact ⟨a1.trans h2, a3.trans h3, linked_congr c s (fun y hy => h y (by simp [BT.spots, hy])) h4, row_congr x (fun y hy => h y (by simp [BT.spots, hy])) h5⟩

def joC (C : Nat → Nat) (p q : Nat) : Nat → Nat := upd C p q
def joA (C A : Nat → Nat) (p q : Nat) : Nat → Nat := upd (if C p = 0 then A else upd A (C p) q) q p
def joB (C B : Nat → Nat) (p q : Nat) : Nat → Nat := upd B q (C p)

/-- What join leaves as it was. -/
theorem jo_off {C A B : Nat → Nat} {p q : Nat} {cp : BT} (h : C p = cp.root) {y : Nat} (h1 : y ≠ p) (h2 : y ≠ q) (h3 : y ∉ cp.spots) :
    joC C p q y = C y ∧ joA C A p q y = A y ∧ joB C B p q y = B y := by
  refine ⟨upd_other _ _ _ _ h1, ?_, upd_other _ _ _ _ h2⟩
  rw [joA, upd_other _ _ _ _ h2]
  by_cases hz : C p = 0
  · rw [if_pos hz]
  · rw [if_neg hz, upd_other]
    intro e
    have hne : cp ≠ .nil := fun q => hz (by rw [h, q]; rfl)
    exact h3 (by rw [e, h]; exact root_mem hne)
/-- The below of what join makes, whatever stood behind the two. -/
theorem linked_join {C A B : Nat → Nat} {p q : Nat} {cp cq : BT} (p1 : C p = cp.root) (p3 : Linked C A B p cp) (q1 : C q = cq.root) (q3 : Linked C A B q cq) (hn : (p :: q :: (cq.spots ++ cp.spots)).Nodup) (h0 : ∀ s ∈ cp.spots, s ≠ 0) :
    Linked (joC C p q) (joA C A p q) (joB C B p q) p (.node q cq cp) := by
  have hb : ∀ s ∈ p :: (cq.spots ++ cp.spots), s ≠ q := by
    intro s hs e
    subst e
    simp only [List.nodup_cons, List.mem_cons, List.mem_append, not_or] at hn hs
    rcases hs with hs | hs | hs
    · exact hn.1.1 hs.symm
    · exact hn.2.1.1 hs
    · exact hn.2.1.2 hs
  have key := tree_join (C := C) (A := A) (B := upd (upd B p 0) q 0) (p := p) (q := q) (cp := cp) (cq := cq)
    ⟨p1, by rw [upd_other _ _ _ _ (hb p (by simp)), upd_same], linked_congr cp p (fun s hs => ⟨rfl, rfl, by
      rw [upd_other _ _ _ _ (hb s (by simp [hs])), upd_other]
      intro e; subst e; simp only [List.nodup_cons, List.mem_cons, List.mem_append, not_or] at hn; exact hn.1.2.2 hs⟩) p3⟩
    ⟨q1, upd_same _ _ _, linked_congr cq q (fun s hs => ⟨rfl, rfl, by
      rw [upd_other _ _ _ _ (hb s (by simp [hs])), upd_other]
      intro e; subst e; simp only [List.nodup_cons, List.mem_cons, List.mem_append, not_or] at hn; exact hn.1.2.1 hs⟩) q3⟩ hn h0
  refine linked_congr (.node q cq cp) p (fun s hs => ⟨rfl, rfl, ?_⟩) key.2.2
  simp only [BT.spots, List.mem_cons, List.mem_append] at hs
  by_cases e : s = q
  · subst e; rw [joB, upd_same, upd_same]
  · have hsp : s ≠ p := by
      intro e'; subst e'; simp only [List.nodup_cons, List.mem_cons, List.mem_append, not_or] at hn
      rcases hs with hs | hs | hs
      · exact hn.1.1 hs
      · exact hn.1.2.1 hs
      · exact hn.1.2.2 hs
    rw [joB, upd_other _ _ _ _ e, upd_other _ _ _ _ e, upd_other _ _ _ _ e, upd_other _ _ _ _ hsp]

/-- A step of pair: p and q are two neighbours, in whichever order join put them; the one of them at the top goes ahead of what is made. -/
theorem row_step {C A B : Nat → Nat} {p q : Nat} {cp cq rest m : BT} (p1 : C p = cp.root) (p3 : Linked C A B p cp) (q1 : C q = cq.root) (q3 : Linked C A B q cq) (hr : Row C A B rest) (hm : Row C A B m)
    (hn : (p :: q :: (cq.spots ++ cp.spots)).Nodup) (h0 : ∀ s ∈ cp.spots, s ≠ 0)
    (hd : ∀ s, s ∈ rest.spots ∨ s ∈ m.spots → s ≠ p ∧ s ≠ q ∧ s ∉ cp.spots) :
    Row (joC C p q) (joA C A p q) (upd (joB C B p q) p m.root) (.node p (.node q cq cp) m) ∧ Row (joC C p q) (joA C A p q) (upd (joB C B p q) p m.root) rest ∧
    ∀ y, y ≠ p → y ≠ q → y ∉ cp.spots → joC C p q y = C y ∧ joA C A p q y = A y ∧ upd (joB C B p q) p m.root y = B y := by
  have hl := linked_join p1 p3 q1 q3 hn h0
  have off : ∀ y, y ≠ p → y ≠ q → y ∉ cp.spots → joC C p q y = C y ∧ joA C A p q y = A y ∧ upd (joB C B p q) p m.root y = B y := by
    intro y h1 h2 h3
    obtain ⟨a, b, c⟩ := jo_off (A := A) (B := B) p1 h1 h2 h3
    exact ⟨a, b, by rw [upd_other _ _ _ _ h1]; exact c⟩
  refine ⟨⟨by rw [joC, upd_same]; rfl, upd_same _ _ _, ?_, row_congr m (fun s hs => ?_) hm⟩, row_congr rest (fun s hs => ?_) hr, off⟩
  · refine linked_congr (.node q cq cp) p (fun s hs => ⟨rfl, rfl, upd_other _ _ _ _ ?_⟩) hl
    intro e; subst e
    simp only [BT.spots, List.nodup_cons, List.mem_cons, List.mem_append, not_or] at hn hs
    rcases hs with hs | hs | hs
    · exact hn.1.1 hs
    · exact hn.1.2.1 hs
    · exact hn.1.2.2 hs
  · obtain ⟨a, b, c⟩ := hd s (.inr hs); exact off s a b c
  · obtain ⟨a, b, c⟩ := hd s (.inl hs); exact off s a b c
/-- The odd one at a row's end. -/
theorem row_odd {C A B : Nat → Nat} {p : Nat} {cp m : BT} (p1 : C p = cp.root) (p3 : Linked C A B p cp) (hm : Row C A B m) (hc : p ∉ cp.spots) (hd : p ∉ m.spots) :
    Row C A (upd B p m.root) (.node p cp m) :=
  ⟨p1, upd_same _ _ _, linked_congr cp p (fun _ hs => ⟨rfl, rfl, upd_other _ _ _ _ (fun e => hc (e ▸ hs))⟩) p3, row_congr m (fun _ hs => ⟨rfl, rfl, upd_other _ _ _ _ (fun e => hd (e ▸ hs))⟩) hm⟩
/-- How many stand in a row. -/
def BT.wide : BT → Nat
  | .nil => 0
  | .node _ _ x => x.wide + 1
end Go.Proofs.Ytjmbadadelelfaa.Ph

namespace Go.Proofs.Ytjmbadadelelfaa.Ph
open Go.RowKit

/-- a may stand above b: b is not before it. -/
def Le (D S I : Nat → Nat) (a b : Nat) : Prop := bef (D b) (S b) (I b) (D a) (S a) (I a) = false
theorem le_iff {D S I : Nat → Nat} {a b : Nat} : Le D S I a b ↔ D a < D b ∨ (D a = D b ∧ (S a < S b ∨ (S a = S b ∧ I a ≤ I b))) := by
  rw [Le, bef]
  by_cases h1 : D b = D a
  · rw [if_pos h1]
    by_cases h2 : S b = S a
    · rw [if_pos h2, decide_eq_false_iff_not]; omega
    · rw [if_neg h2, decide_eq_false_iff_not]; omega
  · rw [if_neg h1, decide_eq_false_iff_not]; omega
theorem le_trans {D S I : Nat → Nat} (a b c : Nat) (h1 : Le D S I a b) (h2 : Le D S I b c) : Le D S I a c := by
  rw [le_iff] at *; omega
theorem le_of_before {D S I : Nat → Nat} {a b : Nat} (h : bef (D a) (S a) (I a) (D b) (S b) (I b) = true) : Le D S I a b := by
  rw [le_iff]
  rw [bef] at h
  by_cases h1 : D a = D b
  · rw [if_pos h1] at h
    by_cases h2 : S a = S b
    · rw [if_pos h2, decide_eq_true_eq] at h; omega
    · rw [if_neg h2, decide_eq_true_eq] at h; omega
  · rw [if_neg h1, decide_eq_true_eq] at h; omega

section
variable {w : World} {b g n rt ct : Nat} {D S I C A B : Nat → Nat} {T : Nat → Bool}
theorem join_any (h : Rep w b g n rt ct D S I C A B T) (p q : Nat) (hp : 1 ≤ p) (hpn : p ≤ n) (hq : 1 ≤ q) (hqn : q ≤ n) (hf : C p ≤ n) (hg : C q ≤ n) (hfq : C p ≠ q) (hgp : C q ≠ p) :
    Calls Try.prog 60 #[.pointer (some ⟨b, 0, none⟩), .int .i64 p, .int .i64 q] w fun e w' => ∃ u v : Nat, ((u = p ∧ v = q) ∨ (u = q ∧ v = p)) ∧ Le D S I u v ∧ e = .returned (.int .i64 u) ∧
      Rep w' b g n rt ct D S I (joC C u v) (joA C A u v) (joB C B u v) T ∧ Only b g w w' := by
  cases hb : bef (D q) (S q) (I q) (D p) (S p) (I p) with
  | false =>
    refine (join_keep h p q hp hpn hq hqn hf hfq hb).mono ?_
    rintro e w' ⟨he, hr, ho⟩
    exact ⟨p, q, .inl ⟨rfl, rfl⟩, hb, he, hr, ho⟩
  | true =>
    refine (join_swap h q p hq hqn hp hpn hg hgp hb).mono ?_
    rintro e w' ⟨he, hr, ho⟩
    exact ⟨q, p, .inr ⟨rfl, rfl⟩, le_of_before hb, he, hr, ho⟩
end
end Go.Proofs.Ytjmbadadelelfaa.Ph

namespace Go.Proofs.Ytjmbadadelelfaa.Ph
open Go.RowKit

/-- The row t and the trees m that are made already; L: the spots of both; all else is as it was. -/
structure PI (w : World) (b g n rt ct : Nat) (D S I : Nat → Nat) (T : Nat → Bool) (L : List Nat) (C0 A0 B0 : Nat → Nat) (wr : World) (t m : BT) : Prop where
  lk : ∃ C A B, Rep wr b g n rt ct D S I C A B T ∧ Row C A B t ∧ Row C A B m ∧ ∀ y, y ∉ L → C y = C0 y ∧ A y = A0 y ∧ B y = B0 y
  o1 : Ord (Le D S I) t
  o2 : Ord (Le D S I) m
  pm : (t.spots ++ m.spots).Perm L
  on : Only b g w wr
/-- What L must be. -/
structure Spots (n : Nat) (L : List Nat) : Prop where
  nd : L.Nodup
  le : ∀ y ∈ L, 1 ≤ y ∧ y ≤ n

def behindOf (w : World) (g r : Nat) : Nat := match w.cell? ⟨g, r * 7 + 5, none⟩ with
  | some v => (intOf v).toNat
  | none => 0
def chain (w : World) (g : Nat) : Nat → Nat → Nat
  | 0, _ => 0
  | f + 1, r => if r = 0 then 0 else chain w g f (behindOf w g r) + 1
theorem chain_wide {w : World} {b g n rt ct : Nat} {D S I C A B : Nat → Nat} {T : Nat → Bool} (h : Rep w b g n rt ct D S I C A B T) : ∀ (t : BT) (f : Nat), Row C A B t → (∀ y ∈ t.spots, 1 ≤ y ∧ y ≤ n) → t.wide ≤ f → chain w g f t.root = t.wide
  | .nil, f, _, _, _ => by
    cases f with
    | zero => rfl
    | succ f => rw [chain]; rfl
  | .node s c x, f, hr, hs, hf => by
    cases f with
    | zero => simp [BT.wide] at hf
    | succ f =>
      obtain ⟨h1, h2, h3, h4⟩ := hr
      obtain ⟨a1, a2⟩ := hs s (by simp [BT.spots])
      have hb : behindOf w g s = x.root := by
        rw [behindOf, h.nb s a2, h2]; simp [intOf]
      rw [BT.root, chain, if_neg (by omega), hb, BT.wide, chain_wide h x f h4 (fun y hy => hs y (by simp [BT.spots, hy])) (by rw [BT.wide] at hf; omega)]
theorem wide_le : ∀ t : BT, t.wide ≤ t.spots.length
  | .nil => Nat.le_refl _
  | .node s c x => by have := wide_le x; simp only [BT.wide, BT.spots, List.length_cons, List.length_append]; omega

section
variable {w : World} {b g n rt ct : Nat} {D S I : Nat → Nat} {T : Nat → Bool} {L : List Nat} {C0 A0 B0 : Nat → Nat} {wr : World} {t m : BT}
theorem PI.chain (h : PI w b g n rt ct D S I T L C0 A0 B0 wr t m) (hL : Spots n L) : chain wr g L.length t.root = t.wide := by
  obtain ⟨C, A, B, hr, h1, h2, h3⟩ := h.lk
  refine chain_wide hr t _ h1 (fun y hy => hL.le y (h.pm.mem_iff.1 (by simp [hy]))) ?_
  have := h.pm.length_eq
  have := wide_le t
  rw [List.length_append] at *
  omega
end
end Go.Proofs.Ytjmbadadelelfaa.Ph
