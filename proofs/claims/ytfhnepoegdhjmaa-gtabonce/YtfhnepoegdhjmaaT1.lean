/-
  How a table of package gtab lies in memory: a slice of slots; and what a store into one of them makes of that.
-/
import Derived.Test.YtfhnepoegdhjmaaRows
import Derived.WalkKit
import Derived.Below
import Derived.WalkSpells
import Derived.WalkLawsBesides
import Derived.StillTactics
import Derived.RegionTactic
import Derived.RowKit3
import Derived.Laws.MakeOwn
import Derived.OwnWalk
import Derived.Deep.QuietTactic
import Derived.BigQuiet
import Derived.Laws.OwnMore
import Derived.Maps.AppendAt
import Derived.Deep.AppendLies
import Derived.Deep.RegionHeld3
import Derived.Deep.DrawnRows
import Derived.Lib.SmallJoins
import Derived.OneCell
namespace Go.Proofs.Ytfhnepoegdhjmaa
open Go.RowKit Go.Lib

theorem veil {p : Prop} (h : p) : Hid p := h
def upd {α : Type} (f : Nat → α) (i : Nat) (x : α) : Nat → α := fun j => if j = i then x else f j
theorem upd_same {α : Type} (f : Nat → α) (i : Nat) (x : α) : upd f i x i = x := by simp [upd]
theorem upd_other {α : Type} (f : Nat → α) (i : Nat) (x : α) (j : Nat) (h : j ≠ i) : upd f i x j = f j := by simp [upd, h]
theorem set_same (w : World) (a : Addr) (x u : Value) (h : w.cell? a = some u) : (w.setCell a x).cell? a = some x := World.cell?_setCell_same _ _ _ h
theorem set_other (w : World) (b o b' o' : Nat) (x : Value) (h : ¬ (b = b' ∧ o = o')) : (w.setCell ⟨b, o, none⟩ x).cell? ⟨b', o', none⟩ = w.cell? ⟨b', o', none⟩ :=
  World.cell?_setCell_other _ _ _ _ (by intro e; simp only [Addr.mk.injEq, and_true] at e; exact h e)
theorem cell_new (w : World) (c : Array Value) (t : TypeId) (i : Nat) : (w.alloc (.cells c t)).cell? ⟨w.heap.size, i, none⟩ = c[i]? := by
  unfold World.cell?
  simp only [(MapKept.heap_alloc w (.cells c t)).1]
  rfl
theorem frozen_new (w : World) (c : Array Value) (t : TypeId) (i : Nat) : (w.alloc (.cells c t)).frozen? ⟨w.heap.size, i, none⟩ = false := by
  unfold World.frozen?
  simp only [(MapKept.heap_alloc w (.cells c t)).1]
  simp

/-- A frame: blocks that were there and do not belong to S are as they were. -/
structure Fr (S : Nat → Prop) (w w' : World) : Prop where
  os : w'.os = w.os
  tape : w'.tape = w.tape
  output : w'.output = w.output
  size : w.heap.size ≤ w'.heap.size
  block : ∀ k, k < w.heap.size → ¬ S k → w'.heap[k]? = w.heap[k]?
section
variable {S S' : Nat → Prop} {w w' w'' : World}
theorem Fr.refl (S : Nat → Prop) (w : World) : Fr S w w := ⟨rfl, rfl, rfl, Nat.le_refl _, fun _ _ _ => rfl⟩
theorem Fr.wide (h : Fr S w w') (hs : ∀ k, k < w.heap.size → S k → S' k) : Fr S' w w' := ⟨h.os, h.tape, h.output, h.size, fun k hk hn => h.block k hk (fun q => hn (hs k hk q))⟩
theorem Fr.trans (h : Fr S w w') (h' : Fr S w' w'') : Fr S w w'' :=
  ⟨h'.os.trans h.os, h'.tape.trans h.tape, h'.output.trans h.output, Nat.le_trans h.size h'.size, fun k hk hn => (h'.block k (Nat.lt_of_lt_of_le hk h.size) hn).trans (h.block k hk hn)⟩
theorem Fr.alloc (h : Fr S w w') (o : Obj) : Fr S w (w'.alloc o) :=
  ⟨h.os, h.tape, h.output, Nat.le_trans h.size (by simp), fun k hk hn => (Below.heap_alloc _ _ _ (Nat.lt_of_lt_of_le hk h.size)).trans (h.block k hk hn)⟩
theorem Fr.setCell (h : Fr S w w') {a : Addr} (hb : S a.block) (u : Value) : Fr S w (w'.setCell a u) :=
  ⟨h.os, h.tape, h.output, by simpa using h.size, fun k hk hn => (Below.heap_setCell _ _ _ _ (fun e => hn (by rw [e]; exact hb))).trans (h.block k hk hn)⟩
theorem Fr.drewN (h : Fr S w w') (q : Nat) : Fr S w (w'.drewN q) := ⟨h.os, h.tape, h.output, h.size, h.block⟩
theorem Fr.drew (h : Fr S w w') : Fr S w w'.drew := ⟨h.os, h.tape, h.output, h.size, h.block⟩
theorem Fr.cell (h : Fr S w w') {a : Addr} (hk : a.block < w.heap.size) (hn : ¬ S a.block) : w'.cell? a = w.cell? a := World.cell?_of_block (h.block _ hk hn)
theorem Fr.frozen (h : Fr S w w') {a : Addr} (hk : a.block < w.heap.size) (hn : ¬ S a.block) : w'.frozen? a = w.frozen? a := World.frozen?_of_block (h.block _ hk hn)
theorem Fr.of_below {B : Nat} (h : Below B w w') : Fr (fun k => B ≤ k) w w' := ⟨h.os, h.tape, h.output, h.size, fun k _ hn => h.block k (by omega)⟩
theorem Fr.of_below' (h : Below w.heap.size w w') : Fr S w w' := ⟨h.os, h.tape, h.output, h.size, fun k hk _ => h.block k hk⟩
theorem Fr.below {B : Nat} (h : Fr S w w') (hb : B ≤ w.heap.size) (hs : ∀ k, S k → B ≤ k) : Below B w w' := ⟨h.os, h.tape, h.output, h.size, fun k hk => h.block k (by omega) (fun q => by have := hs k q; omega)⟩
theorem below_drewN {B : Nat} {w w' : World} (h : Below B w w') (q : Nat) : Below B w (w'.drewN q) := ⟨h.os, h.tape, h.output, h.size, h.block⟩
theorem Fr.of_grown {row : Option Nat} (h : w.grownBy w' row) : Fr (fun k => some k = row) w w' := ⟨h.os, h.tape, h.output, h.size, h.block⟩
theorem Fr.grown {row : Option Nat} (h : Fr S w w') : (∀ k, k < w.heap.size → S k → some k = row) → w.grownBy w' row := fun hs => ⟨h.os, h.tape, h.output, h.size, fun k hk hn => h.block k hk (fun q => hn (hs k hk q))⟩
end


/-- The table's block b and its slots' block g: of each place how often it was given out, and its state. -/
structure Rep (w : World) (b g n : Nat) (G S : Nat → Nat) : Prop where
  n1 : 1 ≤ n
  n2 : n ≤ 1024
  bg : b ≠ g
  sl : ∃ cp, w.cell? ⟨b, 0, none⟩ = some (.slice (some ⟨g, 0, none⟩) n cp)
  gn : ∀ x, x < n → w.cell? ⟨g, x * 2, none⟩ = some (.int .u32 (G x : Int))
  st : ∀ x, x < n → w.cell? ⟨g, x * 2 + 1, none⟩ = some (.int .i64 (S x : Int))
  fg : ∀ o, w.frozen? ⟨g, o, none⟩ = false
section
variable {w w' : World} {b g n : Nat} {G S : Nat → Nat}
theorem Rep.lt_b (h : Rep w b g n G S) : b < w.heap.size := by obtain ⟨cp, e⟩ := h.sl; exact World.block_lt_of_cell? w _ e
theorem Rep.lt_g (h : Rep w b g n G S) : g < w.heap.size := World.block_lt_of_cell? w _ (h.gn 0 h.n1)
theorem Rep.kept (h : Rep w b g n G S) (hb : w'.heap[b]? = w.heap[b]?) (hg : w'.heap[g]? = w.heap[g]?) : Rep w' b g n G S where
  n1 := h.n1
  n2 := h.n2
  bg := h.bg
  sl := h.sl.imp fun _ e => (World.cell?_of_block hb).trans e
  gn := fun x hx => (World.cell?_of_block hg).trans (h.gn x hx)
  st := fun x hx => (World.cell?_of_block hg).trans (h.st x hx)
  fg := fun o => (World.frozen?_of_block hg).trans (h.fg o)
theorem Rep.frame {X : Nat → Prop} (h : Rep w b g n G S) (hf : Fr X w w') (h1 : ¬ X b) (h2 : ¬ X g) : Rep w' b g n G S := h.kept (hf.block b h.lt_b h1) (hf.block g h.lt_g h2)
theorem Rep.below (h : Rep w b g n G S) (hf : Below w.heap.size w w') : Rep w' b g n G S := h.kept (hf.block b h.lt_b) (hf.block g h.lt_g)
theorem Rep.alloc (h : Rep w b g n G S) (o : Obj) : Rep (w.alloc o) b g n G S := h.below ((Below.refl _ _).alloc (Nat.le_refl _) _)
theorem Rep.like (h : Rep w b g n G S) (a : w'.heap = w.heap) : Rep w' b g n G S := h.kept (by rw [a]) (by rw [a])
theorem Rep.setG (h : Rep w b g n G S) (x : Nat) (hx : x < n) (v : Nat) : Rep (w.setCell ⟨g, x * 2, none⟩ (.int .u32 (v : Int))) b g n (upd G x v) S where
  n1 := h.n1
  n2 := h.n2
  bg := h.bg
  sl := h.sl.imp fun _ e => by rw [set_other _ _ _ _ _ _ (fun q => h.bg q.1.symm)]; exact e
  gn := fun y hy => by
    by_cases e : y = x
    · subst e; rw [upd_same]; exact set_same _ _ _ _ (h.gn y hy)
    · rw [upd_other _ _ _ _ e, set_other _ _ _ _ _ _ (by omega)]; exact h.gn y hy
  st := fun y hy => by rw [set_other _ _ _ _ _ _ (by omega)]; exact h.st y hy
  fg := fun o => by rw [World.frozen?_setCell]; exact h.fg o
theorem Rep.setS (h : Rep w b g n G S) (x : Nat) (hx : x < n) (v : Nat) : Rep (w.setCell ⟨g, x * 2 + 1, none⟩ (.int .i64 (v : Int))) b g n G (upd S x v) where
  n1 := h.n1
  n2 := h.n2
  bg := h.bg
  sl := h.sl.imp fun _ e => by rw [set_other _ _ _ _ _ _ (fun q => h.bg q.1.symm)]; exact e
  gn := fun y hy => by rw [set_other _ _ _ _ _ _ (by omega)]; exact h.gn y hy
  st := fun y hy => by
    by_cases e : y = x
    · subst e; rw [upd_same]; exact set_same _ _ _ _ (h.st y hy)
    · rw [upd_other _ _ _ _ e, set_other _ _ _ _ _ _ (by omega)]; exact h.st y hy
  fg := fun o => by rw [World.frozen?_setCell]; exact h.fg o
end

/-- Is an id given out? -/
def hasB (n : Nat) (G S : Nat → Nat) (p : Int) (q : Nat) : Bool := decide (0 ≤ p) && decide (p < n) && decide (S p.toNat ≠ 0) && decide (G p.toNat = q)
end Go.Proofs.Ytfhnepoegdhjmaa
