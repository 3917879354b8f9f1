/- YtjlbmmiomfpgiaaGreatDoorGb: of the texts Mp Mh what is wanted. -/
import Derived.Test.YtjlbmmiomfpgiaaGreatDoorRows
import Derived.WalkKit
import Derived.Below
import Derived.WalkSpells
import Derived.WalkLawsBesides
import Derived.StillTactics
import Derived.RegionTactic
import Derived.RowKit3
import Derived.Laws.MakeOwn
import Derived.OwnWalk
import Derived.Deep.QuietTactic
import Derived.BigQuiet
import Derived.Deep.RegionHeld3
import Derived.Deep.DrawnRows
import Derived.Lib.SmallJoins
import Derived.WalkMore
namespace Go.Proofs.YtjlbmmiomfpgiaaGreatDoor.Ph
set_option maxRecDepth 100000
open Go.RowKit
theorem veil {p : Prop} (h : p) : Hid p := h
def upd {α : Type} (f : Nat → α) (i : Nat) (x : α) : Nat → α := fun j => if j = i then x else f j
theorem upd_same {α : Type} (f : Nat → α) (i : Nat) (x : α) : upd f i x i = x := by simp [upd]
theorem upd_other {α : Type} (f : Nat → α) (i : Nat) (x : α) (j : Nat) (h : j ≠ i) : upd f i x j = f j := by simp [upd, h]
theorem set_same (w : World) (a : Addr) (x u : Value) (h : w.cell? a = some u) : (w.setCell a x).cell? a = some x := World.cell?_setCell_same _ _ _ h
theorem set_other (w : World) (b o b' o' : Nat) (x : Value) (h : ¬ (b = b' ∧ o = o')) : (w.setCell ⟨b, o, none⟩ x).cell? ⟨b', o', none⟩ = w.cell? ⟨b', o', none⟩ :=
 World.cell?_setCell_other _ _ _ _ (by intro e; simp only [Addr.mk.injEq, and_true] at e; exact h e)
structure Only (b g : Nat) (w w' : World) : Prop where
 os : w'.os = w.os
 tape : w'.tape = w.tape
 output : w'.output = w.output
 size : w.heap.size ≤ w'.heap.size
 block : ∀ k, k < w.heap.size → k ≠ b → k ≠ g → w'.heap[k]? = w.heap[k]?
theorem Only.refl (b g : Nat) (w : World) : Only b g w w := ⟨rfl, rfl, rfl, Nat.le_refl _, fun _ _ _ _ => rfl⟩
theorem Only.trans {b g : Nat} {w1 w2 w3 : World} (h : Only b g w1 w2) (k : Only b g w2 w3) : Only b g w1 w3 :=
 ⟨k.os.trans h.os, k.tape.trans h.tape, k.output.trans h.output, Nat.le_trans h.size k.size, fun i hi a c => (k.block i (Nat.lt_of_lt_of_le hi h.size) a c).trans (h.block i hi a c)⟩
theorem Only.drew {b g : Nat} {w w' : World} (h : Only b g w w') : Only b g w w'.drew := ⟨h.os, h.tape, h.output, h.size, h.block⟩
theorem Only.drewN {b g : Nat} {w w' : World} (h : Only b g w w') (q : Nat) : Only b g w (w'.drewN q) := ⟨h.os, h.tape, h.output, h.size, h.block⟩
theorem Only.alloc {b g : Nat} {w w' : World} (h : Only b g w w') (o : Obj) : Only b g w (w'.alloc o) :=
 ⟨h.os, h.tape, h.output, Nat.le_trans h.size (by simp), fun k hk a c => by rw [Below.heap_alloc _ _ _ (Nat.lt_of_lt_of_le hk h.size)]; exact h.block k hk a c⟩
theorem Only.set {b g : Nat} {w w' : World} (h : Only b g w w') (p : Addr) (x : Value) (hp : p.block = b ∨ p.block = g) : Only b g w (w'.setCell p x) :=
 ⟨h.os, h.tape, h.output, by simp [World.setCell]; exact h.size, fun k hk a c => by rw [Below.heap_setCell _ _ _ _ (by rcases hp with e | e <;> omega)]; exact h.block k hk a c⟩
theorem Only.of_below {b g : Nat} {w w' : World} (h : Below w.heap.size w w') : Only b g w w' := ⟨h.os, h.tape, h.output, h.size, fun k hk _ _ => h.block k hk⟩
structure Rep (w : World) (b g n rt ct : Nat) (D S I C A B : Nat → Nat) (T : Nat → Bool) : Prop where
 bg : b ≠ g
 sl : ∃ cp, w.cell? ⟨b, 0, none⟩ = some (.slice (some ⟨g, 0, none⟩) (n + 1) cp)
 rt : w.cell? ⟨b, 1, none⟩ = some (.int .i64 (rt : Int))
 ct : w.cell? ⟨b, 2, none⟩ = some (.int .i64 (ct : Int))
 nd : ∀ x, x ≤ n → w.cell? ⟨g, x * 7, none⟩ = some (.int .u64 ((D x : Nat) : Int))
 ns : ∀ x, x ≤ n → w.cell? ⟨g, x * 7 + 1, none⟩ = some (.int .u64 ((S x : Nat) : Int))
 ni : ∀ x, x ≤ n → w.cell? ⟨g, x * 7 + 2, none⟩ = some (.int .i64 ((I x : Nat) : Int))
 nc : ∀ x, x ≤ n → w.cell? ⟨g, x * 7 + 3, none⟩ = some (.int .i64 ((C x : Nat) : Int))
 na : ∀ x, x ≤ n → w.cell? ⟨g, x * 7 + 4, none⟩ = some (.int .i64 ((A x : Nat) : Int))
 nb : ∀ x, x ≤ n → w.cell? ⟨g, x * 7 + 5, none⟩ = some (.int .i64 ((B x : Nat) : Int))
 nt : ∀ x, x ≤ n → w.cell? ⟨g, x * 7 + 6, none⟩ = some (.bool (T x))
 fb : ∀ o, w.frozen? ⟨b, o, none⟩ = false
 fg : ∀ o, w.frozen? ⟨g, o, none⟩ = false
section
variable {w : World} {b g n rt ct : Nat} {D S I C A B : Nat → Nat} {T : Nat → Bool}
theorem Rep.lt_b (h : Rep w b g n rt ct D S I C A B T) : b < w.heap.size := World.block_lt_of_cell? w ⟨b, 1, none⟩ h.rt
theorem Rep.lt_g (h : Rep w b g n rt ct D S I C A B T) : g < w.heap.size := World.block_lt_of_cell? w ⟨g, 0 * 7, none⟩ (h.nd 0 (Nat.zero_le _))
theorem Rep.kept {w' : World} (h : Rep w b g n rt ct D S I C A B T) (hb : w'.heap[b]? = w.heap[b]?) (hg : w'.heap[g]? = w.heap[g]?) : Rep w' b g n rt ct D S I C A B T := by
 have eb : ∀ o, w'.cell? ⟨b, o, none⟩ = w.cell? ⟨b, o, none⟩ := fun o => by simp only [World.cell?, hb]
 have eg : ∀ o, w'.cell? ⟨g, o, none⟩ = w.cell? ⟨g, o, none⟩ := fun o => by simp only [World.cell?, hg]
 have ib : ∀ o, w'.frozen? ⟨b, o, none⟩ = w.frozen? ⟨b, o, none⟩ := fun o => by simp only [World.frozen?, hb]
 have ig : ∀ o, w'.frozen? ⟨g, o, none⟩ = w.frozen? ⟨g, o, none⟩ := fun o => by simp only [World.frozen?, hg]
 exact ⟨h.bg, by simp only [eb]; exact h.sl, by rw [eb]; exact h.rt, by rw [eb]; exact h.ct, fun x hx => by rw [eg]; exact h.nd x hx, fun x hx => by rw [eg]; exact h.ns x hx, fun x hx => by rw [eg]; exact h.ni x hx, fun x hx => by rw [eg]; exact h.nc x hx, fun x hx => by rw [eg]; exact h.na x hx, fun x hx => by rw [eg]; exact h.nb x hx, fun x hx => by rw [eg]; exact h.nt x hx, fun o => by rw [ib]; exact h.fb o, fun o => by rw [ig]; exact h.fg o⟩
theorem Rep.like {w' : World} (h : Rep w b g n rt ct D S I C A B T) (e : w'.heap = w.heap) : Rep w' b g n rt ct D S I C A B T := h.kept (by rw [e]) (by rw [e])
theorem Rep.drew (h : Rep w b g n rt ct D S I C A B T) : Rep w.drew b g n rt ct D S I C A B T := h.like rfl
theorem Rep.drewN (h : Rep w b g n rt ct D S I C A B T) (q : Nat) : Rep (w.drewN q) b g n rt ct D S I C A B T := h.like rfl
theorem Rep.below (h : Rep w b g n rt ct D S I C A B T) {w' : World} (hw : Below w.heap.size w w') : Rep w' b g n rt ct D S I C A B T := h.kept (hw.block b h.lt_b) (hw.block g h.lt_g)
theorem Rep.alloc (h : Rep w b g n rt ct D S I C A B T) (o : Obj) : Rep (w.alloc o) b g n rt ct D S I C A B T := h.below ((Below.refl _ _).alloc (Nat.le_refl _) o)
theorem Rep.setR (h : Rep w b g n rt ct D S I C A B T) (v : Nat) : Rep (w.setCell ⟨b, 1, none⟩ (.int .i64 (v : Int))) b g n v ct D S I C A B T :=
 ⟨h.bg, by obtain ⟨cp, q⟩ := h.sl; exact ⟨cp, by rw [set_other _ _ _ _ _ _ (by omega)]; exact q⟩, set_same _ _ _ _ h.rt, by rw [set_other _ _ _ _ _ _ (by omega)]; exact h.ct, fun x hx => by rw [set_other _ _ _ _ _ _ (by have := h.bg; omega)]; exact h.nd x hx, fun x hx => by rw [set_other _ _ _ _ _ _ (by have := h.bg; omega)]; exact h.ns x hx, fun x hx => by rw [set_other _ _ _ _ _ _ (by have := h.bg; omega)]; exact h.ni x hx, fun x hx => by rw [set_other _ _ _ _ _ _ (by have := h.bg; omega)]; exact h.nc x hx, fun x hx => by rw [set_other _ _ _ _ _ _ (by have := h.bg; omega)]; exact h.na x hx, fun x hx => by rw [set_other _ _ _ _ _ _ (by have := h.bg; omega)]; exact h.nb x hx, fun x hx => by rw [set_other _ _ _ _ _ _ (by have := h.bg; omega)]; exact h.nt x hx, fun o => by simpa using h.fb o, fun o => by simpa using h.fg o⟩
theorem Rep.setN (h : Rep w b g n rt ct D S I C A B T) (v : Nat) : Rep (w.setCell ⟨b, 2, none⟩ (.int .i64 (v : Int))) b g n rt v D S I C A B T :=
 ⟨h.bg, by obtain ⟨cp, q⟩ := h.sl; exact ⟨cp, by rw [set_other _ _ _ _ _ _ (by omega)]; exact q⟩, by rw [set_other _ _ _ _ _ _ (by omega)]; exact h.rt, set_same _ _ _ _ h.ct, fun x hx => by rw [set_other _ _ _ _ _ _ (by have := h.bg; omega)]; exact h.nd x hx, fun x hx => by rw [set_other _ _ _ _ _ _ (by have := h.bg; omega)]; exact h.ns x hx, fun x hx => by rw [set_other _ _ _ _ _ _ (by have := h.bg; omega)]; exact h.ni x hx, fun x hx => by rw [set_other _ _ _ _ _ _ (by have := h.bg; omega)]; exact h.nc x hx, fun x hx => by rw [set_other _ _ _ _ _ _ (by have := h.bg; omega)]; exact h.na x hx, fun x hx => by rw [set_other _ _ _ _ _ _ (by have := h.bg; omega)]; exact h.nb x hx, fun x hx => by rw [set_other _ _ _ _ _ _ (by have := h.bg; omega)]; exact h.nt x hx, fun o => by simpa using h.fb o, fun o => by simpa using h.fg o⟩
theorem Rep.setD (h : Rep w b g n rt ct D S I C A B T) (p : Nat) (hp : p ≤ n) (v : Nat) : Rep (w.setCell ⟨g, p * 7, none⟩ (.int .u64 (v : Int))) b g n rt ct (upd D p v) S I C A B T :=
 ⟨h.bg, by obtain ⟨cp, q⟩ := h.sl; exact ⟨cp, by rw [set_other _ _ _ _ _ _ (by have := h.bg; omega)]; exact q⟩, by rw [set_other _ _ _ _ _ _ (by have := h.bg; omega)]; exact h.rt, by rw [set_other _ _ _ _ _ _ (by have := h.bg; omega)]; exact h.ct,
  fun x hx => by
   by_cases e : x = p
   ·subst e; rw [upd_same]; exact set_same _ _ _ _ (h.nd x hx)
   ·rw [upd_other _ _ _ _ e, set_other _ _ _ _ _ _ (by omega)]; exact h.nd x hx,
  fun x hx => by rw [set_other _ _ _ _ _ _ (by omega)]; exact h.ns x hx,
  fun x hx => by rw [set_other _ _ _ _ _ _ (by omega)]; exact h.ni x hx,
  fun x hx => by rw [set_other _ _ _ _ _ _ (by omega)]; exact h.nc x hx,
  fun x hx => by rw [set_other _ _ _ _ _ _ (by omega)]; exact h.na x hx,
  fun x hx => by rw [set_other _ _ _ _ _ _ (by omega)]; exact h.nb x hx,
  fun x hx => by rw [set_other _ _ _ _ _ _ (by omega)]; exact h.nt x hx,
  fun o => by simpa using h.fb o, fun o => by simpa using h.fg o⟩
theorem Rep.setS (h : Rep w b g n rt ct D S I C A B T) (p : Nat) (hp : p ≤ n) (v : Nat) : Rep (w.setCell ⟨g, p * 7 + 1, none⟩ (.int .u64 (v : Int))) b g n rt ct D (upd S p v) I C A B T :=
 ⟨h.bg, by obtain ⟨cp, q⟩ := h.sl; exact ⟨cp, by rw [set_other _ _ _ _ _ _ (by have := h.bg; omega)]; exact q⟩, by rw [set_other _ _ _ _ _ _ (by have := h.bg; omega)]; exact h.rt, by rw [set_other _ _ _ _ _ _ (by have := h.bg; omega)]; exact h.ct,
  fun x hx => by rw [set_other _ _ _ _ _ _ (by omega)]; exact h.nd x hx,
  fun x hx => by
   by_cases e : x = p
   ·subst e; rw [upd_same]; exact set_same _ _ _ _ (h.ns x hx)
   ·rw [upd_other _ _ _ _ e, set_other _ _ _ _ _ _ (by omega)]; exact h.ns x hx,
  fun x hx => by rw [set_other _ _ _ _ _ _ (by omega)]; exact h.ni x hx,
  fun x hx => by rw [set_other _ _ _ _ _ _ (by omega)]; exact h.nc x hx,
  fun x hx => by rw [set_other _ _ _ _ _ _ (by omega)]; exact h.na x hx,
  fun x hx => by rw [set_other _ _ _ _ _ _ (by omega)]; exact h.nb x hx,
  fun x hx => by rw [set_other _ _ _ _ _ _ (by omega)]; exact h.nt x hx,
  fun o => by simpa using h.fb o, fun o => by simpa using h.fg o⟩
theorem Rep.setI (h : Rep w b g n rt ct D S I C A B T) (p : Nat) (hp : p ≤ n) (v : Nat) : Rep (w.setCell ⟨g, p * 7 + 2, none⟩ (.int .i64 (v : Int))) b g n rt ct D S (upd I p v) C A B T :=
 ⟨h.bg, by obtain ⟨cp, q⟩ := h.sl; exact ⟨cp, by rw [set_other _ _ _ _ _ _ (by have := h.bg; omega)]; exact q⟩, by rw [set_other _ _ _ _ _ _ (by have := h.bg; omega)]; exact h.rt, by rw [set_other _ _ _ _ _ _ (by have := h.bg; omega)]; exact h.ct,
  fun x hx => by rw [set_other _ _ _ _ _ _ (by omega)]; exact h.nd x hx,
  fun x hx => by rw [set_other _ _ _ _ _ _ (by omega)]; exact h.ns x hx,
  fun x hx => by
   by_cases e : x = p
   ·subst e; rw [upd_same]; exact set_same _ _ _ _ (h.ni x hx)
   ·rw [upd_other _ _ _ _ e, set_other _ _ _ _ _ _ (by omega)]; exact h.ni x hx,
  fun x hx => by rw [set_other _ _ _ _ _ _ (by omega)]; exact h.nc x hx,
  fun x hx => by rw [set_other _ _ _ _ _ _ (by omega)]; exact h.na x hx,
  fun x hx => by rw [set_other _ _ _ _ _ _ (by omega)]; exact h.nb x hx,
  fun x hx => by rw [set_other _ _ _ _ _ _ (by omega)]; exact h.nt x hx,
  fun o => by simpa using h.fb o, fun o => by simpa using h.fg o⟩
theorem Rep.setC (h : Rep w b g n rt ct D S I C A B T) (p : Nat) (hp : p ≤ n) (v : Nat) : Rep (w.setCell ⟨g, p * 7 + 3, none⟩ (.int .i64 (v : Int))) b g n rt ct D S I (upd C p v) A B T :=
 ⟨h.bg, by obtain ⟨cp, q⟩ := h.sl; exact ⟨cp, by rw [set_other _ _ _ _ _ _ (by have := h.bg; omega)]; exact q⟩, by rw [set_other _ _ _ _ _ _ (by have := h.bg; omega)]; exact h.rt, by rw [set_other _ _ _ _ _ _ (by have := h.bg; omega)]; exact h.ct,
  fun x hx => by rw [set_other _ _ _ _ _ _ (by omega)]; exact h.nd x hx,
  fun x hx => by rw [set_other _ _ _ _ _ _ (by omega)]; exact h.ns x hx,
  fun x hx => by rw [set_other _ _ _ _ _ _ (by omega)]; exact h.ni x hx,
  fun x hx => by
   by_cases e : x = p
   ·subst e; rw [upd_same]; exact set_same _ _ _ _ (h.nc x hx)
   ·rw [upd_other _ _ _ _ e, set_other _ _ _ _ _ _ (by omega)]; exact h.nc x hx,
  fun x hx => by rw [set_other _ _ _ _ _ _ (by omega)]; exact h.na x hx,
  fun x hx => by rw [set_other _ _ _ _ _ _ (by omega)]; exact h.nb x hx,
  fun x hx => by rw [set_other _ _ _ _ _ _ (by omega)]; exact h.nt x hx,
  fun o => by simpa using h.fb o, fun o => by simpa using h.fg o⟩
theorem Rep.setA (h : Rep w b g n rt ct D S I C A B T) (p : Nat) (hp : p ≤ n) (v : Nat) : Rep (w.setCell ⟨g, p * 7 + 4, none⟩ (.int .i64 (v : Int))) b g n rt ct D S I C (upd A p v) B T :=
 ⟨h.bg, by obtain ⟨cp, q⟩ := h.sl; exact ⟨cp, by rw [set_other _ _ _ _ _ _ (by have := h.bg; omega)]; exact q⟩, by rw [set_other _ _ _ _ _ _ (by have := h.bg; omega)]; exact h.rt, by rw [set_other _ _ _ _ _ _ (by have := h.bg; omega)]; exact h.ct,
  fun x hx => by rw [set_other _ _ _ _ _ _ (by omega)]; exact h.nd x hx,
  fun x hx => by rw [set_other _ _ _ _ _ _ (by omega)]; exact h.ns x hx,
  fun x hx => by rw [set_other _ _ _ _ _ _ (by omega)]; exact h.ni x hx,
  fun x hx => by rw [set_other _ _ _ _ _ _ (by omega)]; exact h.nc x hx,
  fun x hx => by
   by_cases e : x = p
   ·subst e; rw [upd_same]; exact set_same _ _ _ _ (h.na x hx)
   ·rw [upd_other _ _ _ _ e, set_other _ _ _ _ _ _ (by omega)]; exact h.na x hx,
  fun x hx => by rw [set_other _ _ _ _ _ _ (by omega)]; exact h.nb x hx,
  fun x hx => by rw [set_other _ _ _ _ _ _ (by omega)]; exact h.nt x hx,
  fun o => by simpa using h.fb o, fun o => by simpa using h.fg o⟩
theorem Rep.setB (h : Rep w b g n rt ct D S I C A B T) (p : Nat) (hp : p ≤ n) (v : Nat) : Rep (w.setCell ⟨g, p * 7 + 5, none⟩ (.int .i64 (v : Int))) b g n rt ct D S I C A (upd B p v) T :=
 ⟨h.bg, by obtain ⟨cp, q⟩ := h.sl; exact ⟨cp, by rw [set_other _ _ _ _ _ _ (by have := h.bg; omega)]; exact q⟩, by rw [set_other _ _ _ _ _ _ (by have := h.bg; omega)]; exact h.rt, by rw [set_other _ _ _ _ _ _ (by have := h.bg; omega)]; exact h.ct,
  fun x hx => by rw [set_other _ _ _ _ _ _ (by omega)]; exact h.nd x hx,
  fun x hx => by rw [set_other _ _ _ _ _ _ (by omega)]; exact h.ns x hx,
  fun x hx => by rw [set_other _ _ _ _ _ _ (by omega)]; exact h.ni x hx,
  fun x hx => by rw [set_other _ _ _ _ _ _ (by omega)]; exact h.nc x hx,
  fun x hx => by rw [set_other _ _ _ _ _ _ (by omega)]; exact h.na x hx,
  fun x hx => by
   by_cases e : x = p
   ·subst e; rw [upd_same]; exact set_same _ _ _ _ (h.nb x hx)
   ·rw [upd_other _ _ _ _ e, set_other _ _ _ _ _ _ (by omega)]; exact h.nb x hx,
  fun x hx => by rw [set_other _ _ _ _ _ _ (by omega)]; exact h.nt x hx,
  fun o => by simpa using h.fb o, fun o => by simpa using h.fg o⟩
theorem Rep.setT (h : Rep w b g n rt ct D S I C A B T) (p : Nat) (hp : p ≤ n) (v : Bool) : Rep (w.setCell ⟨g, p * 7 + 6, none⟩ (.bool v)) b g n rt ct D S I C A B (upd T p v) :=
 ⟨h.bg, by obtain ⟨cp, q⟩ := h.sl; exact ⟨cp, by rw [set_other _ _ _ _ _ _ (by have := h.bg; omega)]; exact q⟩, by rw [set_other _ _ _ _ _ _ (by have := h.bg; omega)]; exact h.rt, by rw [set_other _ _ _ _ _ _ (by have := h.bg; omega)]; exact h.ct,
  fun x hx => by rw [set_other _ _ _ _ _ _ (by omega)]; exact h.nd x hx,
  fun x hx => by rw [set_other _ _ _ _ _ _ (by omega)]; exact h.ns x hx,
  fun x hx => by rw [set_other _ _ _ _ _ _ (by omega)]; exact h.ni x hx,
  fun x hx => by rw [set_other _ _ _ _ _ _ (by omega)]; exact h.nc x hx,
  fun x hx => by rw [set_other _ _ _ _ _ _ (by omega)]; exact h.na x hx,
  fun x hx => by rw [set_other _ _ _ _ _ _ (by omega)]; exact h.nb x hx,
  fun x hx => by
   by_cases e : x = p
   ·subst e; rw [upd_same]; exact set_same _ _ _ _ (h.nt x hx)
   ·rw [upd_other _ _ _ _ e, set_other _ _ _ _ _ _ (by omega)]; exact h.nt x hx,
  fun o => by simpa using h.fb o, fun o => by simpa using h.fg o⟩
end
end Go.Proofs.YtjlbmmiomfpgiaaGreatDoor.Ph
namespace Go.Proofs.YtjlbmmiomfpgiaaGreatDoor.Ph
set_option maxRecDepth 100000
open Go.RowKit
attribute [local go_sem ↓] Go.wp_at_zero Go.wp_at_succ
def nodeZero : Value := .agg #[.int .u64 0, .int .u64 0, .int .i64 0, .int .i64 0, .int .i64 0, .int .i64 0, .bool false]
def nodeCells (n : Nat) : Array Value := madeCells nodeZero.cells ((n + 1) * 7)
theorem cell_new (w : World) (c : Array Value) (t : TypeId) (i : Nat) : (w.alloc (.cells c t)).cell? ⟨w.heap.size, i, none⟩ = c[i]? := by
 unfold World.cell?
 simp only [(MapKept.heap_alloc w (.cells c t)).1]
 rfl
theorem frozen_new (w : World) (c : Array Value) (t : TypeId) (i : Nat) : (w.alloc (.cells c t)).frozen? ⟨w.heap.size, i, none⟩ = false := by
 unfold World.frozen?
 simp only [(MapKept.heap_alloc w (.cells c t)).1]
 simp
theorem node_at (n k : Nat) (h : k < (n + 1) * 7) : (nodeCells n)[k]? = some ((#[Value.int .u64 0, .int .u64 0, .int .i64 0, .int .i64 0, .int .i64 0, .int .i64 0, .bool false] : Array Value)[k % 7]!) := by
 unfold nodeCells madeCells nodeZero
 simp [Value.cells, h]
theorem infoNode : (Tryz.prog.info? 278).map (fun i => (i.zero, i.size, i.bytes)) = some (some nodeZero, 7, 56) := by kernel_rfl
theorem new_rep (w : World) (n : Nat) :
  Rep ((w.alloc (.cells (nodeCells n) 278)).alloc (.cells #[.slice (some ⟨w.heap.size, 0, none⟩) (n + 1) (n + 1), .int .i64 0, .int .i64 0] 250)) (w.heap.size + 1) w.heap.size n 0 0 (fun _ => 0) (fun _ => 0) (fun _ => 0) (fun _ => 0) (fun _ => 0) (fun _ => 0) (fun _ => false) := by
 have e : w.heap.size + 1 = (w.alloc (.cells (nodeCells n) 278)).heap.size := by simp
 have hb : ∀ i, ((w.alloc (.cells (nodeCells n) 278)).alloc (.cells #[.slice (some ⟨w.heap.size, 0, none⟩) (n + 1) (n + 1), .int .i64 0, .int .i64 0] 250)).cell? ⟨w.heap.size + 1, i, none⟩ = (#[.slice (some ⟨w.heap.size, 0, none⟩) (n + 1) (n + 1), .int .i64 0, .int .i64 0] : Array Value)[i]? := by
  intro i
  rw [e]; exact cell_new _ _ _ _
 have hg : ∀ i, ((w.alloc (.cells (nodeCells n) 278)).alloc (.cells #[.slice (some ⟨w.heap.size, 0, none⟩) (n + 1) (n + 1), .int .i64 0, .int .i64 0] 250)).cell? ⟨w.heap.size, i, none⟩ = (nodeCells n)[i]? := by
  intro i
  rw [← cell_new w (nodeCells n) 278 i]
  simp only [World.cell?]
  rw [Below.heap_alloc _ _ _ (by simp)]
 have fg : ∀ i, ((w.alloc (.cells (nodeCells n) 278)).alloc (.cells #[.slice (some ⟨w.heap.size, 0, none⟩) (n + 1) (n + 1), .int .i64 0, .int .i64 0] 250)).frozen? ⟨w.heap.size, i, none⟩ = false := by
  intro i
  rw [← frozen_new w (nodeCells n) 278 i]
  simp only [World.frozen?]
  rw [Below.heap_alloc _ _ _ (by simp)]
 refine ⟨by omega, ⟨n + 1, by rw [hb]; rfl⟩, by rw [hb]; rfl, by rw [hb]; rfl, fun x hx => ?_, fun x hx => ?_, fun x hx => ?_, fun x hx => ?_, fun x hx => ?_, fun x hx => ?_, fun x hx => ?_, fun o => by rw [e]; exact frozen_new _ _ _ _, fg⟩
 ·rw [hg, node_at n _ (by omega), show x * 7 % 7 = 0 by omega]; rfl
 ·rw [hg, node_at n _ (by omega), show (x * 7 + 1) % 7 = 1 by omega]; rfl
 ·rw [hg, node_at n _ (by omega), show (x * 7 + 2) % 7 = 2 by omega]; rfl
 ·rw [hg, node_at n _ (by omega), show (x * 7 + 3) % 7 = 3 by omega]; rfl
 ·rw [hg, node_at n _ (by omega), show (x * 7 + 4) % 7 = 4 by omega]; rfl
 ·rw [hg, node_at n _ (by omega), show (x * 7 + 5) % 7 = 5 by omega]; rfl
 ·rw [hg, node_at n _ (by omega), show (x * 7 + 6) % 7 = 6 by omega]; rfl
set_option maxHeartbeats 1000000 in
theorem new_ok (n : Nat) (w : World) (h1 : 1 ≤ n) (h2 : n ≤ 1024) :
  Calls Tryz.prog 115 #[.int .i64 n] w fun e w' => e = .returned (.pointer (some ⟨w.heap.size + 1, 0, none⟩)) ∧ Rep w' (w.heap.size + 1) w.heap.size n 0 0 (fun _ => 0) (fun _ => 0) (fun _ => 0) (fun _ => 0) (fun _ => 0) (fun _ => 0) (fun _ => false) ∧ Below w.heap.size w w' := by
 obtain ⟨i0, hi, hz0, hz1, hz2⟩ := info_parts infoNode
 have hmk : ∀ w, (Instr.makeSlice 248 (.int .i64 ((n : Int) + 1)) (.int .i64 ((n : Int) + 1))).run Tryz.prog w = .ok (.slice (some ⟨w.heap.size, 0, none⟩) (n + 1) (n + 1)) (w.alloc (.cells (nodeCells n) 278)) := by
  intro w
  have := run_make w 248 278 i0 nodeZero Tryz.underlying248 hi hz0 .i64 .i64 ((n : Int) + 1) ((n : Int) + 1) (by omega) (by omega) (by rw [hz2]; omega) (by omega)
  rw [hz1, show ((n : Int) + 1).toNat = n + 1 by omega] at this
  exact this
 have HR := veil (new_rep w n)
 clear hi hz0 hz1 hz2
 go_enter Tryz.func115, Tryz.ntmps115
 go_wp2
 go_ret
 exact ⟨rfl, HR.out, ((Below.refl _ _).alloc (Nat.le_refl _) _).alloc (by simp) _⟩
def bef (d1 s1 i1 d2 s2 i2 : Nat) : Bool := if d1 = d2 then (if s1 = s2 then decide (i1 < i2) else decide (s1 < s2)) else decide (d1 < d2)
set_option maxHeartbeats 1000000 in
theorem before_ok (d1 s1 i1 d2 s2 i2 : Nat) (w : World) :
  Calls Tryz.prog 232 #[.agg #[.int .u64 d1, .int .u64 s1, .int .i64 i1], .agg #[.int .u64 d2, .int .u64 s2, .int .i64 i2]] w fun e w' => e = .returned (.bool (bef d1 s1 i1 d2 s2 i2)) ∧ Below w.heap.size w w' := by
 generalize hb : bef d1 s1 i1 d2 s2 i2 = bb
 unfold bef at hb
 by_cases h1 : d1 = d2
 ·rw [if_pos h1] at hb
  by_cases h2 : s1 = s2
  ·rw [if_pos h2] at hb
   subst h1 h2
   go_enter Tryz.func232, Tryz.ntmps232
   go_wp2
   go_ret
   exact ⟨by rw [← hb]; simp, ((Below.refl _ _).alloc (Nat.le_refl _) _).alloc (by simp) _⟩
  ·rw [if_neg h2] at hb
   have h2' : ¬ (s1 : Int) = (s2 : Int) := by omega
   subst h1
   go_enter Tryz.func232, Tryz.ntmps232
   go_wp2
   go_ret
   exact ⟨by rw [← hb]; simp, ((Below.refl _ _).alloc (Nat.le_refl _) _).alloc (by simp) _⟩
 ·rw [if_neg h1] at hb
  have h1' : ¬ (d1 : Int) = (d2 : Int) := by omega
  go_enter Tryz.func232, Tryz.ntmps232
  go_wp2
  go_ret
  exact ⟨by rw [← hb]; simp, ((Below.refl _ _).alloc (Nat.le_refl _) _).alloc (by simp) _⟩
end Go.Proofs.YtjlbmmiomfpgiaaGreatDoor.Ph
namespace Go.Proofs.YtjlbmmiomfpgiaaGreatDoor.Ph
set_option maxRecDepth 100000
open Go.RowKit
attribute [local go_sem ↓] Go.wp_at_zero Go.wp_at_succ
section
variable {w : World} {b g n rt ct : Nat} {D S I C A B : Nat → Nat} {T : Nat → Bool}
theorem join_left (two : Nat) (w : World) (b : Nat) :
  Calls Tryz.prog 225 #[.pointer (some ⟨b, 0, none⟩), .int .i64 0, .int .i64 two] w fun e w' => e = .returned (.int .i64 two) ∧ w' = w := by
 go_enter Tryz.func225, Tryz.ntmps225
 go_wp2
 go_ret
 exact ⟨rfl, rfl⟩
theorem join_right (one : Nat) (h1 : 1 ≤ one) (w : World) (b : Nat) :
  Calls Tryz.prog 225 #[.pointer (some ⟨b, 0, none⟩), .int .i64 one, .int .i64 0] w fun e w' => e = .returned (.int .i64 one) ∧ w' = w := by
 have h0 : ¬ (one : Int) = 0 := by omega
 go_enter Tryz.func225, Tryz.ntmps225
 go_wp2
 go_ret
 exact ⟨rfl, rfl⟩
set_option maxHeartbeats 4000000 in
set_option maxRecDepth 100000 in
theorem join_swap (h : Rep w b g n rt ct D S I C A B T) (p q : Nat) (hp : 1 ≤ p) (hpn : p ≤ n) (hq : 1 ≤ q) (hqn : q ≤ n) (hf : C p ≤ n) (hfq : C p ≠ q)
  (hbef : bef (D p) (S p) (I p) (D q) (S q) (I q) = true) :
  Calls Tryz.prog 225 #[.pointer (some ⟨b, 0, none⟩), .int .i64 q, .int .i64 p] w fun e w' => e = .returned (.int .i64 p) ∧
   Rep w' b g n rt ct D S I (upd C p q) (upd (if C p = 0 then A else upd A (C p) q) q p) (upd B q (C p)) T ∧ Only b g w w' := by
 obtain ⟨cp, e0⟩ := h.sl
 have ep0 := h.nd p hpn; have ep1 := h.ns p hpn; have ep2 := h.ni p hpn
 have eq0 := h.nd q hqn; have eq1 := h.ns q hqn; have eq2 := h.ni q hqn
 have p0 : ¬ (p : Int) = 0 := by omega
 have q0 : ¬ (q : Int) = 0 := by omega
 have pl : p < n + 1 := by omega
 have ql : q < n + 1 := by omega
 have pl0 : (0 : Int) ≤ (p : Int) := by omega
 have ql0 : (0 : Int) ≤ (q : Int) := by omega
 obtain ⟨L, hL⟩ : ∃ L, L = n + 1 := ⟨_, rfl⟩
 rw [← hL] at e0
 have pl1 : (p : Int) < (L : Int) := by omega
 have ql1 : (q : Int) < (L : Int) := by omega
 have HLe := veil hL
 clear hL pl ql
 have HB : Hid (∀ w1, Below w.heap.size w w1 → Rep w1 b g n rt ct D S I C A B T) := fun w1 hb => h.below hb
 have HE := before_ok (D p) (S p) (I p) (D q) (S q) (I q)
 rw [hbef] at HE
 have HE := veil HE
 have hbb := h.lt_b
 have hgg := h.lt_g
 clear h hbef
 go_enter Tryz.func225, Tryz.ntmps225
 go_wp2
 go_region_held3 (fun w' => w'.cell? ⟨b, 0, none⟩ = some (.slice (some ⟨g, 0, none⟩) L cp) ∧ w'.cell? ⟨g, p * 7, none⟩ = some (.int .u64 (D p)) ∧ w'.cell? ⟨g, p * 7 + 1, none⟩ = some (.int .u64 (S p)) ∧ w'.cell? ⟨g, p * 7 + 2, none⟩ = some (.int .i64 (I p)) ∧ w'.cell? ⟨g, q * 7, none⟩ = some (.int .u64 (D q)) ∧ w'.cell? ⟨g, q * 7 + 1, none⟩ = some (.int .u64 (S q)) ∧ w'.cell? ⟨g, q * 7 + 2, none⟩ = some (.int .i64 (I q)))
  (first | go_keep | exact ⟨(hb1.cell (p := ⟨b, 0, none⟩) hbb).trans e0, (hb1.cell (p := ⟨g, p * 7, none⟩) hgg).trans ep0, (hb1.cell (p := ⟨g, p * 7 + 1, none⟩) hgg).trans ep1, (hb1.cell (p := ⟨g, p * 7 + 2, none⟩) hgg).trans ep2, (hb1.cell (p := ⟨g, q * 7, none⟩) hgg).trans eq0, (hb1.cell (p := ⟨g, q * 7 + 1, none⟩) hgg).trans eq1, (hb1.cell (p := ⟨g, q * 7 + 2, none⟩) hgg).trans eq2⟩)
  ((go_at_call 232; refine (HE.out _).mono ?_; rintro e w1 ⟨rfl, hb1'⟩; have hb1 : Below w.heap.size w w1 := (show Below w.heap.size w w.drew from (Below.refl _ _).drew).trans hb1'; clear hb1'))
 have hr := HB.out _ hb1
 have HL := veil hb1
 have HR := veil hr
 clear hb1 e0 ep0 ep1 ep2 eq0 eq1 eq2
 obtain ⟨cp1, e0⟩ := hr.sl
 rw [← HLe.out] at e0
 have c1 := hr.nc p hpn
 have c2 := hr.na q hqn
 have c3 := hr.nb q hqn
 have fg := hr.fg
 by_cases hf0 : C p = 0
 ·rw [hf0] at c1
  have c1' : w1.cell? ⟨g, p * 7 + 3, none⟩ = some (.int .i64 0) := c1
  have HF0 := veil hf0
  clear hr c1 hf0 hf hfq
  go_wp2
  go_region
  go_wp2
  go_ret
  refine ⟨rfl, ?_, ?_⟩
  ·exact (((HR.out.setA q hqn p).setB q hqn 0).setC p hpn q).drew
  ·exact ((((Only.of_below HL.out).set ⟨g, q * 7 + 4, none⟩ _ (Or.inr rfl)).set ⟨g, q * 7 + 5, none⟩ _ (Or.inr rfl)).set ⟨g, p * 7 + 3, none⟩ _ (Or.inr rfl)).drew
 ·have c4 := hr.na (C p) hf
  have HF0 := veil hf0
  generalize hff : C p = f at *
  have f0 : ¬ (f : Int) = 0 := by omega
  have fl0 : (0 : Int) ≤ (f : Int) := by omega
  have fl1 : (f : Int) < (L : Int) := by have := HLe.out; omega
  clear hr
  go_wp2
  go_region
  go_wp2
  go_ret
  refine ⟨rfl, ?_, ?_⟩
  ·exact ((((HR.out.setA f hf q).setA q hqn p).setB q hqn f).setC p hpn q).drew
  ·exact (((((Only.of_below HL.out).set ⟨g, f * 7 + 4, none⟩ _ (Or.inr rfl)).set ⟨g, q * 7 + 4, none⟩ _ (Or.inr rfl)).set ⟨g, q * 7 + 5, none⟩ _ (Or.inr rfl)).set ⟨g, p * 7 + 3, none⟩ _ (Or.inr rfl)).drew
set_option maxHeartbeats 4000000 in
set_option maxRecDepth 100000 in
theorem join_keep (h : Rep w b g n rt ct D S I C A B T) (p q : Nat) (hp : 1 ≤ p) (hpn : p ≤ n) (hq : 1 ≤ q) (hqn : q ≤ n) (hf : C p ≤ n) (hfq : C p ≠ q)
  (hbef : bef (D q) (S q) (I q) (D p) (S p) (I p) = false) :
  Calls Tryz.prog 225 #[.pointer (some ⟨b, 0, none⟩), .int .i64 p, .int .i64 q] w fun e w' => e = .returned (.int .i64 p) ∧
   Rep w' b g n rt ct D S I (upd C p q) (upd (if C p = 0 then A else upd A (C p) q) q p) (upd B q (C p)) T ∧ Only b g w w' := by
 obtain ⟨cp, e0⟩ := h.sl
 have ep0 := h.nd p hpn; have ep1 := h.ns p hpn; have ep2 := h.ni p hpn
 have eq0 := h.nd q hqn; have eq1 := h.ns q hqn; have eq2 := h.ni q hqn
 have p0 : ¬ (p : Int) = 0 := by omega
 have q0 : ¬ (q : Int) = 0 := by omega
 have pl : p < n + 1 := by omega
 have ql : q < n + 1 := by omega
 have pl0 : (0 : Int) ≤ (p : Int) := by omega
 have ql0 : (0 : Int) ≤ (q : Int) := by omega
 obtain ⟨L, hL⟩ : ∃ L, L = n + 1 := ⟨_, rfl⟩
 rw [← hL] at e0
 have pl1 : (p : Int) < (L : Int) := by omega
 have ql1 : (q : Int) < (L : Int) := by omega
 have HLe := veil hL
 clear hL pl ql
 have HB : Hid (∀ w1, Below w.heap.size w w1 → Rep w1 b g n rt ct D S I C A B T) := fun w1 hb => h.below hb
 have HE := before_ok (D q) (S q) (I q) (D p) (S p) (I p)
 rw [hbef] at HE
 have HE := veil HE
 have hbb := h.lt_b
 have hgg := h.lt_g
 clear h hbef
 go_enter Tryz.func225, Tryz.ntmps225
 go_wp2
 go_region_held3 (fun w' => w'.cell? ⟨b, 0, none⟩ = some (.slice (some ⟨g, 0, none⟩) L cp) ∧ w'.cell? ⟨g, p * 7, none⟩ = some (.int .u64 (D p)) ∧ w'.cell? ⟨g, p * 7 + 1, none⟩ = some (.int .u64 (S p)) ∧ w'.cell? ⟨g, p * 7 + 2, none⟩ = some (.int .i64 (I p)) ∧ w'.cell? ⟨g, q * 7, none⟩ = some (.int .u64 (D q)) ∧ w'.cell? ⟨g, q * 7 + 1, none⟩ = some (.int .u64 (S q)) ∧ w'.cell? ⟨g, q * 7 + 2, none⟩ = some (.int .i64 (I q)))
  (first | go_keep | exact ⟨(hb1.cell (p := ⟨b, 0, none⟩) hbb).trans e0, (hb1.cell (p := ⟨g, p * 7, none⟩) hgg).trans ep0, (hb1.cell (p := ⟨g, p * 7 + 1, none⟩) hgg).trans ep1, (hb1.cell (p := ⟨g, p * 7 + 2, none⟩) hgg).trans ep2, (hb1.cell (p := ⟨g, q * 7, none⟩) hgg).trans eq0, (hb1.cell (p := ⟨g, q * 7 + 1, none⟩) hgg).trans eq1, (hb1.cell (p := ⟨g, q * 7 + 2, none⟩) hgg).trans eq2⟩)
  ((go_at_call 232; refine (HE.out _).mono ?_; rintro e w1 ⟨rfl, hb1'⟩; have hb1 : Below w.heap.size w w1 := (show Below w.heap.size w w.drew from (Below.refl _ _).drew).trans hb1'; clear hb1'))
 have hr := HB.out _ hb1
 have HL := veil hb1
 have HR := veil hr
 clear hb1 e0 ep0 ep1 ep2 eq0 eq1 eq2
 obtain ⟨cp1, e0⟩ := hr.sl
 rw [← HLe.out] at e0
 have c1 := hr.nc p hpn
 have c2 := hr.na q hqn
 have c3 := hr.nb q hqn
 have fg := hr.fg
 by_cases hf0 : C p = 0
 ·rw [hf0] at c1
  have c1' : w1.cell? ⟨g, p * 7 + 3, none⟩ = some (.int .i64 0) := c1
  have HF0 := veil hf0
  clear hr c1 hf0 hf hfq
  go_wp2
  go_region
  go_wp2
  go_ret
  refine ⟨rfl, ?_, ?_⟩
  ·exact (((HR.out.setA q hqn p).setB q hqn 0).setC p hpn q).drew
  ·exact ((((Only.of_below HL.out).set ⟨g, q * 7 + 4, none⟩ _ (Or.inr rfl)).set ⟨g, q * 7 + 5, none⟩ _ (Or.inr rfl)).set ⟨g, p * 7 + 3, none⟩ _ (Or.inr rfl)).drew
 ·have c4 := hr.na (C p) hf
  have HF0 := veil hf0
  generalize hff : C p = f at *
  have f0 : ¬ (f : Int) = 0 := by omega
  have fl0 : (0 : Int) ≤ (f : Int) := by omega
  have fl1 : (f : Int) < (L : Int) := by have := HLe.out; omega
  clear hr
  go_wp2
  go_region
  go_wp2
  go_ret
  refine ⟨rfl, ?_, ?_⟩
  ·exact ((((HR.out.setA f hf q).setA q hqn p).setB q hqn f).setC p hpn q).drew
  ·exact (((((Only.of_below HL.out).set ⟨g, f * 7 + 4, none⟩ _ (Or.inr rfl)).set ⟨g, q * 7 + 4, none⟩ _ (Or.inr rfl)).set ⟨g, q * 7 + 5, none⟩ _ (Or.inr rfl)).set ⟨g, p * 7 + 3, none⟩ _ (Or.inr rfl)).drew
end
end Go.Proofs.YtjlbmmiomfpgiaaGreatDoor.Ph
namespace Go.Proofs.YtjlbmmiomfpgiaaGreatDoor.Ph
set_option maxRecDepth 100000
open Go.RowKit
attribute [local go_sem ↓] Go.wp_at_zero Go.wp_at_succ
section
variable {w : World} {b g n rt ct : Nat} {D S I C A B : Nat → Nat} {T : Nat → Bool}
set_option maxHeartbeats 4000000 in
theorem put_walk (h : Rep w b g n rt ct D S I C A B T) (id d s r : Nat) (hid : id < n) (hn : n ≤ 1024) (hct : ct ≤ 1024) {D' S' I' C' A' B' : Nat → Nat} {T' : Nat → Bool}
  (hJ : ∀ w1, Rep w1 b g n rt ct (upd D (id + 1) d) (upd S (id + 1) s) (upd I (id + 1) id) (upd C (id + 1) 0) (upd A (id + 1) 0) (upd B (id + 1) 0) (upd T (id + 1) true) → Calls Tryz.prog 225 #[.pointer (some ⟨b, 0, none⟩), .int .i64 (rt : Int), .int .i64 ((id : Int) + 1)] w1 fun e w' => e = .returned (.int .i64 (r : Int)) ∧ Rep w' b g n rt ct D' S' I' C' A' B' T' ∧ Only b g w1 w') :
  Calls Tryz.prog 229 #[.pointer (some ⟨b, 0, none⟩), .agg #[.int .u64 (d : Int), .int .u64 (s : Int), .int .i64 (id : Int)]] w fun e w' => e = .returned (.tuple #[]) ∧ Rep w' b g n r (ct + 1) D' S' I' C' A' B' T' ∧ Only b g w w' := by
 have hi : id + 1 ≤ n := by omega
 obtain ⟨cp, e0⟩ := h.sl
 have e1 := h.rt
 have e2 := h.ct
 have n0 := h.nd (id + 1) hi; have n1 := h.ns (id + 1) hi; have n2 := h.ni (id + 1) hi; have n3 := h.nc (id + 1) hi; have n4 := h.na (id + 1) hi; have n5 := h.nb (id + 1) hi; have n6 := h.nt (id + 1) hi
 have fg := h.fg
 have fb := h.fb
 have hbb := h.lt_b
 have hgg := h.lt_g
 have hbg := h.bg
 have hgb : g ≠ b := fun e => hbg e.symm
 have y1 : ¬ b = w.heap.size := by omega
 have y2 : ¬ g = w.heap.size := by omega
 have HO0 : Hid (Only b g w (((((((((w.setCell ⟨g, (id + 1) * 7, none⟩ (.int .u64 (d : Int))).setCell ⟨g, (id + 1) * 7 + 1, none⟩ (.int .u64 (s : Int))).setCell ⟨g, (id + 1) * 7 + 2, none⟩ (.int .i64 (id : Int))).setCell ⟨g, (id + 1) * 7 + 3, none⟩ (.int .i64 0)).setCell ⟨g, (id + 1) * 7 + 4, none⟩ (.int .i64 0)).setCell ⟨g, (id + 1) * 7 + 5, none⟩ (.int .i64 0)).setCell ⟨g, (id + 1) * 7 + 6, none⟩ (.bool true)).alloc (.cells #[.int .u64 (d : Int), .int .u64 (s : Int), .int .i64 (id : Int)] 276)).drew)) :=
  ((((((((((Only.refl b g w).set _ _ (Or.inr rfl)).set _ _ (Or.inr rfl)).set _ _ (Or.inr rfl)).set _ _ (Or.inr rfl)).set _ _ (Or.inr rfl)).set _ _ (Or.inr rfl)).set _ _ (Or.inr rfl)).alloc _).drew)
 have HR0 : Hid (Rep (((((((((w.setCell ⟨g, (id + 1) * 7, none⟩ (.int .u64 (d : Int))).setCell ⟨g, (id + 1) * 7 + 1, none⟩ (.int .u64 (s : Int))).setCell ⟨g, (id + 1) * 7 + 2, none⟩ (.int .i64 (id : Int))).setCell ⟨g, (id + 1) * 7 + 3, none⟩ (.int .i64 0)).setCell ⟨g, (id + 1) * 7 + 4, none⟩ (.int .i64 0)).setCell ⟨g, (id + 1) * 7 + 5, none⟩ (.int .i64 0)).setCell ⟨g, (id + 1) * 7 + 6, none⟩ (.bool true)).alloc (.cells #[.int .u64 (d : Int), .int .u64 (s : Int), .int .i64 (id : Int)] 276)).drew) b g n rt ct (upd D (id + 1) d) (upd S (id + 1) s) (upd I (id + 1) id) (upd C (id + 1) 0) (upd A (id + 1) 0) (upd B (id + 1) 0) (upd T (id + 1) true)) :=
  ((((((((h.setD (id + 1) hi d).setS (id + 1) hi s).setI (id + 1) hi id).setC (id + 1) hi 0).setA (id + 1) hi 0).setB (id + 1) hi 0).setT (id + 1) hi true).alloc _).drew
 have HJ := veil hJ
 clear h hJ
 go_enter Tryz.func229, Tryz.ntmps229
 go_wp2
 go_region
 go_wp2_with (go_at_call 225; refine (HJ.out _ HR0.out).mono ?_; rintro e w2 ⟨rfl, hr2, ho2⟩; have r1 := hr2.rt; have r2 := hr2.ct; have r3 := hr2.fb; have HR2 := veil hr2; have HO2 := veil (HO0.out.trans ho2); clear hr2 ho2)
 go_end0
 refine ⟨rfl, (HR2.out.setR r).setN (ct + 1), (HO2.out.set ⟨b, 1, none⟩ _ (Or.inl rfl)).set ⟨b, 2, none⟩ _ (Or.inl rfl)⟩
end
end Go.Proofs.YtjlbmmiomfpgiaaGreatDoor.Ph
namespace Go.Proofs.YtjlbmmiomfpgiaaGreatDoor.Ph
set_option maxRecDepth 100000
open Go.RowKit
attribute [local go_sem ↓] Go.wp_at_zero Go.wp_at_succ
section
variable {w : World} {b g n rt ct : Nat} {D S I C A B : Nat → Nat} {T : Nat → Bool}
set_option maxHeartbeats 2000000 in
theorem cut_child (h : Rep w b g n rt ct D S I C A B T) (x a : Nat) (hxn : x ≤ n) (han : a ≤ n) (h1 : A x = a) (h2 : C a = x) (h3 : B x = 0) :
  Calls Tryz.prog 224 #[.pointer (some ⟨b, 0, none⟩), .int .i64 x] w fun e w' => e = .returned (.tuple #[]) ∧ Rep w' b g n rt ct D S I (upd C a 0) A B T ∧ Only b g w w' := by
 obtain ⟨cp, e0⟩ := h.sl
 have n0 := h.nd x hxn; have n1 := h.ns x hxn; have n2 := h.ni x hxn; have n3 := h.nc x hxn; have n4 := h.na x hxn; have n5 := h.nb x hxn; have n6 := h.nt x hxn
 rw [h1] at n4
 rw [h3] at n5
 have n5' : w.cell? ⟨g, x * 7 + 5, none⟩ = some (.int .i64 0) := n5
 have c1 := h.nc a han
 rw [h2] at c1
 have fg := h.fg
 have hbb := h.lt_b
 have hgg := h.lt_g
 have y1 : ¬ b = w.heap.size := by omega
 have y2 : ¬ g = w.heap.size := by omega
 have xl : x < n + 1 := by omega
 have al : a < n + 1 := by omega
 have HR := veil h
 clear h h1 h2 h3 n5
 go_enter Tryz.func224, Tryz.ntmps224
 go_wp2
 go_quiet (fail)
 go_wp2
 go_region
 go_wp2
 go_end0
 exact ⟨rfl, ((HR.out.alloc _).drewN _).setC a han 0, (((Only.refl b g w).alloc _).drewN _).set _ _ (Or.inr rfl)⟩
end
end Go.Proofs.YtjlbmmiomfpgiaaGreatDoor.Ph
namespace Go.Proofs.YtjlbmmiomfpgiaaGreatDoor.Ph
set_option maxRecDepth 100000
open Go.RowKit
attribute [local go_sem ↓] Go.wp_at_zero Go.wp_at_succ
section
variable {w : World} {b g n rt ct : Nat} {D S I C A B : Nat → Nat} {T : Nat → Bool}
theorem zero_node (h : Rep w b g n rt ct D S I C A B T) (x : Nat) (hx : x ≤ n) :
  Rep (((((((w.setCell ⟨g, x * 7, none⟩ (.int .u64 0)).setCell ⟨g, x * 7 + 1, none⟩ (.int .u64 0)).setCell ⟨g, x * 7 + 2, none⟩ (.int .i64 0)).setCell ⟨g, x * 7 + 3, none⟩ (.int .i64 0)).setCell ⟨g, x * 7 + 4, none⟩ (.int .i64 0)).setCell ⟨g, x * 7 + 5, none⟩ (.int .i64 0)).setCell ⟨g, x * 7 + 6, none⟩ (.bool false)) b g n rt ct (upd D x 0) (upd S x 0) (upd I x 0) (upd C x 0) (upd A x 0) (upd B x 0) (upd T x false) :=
 ((((((h.setD x hx 0).setS x hx 0).setI x hx 0).setC x hx 0).setA x hx 0).setB x hx 0).setT x hx false
end
end Go.Proofs.YtjlbmmiomfpgiaaGreatDoor.Ph
namespace Go.Proofs.YtjlbmmiomfpgiaaGreatDoor.Ph
set_option maxRecDepth 100000
open Go.RowKit
section
variable {w : World} {b g n rt ct : Nat} {D S I C A B : Nat → Nat} {T : Nat → Bool}
theorem may_yes (h : Rep w b g n rt ct D S I C A B T) (id : Nat) (hn : n ≤ 1024) (hid : id < n) :
  Calls Tryz.prog 213 #[.pointer (some ⟨b, 0, none⟩), .int .i64 id] w fun e w' => e = .returned (.bool true) ∧ w' = w := by
 obtain ⟨cp, e0⟩ := h.sl
 clear h
 go_enter Tryz.func213, Tryz.ntmps213
 go_wp2
 go_ret
 exact ⟨by simp, rfl⟩
theorem insert_walk (h : Rep w b g n rt ct D S I C A B T) (id d s : Nat) (hn : n ≤ 1024) (hid : id < n) (hT : T (id + 1) = false) (P : World → Prop)
  (hP : Calls Tryz.prog 229 #[.pointer (some ⟨b, 0, none⟩), .agg #[.int .u64 (d : Int), .int .u64 (s : Int), .int .i64 (id : Int)]] w fun e w' => e = .returned (.tuple #[]) ∧ P w') :
  Calls Tryz.prog 215 #[.pointer (some ⟨b, 0, none⟩), .int .i64 (id : Int), .int .u64 (d : Int), .int .u64 (s : Int)] w fun e w' => e = .returned (.int .i64 0) ∧ P w' := by
 have HM := veil (may_yes h id hn hid)
 have HP := veil hP
 obtain ⟨cp, e0⟩ := h.sl
 have e1 := h.nt (id + 1) (by omega)
 rw [hT] at e1
 clear h hP hT
 go_enter Tryz.func215, Tryz.ntmps215
 go_wp2_with (first
  | (go_at_call 213; refine (HM.out).mono ?_; rintro e w1 ⟨rfl, hw⟩; replace hw := hw.symm; subst hw)
  | (go_at_call 229; refine (HP.out).mono ?_; rintro e w2 ⟨rfl, hp⟩; have HP2 := veil hp; clear hp))
 go_ret
 exact ⟨rfl, HP2.out⟩
theorem delete_walk (h : Rep w b g n rt ct D S I C A B T) (id : Nat) (hn : n ≤ 1024) (hid : id < n) (hT : T (id + 1) = true) (P : World → Prop)
  (hP : Calls Tryz.prog 208 #[.pointer (some ⟨b, 0, none⟩), .int .i64 ((id + 1 : Nat) : Int)] w fun e w' => e = .returned (.tuple #[]) ∧ P w') :
  Calls Tryz.prog 194 #[.pointer (some ⟨b, 0, none⟩), .int .i64 (id : Int)] w fun e w' => e = .returned (.int .i64 0) ∧ P w' := by
 have HM := veil (may_yes h id hn hid)
 have HP := veil hP
 obtain ⟨cp, e0⟩ := h.sl
 have e1 := h.nt (id + 1) (by omega)
 rw [hT] at e1
 clear h hP hT
 go_enter Tryz.func194, Tryz.ntmps194
 go_wp2_with (first
  | (go_at_call 213; refine (HM.out).mono ?_; rintro e w1 ⟨rfl, hw⟩; replace hw := hw.symm; subst hw)
  | (go_at_call 208; refine (HP.out).mono ?_; rintro e w2 ⟨rfl, hp⟩; have HP2 := veil hp; clear hp))
 go_ret
 exact ⟨rfl, HP2.out⟩
theorem min_walk (h : Rep w b g n rt ct D S I C A B T) (h1 : 1 ≤ rt) (h2 : rt ≤ n) :
  Calls Tryz.prog 207 #[.pointer (some ⟨b, 0, none⟩)] w fun e w' => e = .returned (.tuple #[.int .i64 (I rt : Int), .bool true]) ∧ ∃ q, w' = w.drewN q := by
 obtain ⟨cp, e0⟩ := h.sl
 have e1 := h.rt
 have e2 := h.ni rt h2
 have r0 : ¬ (rt : Int) = 0 := by omega
 have rl : rt < n + 1 := by omega
 clear h
 go_enter Tryz.func207, Tryz.ntmps207
 go_wp2
 go_quiet (fail)
 go_wp2
 go_ret2
 exact ⟨rfl, _, rfl⟩
end
end Go.Proofs.YtjlbmmiomfpgiaaGreatDoor.Ph
namespace Go.Proofs.YtjlbmmiomfpgiaaGreatDoor.Ph
set_option maxRecDepth 100000
open Go.RowKit
end Go.Proofs.YtjlbmmiomfpgiaaGreatDoor.Ph
namespace Go.Proofs.YtjlbmmiomfpgiaaGreatDoor.Ph
set_option maxRecDepth 100000
inductive BT where
 | nil : BT
 | node (s : Nat) (c x : BT) : BT
def BT.root : BT → Nat
 | .nil => 0
 | .node s _ _ => s
def BT.spots : BT → List Nat
 | .nil => []
 | .node s c x => s :: (c.spots ++ x.spots)
def Linked (C A B : Nat → Nat) : Nat → BT → Prop
 | _, .nil => True
 | p, .node s c x => A s = p ∧ C s = c.root ∧ B s = x.root ∧ Linked C A B s c ∧ Linked C A B s x
def Tree (C A B : Nat → Nat) (r : Nat) (c : BT) : Prop := C r = c.root ∧ B r = 0 ∧ Linked C A B r c
theorem linked_congr {C A B C' A' B' : Nat → Nat} : ∀ (t : BT) (p : Nat), (∀ s ∈ t.spots, C' s = C s ∧ A' s = A s ∧ B' s = B s) → Linked C A B p t → Linked C' A' B' p t
 | .nil, _, _, _ => trivial
 | .node s c x, p, h, hl => by
  obtain ⟨h1, h2, h3, h4, h5⟩ := hl
  obtain ⟨a1, a2, a3⟩ := h s (by simp [BT.spots])
  exact ⟨a2.trans h1, a1.trans h2, a3.trans h3, linked_congr c s (fun y hy => h y (by simp [BT.spots, hy])) h4, linked_congr x s (fun y hy => h y (by simp [BT.spots, hy])) h5⟩
theorem linked_move {C A B A' : Nat → Nat} (t : BT) (p q : Nat) (hn : t.spots.Nodup) (h0 : t.root ∈ t.spots → A' t.root = q) (h : ∀ s ∈ t.spots, s ≠ t.root → A' s = A s) (hl : Linked C A B p t) : Linked C A' B q t := by
 cases t with
 | nil => trivial
 | node s c x =>
  obtain ⟨h1, h2, h3, h4, h5⟩ := hl
  simp only [BT.spots, List.nodup_cons, List.mem_append, not_or] at hn
  refine ⟨h0 (by simp [BT.spots, BT.root]), h2, h3, ?_, ?_⟩
  ·exact linked_congr c s (fun y hy => ⟨rfl, h y (by simp [BT.spots, hy]) (fun e => hn.1.1 (by rw [BT.root] at e; exact e ▸ hy)), rfl⟩) h4
  ·exact linked_congr x s (fun y hy => ⟨rfl, h y (by simp [BT.spots, hy]) (fun e => hn.1.2 (by rw [BT.root] at e; exact e ▸ hy)), rfl⟩) h5
theorem root_mem {t : BT} (h : t ≠ .nil) : t.root ∈ t.spots := by
 cases t with
 | nil => exact absurd rfl h
 | node s c x => simp [BT.root, BT.spots]
theorem tree_join {C A B : Nat → Nat} {p q : Nat} {cp cq : BT} (hp : Tree C A B p cp) (hq : Tree C A B q cq) (hn : (p :: q :: (cq.spots ++ cp.spots)).Nodup) (h0 : ∀ s ∈ cp.spots, s ≠ 0) :
  Tree (upd C p q) (upd (if C p = 0 then A else upd A (C p) q) q p) (upd B q (C p)) p (.node q cq cp) := by
 obtain ⟨p1, p2, p3⟩ := hp
 obtain ⟨q1, q2, q3⟩ := hq
 simp only [List.nodup_cons, List.mem_cons, List.mem_append, not_or, List.nodup_append] at hn
 obtain ⟨⟨npq, npc, npd⟩, ⟨nqc, nqd⟩, hc, hd, hcd⟩ := hn
 have hqp : q ≠ p := fun e => npq e.symm
 refine ⟨by rw [upd_same]; rfl, by rw [upd_other _ _ _ _ npq]; exact p2, by rw [upd_same], by rw [upd_other _ _ _ _ hqp]; exact q1, by rw [upd_same]; exact p1, ?_, ?_⟩
 ·refine linked_congr cq q (fun s hs => ⟨upd_other _ _ _ _ (fun e => npc (e ▸ hs)), ?_, upd_other _ _ _ _ (fun e => nqc (e ▸ hs))⟩) q3
  have hsq : s ≠ q := fun e => nqc (e ▸ hs)
  rw [upd_other _ _ _ _ hsq]
  by_cases hz : C p = 0
  ·rw [if_pos hz]
  ·rw [if_neg hz, upd_other]
   intro e
   have hne : cp ≠ .nil := fun q => hz (by rw [p1, q]; rfl)
   exact hcd s hs (C p) (by rw [p1]; exact root_mem hne) e
 ·have hm : Linked C (upd (if C p = 0 then A else upd A (C p) q) q p) B q cp := by
   refine linked_move cp p q hd (fun hr => ?_) (fun s hs hne => ?_) p3
   ·have hz : ¬ C p = 0 := by rw [p1]; exact h0 _ hr
    have hrq : cp.root ≠ q := fun e => nqd (e ▸ hr)
    rw [upd_other _ _ _ _ hrq, if_neg hz, p1, upd_same]
   ·have hsq : s ≠ q := fun e => nqd (e ▸ hs)
    rw [upd_other _ _ _ _ hsq]
    by_cases hz : C p = 0
    ·rw [if_pos hz]
    ·rw [if_neg hz, upd_other _ _ _ _ (by rw [p1]; exact hne)]
  exact linked_congr cp q (fun s hs => ⟨upd_other _ _ _ _ (fun e => npd (e ▸ hs)), rfl, upd_other _ _ _ _ (fun e => nqd (e ▸ hs))⟩) hm
def Ord (le : Nat → Nat → Prop) : BT → Prop
 | .nil => True
 | .node s c x => (∀ y ∈ c.spots, le s y) ∧ Ord le c ∧ Ord le x
theorem ord_join {le : Nat → Nat → Prop} (tr : ∀ a b c, le a b → le b c → le a c) {p q : Nat} {cp cq : BT} (hpq : le p q) (hp : ∀ y ∈ cp.spots, le p y) (hq : ∀ y ∈ cq.spots, le q y) (op : Ord le cp) (oq : Ord le cq) :
  (∀ y ∈ (BT.node q cq cp).spots, le p y) ∧ Ord le (.node q cq cp) := by
 refine ⟨fun y hy => ?_, hq, oq, op⟩
 simp only [BT.spots, List.mem_cons, List.mem_append] at hy
 rcases hy with rfl | hy | hy
 ·exact hpq
 ·exact tr _ _ _ hpq (hq y hy)
 ·exact hp y hy
end Go.Proofs.YtjlbmmiomfpgiaaGreatDoor.Ph
namespace Go.Proofs.YtjlbmmiomfpgiaaGreatDoor.Ph
set_option maxRecDepth 100000
open Go.RowKit
attribute [local go_sem ↓] Go.wp_at_zero Go.wp_at_succ
section
variable {w : World} {b g n rt ct : Nat} {D S I C A B : Nat → Nat} {T : Nat → Bool}
set_option maxHeartbeats 4000000 in
theorem cut_any (h : Rep w b g n rt ct D S I C A B T) (x a f : Nat) (hxn : x ≤ n) (han : a ≤ n) (hfn : f ≤ n) (h1 : A x = a) (h3 : B x = f) :
  Calls Tryz.prog 224 #[.pointer (some ⟨b, 0, none⟩), .int .i64 x] w fun e w' => e = .returned (.tuple #[]) ∧ Rep w' b g n rt ct D S I (if C a = x then upd C a f else C) (if f = 0 then A else upd A f a) (if C a = x then B else upd B a f) T ∧ Only b g w w' := by
 obtain ⟨cp, e0⟩ := h.sl
 have n0 := h.nd x hxn; have n1 := h.ns x hxn; have n2 := h.ni x hxn; have n3 := h.nc x hxn; have n4 := h.na x hxn; have n5 := h.nb x hxn; have n6 := h.nt x hxn
 rw [h1] at n4
 rw [h3] at n5
 have c1 := h.nc a han
 have c2 := h.nb a han
 have c3 := h.na f hfn
 have fg := h.fg
 have hbb := h.lt_b
 have hgg := h.lt_g
 have y1 : ¬ b = w.heap.size := by omega
 have y2 : ¬ g = w.heap.size := by omega
 have xl : x < n + 1 := by omega
 have al : a < n + 1 := by omega
 have fl : f < n + 1 := by omega
 have HR := veil h
 clear h h1 h3
 by_cases hc : C a = x
 ·have hci : (C a : Int) = (x : Int) := by omega
  by_cases hf : f = 0
  ·subst hf
   rw [hc] at c1
   have n5' : w.cell? ⟨g, x * 7 + 5, none⟩ = some (.int .i64 0) := n5
   clear hci n5
   go_enter Tryz.func224, Tryz.ntmps224
   go_wp2
   go_quiet (fail)
   go_wp2
   go_region
   go_wp2
   go_end0
   exact ⟨rfl, ((HR.out.alloc _).drewN _).setC a han 0, (((Only.refl b g w).alloc _).drewN _).set _ _ (Or.inr rfl)⟩
  ·have f0 : ¬ (f : Int) = 0 := by omega
   rw [hc] at c1
   clear hci
   go_enter Tryz.func224, Tryz.ntmps224
   go_wp2
   go_quiet (fail)
   go_wp2
   go_region
   go_wp2
   go_region
   go_wp2
   go_end0
   exact ⟨rfl, ((((HR.out.alloc _).drewN _).setC a han f).setA f hfn a).drew, (((((Only.refl b g w).alloc _).drewN _).set _ _ (Or.inr rfl)).set _ _ (Or.inr rfl)).drew⟩
 ·have hci : ¬ (C a : Int) = (x : Int) := by omega
  by_cases hf : f = 0
  ·subst hf
   have n5' : w.cell? ⟨g, x * 7 + 5, none⟩ = some (.int .i64 0) := n5
   clear n5
   go_enter Tryz.func224, Tryz.ntmps224
   go_wp2
   go_quiet (fail)
   go_wp2
   go_region
   go_wp2
   go_end0
   exact ⟨rfl, ((HR.out.alloc _).drewN _).setB a han 0, (((Only.refl b g w).alloc _).drewN _).set _ _ (Or.inr rfl)⟩
  ·have f0 : ¬ (f : Int) = 0 := by omega
   go_enter Tryz.func224, Tryz.ntmps224
   go_wp2
   go_quiet (fail)
   go_wp2
   go_region
   go_wp2
   go_region
   go_wp2
   go_end0
   exact ⟨rfl, ((((HR.out.alloc _).drewN _).setB a han f).setA f hfn a).drew, (((((Only.refl b g w).alloc _).drewN _).set _ _ (Or.inr rfl)).set _ _ (Or.inr rfl)).drew⟩
end
end Go.Proofs.YtjlbmmiomfpgiaaGreatDoor.Ph
namespace Go.Proofs.YtjlbmmiomfpgiaaGreatDoor.Ph
set_option maxRecDepth 100000
def BT.cut (s : Nat) : BT → BT
 | .nil => .nil
 | .node r c x => if r = s then x else .node r (c.cut s) (x.cut s)
theorem cut_out (s : Nat) : ∀ t : BT, s ∉ t.spots → t.cut s = t
 | .nil, _ => rfl
 | .node r c x, h => by
  simp only [BT.spots, List.mem_cons, List.mem_append, not_or] at h
  rw [BT.cut, if_neg (fun e => h.1 e.symm), cut_out s c h.2.1, cut_out s x h.2.2]
theorem cut_root (s : Nat) (t : BT) (h : t.root ≠ s) : (t.cut s).root = t.root := by
 cases t with
 | nil => rfl
 | node r c x => rw [BT.cut, if_neg (show ¬ r = s from h)]; rfl
theorem linked_near {C A B : Nat → Nat} : ∀ (t : BT) (p s : Nat), Linked C A B p t → s ∈ t.spots →
  ((s = t.root ∧ A s = p) ∨ A s ∈ t.spots) ∧ (B s = 0 ∨ B s ∈ t.spots)
 | .nil, _, _, _, h => by simp [BT.spots] at h
 | .node r c x, p, s, hl, hs => by
  obtain ⟨h1, h2, h3, h4, h5⟩ := hl
  simp only [BT.spots, List.mem_cons, List.mem_append] at hs ⊢
  rcases hs with rfl | hs | hs
  ·refine ⟨.inl ⟨rfl, h1⟩, ?_⟩
   rw [h3]
   cases x with
   | nil => exact .inl rfl
   | node y cy xy => exact .inr (.inr (.inr (by simp [BT.root, BT.spots])))
  ·obtain ⟨a, b⟩ := linked_near c r s h4 hs
   refine ⟨.inr ?_, ?_⟩
   ·rcases a with ⟨_, a⟩ | a
    ·exact .inl a
    ·exact .inr (.inl a)
   ·rcases b with b | b
    ·exact .inl b
    ·exact .inr (.inr (.inl b))
  ·obtain ⟨a, b⟩ := linked_near x r s h5 hs
   refine ⟨.inr ?_, ?_⟩
   ·rcases a with ⟨_, a⟩ | a
    ·exact .inl a
    ·exact .inr (.inr a)
   ·rcases b with b | b
    ·exact .inl b
    ·exact .inr (.inr (.inr b))
def cutC (C A B : Nat → Nat) (s : Nat) : Nat → Nat := if C (A s) = s then upd C (A s) (B s) else C
def cutB (C A B : Nat → Nat) (s : Nat) : Nat → Nat := if C (A s) = s then B else upd B (A s) (B s)
def cutA (_C A B : Nat → Nat) (s : Nat) : Nat → Nat := if B s = 0 then A else upd A (B s) (A s)
theorem cutC_off {C A B : Nat → Nat} {s y : Nat} (h : y ≠ A s) : cutC C A B s y = C y := by
 rw [cutC]; split
 ·exact upd_other _ _ _ _ h
 ·rfl
theorem cutB_off {C A B : Nat → Nat} {s y : Nat} (h : y ≠ A s) : cutB C A B s y = B y := by
 rw [cutB]; split
 ·rfl
 ·exact upd_other _ _ _ _ h
theorem cutA_off {C A B : Nat → Nat} {s y : Nat} (h : B s = 0 ∨ y ≠ B s) : cutA C A B s y = A y := by
 rw [cutA]; split
 ·rfl
 ·rename_i hz
  exact upd_other _ _ _ _ (h.resolve_left hz)
theorem linked_cut {C A B : Nat → Nat} : ∀ (t : BT) (p s : Nat), Linked C A B p t → (p :: t.spots).Nodup → (∀ y ∈ t.spots, y ≠ 0) → s ∈ t.spots →
  Linked (cutC C A B s) (cutA C A B s) (cutB C A B s) p (t.cut s) ∧ (s = t.root → (t.cut s).root = B s)
 | .nil, _, _, _, _, _, h => by simp [BT.spots] at h
 | .node r c x, p, s, hl, hn, h0, hs => by
  obtain ⟨h1, h2, h3, h4, h5⟩ := hl
  simp only [BT.spots, List.nodup_cons, List.mem_cons, List.mem_append, not_or, List.nodup_append] at hn hs
  obtain ⟨⟨npr, npc, npx⟩, ⟨nrc, nrx⟩, hc, hx, hcx⟩ := hn
  have h0c : ∀ y ∈ c.spots, y ≠ 0 := fun y hy => h0 y (by simp [BT.spots, hy])
  have h0x : ∀ y ∈ x.spots, y ≠ 0 := fun y hy => h0 y (by simp [BT.spots, hy])
  have ncr : (r :: c.spots).Nodup := List.nodup_cons.2 ⟨nrc, hc⟩
  have nxr : (r :: x.spots).Nodup := List.nodup_cons.2 ⟨nrx, hx⟩
  rcases hs with rfl | hs | hs
  ·have e : (BT.node s c x).cut s = x := by rw [BT.cut, if_pos rfl]
   rw [e]
   refine ⟨?_, fun _ => h3.symm⟩
   have hm : Linked C (cutA C A B s) B p x := by
    refine linked_move x s p hx (fun hr => ?_) (fun y hy hne => cutA_off (.inr (by rw [h3]; exact hne))) h5
    have hz : B s ≠ 0 := by rw [h3]; exact h0x _ hr
    rw [cutA, if_neg hz, h3, upd_same, h1]
   exact linked_congr x p (fun y hy => ⟨cutC_off (by rw [h1]; exact fun e => npx (e ▸ hy)), rfl, cutB_off (by rw [h1]; exact fun e => npx (e ▸ hy))⟩) hm
  ·have hrs : r ≠ s := fun e => nrc (e ▸ hs)
   have nsx : s ∉ x.spots := fun q => hcx s hs s q rfl
   have e : (BT.node r c x).cut s = .node r (c.cut s) x := by rw [BT.cut, if_neg hrs, cut_out s x nsx]
   rw [e]
   refine ⟨?_, fun q => absurd q.symm hrs⟩
   obtain ⟨i1, i2⟩ := linked_cut c r s h4 ncr h0c hs
   obtain ⟨a, b⟩ := linked_near c r s h4 hs
   have hbx : ∀ y ∈ x.spots, B s = 0 ∨ y ≠ B s := fun y hy => b.imp id (fun b q => hcx _ b y hy q.symm)
   have hax : ∀ y ∈ x.spots, y ≠ A s := fun y hy q => by
    rcases a with ⟨_, a⟩ | a
    ·exact nrx (by rw [← a, ← q]; exact hy)
    ·exact hcx _ a y hy q.symm
   refine ⟨?_, ?_, ?_, i1, linked_congr x r (fun y hy => ⟨cutC_off (hax y hy), cutA_off (hbx y hy), cutB_off (hax y hy)⟩) h5⟩
   ·rw [cutA_off (y := r) (s := s) (b.imp id (fun b q => nrc (by rw [q]; exact b)))]; exact h1
   ·by_cases hq : s = c.root
    ·have ha : A s = r := by
      rcases a with ⟨_, a⟩ | a
      ·exact a
      ·cases c with
       | nil => simp [BT.spots] at hs
       | node z cz xz => rw [BT.root] at hq; rw [hq]; exact h4.1
     rw [cutC, if_pos (by rw [ha, h2]; exact hq.symm), ha, upd_same, i2 hq]
    ·have ha : r ≠ A s := by
      rcases a with ⟨a, _⟩ | a
      ·exact absurd a hq
      ·exact fun q => nrc (q ▸ a)
     rw [cutC_off ha, cut_root s c (fun q => hq q.symm)]; exact h2
   ·by_cases hq : s = c.root
    ·have ha : A s = r := by
      cases c with
       | nil => simp [BT.spots] at hs
       | node z cz xz => rw [BT.root] at hq; rw [hq]; exact h4.1
     rw [cutB, if_pos (by rw [ha, h2]; exact hq.symm)]; exact h3
    ·have ha : r ≠ A s := by
      rcases a with ⟨a, _⟩ | a
      ·exact absurd a hq
      ·exact fun q => nrc (q ▸ a)
     rw [cutB_off ha]; exact h3
  ·have hrs : r ≠ s := fun e => nrx (e ▸ hs)
   have nsc : s ∉ c.spots := fun q => hcx s q s hs rfl
   have e : (BT.node r c x).cut s = .node r c (x.cut s) := by rw [BT.cut, if_neg hrs, cut_out s c nsc]
   rw [e]
   refine ⟨?_, fun q => absurd q.symm hrs⟩
   obtain ⟨i1, i2⟩ := linked_cut x r s h5 nxr h0x hs
   obtain ⟨a, b⟩ := linked_near x r s h5 hs
   have hbc : ∀ y ∈ c.spots, B s = 0 ∨ y ≠ B s := fun y hy => b.imp id (fun b q => hcx y hy _ b q)
   have hac : ∀ y ∈ c.spots, y ≠ A s := fun y hy q => by
    rcases a with ⟨_, a⟩ | a
    ·exact nrc (by rw [← a, ← q]; exact hy)
    ·exact hcx y hy _ a q
   have hcs : c.root ≠ s := fun q => by
    cases c with
    | nil => exact h0x s hs q.symm
    | node z cz xz => exact nsc (by rw [BT.root] at q; simp [BT.spots, q])
   refine ⟨?_, ?_, ?_, linked_congr c r (fun y hy => ⟨cutC_off (hac y hy), cutA_off (hbc y hy), cutB_off (hac y hy)⟩) h4, i1⟩
   ·rw [cutA_off (y := r) (s := s) (b.imp id (fun b q => nrx (by rw [q]; exact b)))]; exact h1
   ·by_cases ha : r = A s
    ·rw [cutC, if_neg (by rw [← ha, h2]; exact hcs)]; exact h2
    ·rw [cutC_off ha]; exact h2
   ·by_cases hq : s = x.root
    ·have ha : A s = r := by
      cases x with
       | nil => simp [BT.spots] at hs
       | node z cz xz => rw [BT.root] at hq; rw [hq]; exact h5.1
     rw [cutB, if_neg (by rw [ha, h2]; exact hcs), ha, upd_same, i2 hq]
    ·have ha : r ≠ A s := by
      rcases a with ⟨a, _⟩ | a
      ·exact absurd a hq
      ·exact fun q => nrx (q ▸ a)
     rw [cutB_off ha, cut_root s x (fun q => hq q.symm)]; exact h3
theorem cut_spots (s : Nat) : ∀ (t : BT) (y : Nat), y ∈ (t.cut s).spots → y ∈ t.spots
 | .nil, _, h => h
 | .node r c x, y, h => by
  rw [BT.cut] at h
  split at h
  ·simp [BT.spots, h]
  ·simp only [BT.spots, List.mem_cons, List.mem_append] at h ⊢
   rcases h with h | h | h
   ·exact .inl h
   ·exact .inr (.inl (cut_spots s c y h))
   ·exact .inr (.inr (cut_spots s x y h))
theorem ord_cut {le : Nat → Nat → Prop} (s : Nat) : ∀ (t : BT), Ord le t → Ord le (t.cut s)
 | .nil, _ => trivial
 | .node r c x, ⟨h1, h2, h3⟩ => by
  rw [BT.cut]
  split
  ·exact h3
  ·exact ⟨fun y hy => h1 y (cut_spots s c y hy), ord_cut s c h2, ord_cut s x h3⟩
end Go.Proofs.YtjlbmmiomfpgiaaGreatDoor.Ph
namespace Go.Proofs.YtjlbmmiomfpgiaaGreatDoor.Ph
set_option maxRecDepth 100000
def Row (C A B : Nat → Nat) : BT → Prop
 | .nil => True
 | .node s c x => C s = c.root ∧ B s = x.root ∧ Linked C A B s c ∧ Row C A B x
theorem linked_row {C A B : Nat → Nat} : ∀ (t : BT) (p : Nat), Linked C A B p t → Row C A B t
 | .nil, _, _ => trivial
 | .node s _ x, _, ⟨_, h2, h3, h4, h5⟩ => ⟨h2, h3, h4, linked_row x s h5⟩
theorem row_congr {C A B C' A' B' : Nat → Nat} : ∀ (t : BT), (∀ s ∈ t.spots, C' s = C s ∧ A' s = A s ∧ B' s = B s) → Row C A B t → Row C' A' B' t
 | .nil, _, _ => trivial
 | .node s c x, h, ⟨h2, h3, h4, h5⟩ => by
  obtain ⟨a1, _, a3⟩ := h s (by simp [BT.spots])
  exact ⟨a1.trans h2, a3.trans h3, linked_congr c s (fun y hy => h y (by simp [BT.spots, hy])) h4, row_congr x (fun y hy => h y (by simp [BT.spots, hy])) h5⟩
def joC (C : Nat → Nat) (p q : Nat) : Nat → Nat := upd C p q
def joA (C A : Nat → Nat) (p q : Nat) : Nat → Nat := upd (if C p = 0 then A else upd A (C p) q) q p
def joB (C B : Nat → Nat) (p q : Nat) : Nat → Nat := upd B q (C p)
theorem jo_off {C A B : Nat → Nat} {p q : Nat} {cp : BT} (h : C p = cp.root) {y : Nat} (h1 : y ≠ p) (h2 : y ≠ q) (h3 : y ∉ cp.spots) :
  joC C p q y = C y ∧ joA C A p q y = A y ∧ joB C B p q y = B y := by
 refine ⟨upd_other _ _ _ _ h1, ?_, upd_other _ _ _ _ h2⟩
 rw [joA, upd_other _ _ _ _ h2]
 by_cases hz : C p = 0
 ·rw [if_pos hz]
 ·rw [if_neg hz, upd_other]
  intro e
  have hne : cp ≠ .nil := fun q => hz (by rw [h, q]; rfl)
  exact h3 (by rw [e, h]; exact root_mem hne)
theorem linked_join {C A B : Nat → Nat} {p q : Nat} {cp cq : BT} (p1 : C p = cp.root) (p3 : Linked C A B p cp) (q1 : C q = cq.root) (q3 : Linked C A B q cq) (hn : (p :: q :: (cq.spots ++ cp.spots)).Nodup) (h0 : ∀ s ∈ cp.spots, s ≠ 0) :
  Linked (joC C p q) (joA C A p q) (joB C B p q) p (.node q cq cp) := by
 have hb : ∀ s ∈ p :: (cq.spots ++ cp.spots), s ≠ q := by
  intro s hs e
  subst e
  simp only [List.nodup_cons, List.mem_cons, List.mem_append, not_or] at hn hs
  rcases hs with hs | hs | hs
  ·exact hn.1.1 hs.symm
  ·exact hn.2.1.1 hs
  ·exact hn.2.1.2 hs
 have key := tree_join (C := C) (A := A) (B := upd (upd B p 0) q 0) (p := p) (q := q) (cp := cp) (cq := cq)
  ⟨p1, by rw [upd_other _ _ _ _ (hb p (by simp)), upd_same], linked_congr cp p (fun s hs => ⟨rfl, rfl, by
   rw [upd_other _ _ _ _ (hb s (by simp [hs])), upd_other]
   intro e; subst e; simp only [List.nodup_cons, List.mem_cons, List.mem_append, not_or] at hn; exact hn.1.2.2 hs⟩) p3⟩
  ⟨q1, upd_same _ _ _, linked_congr cq q (fun s hs => ⟨rfl, rfl, by
   rw [upd_other _ _ _ _ (hb s (by simp [hs])), upd_other]
   intro e; subst e; simp only [List.nodup_cons, List.mem_cons, List.mem_append, not_or] at hn; exact hn.1.2.1 hs⟩) q3⟩ hn h0
 refine linked_congr (.node q cq cp) p (fun s hs => ⟨rfl, rfl, ?_⟩) key.2.2
 simp only [BT.spots, List.mem_cons, List.mem_append] at hs
 by_cases e : s = q
 ·subst e; rw [joB, upd_same, upd_same]
 ·have hsp : s ≠ p := by
   intro e'; subst e'; simp only [List.nodup_cons, List.mem_cons, List.mem_append, not_or] at hn
   rcases hs with hs | hs | hs
   ·exact hn.1.1 hs
   ·exact hn.1.2.1 hs
   ·exact hn.1.2.2 hs
  rw [joB, upd_other _ _ _ _ e, upd_other _ _ _ _ e, upd_other _ _ _ _ e, upd_other _ _ _ _ hsp]
theorem row_step {C A B : Nat → Nat} {p q : Nat} {cp cq rest m : BT} (p1 : C p = cp.root) (p3 : Linked C A B p cp) (q1 : C q = cq.root) (q3 : Linked C A B q cq) (hr : Row C A B rest) (hm : Row C A B m)
  (hn : (p :: q :: (cq.spots ++ cp.spots)).Nodup) (h0 : ∀ s ∈ cp.spots, s ≠ 0)
  (hd : ∀ s, s ∈ rest.spots ∨ s ∈ m.spots → s ≠ p ∧ s ≠ q ∧ s ∉ cp.spots) :
  Row (joC C p q) (joA C A p q) (upd (joB C B p q) p m.root) (.node p (.node q cq cp) m) ∧ Row (joC C p q) (joA C A p q) (upd (joB C B p q) p m.root) rest ∧
  ∀ y, y ≠ p → y ≠ q → y ∉ cp.spots → joC C p q y = C y ∧ joA C A p q y = A y ∧ upd (joB C B p q) p m.root y = B y := by
 have hl := linked_join p1 p3 q1 q3 hn h0
 have off : ∀ y, y ≠ p → y ≠ q → y ∉ cp.spots → joC C p q y = C y ∧ joA C A p q y = A y ∧ upd (joB C B p q) p m.root y = B y := by
  intro y h1 h2 h3
  obtain ⟨a, b, c⟩ := jo_off (A := A) (B := B) p1 h1 h2 h3
  exact ⟨a, b, by rw [upd_other _ _ _ _ h1]; exact c⟩
 refine ⟨⟨by rw [joC, upd_same]; rfl, upd_same _ _ _, ?_, row_congr m (fun s hs => ?_) hm⟩, row_congr rest (fun s hs => ?_) hr, off⟩
 ·refine linked_congr (.node q cq cp) p (fun s hs => ⟨rfl, rfl, upd_other _ _ _ _ ?_⟩) hl
  intro e; subst e
  simp only [BT.spots, List.nodup_cons, List.mem_cons, List.mem_append, not_or] at hn hs
  rcases hs with hs | hs | hs
  ·exact hn.1.1 hs
  ·exact hn.1.2.1 hs
  ·exact hn.1.2.2 hs
 ·obtain ⟨a, b, c⟩ := hd s (.inr hs); exact off s a b c
 ·obtain ⟨a, b, c⟩ := hd s (.inl hs); exact off s a b c
theorem row_odd {C A B : Nat → Nat} {p : Nat} {cp m : BT} (p1 : C p = cp.root) (p3 : Linked C A B p cp) (hm : Row C A B m) (hc : p ∉ cp.spots) (hd : p ∉ m.spots) :
  Row C A (upd B p m.root) (.node p cp m) :=
 ⟨p1, upd_same _ _ _, linked_congr cp p (fun _ hs => ⟨rfl, rfl, upd_other _ _ _ _ (fun e => hc (e ▸ hs))⟩) p3, row_congr m (fun _ hs => ⟨rfl, rfl, upd_other _ _ _ _ (fun e => hd (e ▸ hs))⟩) hm⟩
def BT.wide : BT → Nat
 | .nil => 0
 | .node _ _ x => x.wide + 1
end Go.Proofs.YtjlbmmiomfpgiaaGreatDoor.Ph
namespace Go.Proofs.YtjlbmmiomfpgiaaGreatDoor.Ph
set_option maxRecDepth 100000
open Go.RowKit
def Le (D S I : Nat → Nat) (a b : Nat) : Prop := bef (D b) (S b) (I b) (D a) (S a) (I a) = false
theorem le_iff {D S I : Nat → Nat} {a b : Nat} : Le D S I a b ↔ D a < D b ∨ (D a = D b ∧ (S a < S b ∨ (S a = S b ∧ I a ≤ I b))) := by
 rw [Le, bef]
 by_cases h1 : D b = D a
 ·rw [if_pos h1]
  by_cases h2 : S b = S a
  ·rw [if_pos h2, decide_eq_false_iff_not]; omega
  ·rw [if_neg h2, decide_eq_false_iff_not]; omega
 ·rw [if_neg h1, decide_eq_false_iff_not]; omega
theorem le_trans {D S I : Nat → Nat} (a b c : Nat) (h1 : Le D S I a b) (h2 : Le D S I b c) : Le D S I a c := by
 rw [le_iff] at *; omega
theorem le_of_before {D S I : Nat → Nat} {a b : Nat} (h : bef (D a) (S a) (I a) (D b) (S b) (I b) = true) : Le D S I a b := by
 rw [le_iff]
 rw [bef] at h
 by_cases h1 : D a = D b
 ·rw [if_pos h1] at h
  by_cases h2 : S a = S b
  ·rw [if_pos h2, decide_eq_true_eq] at h; omega
  ·rw [if_neg h2, decide_eq_true_eq] at h; omega
 ·rw [if_neg h1, decide_eq_true_eq] at h; omega
section
variable {w : World} {b g n rt ct : Nat} {D S I C A B : Nat → Nat} {T : Nat → Bool}
theorem join_any (h : Rep w b g n rt ct D S I C A B T) (p q : Nat) (hp : 1 ≤ p) (hpn : p ≤ n) (hq : 1 ≤ q) (hqn : q ≤ n) (hf : C p ≤ n) (hg : C q ≤ n) (hfq : C p ≠ q) (hgp : C q ≠ p) :
  Calls Tryz.prog 225 #[.pointer (some ⟨b, 0, none⟩), .int .i64 p, .int .i64 q] w fun e w' => ∃ u v : Nat, ((u = p ∧ v = q) ∨ (u = q ∧ v = p)) ∧ Le D S I u v ∧ e = .returned (.int .i64 u) ∧
   Rep w' b g n rt ct D S I (joC C u v) (joA C A u v) (joB C B u v) T ∧ Only b g w w' := by
 cases hb : bef (D q) (S q) (I q) (D p) (S p) (I p) with
 | false =>
  refine (join_keep h p q hp hpn hq hqn hf hfq hb).mono ?_
  rintro e w' ⟨he, hr, ho⟩
  exact ⟨p, q, .inl ⟨rfl, rfl⟩, hb, he, hr, ho⟩
 | true =>
  refine (join_swap h q p hq hqn hp hpn hg hgp hb).mono ?_
  rintro e w' ⟨he, hr, ho⟩
  exact ⟨q, p, .inr ⟨rfl, rfl⟩, le_of_before hb, he, hr, ho⟩
end
end Go.Proofs.YtjlbmmiomfpgiaaGreatDoor.Ph
namespace Go.Proofs.YtjlbmmiomfpgiaaGreatDoor.Ph
set_option maxRecDepth 100000
open Go.RowKit
structure PI (w : World) (b g n rt ct : Nat) (D S I : Nat → Nat) (T : Nat → Bool) (L : List Nat) (C0 A0 B0 : Nat → Nat) (wr : World) (t m : BT) : Prop where
 lk : ∃ C A B, Rep wr b g n rt ct D S I C A B T ∧ Row C A B t ∧ Row C A B m ∧ ∀ y, y ∉ L → C y = C0 y ∧ A y = A0 y ∧ B y = B0 y
 o1 : Ord (Le D S I) t
 o2 : Ord (Le D S I) m
 pm : (t.spots ++ m.spots).Perm L
 on : Only b g w wr
structure Spots (n : Nat) (L : List Nat) : Prop where
 nd : L.Nodup
 le : ∀ y ∈ L, 1 ≤ y ∧ y ≤ n
def behindOf (w : World) (g r : Nat) : Nat := match w.cell? ⟨g, r * 7 + 5, none⟩ with
 | some v => (intOf v).toNat
 | none => 0
def chain (w : World) (g : Nat) : Nat → Nat → Nat
 | 0, _ => 0
 | f + 1, r => if r = 0 then 0 else chain w g f (behindOf w g r) + 1
theorem chain_wide {w : World} {b g n rt ct : Nat} {D S I C A B : Nat → Nat} {T : Nat → Bool} (h : Rep w b g n rt ct D S I C A B T) : ∀ (t : BT) (f : Nat), Row C A B t → (∀ y ∈ t.spots, 1 ≤ y ∧ y ≤ n) → t.wide ≤ f → chain w g f t.root = t.wide
 | .nil, f, _, _, _ => by
  cases f with
  | zero => rfl
  | succ f => rw [chain]; rfl
 | .node s c x, f, hr, hs, hf => by
  cases f with
  | zero => simp [BT.wide] at hf
  | succ f =>
   obtain ⟨h1, h2, h3, h4⟩ := hr
   obtain ⟨a1, a2⟩ := hs s (by simp [BT.spots])
   have hb : behindOf w g s = x.root := by
    rw [behindOf, h.nb s a2, h2]; simp [intOf]
   rw [BT.root, chain, if_neg (by omega), hb, BT.wide, chain_wide h x f h4 (fun y hy => hs y (by simp [BT.spots, hy])) (by rw [BT.wide] at hf; omega)]
theorem wide_le : ∀ t : BT, t.wide ≤ t.spots.length
 | .nil => Nat.le_refl _
 | .node s c x => by have := wide_le x; simp only [BT.wide, BT.spots, List.length_cons, List.length_append]; omega
section
variable {w : World} {b g n rt ct : Nat} {D S I : Nat → Nat} {T : Nat → Bool} {L : List Nat} {C0 A0 B0 : Nat → Nat} {wr : World} {t m : BT}
theorem PI.chain (h : PI w b g n rt ct D S I T L C0 A0 B0 wr t m) (hL : Spots n L) : chain wr g L.length t.root = t.wide := by
 obtain ⟨C, A, B, hr, h1, h2, h3⟩ := h.lk
 refine chain_wide hr t _ h1 (fun y hy => hL.le y (h.pm.mem_iff.1 (by simp [hy]))) ?_
 have := h.pm.length_eq
 have := wide_le t
 rw [List.length_append] at *
 omega
end
end Go.Proofs.YtjlbmmiomfpgiaaGreatDoor.Ph
namespace Go.Proofs.YtjlbmmiomfpgiaaGreatDoor.Ph
set_option maxRecDepth 100000
open Go.RowKit
section
variable {w : World} {b g n rt ct : Nat} {D S I : Nat → Nat} {T : Nat → Bool} {L : List Nat} {C0 A0 B0 : Nat → Nat} {wr : World} {C A B : Nat → Nat}
theorem step_two {a c : Nat} {ca cc rest m : BT} (hL : Spots n L) (h1 : Row C A B (.node a ca (.node c cc rest))) (h2 : Row C A B m) (off : ∀ y, y ∉ L → C y = C0 y ∧ A y = A0 y ∧ B y = B0 y)
  (o1 : Ord (Le D S I) (.node a ca (.node c cc rest))) (o2 : Ord (Le D S I) m) (pm : ((BT.node a ca (.node c cc rest)).spots ++ m.spots).Perm L)
  {u v : Nat} (huv : (u = a ∧ v = c) ∨ (u = c ∧ v = a)) (hle : Le D S I u v) (hr : Rep wr b g n rt ct D S I (joC C u v) (joA C A u v) (joB C B u v) T) (ho : Only b g w wr) :
  ∃ m' : BT, m'.root = u ∧ m'.wide = m.wide + 1 ∧ PI w b g n rt ct D S I T L C0 A0 B0 (wr.setCell ⟨g, u * 7 + 5, none⟩ (.int .i64 (m.root : Int))) rest m' := by
 obtain ⟨cu, cv, p1, p3, q1, q3, hou, hov, hcu, hcv, hperm⟩ : ∃ cu cv : BT, C u = cu.root ∧ Linked C A B u cu ∧ C v = cv.root ∧ Linked C A B v cv ∧ (∀ y ∈ cu.spots, Le D S I u y) ∧ (∀ y ∈ cv.spots, Le D S I v y) ∧ Ord (Le D S I) cu ∧ Ord (Le D S I) cv ∧ (rest.spots ++ (BT.node u (.node v cv cu) m).spots).Perm L := by
  obtain ⟨a1, a2, a3, c1, c2, c3, _⟩ := h1
  obtain ⟨oa, oca, oc, occ, _⟩ := o1
  rcases huv with ⟨rfl, rfl⟩ | ⟨rfl, rfl⟩
  ·refine ⟨ca, cc, a1, a3, c1, c3, oa, oc, oca, occ, List.Perm.trans ?_ pm⟩
   rw [List.perm_iff_count]
   intro y
   simp only [BT.spots, List.count_append, List.count_cons, List.cons_append, List.append_assoc]
   omega
  ·refine ⟨cc, ca, c1, c3, a1, a3, oc, oa, occ, oca, List.Perm.trans ?_ pm⟩
   rw [List.perm_iff_count]
   intro y
   simp only [BT.spots, List.count_append, List.count_cons, List.cons_append, List.append_assoc]
   omega
 have hnd := hperm.nodup_iff.2 hL.nd
 have hmem : ∀ y, y ∈ rest.spots ++ (BT.node u (.node v cv cu) m).spots → y ∈ L := fun y hy => hperm.mem_iff.1 hy
 have hrest : Row C A B rest := h1.2.2.2.2.2.2
 have hnm : ((u :: v :: (cv.spots ++ cu.spots)) ++ m.spots).Nodup := (List.nodup_append.1 hnd).2.1
 have hn : (u :: v :: (cv.spots ++ cu.spots)).Nodup := (List.nodup_append.1 hnm).1
 have hd : ∀ s, s ∈ rest.spots ∨ s ∈ m.spots → s ≠ u ∧ s ≠ v ∧ s ∉ cu.spots := by
  intro s hs
  rcases hs with hs | hs
  ·have hy := (List.nodup_append.1 hnd).2.2 s hs
   exact ⟨fun e => hy u (by simp [BT.spots]) e, fun e => hy v (by simp [BT.spots]) e, fun e => hy s (by simp [BT.spots, e]) rfl⟩
  ·have hy : ∀ y ∈ u :: v :: (cv.spots ++ cu.spots), y ≠ s := fun y h => (List.nodup_append.1 hnm).2.2 y h s hs
   exact ⟨fun e => hy u (by simp) e.symm, fun e => hy v (by simp) e.symm, fun e => hy s (by simp [e]) rfl⟩
 have hz : ∀ s ∈ cu.spots, s ≠ 0 := fun s hs => by
  have := (hL.le s (hmem s (by simp [BT.spots, hs]))).1; omega
 obtain ⟨k1, k2, k3⟩ := row_step p1 p3 q1 q3 hrest h2 hn hz hd
 have uL : u ∈ L := hmem u (by simp [BT.spots])
 have vL : v ∈ L := hmem v (by simp [BT.spots])
 refine ⟨.node u (.node v cv cu) m, rfl, rfl, ⟨⟨_, _, _, hr.setB u (hL.le u uL).2 m.root, k2, k1, fun y hy => ?_⟩, o1.2.2.2.2, ?_, hperm, ho.set _ _ (Or.inr rfl)⟩⟩
 ·obtain ⟨x1, x2, x3⟩ := k3 y (fun e => hy (e ▸ uL)) (fun e => hy (e ▸ vL)) (fun e => hy (hmem y (by simp [BT.spots, e])))
  obtain ⟨z1, z2, z3⟩ := off y hy
  exact ⟨x1.trans z1, x2.trans z2, x3.trans z3⟩
 ·obtain ⟨j1, j2⟩ := ord_join le_trans hle hou hov hcu hcv
  exact ⟨j1, j2, o2⟩
theorem step_odd {a : Nat} {ca m : BT} (hL : Spots n L) (h1 : Row C A B (.node a ca .nil)) (h2 : Row C A B m) (off : ∀ y, y ∉ L → C y = C0 y ∧ A y = A0 y ∧ B y = B0 y)
  (o1 : Ord (Le D S I) (.node a ca .nil)) (o2 : Ord (Le D S I) m) (pm : ((BT.node a ca .nil).spots ++ m.spots).Perm L) (hr : Rep wr b g n rt ct D S I C A B T) (ho : Only b g w wr) :
  PI w b g n rt ct D S I T L C0 A0 B0 (wr.setCell ⟨g, a * 7 + 5, none⟩ (.int .i64 (m.root : Int))) .nil (.node a ca m) := by
 have hnd := pm.nodup_iff.2 hL.nd
 have aL : a ∈ L := pm.mem_iff.1 (by simp [BT.spots])
 obtain ⟨a1, a2, a3, _⟩ := h1
 refine ⟨⟨_, _, _, hr.setB a (hL.le a aL).2 m.root, trivial, row_odd a1 a3 h2 ?_ ?_, fun y hy => ?_⟩, trivial, ⟨o1.1, o1.2.1, o2⟩, ?_, ho.set _ _ (Or.inr rfl)⟩
 ·simp only [BT.spots, List.append_nil, List.cons_append, List.nodup_cons, List.mem_append, not_or] at hnd; exact hnd.1.1
 ·simp only [BT.spots, List.append_nil, List.cons_append, List.nodup_cons, List.mem_append, not_or] at hnd; exact hnd.1.2
 ·obtain ⟨z1, z2, z3⟩ := off y hy
  exact ⟨z1, z2, (upd_other B a m.root y (fun e => hy (e ▸ aL))).trans z3⟩
 ·simpa [BT.spots] using pm
end
end Go.Proofs.YtjlbmmiomfpgiaaGreatDoor.Ph
namespace Go.Proofs.YtjlbmmiomfpgiaaGreatDoor.Ph
set_option maxRecDepth 100000
open Go.RowKit
attribute [local go_sem ↓] Go.wp_at_zero Go.wp_at_succ
def Cnt (W : Nat) (t m : BT) : Prop := W ≤ t.wide + 2 * m.wide ∧ 1 ≤ W ∧ (t.wide + 2 * m.wide ≤ W ∨ (t = .nil ∧ 3 ≤ W ∧ 2 * m.wide ≤ W + 1))
theorem PI.turn {w : World} {b g n rt ct : Nat} {D S I C0 A0 B0 : Nat → Nat} {T : Nat → Bool} {L : List Nat} {wr : World} {m : BT} (h : PI w b g n rt ct D S I T L C0 A0 B0 wr .nil m) : PI w b g n rt ct D S I T L C0 A0 B0 wr m .nil := by
 obtain ⟨C, A, B, h1, h2, h3, h4⟩ := h.lk
 exact ⟨⟨C, A, B, h1, h3, h2, h4⟩, h.o2, h.o1, by simpa [BT.spots] using h.pm, h.on⟩
section
variable {w : World} {b g n rt ct : Nat} {D S I C A B : Nat → Nat} {T : Nat → Bool}
set_option maxHeartbeats 4000000 in
theorem pair_any (t0 : BT) (L : List Nat) (hL : Spots n L) (hB0 : B 0 = 0) (h0 : PI w b g n rt ct D S I T L C A B w t0 .nil) :
  Calls Tryz.prog 223 #[.pointer (some ⟨b, 0, none⟩), .int .i64 (t0.root : Int)] w fun e w' => ∃ t : BT, t.wide ≤ 1 ∧ e = .returned (.int .i64 (t.root : Int)) ∧ PI w b g n rt ct D S I T L C A B w' t .nil := by
 have HL := veil hL
 have HB0 := veil hB0
 have H0 := veil h0
 clear h0 hL hB0
 go_enter Tryz.func223, Tryz.ntmps223
 go_wp2
 go_step3
 go_wp2
 go_step3
 go_wp2
 go_loopw [1] (fun i wr => ∃ t : BT, i = .int .i64 (t.root : Int) ∧ Hid (PI w b g n rt ct D S I T L C A B wr t .nil)) (fun i wr => chain wr g L.length (intOf i).toNat)
 case atStart => exact ⟨t0, rfl, H0⟩
 case round =>
  obtain ⟨t, rfl, ht⟩ := hrel
  cases t with
  | nil =>
   have HN : Hid ((BT.nil).root = 0) := veil rfl
   have hz : (((BT.nil).root : Nat) : Int) = 0 := rfl
   rw [hz]
   go_wp2
   rw [Exit.noGoto_ret]
   go_ret
   exact ⟨.nil, by simp [BT.wide], rfl, ht.out⟩
  | node a ca x =>
   have ha := HL.out.le a (ht.out.pm.mem_iff.1 (by simp [BT.spots]))
   have hai : ¬ (a : Int) = 0 := by omega
   have hroot : (((BT.node a ca x).root : Nat) : Int) = (a : Int) := rfl
   have HW := veil (ht.out.chain HL.out)
   have hab : ((a : Int) != 0) = true := by rw [bne_iff_ne]; exact hai
   rw [hroot]
   go_wp2
   clear hab
   go_loopw [1, 5] (fun i k wr2 => ∃ t m : BT, i = .int .i64 (t.root : Int) ∧ k = .int .i64 (m.root : Int) ∧ Hid (PI w b g n rt ct D S I T L C A B wr2 t m) ∧ Hid (Cnt (BT.node a ca x).wide t m)) (fun i _ wr2 => chain wr2 g L.length (intOf i).toNat)
   case atStart => exact ⟨.node a ca x, .nil, rfl, rfl, ht, by refine ⟨?_, ?_, .inl ?_⟩ <;> simp [BT.wide]⟩
   case round =>
    obtain ⟨t, m, rfl, rfl, hp, hc⟩ := hrel
    cases t with
    | nil =>
     have hz : (((BT.nil).root : Nat) : Int) = 0 := rfl
     rw [hz]
     go_wp2
     have hp' := hp.out.turn
     refine ⟨⟨m, rfl, hp'⟩, ?_⟩
     have e1 : (intOf (Value.int IntKind.i64 (m.root : Int))).toNat = m.root := by simp [intOf]
     have e2 : (intOf (Value.int IntKind.i64 (a : Int))).toNat = (BT.node a ca x).root := by simp [intOf, BT.root]
     rw [e1, e2, HW.out, hp'.chain HL.out]
     obtain ⟨q1, q2, q3⟩ := hc.out
     simp only [BT.wide] at q1 q2 q3 ⊢
     rcases q3 with q3 | ⟨_, q3, q4⟩ <;> omega
    | node r cr rest =>
     have hrr := HL.out.le r (hp.out.pm.mem_iff.1 (by simp [BT.spots]))
     have hri : ¬ (r : Int) = 0 := by omega
     have hroot2 : (((BT.node r cr rest).root : Nat) : Int) = (r : Int) := rfl
     have HM := veil (hp.out.chain HL.out)
     obtain ⟨C1, A1, B1, hR, hrow, hrm, hoff⟩ := hp.out.lk
     obtain ⟨cp, e0⟩ := hR.sl
     have e1 := hR.nb r hrr.2
     have e2 := hrow.2.1
     rw [e2] at e1
     have rl : r < n + 1 := by omega
     have fg := hR.fg
     have HR := veil hR
     have HRow := veil hrow
     have HRm := veil hrm
     have HOff := veil hoff
     clear hR hrow hrm hoff e2
     rw [hroot2]
     cases rest with
     | nil =>
      have e1' : wr.cell? ⟨g, r * 7 + 5, none⟩ = some (.int .i64 0) := e1
      clear e1
      cases m with
      | nil =>
       have hz : (((BT.nil).root : Nat) : Int) = 0 := rfl
       rw [hz]
       go_wp2
       go_quiet (fail)
       go_wp2
       show Exit.noGoto _ Exit.ret _ _
       rw [Exit.noGoto_ret]
       go_ret
       exact ⟨.node r cr .nil, by simp [BT.wide], rfl, ⟨⟨C1, A1, B1, HR.out.drewN _, HRow.out, trivial, HOff.out⟩, hp.out.o1, trivial, hp.out.pm, hp.out.on.drewN _⟩⟩
      | node mr mc mx =>
       have hmm := HL.out.le mr (hp.out.pm.mem_iff.1 (by simp [BT.spots]))
       have hmi : ¬ (mr : Int) = 0 := by omega
       have hroot3 : (((BT.node mr mc mx).root : Nat) : Int) = (mr : Int) := rfl
       have z1 : wr.cell? ⟨g, 0 * 7 + 5, none⟩ = some (.int .i64 0) := by
        have := HR.out.nb 0 (Nat.zero_le _)
        rw [((HOff.out 0 (fun hh => by have := (HL.out.le 0 hh).1; omega)).2.2).trans HB0.out] at this
        exact this
       have z2 : wr.cell? ⟨g, 5, none⟩ = some (.int .i64 0) := z1
       clear z1
       rw [hroot3]
       go_wp2
       go_quiet (fail)
       go_wp2_with (go_at_call 225; refine (join_right r hrr.1 _ b).mono ?_; rintro e w3 ⟨rfl, hw⟩; replace hw := hw.symm; subst hw)
       have HS := veil (step_odd HL.out HRow.out HRm.out HOff.out hp.out.o1 hp.out.o2 hp.out.pm (HR.out.drewN nq) (hp.out.on.drewN nq))
       go_roundw
       case rel =>
        exact ⟨BT.nil, .node r cr (.node mr mc mx), rfl, rfl, HS, by
         obtain ⟨q1, q2, q3⟩ := hc.out
         rcases q3 with q3 | ⟨q3, _⟩
         ·simp only [Cnt, BT.wide] at *
          refine ⟨?_, ?_, .inr ⟨trivial, ?_, ?_⟩⟩ <;> omega
         ·exact absurd q3 (by simp)⟩
       case measure =>
        have e1 : (intOf (Value.int IntKind.i64 (r : Int))).toNat = (BT.node r cr .nil).root := by simp [intOf, BT.root]
        have e2 : (intOf (Value.int IntKind.i64 0)).toNat = (BT.nil).root := by simp [intOf, BT.root]
        have hs := HS.out.chain HL.out
        have hm := HM.out
        rw [← e2] at hs
        rw [← e1] at hm
        show chain _ g L.length (intOf (Value.int IntKind.i64 0)).toNat < chain wr g L.length (intOf (Value.int IntKind.i64 (r : Int))).toNat
        have hs' : chain ((wr.drewN nq).setCell ⟨g, r * 7 + 5, none⟩ (Value.int IntKind.i64 (mr : Int))) g L.length (intOf (Value.int IntKind.i64 0)).toNat = _ := hs
        rw [hs', hm]
        simp [BT.wide]
     | node r2 cr2 rest2 =>
      have hr2 := HL.out.le r2 (hp.out.pm.mem_iff.1 (by simp [BT.spots]))
      have hr2i : ¬ (r2 : Int) = 0 := by omega
      have r2l : r2 < n + 1 := by omega
      have e1' : wr.cell? ⟨g, r * 7 + 5, none⟩ = some (.int .i64 (r2 : Int)) := e1
      have e3 := HR.out.nb r2 hr2.2
      have e4 := HRow.out.2.2.2.2.1
      rw [e4] at e3
      clear e1 e4
      have hle : ∀ (c : BT), (∀ y ∈ c.spots, y ∈ L) → c.root ≤ n := fun c h => by
       cases c with
       | nil => exact Nat.zero_le _
       | node s _ _ => exact (HL.out.le s (h s (by simp [BT.spots]))).2
      have hnd := hp.out.pm.nodup_iff.2 HL.out.nd
      have hne : ∀ (c : BT) (q : Nat), q ∉ c.spots → q ≠ 0 → c.root ≠ q := fun c q h h0 e => by
       cases c with
       | nil => exact h0 e.symm
       | node s _ _ => rw [BT.root] at e; exact h (by simp [BT.spots, e])
      have hmem : ∀ y, y ∈ (BT.node r cr (.node r2 cr2 rest2)).spots → y ∈ L := fun y hy => hp.out.pm.mem_iff.1 (List.mem_append.2 (.inl hy))
      have k1 : C1 r ≤ n := by rw [HRow.out.1]; exact hle cr (fun y hy => hmem y (by simp [BT.spots, hy]))
      have k2 : C1 r2 ≤ n := by rw [HRow.out.2.2.2.1]; exact hle cr2 (fun y hy => hmem y (by simp [BT.spots, hy]))
      have nd1 := (List.nodup_append.1 hnd).1
      simp only [BT.spots, List.nodup_cons, List.nodup_append, List.mem_cons, List.mem_append, not_or] at nd1
      have k3 : C1 r ≠ r2 := by rw [HRow.out.1]; exact hne cr r2 (fun hh => nd1.2.2.2 r2 hh r2 (by simp) rfl) (by omega)
      have k4 : C1 r2 ≠ r := by rw [HRow.out.2.2.2.1]; exact hne cr2 r nd1.1.2.2.1 (by omega)
      have HJ : Hid (∀ w1, Rep w1 b g n rt ct D S I C1 A1 B1 T → _) := fun w1 hh => join_any hh r r2 hrr.1 hrr.2 hr2.1 hr2.2 k1 k2 k3 k4
      clear k1 k2 k3 k4 nd1 hne hle hmem hnd
      go_wp2
      go_quiet (fail)
      go_wp2_with (go_at_call 225; refine (HJ.out _ (HR.out.drewN nq)).mono ?_; rintro e w3 ⟨u, v, huv, hle, rfl, hr3, ho3⟩; obtain ⟨cp3, e30⟩ := hr3.sl; have fg3 := hr3.fg; have ul : u < n + 1 := (by rcases huv with ⟨hu, _⟩ | ⟨hu, _⟩ <;> rw [hu] <;> omega); have e31 := hr3.nb u (by omega); have HR3 := veil hr3; have HO3 := veil ho3; have HUV := veil huv; have HLE := veil hle; clear hr3 ho3 huv hle)
      have HS := veil (step_two HL.out HRow.out HRm.out HOff.out hp.out.o1 hp.out.o2 hp.out.pm HUV.out HLE.out HR3.out ((hp.out.on.drewN nq).trans HO3.out))
      obtain ⟨m', hm1, hm2, hm3⟩ := HS.out
      go_roundw
      case rel =>
       exact ⟨rest2, m', rfl, by rw [hm1], hm3, by
        obtain ⟨q1, q2, q3⟩ := hc.out
        rcases q3 with q3 | ⟨q3, _⟩
        ·simp only [Cnt, BT.wide] at *
         refine ⟨?_, ?_, .inl ?_⟩ <;> omega
        ·exact absurd q3 (by simp)⟩
      case measure =>
       have e1 : (intOf (Value.int IntKind.i64 (r : Int))).toNat = (BT.node r cr (.node r2 cr2 rest2)).root := by simp [intOf, BT.root]
       have e2 : (intOf (Value.int IntKind.i64 (rest2.root : Int))).toNat = rest2.root := by simp [intOf]
       have hs := hm3.chain HL.out
       have hm := HM.out
       rw [← e2] at hs
       rw [← e1] at hm
       show chain (w3.setCell ⟨g, u * 7 + 5, none⟩ (Value.int IntKind.i64 (m.root : Int))) g L.length (intOf (Value.int IntKind.i64 (rest2.root : Int))).toNat < chain wr g L.length (intOf (Value.int IntKind.i64 (r : Int))).toNat
       rw [hs, hm]
       simp only [BT.wide]
       omega
end
end Go.Proofs.YtjlbmmiomfpgiaaGreatDoor.Ph
namespace Go.Proofs.YtjlbmmiomfpgiaaGreatDoor.Ph
set_option maxRecDepth 100000
theorem linked_below {C A B : Nat → Nat} {le : Nat → Nat → Prop} (x : Nat) : ∀ (t : BT) (p : Nat), Linked C A B p t → t.spots.Nodup → x ∈ t.spots →
  ∃ cx : BT, C x = cx.root ∧ Linked C A B x cx ∧ ((t.cut x).spots ++ x :: cx.spots).Perm t.spots ∧ (Ord le t → Ord le cx)
 | .nil, _, _, _, h => by simp [BT.spots] at h
 | .node r c y, p, hl, hn, hx => by
  obtain ⟨h1, h2, h3, h4, h5⟩ := hl
  simp only [BT.spots, List.nodup_cons, List.mem_cons, List.mem_append, not_or, List.nodup_append] at hn hx
  obtain ⟨⟨nrc, nry⟩, hc, hy, hcy⟩ := hn
  rcases hx with rfl | hx | hx
  ·refine ⟨c, h2, h4, ?_, fun o => o.2.1⟩
   rw [BT.cut, if_pos rfl, List.perm_iff_count]
   intro z
   simp only [BT.spots, List.count_append, List.count_cons]
   omega
  ·have hrs : r ≠ x := fun e => nrc (e ▸ hx)
   have nsx : x ∉ y.spots := fun q => hcy x hx x q rfl
   obtain ⟨cx, k1, k2, k3, k4⟩ := linked_below x c r h4 hc hx
   refine ⟨cx, k1, k2, ?_, fun o => k4 o.2.1⟩
   rw [BT.cut, if_neg hrs, cut_out x y nsx]
   rw [List.perm_iff_count] at k3 ⊢
   intro z
   have := k3 z
   simp only [BT.spots, List.count_append, List.count_cons] at this ⊢
   omega
  ·have hrs : r ≠ x := fun e => nry (e ▸ hx)
   have nsc : x ∉ c.spots := fun q => hcy x q x hx rfl
   obtain ⟨cx, k1, k2, k3, k4⟩ := linked_below x y r h5 hy hx
   refine ⟨cx, k1, k2, ?_, fun o => k4 o.2.2⟩
   rw [BT.cut, if_neg hrs, cut_out x c nsc]
   rw [List.perm_iff_count] at k3 ⊢
   intro z
   have := k3 z
   simp only [BT.spots, List.count_append, List.count_cons] at this ⊢
   omega
theorem linked_nearer {C A B : Nat → Nat} (s : Nat) : ∀ (t : BT) (p : Nat), Linked C A B p t → t.spots.Nodup → s ∈ t.spots →
  (A s = p ∨ A s ∈ (t.cut s).spots) ∧ (B s = 0 ∨ B s ∈ (t.cut s).spots)
 | .nil, _, _, _, h => by simp [BT.spots] at h
 | .node r c y, p, hl, hn, hx => by
  obtain ⟨h1, h2, h3, h4, h5⟩ := hl
  simp only [BT.spots, List.nodup_cons, List.mem_cons, List.mem_append, not_or, List.nodup_append] at hn hx
  obtain ⟨⟨nrc, nry⟩, hc, hy, hcy⟩ := hn
  rcases hx with rfl | hx | hx
  ·refine ⟨.inl h1, ?_⟩
   rw [BT.cut, if_pos rfl, h3]
   cases y with
   | nil => exact .inl rfl
   | node z cz xz => exact .inr (by simp [BT.root, BT.spots])
  ·have hrs : r ≠ s := fun e => nrc (e ▸ hx)
   obtain ⟨a, b⟩ := linked_nearer s c r h4 hc hx
   rw [BT.cut, if_neg hrs]
   simp only [BT.spots, List.mem_cons, List.mem_append]
   exact ⟨.inr (a.imp id .inl), b.imp id (fun q => .inr (.inl q))⟩
  ·have hrs : r ≠ s := fun e => nry (e ▸ hx)
   obtain ⟨a, b⟩ := linked_nearer s y r h5 hy hx
   rw [BT.cut, if_neg hrs]
   simp only [BT.spots, List.mem_cons, List.mem_append]
   exact ⟨.inr (a.imp id .inr), b.imp id (fun q => .inr (.inr q))⟩
theorem cut_apart {C A B C1 A1 B1 : Nat → Nat} {p x : Nat} {c : BT} {L : List Nat} (hl : Linked C A B p c) (hC : C p = c.root) (hB : B p = 0) (hn : (p :: c.spots).Nodup) (h0 : ∀ y ∈ p :: c.spots, y ≠ 0) (hx : x ∈ c.spots)
  (hperm : ((c.cut x).spots ++ x :: L).Perm c.spots) (off : ∀ y, y ∉ L → C1 y = C y ∧ A1 y = A y ∧ B1 y = B y) :
  Row (cutC C1 A1 B1 x) (cutA C1 A1 B1 x) (cutB C1 A1 B1 x) (.node p (c.cut x) .nil) ∧ ∀ y, y ∈ L → cutC C1 A1 B1 x y = C1 y ∧ cutA C1 A1 B1 x y = A1 y ∧ cutB C1 A1 B1 x y = B1 y := by
 have hnc := (List.nodup_cons.1 hn).2
 have hpc := (List.nodup_cons.1 hn).1
 have hnp := hperm.nodup_iff.2 hnc
 have hLc : ∀ y ∈ L, y ∈ c.spots := fun y hy => hperm.mem_iff.1 (by simp [hy])
 have hdis : ∀ y ∈ (c.cut x).spots, y ∉ L := fun y hy hh => (List.nodup_append.1 hnp).2.2 y hy y (by simp [hh]) rfl
 have hxL : x ∉ L := (List.nodup_cons.1 (List.nodup_append.1 hnp).2.1).1
 have hpL : p ∉ L := fun hh => hpc (hLc p hh)
 have h0L : 0 ∉ L := fun hh => h0 0 (by simp [hLc 0 hh]) rfl
 obtain ⟨k1, k2⟩ := linked_cut c p x hl hn (fun y hy => h0 y (by simp [hy])) hx
 obtain ⟨a, b⟩ := linked_nearer x c p hl hnc hx
 have haL : A x ∉ L := by
  rcases a with a | a
  ·rw [a]; exact hpL
  ·exact hdis _ a
 have hbL : B x ∉ L := by
  rcases b with b | b
  ·rw [b]; exact h0L
  ·exact hdis _ b
 have eA : A1 x = A x := (off x hxL).2.1
 have eB : B1 x = B x := (off x hxL).2.2
 have eC : C1 (A x) = C (A x) := (off _ haL).1
 have key : ∀ y, y ∉ L → cutC C1 A1 B1 x y = cutC C A B x y ∧ cutA C1 A1 B1 x y = cutA C A B x y ∧ cutB C1 A1 B1 x y = cutB C A B x y := by
  intro y hy
  obtain ⟨o1, o2, o3⟩ := off y hy
  simp only [cutC, cutA, cutB, eA, eB, eC]
  refine ⟨?_, ?_, ?_⟩
  ·split
   ·simp only [upd, o1]
   ·exact o1
  ·split
   ·exact o2
   ·simp only [upd, o2]
  ·split
   ·exact o3
   ·simp only [upd, o3]
 have hm := linked_congr (c.cut x) p (fun y hy => key y (hdis y hy)) k1
 have kp := key p hpL
 have hnear := (linked_near c p x hl hx).1
 refine ⟨⟨?_, ?_, hm, trivial⟩, fun y hy => ⟨?_, ?_, ?_⟩⟩
 ·rw [kp.1]
  by_cases hq : x = c.root
  ·have ha : A x = p := by
    cases c with
    | nil => simp [BT.spots] at hx
    | node z cz xz => rw [BT.root] at hq; rw [hq]; exact hl.1
   rw [cutC, if_pos (by rw [ha, hC]; exact hq.symm), ha, upd_same, k2 hq]
  ·rw [cutC_off, cut_root x c (fun q => hq q.symm)]
   ·exact hC
   ·rcases hnear with ⟨q, _⟩ | q
    ·exact absurd q hq
    ·exact fun e => hpc (e ▸ q)
 ·rw [kp.2.2]
  by_cases hq : x = c.root
  ·have ha : A x = p := by
    cases c with
    | nil => simp [BT.spots] at hx
    | node z cz xz => rw [BT.root] at hq; rw [hq]; exact hl.1
   rw [cutB, if_pos (by rw [ha, hC]; exact hq.symm)]; exact hB
  ·rw [cutB_off]
   ·exact hB
   ·rcases hnear with ⟨q, _⟩ | q
    ·exact absurd q hq
    ·exact fun e => hpc (e ▸ q)
 ·exact cutC_off (by rw [eA]; exact fun e => haL (e ▸ hy))
 ·exact cutA_off (.inr (by rw [eB]; exact fun e => hbL (e ▸ hy)))
 ·exact cutB_off (by rw [eA]; exact fun e => haL (e ▸ hy))
end Go.Proofs.YtjlbmmiomfpgiaaGreatDoor.Ph
namespace Go.Proofs.YtjlbmmiomfpgiaaGreatDoor.Ph
set_option maxRecDepth 100000
open Go.RowKit
attribute [local go_sem ↓] Go.wp_at_zero Go.wp_at_succ
section
variable {w : World} {b g n rt ct : Nat} {D S I C A B : Nat → Nat} {T : Nat → Bool}
set_option maxHeartbeats 4000000 in
theorem remove_top (h : Rep w b g n rt (ct + 1) D S I C A B T) (x : Nat) (hx : x = rt) (hxn : x ≤ n) (hct : ct ≤ 1024) (Q : Nat → (Nat → Nat) → (Nat → Nat) → (Nat → Nat) → Prop)
  (hP : Calls Tryz.prog 223 #[.pointer (some ⟨b, 0, none⟩), .int .i64 (C x : Int)] w fun e w' => ∃ (r : Nat) (C1 A1 B1 : Nat → Nat), e = .returned (.int .i64 (r : Int)) ∧ Rep w' b g n rt (ct + 1) D S I C1 A1 B1 T ∧ Only b g w w' ∧ Q r C1 A1 B1) :
  Calls Tryz.prog 208 #[.pointer (some ⟨b, 0, none⟩), .int .i64 (x : Int)] w fun e w' => ∃ (r : Nat) (C1 A1 B1 : Nat → Nat), e = .returned (.tuple #[]) ∧ Rep w' b g n r ct (upd D x 0) (upd S x 0) (upd I x 0) (upd C1 x 0) (upd A1 x 0) (upd B1 x 0) (upd T x false) ∧ Only b g w w' ∧ Q r C1 A1 B1 := by
 subst hx
 obtain ⟨cp, e0⟩ := h.sl
 have c1 := h.nc x hxn
 have xl : x < n + 1 := by omega
 have hbg := h.bg
 have hgb : g ≠ b := fun e => hbg e.symm
 have HP := veil hP
 clear h hP
 go_enter Tryz.func208, Tryz.ntmps208
 go_wp2_with (go_at_call 223; refine (HP.out).mono ?_; rintro e w1 ⟨r, C1, A1, B1, rfl, hr, ho, hq⟩; obtain ⟨cp1, e1⟩ := hr.sl; have r1 := hr.rt; have r2 := hr.ct; have m0 := hr.nd x hxn; have m1 := hr.ns x hxn; have m2 := hr.ni x hxn; have m3 := hr.nc x hxn; have m4 := hr.na x hxn; have m5 := hr.nb x hxn; have m6 := hr.nt x hxn; have fb := hr.fb; have fg := hr.fg; have HR := veil hr; have HO := veil ho; have HQ := veil hq; clear hr ho hq)
 go_end0
 refine ⟨r, C1, A1, B1, rfl, ((zero_node (HR.out.setR r) x hxn).setN ct), ?_, HQ.out⟩
 exact (((((((((HO.out.set ⟨b, 1, none⟩ _ (Or.inl rfl)).set ⟨g, x * 7, none⟩ _ (Or.inr rfl)).set ⟨g, x * 7 + 1, none⟩ _ (Or.inr rfl)).set ⟨g, x * 7 + 2, none⟩ _ (Or.inr rfl)).set ⟨g, x * 7 + 3, none⟩ _ (Or.inr rfl)).set ⟨g, x * 7 + 4, none⟩ _ (Or.inr rfl)).set ⟨g, x * 7 + 5, none⟩ _ (Or.inr rfl)).set ⟨g, x * 7 + 6, none⟩ _ (Or.inr rfl)).set ⟨b, 2, none⟩ _ (Or.inl rfl))
set_option maxHeartbeats 4000000 in
theorem remove_deep (h : Rep w b g n rt (ct + 1) D S I C A B T) (x : Nat) (hx : x ≠ rt) (hxn : x ≤ n) (hct : ct ≤ 1024) (Q Q2 : Nat → (Nat → Nat) → (Nat → Nat) → (Nat → Nat) → Prop)
  (hP : Calls Tryz.prog 223 #[.pointer (some ⟨b, 0, none⟩), .int .i64 (C x : Int)] w fun e w' => ∃ (r : Nat) (C1 A1 B1 : Nat → Nat), e = .returned (.int .i64 (r : Int)) ∧ Rep w' b g n rt (ct + 1) D S I C1 A1 B1 T ∧ Only b g w w' ∧ Q r C1 A1 B1)
  (hQ : ∀ (r : Nat) (C1 A1 B1 : Nat → Nat), Q r C1 A1 B1 → A1 x ≤ n ∧ B1 x ≤ n)
  (hJ : ∀ (w2 : World) (r : Nat) (C1 A1 B1 : Nat → Nat), Q r C1 A1 B1 → Rep w2 b g n rt (ct + 1) D S I (cutC C1 A1 B1 x) (cutA C1 A1 B1 x) (cutB C1 A1 B1 x) T → Calls Tryz.prog 225 #[.pointer (some ⟨b, 0, none⟩), .int .i64 (rt : Int), .int .i64 (r : Int)] w2 fun e w' => ∃ (r2 : Nat) (C2 A2 B2 : Nat → Nat), e = .returned (.int .i64 (r2 : Int)) ∧ Rep w' b g n rt (ct + 1) D S I C2 A2 B2 T ∧ Only b g w2 w' ∧ Q2 r2 C2 A2 B2) :
  Calls Tryz.prog 208 #[.pointer (some ⟨b, 0, none⟩), .int .i64 (x : Int)] w fun e w' => ∃ (r : Nat) (C1 A1 B1 : Nat → Nat), e = .returned (.tuple #[]) ∧ Rep w' b g n r ct (upd D x 0) (upd S x 0) (upd I x 0) (upd C1 x 0) (upd A1 x 0) (upd B1 x 0) (upd T x false) ∧ Only b g w w' ∧ Q2 r C1 A1 B1 := by
 obtain ⟨cp, e0⟩ := h.sl
 have c1 := h.nc x hxn
 have xl : x < n + 1 := by omega
 have xr : ¬ (x : Int) = (rt : Int) := by omega
 have hbg := h.bg
 have hgb : g ≠ b := fun e => hbg e.symm
 have HP := veil hP
 have HJ := veil hJ
 have HC : Hid (∀ (w1 : World) (r : Nat) (C1 A1 B1 : Nat → Nat), Q r C1 A1 B1 → Rep w1 b g n rt (ct + 1) D S I C1 A1 B1 T → Calls Tryz.prog 224 #[.pointer (some ⟨b, 0, none⟩), .int .i64 x] w1 fun e w' => e = .returned (.tuple #[]) ∧ Rep w' b g n rt (ct + 1) D S I (cutC C1 A1 B1 x) (cutA C1 A1 B1 x) (cutB C1 A1 B1 x) T ∧ Only b g w1 w') :=
  fun w1 r C1 A1 B1 hq hr => cut_any hr x (A1 x) (B1 x) hxn (hQ r C1 A1 B1 hq).1 (hQ r C1 A1 B1 hq).2 rfl rfl
 clear h hP hQ hJ
 go_enter Tryz.func208, Tryz.ntmps208
 go_wp2_with (first
  | (go_at_call 223; refine (HP.out).mono ?_; rintro e w1 ⟨r, C1, A1, B1, rfl, hr, ho, hq⟩; have r1 := hr.rt; have HR1 := veil hr; have HO1 := veil ho; have HQ1 := veil hq; clear hr ho hq)
  | (go_at_call 224; refine (HC.out _ r C1 A1 B1 HQ1.out HR1.out).mono ?_; rintro e w2 ⟨rfl, hr, ho⟩; have r12 := hr.rt; have HR2 := veil hr; have HO2 := veil (HO1.out.trans ho); clear hr ho)
  | (go_at_call 225; refine (HJ.out _ r C1 A1 B1 HQ1.out HR2.out).mono ?_; rintro e w3 ⟨r3, C2, A2, B2, rfl, hr, ho, hq⟩; obtain ⟨cp1, e1⟩ := hr.sl; have r13 := hr.rt; have r2 := hr.ct; have m0 := hr.nd x hxn; have m1 := hr.ns x hxn; have m2 := hr.ni x hxn; have m3 := hr.nc x hxn; have m4 := hr.na x hxn; have m5 := hr.nb x hxn; have m6 := hr.nt x hxn; have fb := hr.fb; have fg := hr.fg; have HR3 := veil hr; have HO3 := veil (HO2.out.trans ho); have HQ3 := veil hq; clear hr ho hq))
 go_end0
 refine ⟨r3, C2, A2, B2, rfl, ((zero_node (HR3.out.setR r3) x hxn).setN ct), ?_, HQ3.out⟩
 exact (((((((((HO3.out.set ⟨b, 1, none⟩ _ (Or.inl rfl)).set ⟨g, x * 7, none⟩ _ (Or.inr rfl)).set ⟨g, x * 7 + 1, none⟩ _ (Or.inr rfl)).set ⟨g, x * 7 + 2, none⟩ _ (Or.inr rfl)).set ⟨g, x * 7 + 3, none⟩ _ (Or.inr rfl)).set ⟨g, x * 7 + 4, none⟩ _ (Or.inr rfl)).set ⟨g, x * 7 + 5, none⟩ _ (Or.inr rfl)).set ⟨g, x * 7 + 6, none⟩ _ (Or.inr rfl)).set ⟨b, 2, none⟩ _ (Or.inl rfl))
end
end Go.Proofs.YtjlbmmiomfpgiaaGreatDoor.Ph
namespace Go.Proofs.YtjlbmmiomfpgiaaGreatDoor.Ph
set_option maxRecDepth 100000
open Go.RowKit
structure HeapAt (w : World) (b g n : Nat) (D S I : Nat → Nat) (T : Nat → Bool) (t : BT) : Prop where
 lk : ∃ C A B, Rep w b g n t.root t.spots.length D S I C A B T ∧ Row C A B t ∧ B 0 = 0
 wd : t.wide ≤ 1
 od : Ord (Le D S I) t
 sp : Spots n t.spots
 th : ∀ y, y ≤ n → (T y = true ↔ y ∈ t.spots)
 id : ∀ y ∈ t.spots, I y + 1 = y
theorem ord_congr {le le' : Nat → Nat → Prop} : ∀ t : BT, (∀ a ∈ t.spots, ∀ c ∈ t.spots, le a c → le' a c) → Ord le t → Ord le' t
 | .nil, _, _ => trivial
 | .node s c x, h, ⟨h1, h2, h3⟩ =>
  ⟨fun y hy => h s (by simp [BT.spots]) y (by simp [BT.spots, hy]) (h1 y hy), ord_congr c (fun a ha d hd => h a (by simp [BT.spots, ha]) d (by simp [BT.spots, hd])) h2, ord_congr x (fun a ha d hd => h a (by simp [BT.spots, ha]) d (by simp [BT.spots, hd])) h3⟩
theorem le_upd {D S I : Nat → Nat} {x a c : Nat} {d s i : Nat} (ha : a ≠ x) (hc : c ≠ x) (h : Le D S I a c) : Le (upd D x d) (upd S x s) (upd I x i) a c := by
 rw [Le] at *
 rw [upd_other _ _ _ _ ha, upd_other _ _ _ _ ha, upd_other _ _ _ _ ha, upd_other _ _ _ _ hc, upd_other _ _ _ _ hc, upd_other _ _ _ _ hc]; exact h
section
variable {w : World} {b g n : Nat} {D S I : Nat → Nat} {T : Nat → Bool} {t : BT}
theorem heap_wiped {w' : World} {x ct : Nat} {t' : BT} {C A B : Nat → Nat} (h : HeapAt w b g n D S I T t) (hx : x ∈ t.spots) (hp : (x :: t'.spots).Perm t.spots) (hw : t'.wide ≤ 1) (hr : Row C A B t') (ho : Ord (Le D S I) t') (hB : B 0 = 0) (hct : t.spots.length = ct + 1)
  (hR : Rep w' b g n t'.root ct (upd D x 0) (upd S x 0) (upd I x 0) (upd C x 0) (upd A x 0) (upd B x 0) (upd T x false)) :
  HeapAt w' b g n (upd D x 0) (upd S x 0) (upd I x 0) (upd T x false) t' := by
 have hnd := hp.nodup_iff.2 h.sp.nd
 have hnx : x ∉ t'.spots := (List.nodup_cons.1 hnd).1
 have hne : ∀ y ∈ t'.spots, y ≠ x := fun y hy e => hnx (e ▸ hy)
 have hin : ∀ y ∈ t'.spots, y ∈ t.spots := fun y hy => hp.mem_iff.1 (by simp [hy])
 have hl : t'.spots.length = ct := by have := hp.length_eq; simp only [List.length_cons] at this; omega
 have hx0 : (0 : Nat) ≠ x := by have := (h.sp.le x hx).1; omega
 refine ⟨⟨_, _, _, hl.symm ▸ hR, row_congr t' (fun s hs => ⟨upd_other _ _ _ _ (hne s hs), upd_other _ _ _ _ (hne s hs), upd_other _ _ _ _ (hne s hs)⟩) hr, by rw [upd_other _ _ _ _ hx0]; exact hB⟩, hw, ord_congr t' (fun a ha c hc hle => le_upd (hne a ha) (hne c hc) hle) ho, ⟨(List.nodup_cons.1 hnd).2, fun y hy => h.sp.le y (hin y hy)⟩, fun y hy => ?_, fun y hy => by rw [upd_other _ _ _ _ (hne y hy)]; exact h.id y (hin y hy)⟩
 by_cases e : y = x
 ·subst e; rw [upd_same]; simp [hnx]
 ·rw [upd_other _ _ _ _ e, h.th y hy, ← hp.mem_iff]; simp [e]
theorem remove_first {rt : Nat} {c : BT} (h : HeapAt w b g n D S I T (.node rt c .nil)) (hlen : c.spots.length ≤ 1024) :
  Calls Tryz.prog 208 #[.pointer (some ⟨b, 0, none⟩), .int .i64 (rt : Int)] w fun e w' => ∃ t' : BT, e = .returned (.tuple #[]) ∧ (rt :: t'.spots).Perm (BT.node rt c .nil).spots ∧ HeapAt w' b g n (upd D rt 0) (upd S rt 0) (upd I rt 0) (upd T rt false) t' ∧ Only b g w w' := by
 obtain ⟨C, A, B, hR, hrow, hB⟩ := h.lk
 have hlen2 : (BT.node rt c .nil).spots.length = c.spots.length + 1 := by simp [BT.spots]
 rw [hlen2] at hR
 have hrn := h.sp.le rt (by simp [BT.spots])
 have hsp : Spots n c.spots := ⟨by have := h.sp.nd; simp only [BT.spots, List.append_nil, List.nodup_cons] at this; exact this.2, fun y hy => h.sp.le y (by simp [BT.spots, hy])⟩
 have hpair := pair_any (w := w) (b := b) (g := g) (rt := rt) (ct := c.spots.length + 1) (D := D) (S := S) (I := I) (C := C) (A := A) (B := B) (T := T) c c.spots hsp hB
  ⟨⟨C, A, B, hR, linked_row c rt hrow.2.2.1, trivial, fun _ _ => ⟨rfl, rfl, rfl⟩⟩, h.od.2.1, trivial, by simp [BT.spots], Only.refl _ _ _⟩
 rw [← hrow.1] at hpair
 have key := remove_top hR rt rfl hrn.2 hlen (fun r C1 A1 B1 => ∃ t' : BT, r = t'.root ∧ t'.wide ≤ 1 ∧ Row C1 A1 B1 t' ∧ Ord (Le D S I) t' ∧ t'.spots.Perm c.spots ∧ B1 0 = 0) (hpair.mono (by
  rintro e w' ⟨t', hw, he, hp⟩
  obtain ⟨C1, A1, B1, k1, k2, _, k4⟩ := hp.lk
  exact ⟨t'.root, C1, A1, B1, he, k1, hp.on, t', rfl, hw, k2, hp.o1, by simpa [BT.spots] using hp.pm, (k4 0 (fun hh => by have := (hsp.le 0 hh).1; omega)).2.2.trans hB⟩))
 refine key.mono ?_
 rintro e w' ⟨r, C1, A1, B1, he, k1, k2, t', rfl, q1, q2, q3, q4, q5⟩
 have hp : (rt :: t'.spots).Perm (BT.node rt c .nil).spots := by simpa [BT.spots] using q4
 exact ⟨t', he, hp, heap_wiped h (by simp [BT.spots]) hp q1 q2 q3 q5 hlen2 k1, k2⟩
end
end Go.Proofs.YtjlbmmiomfpgiaaGreatDoor.Ph
namespace Go.Proofs.YtjlbmmiomfpgiaaGreatDoor.Ph
set_option maxRecDepth 100000
open Go.RowKit
section
variable {w : World} {b g n : Nat} {D S I : Nat → Nat} {T : Nat → Bool}
theorem row_join {C A B : Nat → Nat} {p q : Nat} {cp cq : BT} (hp : Row C A B (.node p cp .nil)) (hq : Row C A B (.node q cq .nil)) (hn : (p :: q :: (cq.spots ++ cp.spots)).Nodup) (h0 : ∀ s ∈ cp.spots, s ≠ 0) :
  Row (joC C p q) (joA C A p q) (joB C B p q) (.node p (.node q cq cp) .nil) := by
 have hpq : p ≠ q := fun e => (List.nodup_cons.1 hn).1 (by simp [e])
 exact ⟨by rw [joC, upd_same]; rfl, by rw [joB, upd_other _ _ _ _ hpq]; exact hp.2.1, linked_join hp.1 hp.2.2.1 hq.1 hq.2.2.1 hn h0, trivial⟩
theorem remove_other {rt x : Nat} {c : BT} (h : HeapAt w b g n D S I T (.node rt c .nil)) (hx : x ∈ c.spots) (hlen : c.spots.length ≤ 1024) :
  Calls Tryz.prog 208 #[.pointer (some ⟨b, 0, none⟩), .int .i64 (x : Int)] w fun e w' => ∃ t' : BT, e = .returned (.tuple #[]) ∧ (x :: t'.spots).Perm (BT.node rt c .nil).spots ∧ HeapAt w' b g n (upd D x 0) (upd S x 0) (upd I x 0) (upd T x false) t' ∧ Only b g w w' := by
 obtain ⟨C, A, B, hR, hrow, hB⟩ := h.lk
 have hlen2 : (BT.node rt c .nil).spots.length = c.spots.length + 1 := by simp [BT.spots]
 rw [hlen2] at hR
 have hnd : (rt :: c.spots).Nodup := by have := h.sp.nd; simpa [BT.spots] using this
 have hle : ∀ y ∈ rt :: c.spots, 1 ≤ y ∧ y ≤ n := fun y hy => h.sp.le y (by simpa [BT.spots] using hy)
 have hrc : rt ∉ c.spots := (List.nodup_cons.1 hnd).1
 have hxr : x ≠ rt := fun e => hrc (e ▸ hx)
 obtain ⟨hC, hBr, hl, _⟩ := hrow
 obtain ⟨cx, k1, k2, k3, k4⟩ := linked_below (le := Le D S I) x c rt hl (List.nodup_cons.1 hnd).2 hx
 have hcx : ∀ y ∈ cx.spots, y ∈ c.spots := fun y hy => k3.mem_iff.1 (by simp [hy])
 have hnp := k3.nodup_iff.2 (List.nodup_cons.1 hnd).2
 have hxx : x ∉ cx.spots := (List.nodup_cons.1 (List.nodup_append.1 hnp).2.1).1
 have hsp : Spots n cx.spots := ⟨(List.nodup_cons.1 (List.nodup_append.1 hnp).2.1).2, fun y hy => hle y (by simp [hcx y hy])⟩
 have hpair := pair_any (w := w) (b := b) (g := g) (rt := rt) (ct := c.spots.length + 1) (D := D) (S := S) (I := I) (C := C) (A := A) (B := B) (T := T) cx cx.spots hsp hB
  ⟨⟨C, A, B, hR, linked_row cx x k2, trivial, fun _ _ => ⟨rfl, rfl, rfl⟩⟩, k4 h.od.2.1, trivial, by simp [BT.spots], Only.refl _ _ _⟩
 rw [← k1] at hpair
 have h0L : 0 ∉ cx.spots := fun hh => by have := (hsp.le 0 hh).1; omega
 have key := remove_deep hR x hxr (hle x (by simp [hx])).2 hlen
  (fun r C1 A1 B1 => ∃ tb : BT, r = tb.root ∧ tb.wide ≤ 1 ∧ Row C1 A1 B1 tb ∧ Ord (Le D S I) tb ∧ tb.spots.Perm cx.spots ∧ ∀ y, y ∉ cx.spots → C1 y = C y ∧ A1 y = A y ∧ B1 y = B y)
  (fun r C2 A2 B2 => ∃ t' : BT, r = t'.root ∧ t'.wide ≤ 1 ∧ Row C2 A2 B2 t' ∧ Ord (Le D S I) t' ∧ (x :: t'.spots).Perm (rt :: c.spots) ∧ B2 0 = 0)
  (hpair.mono (by
   rintro e w' ⟨t', hw, he, hp⟩
   obtain ⟨C1, A1, B1, q1, q2, _, q4⟩ := hp.lk
   exact ⟨t'.root, C1, A1, B1, he, q1, hp.on, t', rfl, hw, q2, hp.o1, by simpa [BT.spots] using hp.pm, q4⟩))
  (by
   rintro r C1 A1 B1 ⟨tb, _, _, _, _, _, off⟩
   obtain ⟨a, d⟩ := linked_near c rt x hl hx
   rw [(off x hxx).2.1, (off x hxx).2.2]
   refine ⟨?_, ?_⟩
   ·rcases a with ⟨_, a⟩ | a
    ·rw [a]; exact (hle rt (by simp)).2
    ·exact (hle _ (by simp [a])).2
   ·rcases d with d | d
    ·rw [d]; exact Nat.zero_le _
    ·exact (hle _ (by simp [d])).2)
  (by
   rintro w2 r C1 A1 B1 ⟨tb, rfl, hw, hrb, hob, hpb, off⟩ hR2
   obtain ⟨z1, z2⟩ := cut_apart hl hC hBr hnd (fun y hy => by have := (hle y hy).1; omega) hx k3 off
   have hrb2 : Row (cutC C1 A1 B1 x) (cutA C1 A1 B1 x) (cutB C1 A1 B1 x) tb := row_congr tb (fun y hy => z2 y (hpb.mem_iff.1 hy)) hrb
   have hocut := ord_cut x c h.od.2.1
   have hou : ∀ y ∈ (c.cut x).spots, Le D S I rt y := fun y hy => h.od.1 y (cut_spots x c y hy)
   have hB0 : cutB C1 A1 B1 x 0 = 0 := by
    rw [cutB_off, (off 0 h0L).2.2, hB]
    rw [(off x hxx).2.1]
    obtain ⟨a, _⟩ := linked_near c rt x hl hx
    rcases a with ⟨_, a⟩ | a
    ·rw [a]; have := (hle rt (by simp)).1; omega
    ·have := (hle _ (List.mem_cons_of_mem _ a)).1; omega
   have hall : ∀ y, List.count y ((c.cut x).spots ++ x :: tb.spots) = List.count y c.spots := fun y => by
    rw [← (List.perm_iff_count.1 k3) y]
    simp only [List.count_append, List.count_cons, (List.perm_iff_count.1 hpb) y]
   cases tb with
   | nil =>
    refine (join_right rt (hle rt (by simp)).1 w2 b).mono ?_
    rintro e w3 ⟨he, rfl⟩
    refine ⟨rt, _, _, _, he, hR2, Only.refl _ _ _, .node rt (c.cut x) .nil, rfl, by simp [BT.wide], z1, ⟨hou, hocut, trivial⟩, ?_, hB0⟩
    rw [List.perm_iff_count]
    intro y
    have := hall y
    simp only [BT.spots, List.count_append, List.count_cons, List.append_nil, List.count_nil] at this ⊢
    omega
   | node q cq xq =>
    cases xq with
    | node _ _ _ => simp [BT.wide] at hw
    | nil =>
     have hqc : ∀ y ∈ (BT.node q cq .nil).spots, y ∈ c.spots := fun y hy => hcx y (hpb.mem_iff.1 hy)
     have hq := hle q (List.mem_cons_of_mem _ (hqc q (by simp [BT.spots])))
     have hrt := hle rt (by simp)
     have hnn : (rt :: q :: (cq.spots ++ (c.cut x).spots)).Nodup := by
      have hn2 : (x :: rt :: q :: (cq.spots ++ (c.cut x).spots)).Nodup := by
       refine (List.Perm.nodup_iff ?_).2 hnd
       rw [List.perm_iff_count]
       intro y
       have := hall y
       simp only [BT.spots, List.count_append, List.count_cons, List.append_nil] at this ⊢
       omega
      exact (List.nodup_cons.1 hn2).2
     have hnn' : (q :: rt :: ((c.cut x).spots ++ cq.spots)).Nodup := by
      refine (List.Perm.nodup_iff ?_).2 hnn
      rw [List.perm_iff_count]
      intro y
      simp only [List.count_append, List.count_cons]
      omega
     have hroot : ∀ (d : BT), (∀ y ∈ d.spots, y ∈ c.spots) → d.root ≤ n := fun d hd => by
      cases d with
      | nil => exact Nat.zero_le _
      | node s _ _ => exact (hle s (List.mem_cons_of_mem _ (hd s (by simp [BT.spots])))).2
     have hne : ∀ (d : BT) (v : Nat), v ∉ d.spots → v ≠ 0 → d.root ≠ v := fun d v hv h0 e => by
      cases d with
      | nil => exact h0 e.symm
      | node s _ _ => rw [BT.root] at e; exact hv (by simp [BT.spots, e])
     have y1 : q ∉ (c.cut x).spots := fun hh => (List.nodup_cons.1 (List.nodup_cons.1 hnn).2).1 (by simp [hh])
     have y2 : rt ∉ cq.spots := fun hh => (List.nodup_cons.1 hnn).1 (by simp [hh])
     refine (join_any hR2 rt q hrt.1 hrt.2 hq.1 hq.2 (by rw [z1.1]; exact hroot _ (fun y hy => cut_spots x c y hy)) (by rw [hrb2.1]; exact hroot _ (fun y hy => hqc y (by simp [BT.spots, hy]))) (by rw [z1.1]; exact hne _ _ y1 (by omega)) (by rw [hrb2.1]; exact hne _ _ y2 (by omega))).mono ?_
     rintro e w3 ⟨u, v, huv, hlev, he, hR3, ho3⟩
     have nz1 : ∀ s ∈ (c.cut x).spots, s ≠ 0 := fun s hs => by have := (hle s (List.mem_cons_of_mem _ (cut_spots x c s hs))).1; omega
     have nz2 : ∀ s ∈ cq.spots, s ≠ 0 := fun s hs => by have := (hle s (List.mem_cons_of_mem _ (hqc s (by simp [BT.spots, hs])))).1; omega
     rcases huv with ⟨rfl, rfl⟩ | ⟨rfl, rfl⟩
     ·obtain ⟨j1, j2⟩ := ord_join le_trans hlev hou hob.1 hocut hob.2.1
      refine ⟨u, _, _, _, he, hR3, ho3, .node u (.node v cq (c.cut x)) .nil, rfl, by simp [BT.wide], row_join z1 hrb2 hnn nz1, ⟨j1, j2, trivial⟩, ?_, ?_⟩
      ·rw [List.perm_iff_count]
       intro y
       have := hall y
       simp only [BT.spots, List.count_append, List.count_cons, List.append_nil] at this ⊢
       omega
      ·rw [joB, upd_other _ _ _ _ (by omega)]; exact hB0
     ·obtain ⟨j1, j2⟩ := ord_join le_trans hlev hob.1 hou hob.2.1 hocut
      refine ⟨u, _, _, _, he, hR3, ho3, .node u (.node v (c.cut x) cq) .nil, rfl, by simp [BT.wide], row_join hrb2 z1 hnn' nz2, ⟨j1, j2, trivial⟩, ?_, ?_⟩
      ·rw [List.perm_iff_count]
       intro y
       have := hall y
       simp only [BT.spots, List.count_append, List.count_cons, List.append_nil] at this ⊢
       omega
      ·rw [joB, upd_other _ _ _ _ (by omega)]; exact hB0)
 refine key.mono ?_
 rintro e w' ⟨r, C2, A2, B2, he, m1, m2, t', rfl, q1, q2, q3, q4, q5⟩
 have hp : (x :: t'.spots).Perm (BT.node rt c .nil).spots := by simpa [BT.spots] using q4
 exact ⟨t', he, hp, heap_wiped h (by simp [BT.spots, hx]) hp q1 q2 q3 q5 hlen2 m1, m2⟩
end
end Go.Proofs.YtjlbmmiomfpgiaaGreatDoor.Ph
namespace Go.Proofs.YtjlbmmiomfpgiaaGreatDoor.Ph
set_option maxRecDepth 100000
open Go.RowKit
section
variable {w : World} {b g n : Nat} {D S I : Nat → Nat} {T : Nat → Bool} {t : BT}
theorem heap_put {w' : World} {x d s i : Nat} {t' : BT} {C A B : Nat → Nat} (h : HeapAt w b g n D S I T t) (hx : x ∉ t.spots) (hxn : x ≤ n) (hi : i + 1 = x) (hp : t'.spots.Perm (x :: t.spots)) (hw : t'.wide ≤ 1) (hr : Row C A B t') (ho : Ord (Le (upd D x d) (upd S x s) (upd I x i)) t') (hB : B 0 = 0)
  (hR : Rep w' b g n t'.root (t.spots.length + 1) (upd D x d) (upd S x s) (upd I x i) C A B (upd T x true)) :
  HeapAt w' b g n (upd D x d) (upd S x s) (upd I x i) (upd T x true) t' := by
 have hl : t'.spots.length = t.spots.length + 1 := by have := hp.length_eq; simpa using this
 refine ⟨⟨C, A, B, hl.symm ▸ hR, hr, hB⟩, hw, ho, ⟨hp.nodup_iff.2 (List.nodup_cons.2 ⟨hx, h.sp.nd⟩), fun y hy => ?_⟩, fun y hy => ?_, fun y hy => ?_⟩
 ·rcases List.mem_cons.1 (hp.mem_iff.1 hy) with rfl | hy
  ·omega
  ·exact h.sp.le y hy
 ·by_cases e : y = x
  ·subst e; rw [upd_same]; simp [hp.mem_iff]
  ·rw [upd_other _ _ _ _ e, h.th y hy, hp.mem_iff]; simp [e]
 ·rcases List.mem_cons.1 (hp.mem_iff.1 hy) with rfl | hy
  ·rw [upd_same]; exact hi
  ·rw [upd_other I x i y (fun e => hx (e ▸ hy))]; exact h.id y hy
theorem put_any (h : HeapAt w b g n D S I T t) (id d s : Nat) (hid : id < n) (hn : n ≤ 1024) (hct : t.spots.length ≤ 1024) (hT : T (id + 1) = false) :
  Calls Tryz.prog 229 #[.pointer (some ⟨b, 0, none⟩), .agg #[.int .u64 (d : Int), .int .u64 (s : Int), .int .i64 (id : Int)]] w fun e w' => e = .returned (.tuple #[]) ∧ ∃ t' : BT, t'.spots.Perm ((id + 1) :: t.spots) ∧ HeapAt w' b g n (upd D (id + 1) d) (upd S (id + 1) s) (upd I (id + 1) id) (upd T (id + 1) true) t' ∧ Only b g w w' := by
 obtain ⟨C, A, B, hR, hrow, hB⟩ := h.lk
 have hx : id + 1 ∉ t.spots := fun hh => by have := (h.th (id + 1) (by omega)).2 hh; rw [hT] at this; exact absurd this (by simp)
 have hne : ∀ y ∈ t.spots, y ≠ id + 1 := fun y hy e => hx (e ▸ hy)
 have hrow2 : Row (upd C (id + 1) 0) (upd A (id + 1) 0) (upd B (id + 1) 0) t := row_congr t (fun y hy => ⟨upd_other _ _ _ _ (hne y hy), upd_other _ _ _ _ (hne y hy), upd_other _ _ _ _ (hne y hy)⟩) hrow
 have hod : Ord (Le (upd D (id + 1) d) (upd S (id + 1) s) (upd I (id + 1) id)) t := ord_congr t (fun a ha c hc hle => le_upd (hne a ha) (hne c hc) hle) h.od
 have hB2 : upd B (id + 1) 0 0 = 0 := by rw [upd_other _ _ _ _ (by omega)]; exact hB
 have hone : Row (upd C (id + 1) 0) (upd A (id + 1) 0) (upd B (id + 1) 0) (.node (id + 1) .nil .nil) := ⟨upd_same _ _ _, upd_same _ _ _, trivial, trivial⟩
 have hcast : ((id : Int) + 1) = ((id + 1 : Nat) : Int) := by omega
 cases t with
 | nil =>
  refine (put_walk hR id d s (id + 1) hid hn hct (fun w1 hr => by
   rw [hcast]
   refine (join_left (id + 1) w1 b).mono ?_
   rintro e w' ⟨he, rfl⟩
   exact ⟨he, hr, Only.refl _ _ _⟩)).mono ?_
  rintro e w' ⟨he, k1, k2⟩
  exact ⟨he, .node (id + 1) .nil .nil, by simp [BT.spots], heap_put h hx (by omega) rfl (by simp [BT.spots]) (by simp [BT.wide]) hone ⟨fun y hy => absurd hy (by simp [BT.spots]), trivial, trivial⟩ hB2 k1, k2⟩
 | node rt c x =>
  cases x with
  | node _ _ _ => have := h.wd; simp [BT.wide] at this
  | nil =>
   have hrt := h.sp.le rt (by simp [BT.spots])
   have hnd : (rt :: c.spots).Nodup := by have := h.sp.nd; simpa [BT.spots] using this
   have hrx : rt ≠ id + 1 := hne rt (by simp [BT.spots])
   have hxc : id + 1 ∉ c.spots := fun hh => hx (by simp [BT.spots, hh])
   have nz : ∀ y ∈ c.spots, y ≠ 0 := fun y hy => by have := (h.sp.le y (by simp [BT.spots, hy])).1; omega
   have hroot : c.root ≤ n := by
    cases c with
    | nil => exact Nat.zero_le _
    | node z _ _ => exact (h.sp.le z (by simp [BT.spots])).2
   have hcr : c.root ≠ id + 1 := by
    cases c with
    | nil => simp [BT.root]
    | node z _ _ => exact hne z (by simp [BT.spots])
   cases hb : bef (upd D (id + 1) d (id + 1)) (upd S (id + 1) s (id + 1)) (upd I (id + 1) id (id + 1)) (upd D (id + 1) d rt) (upd S (id + 1) s rt) (upd I (id + 1) id rt) with
   | true =>
    refine (put_walk hR id d s (id + 1) hid hn hct (fun w1 hr => by
     rw [hcast]
     exact join_swap hr (id + 1) rt (by omega) (by omega) hrt.1 hrt.2 (by rw [upd_same]; exact Nat.zero_le _) (by rw [upd_same]; omega) hb)).mono ?_
    rintro e w' ⟨he, k1, k2⟩
    have hperm : (BT.node (id + 1) (.node rt c .nil) .nil).spots.Perm ((id + 1) :: (BT.node rt c .nil).spots) := by simp [BT.spots]
    obtain ⟨j1, j2⟩ := ord_join (cp := .nil) le_trans (le_of_before hb) (fun y hy => absurd hy (by simp [BT.spots])) hod.1 trivial hod.2.1
    exact ⟨he, .node (id + 1) (.node rt c .nil) .nil, hperm, heap_put h hx (by omega) rfl hperm (by simp [BT.wide]) (row_join hone hrow2 (by simpa [BT.spots] using List.nodup_cons.2 ⟨hx, h.sp.nd⟩) (fun y hy => absurd hy (by simp [BT.spots]))) ⟨j1, j2, trivial⟩ (by rw [joB, upd_other _ _ _ _ (by omega)]; exact hB2) k1, k2⟩
   | false =>
    refine (put_walk hR id d s rt hid hn hct (fun w1 hr => by
     rw [hcast]
     exact join_keep hr rt (id + 1) hrt.1 hrt.2 (by omega) (by omega) (by rw [hrow2.1]; exact hroot) (by rw [hrow2.1]; exact hcr) hb)).mono ?_
    rintro e w' ⟨he, k1, k2⟩
    have hperm : (BT.node rt (.node (id + 1) .nil c) .nil).spots.Perm ((id + 1) :: (BT.node rt c .nil).spots) := by
     rw [List.perm_iff_count]
     intro y
     simp only [BT.spots, List.count_cons, List.append_nil, List.nil_append]
     omega
    obtain ⟨j1, j2⟩ := ord_join (cq := .nil) le_trans hb hod.1 (fun y hy => absurd hy (by simp [BT.spots])) hod.2.1 trivial
    have hn2 : (rt :: (id + 1) :: ([] ++ c.spots)).Nodup := by
     simp only [List.nil_append, List.nodup_cons, List.mem_cons, not_or]
     exact ⟨⟨hrx, (List.nodup_cons.1 hnd).1⟩, hxc, (List.nodup_cons.1 hnd).2⟩
    exact ⟨he, .node rt (.node (id + 1) .nil c) .nil, hperm, heap_put h hx (by omega) rfl hperm (by simp [BT.wide]) (row_join hrow2 hone hn2 nz) ⟨j1, j2, trivial⟩ (by rw [joB, upd_other _ _ _ _ (by omega)]; exact hB2) k1, k2⟩
end
end Go.Proofs.YtjlbmmiomfpgiaaGreatDoor.Ph
namespace Go.Proofs.YtjlbmmiomfpgiaaGreatDoor.Ph
set_option maxRecDepth 100000
open Go.RowKit
def Wiped (n : Nat) (D S : Nat → Nat) (T : Nat → Bool) : Prop := ∀ id, id < n → T (id + 1) = false → D (id + 1) = 0 ∧ S (id + 1) = 0
theorem Wiped.cut {n x : Nat} {D S : Nat → Nat} {T : Nat → Bool} (h : Wiped n D S T) : Wiped n (upd D x 0) (upd S x 0) (upd T x false) := by
 intro i hi ht
 by_cases e : i + 1 = x
 ·rw [e, upd_same, upd_same]; exact ⟨rfl, rfl⟩
 ·rw [upd_other _ _ _ _ e] at ht
  rw [upd_other _ _ _ _ e, upd_other _ _ _ _ e]; exact h i hi ht
theorem Wiped.put {n x d s : Nat} {D S : Nat → Nat} {T : Nat → Bool} (h : Wiped n D S T) : Wiped n (upd D x d) (upd S x s) (upd T x true) := by
 intro i hi ht
 by_cases e : i + 1 = x
 ·rw [e, upd_same] at ht; cases ht
 ·rw [upd_other _ _ _ _ e] at ht
  rw [upd_other _ _ _ _ e, upd_other _ _ _ _ e]; exact h i hi ht
def Holds (w : World) (b g n : Nat) (m : Nat → Option (Nat × Nat)) (t : BT) : Prop :=
 ∃ D S I T, HeapAt w b g n D S I T t ∧ n ≤ 1024 ∧ (∀ id, id < n → m id = if T (id + 1) then some (D (id + 1), S (id + 1)) else none) ∧ Wiped n D S T
theorem spots_len : ∀ {n : Nat} {L : List Nat}, Spots n L → L.length ≤ n
 | 0, L, h => by
  cases L with
  | nil => simp
  | cons y _ => have := h.le y (by simp); omega
 | n + 1, L, h => by
  have k : Spots n (L.erase (n + 1)) := ⟨h.nd.erase _, fun y hy => by
   have := (h.nd.mem_erase_iff).1 hy
   have := h.le y this.2
   omega⟩
  have := spots_len k
  have := List.length_erase (a := n + 1) (l := L)
  split at this <;> omega
section
variable {w : World} {b g n : Nat} {D S I : Nat → Nat} {T : Nat → Bool} {t : BT} {m : Nat → Option (Nat × Nat)}
theorem remove_any (h : HeapAt w b g n D S I T t) (hn : n ≤ 1024) (x : Nat) (hx : x ∈ t.spots) :
  Calls Tryz.prog 208 #[.pointer (some ⟨b, 0, none⟩), .int .i64 (x : Int)] w fun e w' => e = .returned (.tuple #[]) ∧ ∃ t' : BT, (x :: t'.spots).Perm t.spots ∧ HeapAt w' b g n (upd D x 0) (upd S x 0) (upd I x 0) (upd T x false) t' ∧ Only b g w w' := by
 have hl := spots_len h.sp
 cases t with
 | nil => simp [BT.spots] at hx
 | node rt c y =>
  cases y with
  | node _ _ _ => have := h.wd; simp [BT.wide] at this
  | nil =>
   have hlen : c.spots.length ≤ 1024 := by simp only [BT.spots, List.append_nil, List.length_cons] at hl; omega
   by_cases e : x = rt
   ·subst e
    refine (remove_first h hlen).mono ?_
    rintro e w' ⟨t', a, p, q, o⟩
    exact ⟨a, t', p, q, o⟩
   ·refine (remove_other h (by simpa [BT.spots, e] using hx) hlen).mono ?_
    rintro e w' ⟨t', a, p, q, o⟩
    exact ⟨a, t', p, q, o⟩
theorem wiped_m {id : Nat} (hm : ∀ i, i < n → m i = if T (i + 1) then some (D (i + 1), S (i + 1)) else none) : ∀ i, i < n → upd m id none i = if upd T (id + 1) false (i + 1) then some (upd D (id + 1) 0 (i + 1), upd S (id + 1) 0 (i + 1)) else none := by
 intro i hi
 by_cases e : i = id
 ·subst e; rw [upd_same, upd_same]; rfl
 ·have e' : i + 1 ≠ id + 1 := by omega
  rw [upd_other _ _ _ _ e, upd_other _ _ _ _ e', upd_other _ _ _ _ e', upd_other _ _ _ _ e']; exact hm i hi
theorem put_m {id d s : Nat} (hm : ∀ i, i < n → m i = if T (i + 1) then some (D (i + 1), S (i + 1)) else none) : ∀ i, i < n → upd m id (some (d, s)) i = if upd T (id + 1) true (i + 1) then some (upd D (id + 1) d (i + 1), upd S (id + 1) s (i + 1)) else none := by
 intro i hi
 by_cases e : i = id
 ·subst e; rw [upd_same, upd_same, upd_same, upd_same]; rfl
 ·have e' : i + 1 ≠ id + 1 := by omega
  rw [upd_other _ _ _ _ e, upd_other _ _ _ _ e', upd_other _ _ _ _ e', upd_other _ _ _ _ e']; exact hm i hi
theorem holds_there {id : Nat} (hm : ∀ i, i < n → m i = if T (i + 1) then some (D (i + 1), S (i + 1)) else none) (hid : id < n) : (m id).isSome = T (id + 1) := by
 rw [hm id hid]; cases T (id + 1) <;> rfl
theorem insert_ok (h : Holds w b g n m t) (id d s : Nat) (hid : id < n) (hm : (m id).isSome = false) :
  Calls Tryz.prog 215 #[.pointer (some ⟨b, 0, none⟩), .int .i64 (id : Int), .int .u64 (d : Int), .int .u64 (s : Int)] w fun e w' => e = .returned (.int .i64 0) ∧ ∃ t', t'.spots.Perm ((id + 1) :: t.spots) ∧ Holds w' b g n (upd m id (some (d, s))) t' ∧ Only b g w w' := by
 obtain ⟨D, S, I, T, h1, h2, h3, h4⟩ := h
 have hT : T (id + 1) = false := (holds_there h3 hid).symm.trans hm
 obtain ⟨C, A, B, hR, _⟩ := h1.lk
 have hl := spots_len h1.sp
 refine insert_walk hR id d s h2 hid hT _ ((put_any h1 id d s hid h2 (by omega) hT).mono ?_)
 rintro e w' ⟨he, t', p, q, o⟩
 exact ⟨he, t', p, ⟨_, _, _, _, q, h2, put_m h3, h4.put⟩, o⟩
theorem delete_ok (h : Holds w b g n m t) (id : Nat) (hid : id < n) (hm : (m id).isSome = true) :
  Calls Tryz.prog 194 #[.pointer (some ⟨b, 0, none⟩), .int .i64 (id : Int)] w fun e w' => e = .returned (.int .i64 0) ∧ ∃ t', ((id + 1) :: t'.spots).Perm t.spots ∧ Holds w' b g n (upd m id none) t' ∧ Only b g w w' := by
 obtain ⟨D, S, I, T, h1, h2, h3, h4⟩ := h
 have hT : T (id + 1) = true := (holds_there h3 hid).symm.trans hm
 obtain ⟨C, A, B, hR, _⟩ := h1.lk
 refine delete_walk hR id h2 hid hT _ ((remove_any h1 h2 (id + 1) ((h1.th (id + 1) (by omega)).1 hT)).mono ?_)
 rintro e w' ⟨he, t', p, q, o⟩
 exact ⟨he, t', p, ⟨_, _, _, _, q, h2, wiped_m h3, h4.cut⟩, o⟩
end
end Go.Proofs.YtjlbmmiomfpgiaaGreatDoor.Ph
namespace Go.Proofs.YtjlbmmiomfpgiaaGreatDoor.Ph
set_option maxRecDepth 100000
open Go.RowKit
def First (n : Nat) (m : Nat → Option (Nat × Nat)) (id : Nat) : Prop :=
 id < n ∧ ∃ d s, m id = some (d, s) ∧ ∀ j d' s', j < n → m j = some (d', s') → d < d' ∨ (d = d' ∧ (s < s' ∨ (s = s' ∧ id ≤ j)))
section
variable {w : World} {b g n : Nat} {D S I : Nat → Nat} {T : Nat → Bool} {t : BT} {m : Nat → Option (Nat × Nat)}
theorem first_root (h : HeapAt w b g n D S I T t) (hm : ∀ i, i < n → m i = if T (i + 1) then some (D (i + 1), S (i + 1)) else none) (ht : t.spots ≠ []) : I t.root + 1 = t.root ∧ t.root ∈ t.spots ∧ First n m (I t.root) := by
 cases t with
 | nil => exact absurd rfl ht
 | node rt c y =>
  cases y with
  | node _ _ _ => have := h.wd; simp [BT.wide] at this
  | nil =>
   have hid := h.id rt (by simp [BT.spots])
   have hle := h.sp.le rt (by simp [BT.spots])
   refine ⟨hid, by simp [BT.spots, BT.root], ?_⟩
   show First n m (I rt)
   have hlt : I rt < n := by omega
   have hT : T (I rt + 1) = true := by rw [hid]; exact (h.th rt hle.2).2 (by simp [BT.spots])
   have hv := hm (I rt) hlt
   rw [hT, if_pos rfl] at hv
   refine ⟨hlt, _, _, hv, fun j d' s' hj hmj => ?_⟩
   rw [hm j hj] at hmj
   have hTj : T (j + 1) = true := by
    cases hh : T (j + 1) with
    | true => rfl
    | false => rw [hh] at hmj; exact absurd hmj (by simp)
   rw [hTj, if_pos rfl] at hmj
   injection hmj with hmj
   injection hmj with e1 e2
   have hjs := (h.th (j + 1) (by omega)).1 hTj
   rw [hid]
   simp only [BT.spots, List.append_nil, List.mem_cons] at hjs
   rcases hjs with e | hjs
   ·rw [e] at e1 e2; omega
   ·have hl := le_iff.1 (h.od.1 (j + 1) hjs)
    have hij := h.id (j + 1) (by simp [BT.spots, hjs])
    omega
theorem min_ok (h : Holds w b g n m t) (ht : t.spots ≠ []) :
  Calls Tryz.prog 207 #[.pointer (some ⟨b, 0, none⟩)] w fun e w' => ∃ id : Nat, First n m id ∧ e = .returned (.tuple #[.int .i64 (id : Int), .bool true]) ∧ ∃ q, w' = w.drewN q := by
 obtain ⟨D, S, I, T, h1, h2, h3, h4⟩ := h
 obtain ⟨k1, k2, k3⟩ := first_root h1 h3 ht
 obtain ⟨C, A, B, hR, _⟩ := h1.lk
 have hle := h1.sp.le _ k2
 refine (min_walk hR hle.1 hle.2).mono ?_
 rintro e w' ⟨he, hq⟩
 exact ⟨_, k3, he, hq⟩
end
end Go.Proofs.YtjlbmmiomfpgiaaGreatDoor.Ph
namespace Go.Proofs.YtjlbmmiomfpgiaaGreatDoor.Ph
set_option maxRecDepth 100000
open Go.RowKit
attribute [local go_sem ↓] Go.wp_at_zero Go.wp_at_succ
section
variable {w : World} {b g n rt ct : Nat} {D S I C A B : Nat → Nat} {T : Nat → Bool}
theorem min_none (h : Rep w b g n 0 ct D S I C A B T) :
  Calls Tryz.prog 207 #[.pointer (some ⟨b, 0, none⟩)] w fun e w' => e = .returned (.tuple #[.int .i64 0, .bool false]) ∧ w' = w := by
 have e1 : w.cell? ⟨b, 1, none⟩ = some (.int .i64 0) := h.rt
 clear h
 go_enter Tryz.func207, Tryz.ntmps207
 go_wp2
 go_ret2
 exact ⟨rfl, rfl⟩
theorem insert_known (h : Rep w b g n rt ct D S I C A B T) (id : Nat) (d s : Int) (hid : id < n) (hn : n ≤ 1024) (hT : T (id + 1) = true) :
  Calls Tryz.prog 215 #[.pointer (some ⟨b, 0, none⟩), .int .i64 (id : Int), .int .u64 d, .int .u64 s] w fun e w' => e = .returned (.int .i64 5) ∧ w' = w := by
 have HM := veil (may_yes h id hn hid)
 obtain ⟨cp, e0⟩ := h.sl
 have e1 := h.nt (id + 1) (by omega)
 rw [hT] at e1
 clear h hT
 go_enter Tryz.func215, Tryz.ntmps215
 go_wp2_with (go_at_call 213; refine (HM.out).mono ?_; rintro e w1 ⟨rfl, hw⟩; replace hw := hw.symm; subst hw)
 go_ret
 exact ⟨rfl, rfl⟩
theorem delete_none (h : Rep w b g n rt ct D S I C A B T) (id : Nat) (hid : id < n) (hn : n ≤ 1024) (hT : T (id + 1) = false) :
  Calls Tryz.prog 194 #[.pointer (some ⟨b, 0, none⟩), .int .i64 (id : Int)] w fun e w' => e = .returned (.int .i64 6) ∧ w' = w := by
 have HM := veil (may_yes h id hn hid)
 obtain ⟨cp, e0⟩ := h.sl
 have e1 := h.nt (id + 1) (by omega)
 rw [hT] at e1
 clear h hT
 go_enter Tryz.func194, Tryz.ntmps194
 go_wp2_with (go_at_call 213; refine (HM.out).mono ?_; rintro e w1 ⟨rfl, hw⟩; replace hw := hw.symm; subst hw)
 go_ret
 exact ⟨rfl, rfl⟩
end
end Go.Proofs.YtjlbmmiomfpgiaaGreatDoor.Ph
namespace Go.Proofs.YtjlbmmiomfpgiaaGreatDoor.Ph
set_option maxRecDepth 100000
open Go.RowKit
abbrev Item := Nat × Nat × Nat
def ah (a b : Item) : Prop := a.2.1 < b.2.1 ∨ (a.2.1 = b.2.1 ∧ (a.2.2 < b.2.2 ∨ (a.2.2 = b.2.2 ∧ a.1 < b.1)))
instance (a b : Item) : Decidable (ah a b) := by unfold ah; exact inferInstance
theorem ah_trans {a b c : Item} (h : ah a b) (k : ah b c) : ah a c := by unfold ah at *; omega
theorem ah_tot {a b : Item} (h : a.1 ≠ b.1) (k : ¬ ah a b) : ah b a := by unfold ah at *; omega
def ins (x : Item) : List Item → List Item
 | [] => [x]
 | y :: L => if ah x y then x :: y :: L else y :: ins x L
def out (id : Nat) (L : List Item) : List Item := L.filter (fun it => it.1 != id)
def Srt (L : List Item) : Prop := L.Pairwise ah
theorem mem_ins {x y : Item} : ∀ {L : List Item}, y ∈ ins x L ↔ y = x ∨ y ∈ L
 | [] => by simp [ins]
 | z :: L => by
  rw [ins]
  split
  ·simp
  ·rw [List.mem_cons, mem_ins (L := L), List.mem_cons]
   constructor
   ·rintro (h | h | h)
    ·exact .inr (.inl h)
    ·exact .inl h
    ·exact .inr (.inr h)
   ·rintro (h | h | h)
    ·exact .inr (.inl h)
    ·exact .inl h
    ·exact .inr (.inr h)
theorem len_ins {x : Item} : ∀ {L : List Item}, (ins x L).length = L.length + 1
 | [] => rfl
 | z :: L => by
  rw [ins]
  split
  ·simp
  ·simp [len_ins (L := L)]
theorem srt_ins {x : Item} : ∀ {L : List Item}, Srt L → (∀ y ∈ L, y.1 ≠ x.1) → Srt (ins x L)
 | [], _, _ => by simp [Srt, ins]
 | z :: L, h, hx => by
  unfold Srt at h ⊢
  rw [List.pairwise_cons] at h
  rw [ins]
  split
  ·rename_i hz
   rw [List.pairwise_cons, List.pairwise_cons]
   refine ⟨fun y hy => ?_, h⟩
   rcases List.mem_cons.1 hy with rfl | hy
   ·exact hz
   ·exact ah_trans hz (h.1 y hy)
  ·rename_i hz
   rw [List.pairwise_cons]
   refine ⟨fun y hy => ?_, srt_ins h.2 (fun y hy => hx y (List.mem_cons_of_mem _ hy))⟩
   rcases mem_ins.1 hy with rfl | hy
   ·exact ah_tot (fun e => hx z (by simp) e.symm) hz
   ·exact h.1 y hy
theorem mem_out {id : Nat} {y : Item} {L : List Item} : y ∈ out id L ↔ y ∈ L ∧ y.1 ≠ id := by simp [out]
theorem srt_out {id : Nat} {L : List Item} (h : Srt L) : Srt (out id L) := List.Pairwise.filter _ h
structure Good (n : Nat) (L : List Item) : Prop where
 srt : Srt L
 ids : (L.map (·.1)).Nodup
 rng : ∀ it ∈ L, it.1 < n
theorem Good.nil (n : Nat) : Good n [] := ⟨by simp [Srt], by simp, by simp⟩
theorem nodup_ins {x : Item} : ∀ {L : List Item}, (L.map (·.1)).Nodup → (∀ y ∈ L, y.1 ≠ x.1) → ((ins x L).map (·.1)).Nodup
 | [], _, _ => by simp [ins]
 | z :: L, h, hx => by
  rw [ins]
  rw [List.map_cons, List.nodup_cons] at h
  split
  ·rw [List.map_cons, List.map_cons, List.nodup_cons, List.nodup_cons]
   refine ⟨fun q => ?_, h⟩
   rw [← List.map_cons (f := fun (a : Item) => a.1) (a := z) (l := L)] at q
   obtain ⟨y, hy, e⟩ := List.mem_map.1 q
   exact hx y hy e
  ·rw [List.map_cons, List.nodup_cons]
   refine ⟨fun q => ?_, nodup_ins h.2 (fun y hy => hx y (List.mem_cons_of_mem _ hy))⟩
   obtain ⟨y, hy, e⟩ := List.mem_map.1 q
   rcases mem_ins.1 hy with rfl | hy
   ·exact hx z (by simp) e.symm
   ·exact h.1 (List.mem_map.2 ⟨y, hy, e⟩)
theorem Good.ins {n : Nat} {L : List Item} (h : Good n L) {x : Item} (hx : x.1 < n) (hid : ∀ y ∈ L, y.1 ≠ x.1) : Good n (ins x L) :=
 ⟨srt_ins h.srt hid, nodup_ins h.ids hid, fun it hit => by
  rcases mem_ins.1 hit with rfl | q
  ·exact hx
  ·exact h.rng it q⟩
theorem Good.out {n : Nat} {L : List Item} (h : Good n L) (id : Nat) : Good n (out id L) :=
 ⟨srt_out h.srt, (List.Sublist.map _ List.filter_sublist).nodup h.ids, fun it hit => h.rng it (mem_out.1 hit).1⟩
theorem out_head {n : Nat} {x : Item} {L : List Item} (h : Good n (x :: L)) : out x.1 (x :: L) = L := by
 have hn := (List.nodup_cons.1 h.ids).1
 unfold out
 rw [List.filter_cons_of_neg (by simp), List.filter_eq_self]
 intro y hy
 simp only [bne_iff_ne, ne_eq]
 intro e
 exact hn (List.mem_map.2 ⟨y, hy, e⟩)
theorem out_miss {id : Nat} {L : List Item} (h : ∀ y ∈ L, y.1 ≠ id) : out id L = L := by
 unfold out
 rw [List.filter_eq_self]
 intro y hy
 simpa using h y hy
theorem out_split {n : Nat} {L1 L2 : List Item} {x : Item} (h : Good n (L1 ++ x :: L2)) : out x.1 (L1 ++ x :: L2) = L1 ++ L2 := by
 have hn := h.ids
 rw [List.map_append, List.nodup_append] at hn
 simp only [List.map_cons, List.nodup_cons] at hn
 unfold out
 rw [List.filter_append, List.filter_cons_of_neg (by simp)]
 congr 1
 ·rw [List.filter_eq_self]
  intro y hy
  simp only [bne_iff_ne, ne_eq]
  exact hn.2.2 _ (List.mem_map_of_mem (f := fun (a : Item) => a.1) hy) _ (by simp)
 ·rw [List.filter_eq_self]
  intro y hy
  simp only [bne_iff_ne, ne_eq]
  intro e
  exact hn.2.1.1 (List.mem_map.2 ⟨y, hy, e⟩)
theorem Good.uniq {n : Nat} {L : List Item} (h : Good n L) {x y : Item} (hx : x ∈ L) (hy : y ∈ L) (e : x.1 = y.1) : x = y := by
 by_cases c1 : ah x y
 ·obtain ⟨s, t, rfl⟩ := List.append_of_mem hx
  have hn := h.ids
  rw [List.map_append, List.nodup_append] at hn
  simp only [List.map_cons, List.nodup_cons] at hn
  rcases List.mem_append.1 hy with q | q
  ·exact absurd e.symm (hn.2.2 _ (List.mem_map_of_mem (f := fun (a : Item) => a.1) q) _ (by simp))
  ·rcases List.mem_cons.1 q with q | q
   ·exact q.symm
   ·exact absurd (List.mem_map.2 ⟨y, q, e.symm⟩) hn.2.1.1
 ·obtain ⟨s, t, rfl⟩ := List.append_of_mem hx
  have hn := h.ids
  rw [List.map_append, List.nodup_append] at hn
  simp only [List.map_cons, List.nodup_cons] at hn
  rcases List.mem_append.1 hy with q | q
  ·exact absurd e.symm (hn.2.2 _ (List.mem_map_of_mem (f := fun (a : Item) => a.1) q) _ (by simp))
  ·rcases List.mem_cons.1 q with q | q
   ·exact q.symm
   ·exact absurd (List.mem_map.2 ⟨y, q, e.symm⟩) hn.2.1.1
def IsH (w : World) (b g n : Nat) (L : List Item) : Prop :=
 Good n L ∧ ∃ m t, Holds w b g n m t ∧ L.length = t.spots.length ∧ ∀ id d s, id < n → (m id = some (d, s) ↔ (id, d, s) ∈ L)
section
variable {w : World} {b g n : Nat} {L : List Item} {m : Nat → Option (Nat × Nat)} {t : BT}
theorem IsH.good (h : IsH w b g n L) : Good n L := h.1
theorem IsH.nle (h : IsH w b g n L) : n ≤ 1024 := by
 obtain ⟨_, m, t, ⟨_, _, _, _, _, hn, _⟩, _⟩ := h
 exact hn
theorem m_none {id : Nat} (hm : ∀ id d s, id < n → (m id = some (d, s) ↔ (id, d, s) ∈ L)) (hi : id < n) (hid : ∀ it ∈ L, it.1 ≠ id) : (m id).isSome = false := by
 cases h : m id with
 | none => rfl
 | some x =>
  obtain ⟨d, s⟩ := x
  exact absurd rfl (hid _ ((hm id d s hi).1 h))
theorem m_some {id d s : Nat} (hm : ∀ id d s, id < n → (m id = some (d, s) ↔ (id, d, s) ∈ L)) (hi : id < n) (hid : (id, d, s) ∈ L) : (m id).isSome = true := by
 rw [(hm id d s hi).2 hid]; rfl
theorem m_ins {id d s : Nat} (hm : ∀ id d s, id < n → (m id = some (d, s) ↔ (id, d, s) ∈ L)) (hid : ∀ it ∈ L, it.1 ≠ id) : ∀ i d' s', i < n → (upd m id (some (d, s)) i = some (d', s') ↔ (i, d', s') ∈ ins (id, d, s) L) := by
 intro i d' s' hi
 rw [mem_ins]
 by_cases e : i = id
 ·subst e
  rw [upd_same]
  constructor
  ·intro q
   injection q with q
   injection q with q1 q2
   exact .inl (by rw [q1, q2])
  ·rintro (q | q)
   ·injection q with _ q
    injection q with q1 q2
    rw [q1, q2]
   ·exact absurd rfl (hid _ q)
 ·rw [upd_other _ _ _ _ e, hm i d' s' hi]
  constructor
  ·exact .inr
  ·rintro (q | q)
   ·injection q with q _
    exact absurd q e
   ·exact q
theorem m_out {id : Nat} (hm : ∀ id d s, id < n → (m id = some (d, s) ↔ (id, d, s) ∈ L)) : ∀ i d' s', i < n → (upd m id none i = some (d', s') ↔ (i, d', s') ∈ out id L) := by
 intro i d' s' hi
 rw [mem_out]
 by_cases e : i = id
 ·subst e
  rw [upd_same]
  constructor
  ·intro q; cases q
  ·intro q; exact absurd rfl q.2
 ·rw [upd_other _ _ _ _ e, hm i d' s' hi]
  exact ⟨fun q => ⟨q, e⟩, fun q => q.1⟩
theorem len_out {id d s : Nat} {L : List Item} (h : Good n L) (hid : (id, d, s) ∈ L) : (out id L).length + 1 = L.length := by
 obtain ⟨L1, L2, rfl⟩ := List.append_of_mem hid
 rw [show out id (L1 ++ (id, d, s) :: L2) = L1 ++ L2 from out_split (x := (id, d, s)) h]
 simp only [List.length_append, List.length_cons]
 omega
theorem hinsert_ok (h : IsH w b g n L) (id d s : Nat) (hid : id < n) (hno : ∀ it ∈ L, it.1 ≠ id) :
  Calls Tryz.prog 215 #[.pointer (some ⟨b, 0, none⟩), .int .i64 (id : Int), .int .u64 (d : Int), .int .u64 (s : Int)] w fun e w' => e = .returned (.int .i64 0) ∧ IsH w' b g n (ins (id, d, s) L) ∧ Only b g w w' := by
 obtain ⟨h0, m, t, h1, h2, h3⟩ := h
 refine (insert_ok h1 id d s hid (m_none h3 hid hno)).mono ?_
 rintro e w' ⟨he, t', p, hh, o⟩
 refine ⟨he, ⟨h0.ins (x := (id, d, s)) hid hno, _, t', hh, ?_, m_ins h3 hno⟩, o⟩
 have := p.length_eq
 rw [len_ins, this, List.length_cons, h2]
theorem hdelete_ok (h : IsH w b g n L) (id d s : Nat) (hid : (id, d, s) ∈ L) :
  Calls Tryz.prog 194 #[.pointer (some ⟨b, 0, none⟩), .int .i64 (id : Int)] w fun e w' => e = .returned (.int .i64 0) ∧ IsH w' b g n (out id L) ∧ Only b g w w' := by
 obtain ⟨h0, m, t, h1, h2, h3⟩ := h
 have hi := h0.rng _ hid
 refine (delete_ok h1 id hi (m_some h3 hi hid)).mono ?_
 rintro e w' ⟨he, t', p, hh, o⟩
 refine ⟨he, ⟨h0.out id, _, t', hh, ?_, m_out h3⟩, o⟩
 have := p.length_eq
 rw [List.length_cons] at this
 have := len_out h0 hid
 omega
theorem first_head {x : Item} {id : Nat} (h0 : Good n (x :: L)) (hm : ∀ id d s, id < n → (m id = some (d, s) ↔ (id, d, s) ∈ x :: L)) (hf : First n m id) : id = x.1 := by
 obtain ⟨hi, d, s, hd, hle⟩ := hf
 have h1 := (hm id d s hi).1 hd
 rcases List.mem_cons.1 h1 with e | e
 ·rw [← e]
 ·have h2 := (List.pairwise_cons.1 h0.srt).1 _ e
  have h3 := hle x.1 x.2.1 x.2.2 (h0.rng x (by simp)) ((hm x.1 x.2.1 x.2.2 (h0.rng x (by simp))).2 (by simp))
  unfold ah at h2
  simp only at h2
  omega
theorem hmin_ok {x : Item} (h : IsH w b g n (x :: L)) :
  Calls Tryz.prog 207 #[.pointer (some ⟨b, 0, none⟩)] w fun e w' => e = .returned (.tuple #[.int .i64 (x.1 : Int), .bool true]) ∧ ∃ q, w' = w.drewN q := by
 obtain ⟨h0, m, t, h1, h2, h3⟩ := h
 refine (min_ok h1 (by intro e; rw [e] at h2; simp at h2)).mono ?_
 rintro e w' ⟨id, hf, he, hq⟩
 have hx := first_head h0 h3 hf
 subst hx
 exact ⟨he, hq⟩
theorem IsH.rep (h : IsH w b g n L) : ∃ t D S I C A B T, Rep w b g n (BT.root t) L.length D S I C A B T ∧ (L = [] → t = BT.nil) ∧ n ≤ 1024 ∧ Wiped n D S T ∧ (∀ id, id < n → (T (id + 1) = true ↔ ∃ it ∈ L, it.1 = id)) ∧ ∀ id, id < n → T (id + 1) = true → (id, D (id + 1), S (id + 1)) ∈ L := by
 obtain ⟨h0, m, t, ⟨D, S, I, T, h1, hn, h4, h5⟩, h2, h3⟩ := h
 obtain ⟨C, A, B, hR, _⟩ := h1.lk
 refine ⟨t, D, S, I, C, A, B, T, h2 ▸ hR, fun e => ?_, hn, h5, fun id hi => ?_, fun id hi hT => ?_⟩
 ·subst e
  cases t with
  | nil => rfl
  | node _ _ _ => simp [BT.spots] at h2
 ·constructor
  ·intro hT
   have := h4 id hi
   rw [hT, if_pos rfl] at this
   exact ⟨_, (h3 id _ _ hi).1 this, rfl⟩
  ·rintro ⟨⟨i, d, s⟩, hm, rfl⟩
   have h6 := (h3 i d s hi).2 hm
   rw [h4 i hi] at h6
   cases hT : T (i + 1) with
   | true => rfl
   | false =>
    rw [hT] at h6
    cases h6
 ·have := h4 id hi
  rw [hT, if_pos rfl] at this
  exact (h3 id _ _ hi).1 this
theorem IsH.kept {w' : World} (h : IsH w b g n L) (hb : w'.heap[b]? = w.heap[b]?) (hg : w'.heap[g]? = w.heap[g]?) : IsH w' b g n L := by
 obtain ⟨h0, m, t, ⟨D, S, I, T, h1, hn, h4, h5⟩, h2, h3⟩ := h
 obtain ⟨C, A, B, hR, hrow, hB⟩ := h1.lk
 exact ⟨h0, m, t, ⟨D, S, I, T, ⟨⟨C, A, B, hR.kept hb hg, hrow, hB⟩, h1.wd, h1.od, h1.sp, h1.th, h1.id⟩, hn, h4, h5⟩, h2, h3⟩
theorem IsH.blocks (h : IsH w b g n L) : b < w.heap.size ∧ g < w.heap.size ∧ b ≠ g := by
 obtain ⟨t, D, S, I, C, A, B, T, hR, _⟩ := h.rep
 exact ⟨hR.lt_b, hR.lt_g, hR.bg⟩
theorem IsH.below {w' : World} (h : IsH w b g n L) (hb : Below w.heap.size w w') : IsH w' b g n L := h.kept (hb.block b h.blocks.1) (hb.block g h.blocks.2.1)
end
end Go.Proofs.YtjlbmmiomfpgiaaGreatDoor.Ph
namespace Go.Proofs.YtjlbmmiomfpgiaaGreatDoor.Ph
set_option maxRecDepth 100000
open Go.RowKit
attribute [local go_sem ↓] Go.wp_at_zero Go.wp_at_succ
section
variable {w : World} {b g n : Nat} {L : List Item}
theorem hnew_ok (n : Nat) (w : World) (h1 : 1 ≤ n) (h2 : n ≤ 1024) :
  Calls Tryz.prog 115 #[.int .i64 n] w fun e w' => e = .returned (.pointer (some ⟨w.heap.size + 1, 0, none⟩)) ∧ IsH w' (w.heap.size + 1) w.heap.size n [] ∧ Below w.heap.size w w' := by
 refine (new_ok n w h1 h2).mono ?_
 rintro e w' ⟨he, hr, hb⟩
 refine ⟨he, ⟨Good.nil n, fun _ => none, .nil, ⟨_, _, _, _, ⟨⟨_, _, _, hr, trivial, rfl⟩, by simp [BT.wide], trivial, ⟨by simp [BT.spots], by simp [BT.spots]⟩, fun y _ => by simp [BT.spots], by simp [BT.spots]⟩, h2, fun _ _ => rfl, fun _ _ _ => ⟨rfl, rfl⟩⟩, rfl, fun _ _ _ _ => by simp⟩, hb⟩
theorem hmin_none (h : IsH w b g n []) :
  Calls Tryz.prog 207 #[.pointer (some ⟨b, 0, none⟩)] w fun e w' => e = .returned (.tuple #[.int .i64 0, .bool false]) ∧ w' = w := by
 obtain ⟨t, D, S, I, C, A, B, T, hR, ht, _⟩ := h.rep
 rw [ht rfl] at hR
 exact min_none hR
theorem hdelete_none (h : IsH w b g n L) (id : Nat) (hi : id < n) (hid : ∀ it ∈ L, it.1 ≠ id) :
  Calls Tryz.prog 194 #[.pointer (some ⟨b, 0, none⟩), .int .i64 (id : Int)] w fun e w' => e = .returned (.int .i64 6) ∧ w' = w := by
 obtain ⟨t, D, S, I, C, A, B, T, hR, _, _, _, hT, _⟩ := h.rep
 refine delete_none hR id hi h.nle ?_
 cases hh : T (id + 1) with
 | false => rfl
 | true =>
  obtain ⟨it, hm, e⟩ := (hT id hi).1 hh
  exact absurd e (hid it hm)
theorem hlen_ok (h : IsH w b g n L) :
  Calls Tryz.prog 179 #[.pointer (some ⟨b, 0, none⟩)] w fun e w' => e = .returned (.int .i64 (L.length : Int)) ∧ w' = w := by
 obtain ⟨t, D, S, I, C, A, B, T, hR, _⟩ := h.rep
 have e2 := hR.ct
 clear hR h
 go_enter Tryz.func179, Tryz.ntmps179
 go_wp2
 go_ret
 exact ⟨rfl, rfl⟩
set_option maxHeartbeats 1000000 in
theorem get_rep {rt ct : Nat} {D S I C A B : Nat → Nat} {T : Nat → Bool} (h : Rep w b g n rt ct D S I C A B T) (id : Nat) (hi : id < n) (hn : n ≤ 1024) :
  Calls Tryz.prog 192 #[.pointer (some ⟨b, 0, none⟩), .int .i64 id] w fun e w' => e = .returned (.tuple #[.int .u64 (D (id + 1) : Nat), .int .u64 (S (id + 1) : Nat), .bool (T (id + 1))]) ∧ Below w.heap.size w w' := by
 have HM := veil (may_yes h id hn hi)
 obtain ⟨cp, e0⟩ := h.sl
 have c0 := h.nd (id + 1) (by omega)
 have c1 := h.ns (id + 1) (by omega)
 have c2 := h.ni (id + 1) (by omega)
 have c3 := h.nc (id + 1) (by omega)
 have c4 := h.na (id + 1) (by omega)
 have c5 := h.nb (id + 1) (by omega)
 have c6 := h.nt (id + 1) (by omega)
 clear h
 generalize D (id + 1) = d at *
 generalize S (id + 1) = s at *
 generalize I (id + 1) = i at *
 generalize C (id + 1) = c at *
 generalize A (id + 1) = a at *
 generalize B (id + 1) = bb at *
 generalize T (id + 1) = t at *
 go_enter Tryz.func192, Tryz.ntmps192
 go_wp2_with (go_at_call 213; refine (HM.out).mono ?_; rintro e w1 ⟨rfl, hw⟩; replace hw := hw.symm; subst hw)
 go_quiet (fail)
 go_wp2
 go_ret3
 exact ⟨rfl, below_drewN ((Below.refl _ _).alloc (Nat.le_refl _) _) _⟩
theorem hget_none (h : IsH w b g n L) (id : Nat) (hi : id < n) (hid : ∀ it ∈ L, it.1 ≠ id) :
  Calls Tryz.prog 192 #[.pointer (some ⟨b, 0, none⟩), .int .i64 id] w fun e w' => e = .returned (.tuple #[.int .u64 0, .int .u64 0, .bool false]) ∧ Below w.heap.size w w' := by
 obtain ⟨t, D, S, I, C, A, B, T, hR, _, hn, hW, hT, _⟩ := h.rep
 have hf : T (id + 1) = false := by
  cases hh : T (id + 1) with
  | false => rfl
  | true =>
   obtain ⟨it, hm, e⟩ := (hT id hi).1 hh
   exact absurd e (hid it hm)
 have hg := get_rep hR id hi hn
 rw [hf, (hW id hi hf).1, (hW id hi hf).2] at hg
 exact hg
theorem hget_some (h : IsH w b g n L) (id d s : Nat) (hid : (id, d, s) ∈ L) :
  Calls Tryz.prog 192 #[.pointer (some ⟨b, 0, none⟩), .int .i64 id] w fun e w' => e = .returned (.tuple #[.int .u64 d, .int .u64 s, .bool true]) ∧ Below w.heap.size w w' := by
 obtain ⟨t, D, S, I, C, A, B, T, hR, _, hn, hW, hT, hm⟩ := h.rep
 have hi := h.good.rng _ hid
 have hf : T (id + 1) = true := (hT id hi).2 ⟨_, hid, rfl⟩
 have he := h.good.uniq (hm id hi hf) hid rfl
 injection he with _ he
 injection he with he1 he2
 have hg := get_rep hR id hi hn
 rw [hf, he1, he2] at hg
 exact hg
end
end Go.Proofs.YtjlbmmiomfpgiaaGreatDoor.Ph
