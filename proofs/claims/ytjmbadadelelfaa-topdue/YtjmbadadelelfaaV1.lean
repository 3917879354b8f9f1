/-
  How a wheel of package wheel lies in memory: its time, 64 lists, a map, a slice of entries and a count; and what one store into one of them makes of that.
-/
import Derived.Test.YtjmbadadelelfaaRows
import Derived.WalkKit
import Derived.Below
import Derived.WalkSpells
import Derived.WalkLawsBesides
import Derived.StillTactics
import Derived.RegionTactic
import Derived.RowKit3
import Derived.Laws.MakeOwn
import Derived.OwnWalk
import Derived.Deep.QuietTactic
import Derived.BigQuiet
namespace Go.Proofs.Ytjmbadadelelfaa
open Go.RowKit

theorem veil {p : Prop} (h : p) : Hid p := h
def upd {α : Type} (f : Nat → α) (i : Nat) (x : α) : Nat → α := fun j => if j = i then x else f j
theorem upd_same {α : Type} (f : Nat → α) (i : Nat) (x : α) : upd f i x i = x := by simp [upd]
theorem upd_other {α : Type} (f : Nat → α) (i : Nat) (x : α) (j : Nat) (h : j ≠ i) : upd f i x j = f j := by simp [upd, h]
theorem set_same (w : World) (a : Addr) (x u : Value) (h : w.cell? a = some u) : (w.setCell a x).cell? a = some x := World.cell?_setCell_same _ _ _ h
theorem set_other (w : World) (b o b' o' : Nat) (x : Value) (h : ¬ (b = b' ∧ o = o')) : (w.setCell ⟨b, o, none⟩ x).cell? ⟨b', o', none⟩ = w.cell? ⟨b', o', none⟩ :=
  World.cell?_setCell_other _ _ _ _ (by intro e; simp only [Addr.mk.injEq, and_true] at e; exact h e)

/-- Of what was there only the blocks b and g may have turned. -/
structure Only (b g : Nat) (w w' : World) : Prop where
  os : w'.os = w.os
  tape : w'.tape = w.tape
  output : w'.output = w.output
  size : w.heap.size ≤ w'.heap.size
  block : ∀ k, k < w.heap.size → k ≠ b → k ≠ g → w'.heap[k]? = w.heap[k]?
theorem Only.refl (b g : Nat) (w : World) : Only b g w w := ⟨rfl, rfl, rfl, Nat.le_refl _, fun _ _ _ _ => rfl⟩
theorem Only.trans {b g : Nat} {w1 w2 w3 : World} (h : Only b g w1 w2) (k : Only b g w2 w3) : Only b g w1 w3 :=
  ⟨k.os.trans h.os, k.tape.trans h.tape, k.output.trans h.output, Nat.le_trans h.size k.size, fun i hi a c => (k.block i (Nat.lt_of_lt_of_le hi h.size) a c).trans (h.block i hi a c)⟩
theorem Only.drew {b g : Nat} {w w' : World} (h : Only b g w w') : Only b g w w'.drew := ⟨h.os, h.tape, h.output, h.size, h.block⟩
theorem Only.drewN {b g : Nat} {w w' : World} (h : Only b g w w') (q : Nat) : Only b g w (w'.drewN q) := ⟨h.os, h.tape, h.output, h.size, h.block⟩
theorem Only.alloc {b g : Nat} {w w' : World} (h : Only b g w w') (o : Obj) : Only b g w (w'.alloc o) :=
  ⟨h.os, h.tape, h.output, Nat.le_trans h.size (by simp), fun k hk a c => by rw [Below.heap_alloc _ _ _ (Nat.lt_of_lt_of_le hk h.size)]; exact h.block k hk a c⟩
theorem Only.set {b g : Nat} {w w' : World} (h : Only b g w w') (p : Addr) (x : Value) (hp : p.block = b ∨ p.block = g) : Only b g w (w'.setCell p x) :=
  ⟨h.os, h.tape, h.output, by simp [World.setCell]; exact h.size, fun k hk a c => by rw [Below.heap_setCell _ _ _ _ (by rcases hp with e | e <;> omega)]; exact h.block k hk a c⟩
theorem Only.below {b g z : Nat} {w w' : World} (h : Only b g w w') (hb : z ≤ b) (hg : z ≤ g) (hz : z ≤ w.heap.size) : Below z w w' :=
  ⟨h.os, h.tape, h.output, h.size, fun k hk => h.block k (by omega) (by omega) (by omega)⟩
theorem Only.of_below {b g : Nat} {w w' : World} (h : Below w.heap.size w w') : Only b g w w' := ⟨h.os, h.tape, h.output, h.size, fun k hk _ _ => h.block k hk⟩

/-- The wheel's block b and its entries' block g: its time, the ends of each slot's list, the map's value, the count; of each spot what stands ahead of it and behind it, its time, and whether it is there. -/
structure Rep (w : World) (b g n nw ct : Nat) (fm : Value) (F L A B E : Nat → Nat) (T : Nat → Bool) : Prop where
  bg : b ≠ g
  en : ∃ cp, w.cell? ⟨b, 130, none⟩ = some (.slice (some ⟨g, 0, none⟩) (n + 1) cp)
  tn : w.cell? ⟨b, 0, none⟩ = some (.int .u64 (nw : Int))
  tm : w.cell? ⟨b, 129, none⟩ = some (fm)
  tc : w.cell? ⟨b, 131, none⟩ = some (.int .i64 (ct : Int))
  sf : ∀ x, x < 64 → w.cell? ⟨b, 1 + x * 2, none⟩ = some (.int .i64 ((F x : Nat) : Int))
  sl : ∀ x, x < 64 → w.cell? ⟨b, 1 + x * 2 + 1, none⟩ = some (.int .i64 ((L x : Nat) : Int))
  ea : ∀ x, x ≤ n → w.cell? ⟨g, x * 4, none⟩ = some (.int .i64 ((A x : Nat) : Int))
  eb : ∀ x, x ≤ n → w.cell? ⟨g, x * 4 + 1, none⟩ = some (.int .i64 ((B x : Nat) : Int))
  ee : ∀ x, x ≤ n → w.cell? ⟨g, x * 4 + 2, none⟩ = some (.int .u64 ((E x : Nat) : Int))
  et : ∀ x, x ≤ n → w.cell? ⟨g, x * 4 + 3, none⟩ = some (.bool (T x))
  fb : ∀ o, w.frozen? ⟨b, o, none⟩ = false
  fg : ∀ o, w.frozen? ⟨g, o, none⟩ = false

section
variable {w : World} {b g n nw ct : Nat} {fm : Value} {F L A B E : Nat → Nat} {T : Nat → Bool}
theorem Rep.lt_b (h : Rep w b g n nw ct fm F L A B E T) : b < w.heap.size := World.block_lt_of_cell? w ⟨b, 0, none⟩ h.tn
theorem Rep.lt_g (h : Rep w b g n nw ct fm F L A B E T) : g < w.heap.size := World.block_lt_of_cell? w ⟨g, 0 * 4, none⟩ (h.ea 0 (Nat.zero_le _))
theorem Rep.kept {w' : World} (h : Rep w b g n nw ct fm F L A B E T) (hb : w'.heap[b]? = w.heap[b]?) (hg : w'.heap[g]? = w.heap[g]?) : Rep w' b g n nw ct fm F L A B E T := by
  have eb : ∀ o, w'.cell? ⟨b, o, none⟩ = w.cell? ⟨b, o, none⟩ := fun o => by simp only [World.cell?, hb]
  have eg : ∀ o, w'.cell? ⟨g, o, none⟩ = w.cell? ⟨g, o, none⟩ := fun o => by simp only [World.cell?, hg]
  have ib : ∀ o, w'.frozen? ⟨b, o, none⟩ = w.frozen? ⟨b, o, none⟩ := fun o => by simp only [World.frozen?, hb]
  have ig : ∀ o, w'.frozen? ⟨g, o, none⟩ = w.frozen? ⟨g, o, none⟩ := fun o => by simp only [World.frozen?, hg]
  exact ⟨h.bg, by simp only [eb]; exact h.en, by rw [eb]; exact h.tn, by rw [eb]; exact h.tm, by rw [eb]; exact h.tc, fun x hx => by rw [eb]; exact h.sf x hx, fun x hx => by rw [eb]; exact h.sl x hx, fun x hx => by rw [eg]; exact h.ea x hx, fun x hx => by rw [eg]; exact h.eb x hx, fun x hx => by rw [eg]; exact h.ee x hx, fun x hx => by rw [eg]; exact h.et x hx, fun o => by rw [ib]; exact h.fb o, fun o => by rw [ig]; exact h.fg o⟩
theorem Rep.like {w' : World} (h : Rep w b g n nw ct fm F L A B E T) (e : w'.heap = w.heap) : Rep w' b g n nw ct fm F L A B E T := h.kept (by rw [e]) (by rw [e])
theorem Rep.drew (h : Rep w b g n nw ct fm F L A B E T) : Rep w.drew b g n nw ct fm F L A B E T := h.like rfl
theorem Rep.drewN (h : Rep w b g n nw ct fm F L A B E T) (q : Nat) : Rep (w.drewN q) b g n nw ct fm F L A B E T := h.like rfl
theorem Rep.below (h : Rep w b g n nw ct fm F L A B E T) {w' : World} (hw : Below w.heap.size w w') : Rep w' b g n nw ct fm F L A B E T := h.kept (hw.block b h.lt_b) (hw.block g h.lt_g)
theorem Rep.alloc (h : Rep w b g n nw ct fm F L A B E T) (o : Obj) : Rep (w.alloc o) b g n nw ct fm F L A B E T := h.below ((Below.refl _ _).alloc (Nat.le_refl _) o)
theorem Rep.setW (h : Rep w b g n nw ct fm F L A B E T) (v : Nat) : Rep (w.setCell ⟨b, 0, none⟩ (.int .u64 (v : Int))) b g n v ct fm F L A B E T :=
  ⟨h.bg, by obtain ⟨cp, q⟩ := h.en; exact ⟨cp, by rw [set_other _ _ _ _ _ _ (by have := h.bg; omega)]; exact q⟩, set_same _ _ _ _ h.tn, by rw [set_other _ _ _ _ _ _ (by have := h.bg; omega)]; exact h.tm, by rw [set_other _ _ _ _ _ _ (by have := h.bg; omega)]; exact h.tc,
    fun x hx => by rw [set_other _ _ _ _ _ _ (by have := h.bg; omega)]; exact h.sf x hx,
    fun x hx => by rw [set_other _ _ _ _ _ _ (by have := h.bg; omega)]; exact h.sl x hx,
    fun x hx => by rw [set_other _ _ _ _ _ _ (by have := h.bg; omega)]; exact h.ea x hx,
    fun x hx => by rw [set_other _ _ _ _ _ _ (by have := h.bg; omega)]; exact h.eb x hx,
    fun x hx => by rw [set_other _ _ _ _ _ _ (by have := h.bg; omega)]; exact h.ee x hx,
    fun x hx => by rw [set_other _ _ _ _ _ _ (by have := h.bg; omega)]; exact h.et x hx,
    fun o => by simpa using h.fb o, fun o => by simpa using h.fg o⟩
theorem Rep.setN (h : Rep w b g n nw ct fm F L A B E T) (v : Nat) : Rep (w.setCell ⟨b, 131, none⟩ (.int .i64 (v : Int))) b g n nw v fm F L A B E T :=
  ⟨h.bg, by obtain ⟨cp, q⟩ := h.en; exact ⟨cp, by rw [set_other _ _ _ _ _ _ (by have := h.bg; omega)]; exact q⟩, by rw [set_other _ _ _ _ _ _ (by have := h.bg; omega)]; exact h.tn, by rw [set_other _ _ _ _ _ _ (by have := h.bg; omega)]; exact h.tm, set_same _ _ _ _ h.tc,
    fun x hx => by rw [set_other _ _ _ _ _ _ (by have := h.bg; omega)]; exact h.sf x hx,
    fun x hx => by rw [set_other _ _ _ _ _ _ (by have := h.bg; omega)]; exact h.sl x hx,
    fun x hx => by rw [set_other _ _ _ _ _ _ (by have := h.bg; omega)]; exact h.ea x hx,
    fun x hx => by rw [set_other _ _ _ _ _ _ (by have := h.bg; omega)]; exact h.eb x hx,
    fun x hx => by rw [set_other _ _ _ _ _ _ (by have := h.bg; omega)]; exact h.ee x hx,
    fun x hx => by rw [set_other _ _ _ _ _ _ (by have := h.bg; omega)]; exact h.et x hx,
    fun o => by simpa using h.fb o, fun o => by simpa using h.fg o⟩
theorem Rep.setF (h : Rep w b g n nw ct fm F L A B E T) (p : Nat) (hp : p < 64) (v : Nat) : Rep (w.setCell ⟨b, 1 + p * 2, none⟩ (.int .i64 (v : Int))) b g n nw ct fm (upd F p v) L A B E T :=
  ⟨h.bg, by obtain ⟨cp, q⟩ := h.en; exact ⟨cp, by rw [set_other _ _ _ _ _ _ (by have := h.bg; omega)]; exact q⟩, by rw [set_other _ _ _ _ _ _ (by have := h.bg; omega)]; exact h.tn, by rw [set_other _ _ _ _ _ _ (by have := h.bg; omega)]; exact h.tm, by rw [set_other _ _ _ _ _ _ (by have := h.bg; omega)]; exact h.tc,
    fun x hx => by
      by_cases e : x = p
      · subst e; rw [upd_same]; exact set_same _ _ _ _ (h.sf x hx)
      · rw [upd_other _ _ _ _ e, set_other _ _ _ _ _ _ (by have := h.bg; omega)]; exact h.sf x hx,
    fun x hx => by rw [set_other _ _ _ _ _ _ (by have := h.bg; omega)]; exact h.sl x hx,
    fun x hx => by rw [set_other _ _ _ _ _ _ (by have := h.bg; omega)]; exact h.ea x hx,
    fun x hx => by rw [set_other _ _ _ _ _ _ (by have := h.bg; omega)]; exact h.eb x hx,
    fun x hx => by rw [set_other _ _ _ _ _ _ (by have := h.bg; omega)]; exact h.ee x hx,
    fun x hx => by rw [set_other _ _ _ _ _ _ (by have := h.bg; omega)]; exact h.et x hx,
    fun o => by simpa using h.fb o, fun o => by simpa using h.fg o⟩
theorem Rep.setL (h : Rep w b g n nw ct fm F L A B E T) (p : Nat) (hp : p < 64) (v : Nat) : Rep (w.setCell ⟨b, 1 + p * 2 + 1, none⟩ (.int .i64 (v : Int))) b g n nw ct fm F (upd L p v) A B E T :=
  ⟨h.bg, by obtain ⟨cp, q⟩ := h.en; exact ⟨cp, by rw [set_other _ _ _ _ _ _ (by have := h.bg; omega)]; exact q⟩, by rw [set_other _ _ _ _ _ _ (by have := h.bg; omega)]; exact h.tn, by rw [set_other _ _ _ _ _ _ (by have := h.bg; omega)]; exact h.tm, by rw [set_other _ _ _ _ _ _ (by have := h.bg; omega)]; exact h.tc,
    fun x hx => by rw [set_other _ _ _ _ _ _ (by have := h.bg; omega)]; exact h.sf x hx,
    fun x hx => by
      by_cases e : x = p
      · subst e; rw [upd_same]; exact set_same _ _ _ _ (h.sl x hx)
      · rw [upd_other _ _ _ _ e, set_other _ _ _ _ _ _ (by have := h.bg; omega)]; exact h.sl x hx,
    fun x hx => by rw [set_other _ _ _ _ _ _ (by have := h.bg; omega)]; exact h.ea x hx,
    fun x hx => by rw [set_other _ _ _ _ _ _ (by have := h.bg; omega)]; exact h.eb x hx,
    fun x hx => by rw [set_other _ _ _ _ _ _ (by have := h.bg; omega)]; exact h.ee x hx,
    fun x hx => by rw [set_other _ _ _ _ _ _ (by have := h.bg; omega)]; exact h.et x hx,
    fun o => by simpa using h.fb o, fun o => by simpa using h.fg o⟩
theorem Rep.setA (h : Rep w b g n nw ct fm F L A B E T) (p : Nat) (hp : p ≤ n) (v : Nat) : Rep (w.setCell ⟨g, p * 4, none⟩ (.int .i64 (v : Int))) b g n nw ct fm F L (upd A p v) B E T :=
  ⟨h.bg, by obtain ⟨cp, q⟩ := h.en; exact ⟨cp, by rw [set_other _ _ _ _ _ _ (by have := h.bg; omega)]; exact q⟩, by rw [set_other _ _ _ _ _ _ (by have := h.bg; omega)]; exact h.tn, by rw [set_other _ _ _ _ _ _ (by have := h.bg; omega)]; exact h.tm, by rw [set_other _ _ _ _ _ _ (by have := h.bg; omega)]; exact h.tc,
    fun x hx => by rw [set_other _ _ _ _ _ _ (by have := h.bg; omega)]; exact h.sf x hx,
    fun x hx => by rw [set_other _ _ _ _ _ _ (by have := h.bg; omega)]; exact h.sl x hx,
    fun x hx => by
      by_cases e : x = p
      · subst e; rw [upd_same]; exact set_same _ _ _ _ (h.ea x hx)
      · rw [upd_other _ _ _ _ e, set_other _ _ _ _ _ _ (by have := h.bg; omega)]; exact h.ea x hx,
    fun x hx => by rw [set_other _ _ _ _ _ _ (by have := h.bg; omega)]; exact h.eb x hx,
    fun x hx => by rw [set_other _ _ _ _ _ _ (by have := h.bg; omega)]; exact h.ee x hx,
    fun x hx => by rw [set_other _ _ _ _ _ _ (by have := h.bg; omega)]; exact h.et x hx,
    fun o => by simpa using h.fb o, fun o => by simpa using h.fg o⟩
theorem Rep.setB (h : Rep w b g n nw ct fm F L A B E T) (p : Nat) (hp : p ≤ n) (v : Nat) : Rep (w.setCell ⟨g, p * 4 + 1, none⟩ (.int .i64 (v : Int))) b g n nw ct fm F L A (upd B p v) E T :=
  ⟨h.bg, by obtain ⟨cp, q⟩ := h.en; exact ⟨cp, by rw [set_other _ _ _ _ _ _ (by have := h.bg; omega)]; exact q⟩, by rw [set_other _ _ _ _ _ _ (by have := h.bg; omega)]; exact h.tn, by rw [set_other _ _ _ _ _ _ (by have := h.bg; omega)]; exact h.tm, by rw [set_other _ _ _ _ _ _ (by have := h.bg; omega)]; exact h.tc,
    fun x hx => by rw [set_other _ _ _ _ _ _ (by have := h.bg; omega)]; exact h.sf x hx,
    fun x hx => by rw [set_other _ _ _ _ _ _ (by have := h.bg; omega)]; exact h.sl x hx,
    fun x hx => by rw [set_other _ _ _ _ _ _ (by have := h.bg; omega)]; exact h.ea x hx,
    fun x hx => by
      by_cases e : x = p
      · subst e; rw [upd_same]; exact set_same _ _ _ _ (h.eb x hx)
      · rw [upd_other _ _ _ _ e, set_other _ _ _ _ _ _ (by have := h.bg; omega)]; exact h.eb x hx,
    fun x hx => by rw [set_other _ _ _ _ _ _ (by have := h.bg; omega)]; exact h.ee x hx,
    fun x hx => by rw [set_other _ _ _ _ _ _ (by have := h.bg; omega)]; exact h.et x hx,
    fun o => by simpa using h.fb o, fun o => by simpa using h.fg o⟩
theorem Rep.setE (h : Rep w b g n nw ct fm F L A B E T) (p : Nat) (hp : p ≤ n) (v : Nat) : Rep (w.setCell ⟨g, p * 4 + 2, none⟩ (.int .u64 (v : Int))) b g n nw ct fm F L A B (upd E p v) T :=
  ⟨h.bg, by obtain ⟨cp, q⟩ := h.en; exact ⟨cp, by rw [set_other _ _ _ _ _ _ (by have := h.bg; omega)]; exact q⟩, by rw [set_other _ _ _ _ _ _ (by have := h.bg; omega)]; exact h.tn, by rw [set_other _ _ _ _ _ _ (by have := h.bg; omega)]; exact h.tm, by rw [set_other _ _ _ _ _ _ (by have := h.bg; omega)]; exact h.tc,
    fun x hx => by rw [set_other _ _ _ _ _ _ (by have := h.bg; omega)]; exact h.sf x hx,
    fun x hx => by rw [set_other _ _ _ _ _ _ (by have := h.bg; omega)]; exact h.sl x hx,
    fun x hx => by rw [set_other _ _ _ _ _ _ (by have := h.bg; omega)]; exact h.ea x hx,
    fun x hx => by rw [set_other _ _ _ _ _ _ (by have := h.bg; omega)]; exact h.eb x hx,
    fun x hx => by
      by_cases e : x = p
      · subst e; rw [upd_same]; exact set_same _ _ _ _ (h.ee x hx)
      · rw [upd_other _ _ _ _ e, set_other _ _ _ _ _ _ (by have := h.bg; omega)]; exact h.ee x hx,
    fun x hx => by rw [set_other _ _ _ _ _ _ (by have := h.bg; omega)]; exact h.et x hx,
    fun o => by simpa using h.fb o, fun o => by simpa using h.fg o⟩
theorem Rep.setT (h : Rep w b g n nw ct fm F L A B E T) (p : Nat) (hp : p ≤ n) (v : Bool) : Rep (w.setCell ⟨g, p * 4 + 3, none⟩ (.bool v)) b g n nw ct fm F L A B E (upd T p v) :=
  ⟨h.bg, by obtain ⟨cp, q⟩ := h.en; exact ⟨cp, by rw [set_other _ _ _ _ _ _ (by have := h.bg; omega)]; exact q⟩, by rw [set_other _ _ _ _ _ _ (by have := h.bg; omega)]; exact h.tn, by rw [set_other _ _ _ _ _ _ (by have := h.bg; omega)]; exact h.tm, by rw [set_other _ _ _ _ _ _ (by have := h.bg; omega)]; exact h.tc,
    fun x hx => by rw [set_other _ _ _ _ _ _ (by have := h.bg; omega)]; exact h.sf x hx,
    fun x hx => by rw [set_other _ _ _ _ _ _ (by have := h.bg; omega)]; exact h.sl x hx,
    fun x hx => by rw [set_other _ _ _ _ _ _ (by have := h.bg; omega)]; exact h.ea x hx,
    fun x hx => by rw [set_other _ _ _ _ _ _ (by have := h.bg; omega)]; exact h.eb x hx,
    fun x hx => by rw [set_other _ _ _ _ _ _ (by have := h.bg; omega)]; exact h.ee x hx,
    fun x hx => by
      by_cases e : x = p
      · subst e; rw [upd_same]; exact set_same _ _ _ _ (h.et x hx)
      · rw [upd_other _ _ _ _ e, set_other _ _ _ _ _ _ (by have := h.bg; omega)]; exact h.et x hx,
    fun o => by simpa using h.fb o, fun o => by simpa using h.fg o⟩
end
end Go.Proofs.Ytjmbadadelelfaa
