/-
  How a queue of package bitq lies in memory: two rows of 256 ends, a mask of four words, a slice of links and a count; and what one store into one of them makes of that.
-/
import Derived.Test.YtbefehoegmmgpaaRows
import Derived.WalkKit
import Derived.Below
namespace Go.Proofs.Ytbefehoegmmgpaa.Bq
open Go.RowKit

def upd {α : Type} (f : Nat → α) (i : Nat) (x : α) : Nat → α := fun j => if j = i then x else f j
theorem upd_same {α : Type} (f : Nat → α) (i : Nat) (x : α) : upd f i x i = x := by simp [upd]
theorem upd_other {α : Type} (f : Nat → α) (i : Nat) (x : α) (j : Nat) (h : j ≠ i) : upd f i x j = f j := by simp [upd, h]

/-- The queue's block b and its links' block g: the firsts, the lasts, the mask, the count; of each spot what stands ahead of it and behind it, its level, and whether it is there. -/
structure Rep (w : World) (b g n : Nat) (F L : Nat → Nat) (M : Nat → Int) (c : Nat) (A B V : Nat → Nat) (T : Nat → Bool) : Prop where
  bg : b ≠ g
  fst : ∀ i, i < 256 → w.cell? ⟨b, i, none⟩ = some (.int .i64 (F i))
  lst : ∀ i, i < 256 → w.cell? ⟨b, 256 + i, none⟩ = some (.int .i64 (L i))
  msk : ∀ i, i < 4 → w.cell? ⟨b, 512 + i, none⟩ = some (.int .u64 (M i))
  sl : ∃ cp, w.cell? ⟨b, 516, none⟩ = some (.slice (some ⟨g, 0, none⟩) (n + 1) cp)
  cn : w.cell? ⟨b, 517, none⟩ = some (.int .i64 c)
  la : ∀ s, s ≤ n → w.cell? ⟨g, s * 4, none⟩ = some (.int .i64 (A s))
  lb : ∀ s, s ≤ n → w.cell? ⟨g, s * 4 + 1, none⟩ = some (.int .i64 (B s))
  lv : ∀ s, s ≤ n → w.cell? ⟨g, s * 4 + 2, none⟩ = some (.int .u8 (V s))
  lt : ∀ s, s ≤ n → w.cell? ⟨g, s * 4 + 3, none⟩ = some (.bool (T s))
  fb : ∀ o, w.frozen? ⟨b, o, none⟩ = false
  fg : ∀ o, w.frozen? ⟨g, o, none⟩ = false

theorem set_same (w : World) (a : Addr) (x u : Value) (h : w.cell? a = some u) : (w.setCell a x).cell? a = some x := World.cell?_setCell_same _ _ _ h
theorem set_other (w : World) (b o b' o' : Nat) (x : Value) (h : ¬ (b = b' ∧ o = o')) : (w.setCell ⟨b, o, none⟩ x).cell? ⟨b', o', none⟩ = w.cell? ⟨b', o', none⟩ :=
  World.cell?_setCell_other _ _ _ _ (by intro e; simp only [Addr.mk.injEq, and_true] at e; exact h e)

section
variable {w : World} {b g n : Nat} {F L : Nat → Nat} {M : Nat → Int} {c : Nat} {A B V : Nat → Nat} {T : Nat → Bool}
theorem Rep.drew (h : Rep w b g n F L M c A B V T) : Rep w.drew b g n F L M c A B V T := ⟨h.bg, h.fst, h.lst, h.msk, h.sl, h.cn, h.la, h.lb, h.lv, h.lt, h.fb, h.fg⟩
theorem Rep.lt_b (h : Rep w b g n F L M c A B V T) : b < w.heap.size := World.block_lt_of_cell? w ⟨b, 517, none⟩ h.cn
theorem Rep.lt_g (h : Rep w b g n F L M c A B V T) : g < w.heap.size := World.block_lt_of_cell? w ⟨g, 0 * 4, none⟩ (h.la 0 (Nat.zero_le _))
/-- What turns neither of both blocks leaves the queue as it was. -/
theorem Rep.kept {w' : World} (h : Rep w b g n F L M c A B V T) (hb : w'.heap[b]? = w.heap[b]?) (hg : w'.heap[g]? = w.heap[g]?) : Rep w' b g n F L M c A B V T := by
  have eb : ∀ o, w'.cell? ⟨b, o, none⟩ = w.cell? ⟨b, o, none⟩ := fun o => by simp only [World.cell?, hb]
  have eg : ∀ o, w'.cell? ⟨g, o, none⟩ = w.cell? ⟨g, o, none⟩ := fun o => by simp only [World.cell?, hg]
  have ib : ∀ o, w'.frozen? ⟨b, o, none⟩ = w.frozen? ⟨b, o, none⟩ := fun o => by simp only [World.frozen?, hb]
  have ig : ∀ o, w'.frozen? ⟨g, o, none⟩ = w.frozen? ⟨g, o, none⟩ := fun o => by simp only [World.frozen?, hg]
  exact ⟨h.bg, fun i hi => by rw [eb]; exact h.fst i hi, fun i hi => by rw [eb]; exact h.lst i hi, fun i hi => by rw [eb]; exact h.msk i hi, by simp only [eb]; exact h.sl, by rw [eb]; exact h.cn,
    fun s hs => by rw [eg]; exact h.la s hs, fun s hs => by rw [eg]; exact h.lb s hs, fun s hs => by rw [eg]; exact h.lv s hs, fun s hs => by rw [eg]; exact h.lt s hs, fun o => by rw [ib]; exact h.fb o, fun o => by rw [ig]; exact h.fg o⟩
theorem Rep.alloc (h : Rep w b g n F L M c A B V T) (o : Obj) : Rep (w.alloc o) b g n F L M c A B V T :=
  h.kept (Below.heap_alloc w o b h.lt_b) (Below.heap_alloc w o g h.lt_g)
theorem Rep.below {w' : World} {z : Nat} (h : Rep w b g n F L M c A B V T) (hw : Below z w w') (hb : b < z) (hg : g < z) : Rep w' b g n F L M c A B V T :=
  h.kept (hw.block b hb) (hw.block g hg)
theorem Rep.setF (h : Rep w b g n F L M c A B V T) (k : Nat) (hk : k < 256) (x : Nat) : Rep (w.setCell ⟨b, k, none⟩ (.int .i64 (x : Int))) b g n (upd F k x) L M c A B V T :=
  ⟨h.bg, fun i hi => by
    by_cases e : i = k
    · subst e; rw [upd_same]; exact set_same _ _ _ _ (h.fst i hi)
    · rw [upd_other _ _ _ _ e, set_other _ _ _ _ _ _ (by omega)]; exact h.fst i hi, fun i hi => by
    rw [set_other _ _ _ _ _ _ (by omega)]; exact h.lst i hi, fun i hi => by
    rw [set_other _ _ _ _ _ _ (by omega)]; exact h.msk i hi, by
    obtain ⟨cp, q⟩ := h.sl; exact ⟨cp, by rw [set_other _ _ _ _ _ _ (by omega)]; exact q⟩, by
    rw [set_other _ _ _ _ _ _ (by omega)]; exact h.cn, fun s hs => by
    rw [set_other _ _ _ _ _ _ (by have := h.bg; omega)]; exact h.la s hs, fun s hs => by
    rw [set_other _ _ _ _ _ _ (by have := h.bg; omega)]; exact h.lb s hs, fun s hs => by
    rw [set_other _ _ _ _ _ _ (by have := h.bg; omega)]; exact h.lv s hs, fun s hs => by
    rw [set_other _ _ _ _ _ _ (by have := h.bg; omega)]; exact h.lt s hs,
    fun o => by simpa using h.fb o, fun o => by simpa using h.fg o⟩
theorem Rep.setL (h : Rep w b g n F L M c A B V T) (k : Nat) (hk : k < 256) (x : Nat) : Rep (w.setCell ⟨b, 256 + k, none⟩ (.int .i64 (x : Int))) b g n F (upd L k x) M c A B V T :=
  ⟨h.bg, fun i hi => by
    rw [set_other _ _ _ _ _ _ (by omega)]; exact h.fst i hi, fun i hi => by
    by_cases e : i = k
    · subst e; rw [upd_same]; exact set_same _ _ _ _ (h.lst i hi)
    · rw [upd_other _ _ _ _ e, set_other _ _ _ _ _ _ (by omega)]; exact h.lst i hi, fun i hi => by
    rw [set_other _ _ _ _ _ _ (by omega)]; exact h.msk i hi, by
    obtain ⟨cp, q⟩ := h.sl; exact ⟨cp, by rw [set_other _ _ _ _ _ _ (by omega)]; exact q⟩, by
    rw [set_other _ _ _ _ _ _ (by omega)]; exact h.cn, fun s hs => by
    rw [set_other _ _ _ _ _ _ (by have := h.bg; omega)]; exact h.la s hs, fun s hs => by
    rw [set_other _ _ _ _ _ _ (by have := h.bg; omega)]; exact h.lb s hs, fun s hs => by
    rw [set_other _ _ _ _ _ _ (by have := h.bg; omega)]; exact h.lv s hs, fun s hs => by
    rw [set_other _ _ _ _ _ _ (by have := h.bg; omega)]; exact h.lt s hs,
    fun o => by simpa using h.fb o, fun o => by simpa using h.fg o⟩
theorem Rep.setM (h : Rep w b g n F L M c A B V T) (k : Nat) (hk : k < 4) (x : Int) : Rep (w.setCell ⟨b, 512 + k, none⟩ (.int .u64 x)) b g n F L (upd M k x) c A B V T :=
  ⟨h.bg, fun i hi => by
    rw [set_other _ _ _ _ _ _ (by omega)]; exact h.fst i hi, fun i hi => by
    rw [set_other _ _ _ _ _ _ (by omega)]; exact h.lst i hi, fun i hi => by
    by_cases e : i = k
    · subst e; rw [upd_same]; exact set_same _ _ _ _ (h.msk i hi)
    · rw [upd_other _ _ _ _ e, set_other _ _ _ _ _ _ (by omega)]; exact h.msk i hi, by
    obtain ⟨cp, q⟩ := h.sl; exact ⟨cp, by rw [set_other _ _ _ _ _ _ (by omega)]; exact q⟩, by
    rw [set_other _ _ _ _ _ _ (by omega)]; exact h.cn, fun s hs => by
    rw [set_other _ _ _ _ _ _ (by have := h.bg; omega)]; exact h.la s hs, fun s hs => by
    rw [set_other _ _ _ _ _ _ (by have := h.bg; omega)]; exact h.lb s hs, fun s hs => by
    rw [set_other _ _ _ _ _ _ (by have := h.bg; omega)]; exact h.lv s hs, fun s hs => by
    rw [set_other _ _ _ _ _ _ (by have := h.bg; omega)]; exact h.lt s hs,
    fun o => by simpa using h.fb o, fun o => by simpa using h.fg o⟩
theorem Rep.setC (h : Rep w b g n F L M c A B V T) (x : Nat) : Rep (w.setCell ⟨b, 517, none⟩ (.int .i64 (x : Int))) b g n F L M x A B V T :=
  ⟨h.bg, fun i hi => by
    rw [set_other _ _ _ _ _ _ (by omega)]; exact h.fst i hi, fun i hi => by
    rw [set_other _ _ _ _ _ _ (by omega)]; exact h.lst i hi, fun i hi => by
    rw [set_other _ _ _ _ _ _ (by omega)]; exact h.msk i hi, by
    obtain ⟨cp, q⟩ := h.sl; exact ⟨cp, by rw [set_other _ _ _ _ _ _ (by omega)]; exact q⟩, set_same _ _ _ _ h.cn, fun s hs => by
    rw [set_other _ _ _ _ _ _ (by have := h.bg; omega)]; exact h.la s hs, fun s hs => by
    rw [set_other _ _ _ _ _ _ (by have := h.bg; omega)]; exact h.lb s hs, fun s hs => by
    rw [set_other _ _ _ _ _ _ (by have := h.bg; omega)]; exact h.lv s hs, fun s hs => by
    rw [set_other _ _ _ _ _ _ (by have := h.bg; omega)]; exact h.lt s hs,
    fun o => by simpa using h.fb o, fun o => by simpa using h.fg o⟩
theorem Rep.setA (h : Rep w b g n F L M c A B V T) (k : Nat) (hk : k ≤ n) (x : Nat) : Rep (w.setCell ⟨g, k * 4, none⟩ (.int .i64 (x : Int))) b g n F L M c (upd A k x) B V T :=
  ⟨h.bg, fun i hi => by
    rw [set_other _ _ _ _ _ _ (by have := h.bg; omega)]; exact h.fst i hi, fun i hi => by
    rw [set_other _ _ _ _ _ _ (by have := h.bg; omega)]; exact h.lst i hi, fun i hi => by
    rw [set_other _ _ _ _ _ _ (by have := h.bg; omega)]; exact h.msk i hi, by
    obtain ⟨cp, q⟩ := h.sl; exact ⟨cp, by rw [set_other _ _ _ _ _ _ (by have := h.bg; omega)]; exact q⟩, by
    rw [set_other _ _ _ _ _ _ (by have := h.bg; omega)]; exact h.cn, fun s hs => by
    by_cases e : s = k
    · subst e; rw [upd_same]; exact set_same _ _ _ _ (h.la s hs)
    · rw [upd_other _ _ _ _ e, set_other _ _ _ _ _ _ (by omega)]; exact h.la s hs, fun s hs => by
    rw [set_other _ _ _ _ _ _ (by omega)]; exact h.lb s hs, fun s hs => by
    rw [set_other _ _ _ _ _ _ (by omega)]; exact h.lv s hs, fun s hs => by
    rw [set_other _ _ _ _ _ _ (by omega)]; exact h.lt s hs,
    fun o => by simpa using h.fb o, fun o => by simpa using h.fg o⟩
theorem Rep.setB (h : Rep w b g n F L M c A B V T) (k : Nat) (hk : k ≤ n) (x : Nat) : Rep (w.setCell ⟨g, k * 4 + 1, none⟩ (.int .i64 (x : Int))) b g n F L M c A (upd B k x) V T :=
  ⟨h.bg, fun i hi => by
    rw [set_other _ _ _ _ _ _ (by have := h.bg; omega)]; exact h.fst i hi, fun i hi => by
    rw [set_other _ _ _ _ _ _ (by have := h.bg; omega)]; exact h.lst i hi, fun i hi => by
    rw [set_other _ _ _ _ _ _ (by have := h.bg; omega)]; exact h.msk i hi, by
    obtain ⟨cp, q⟩ := h.sl; exact ⟨cp, by rw [set_other _ _ _ _ _ _ (by have := h.bg; omega)]; exact q⟩, by
    rw [set_other _ _ _ _ _ _ (by have := h.bg; omega)]; exact h.cn, fun s hs => by
    rw [set_other _ _ _ _ _ _ (by omega)]; exact h.la s hs, fun s hs => by
    by_cases e : s = k
    · subst e; rw [upd_same]; exact set_same _ _ _ _ (h.lb s hs)
    · rw [upd_other _ _ _ _ e, set_other _ _ _ _ _ _ (by omega)]; exact h.lb s hs, fun s hs => by
    rw [set_other _ _ _ _ _ _ (by omega)]; exact h.lv s hs, fun s hs => by
    rw [set_other _ _ _ _ _ _ (by omega)]; exact h.lt s hs,
    fun o => by simpa using h.fb o, fun o => by simpa using h.fg o⟩
theorem Rep.setV (h : Rep w b g n F L M c A B V T) (k : Nat) (hk : k ≤ n) (x : Nat) : Rep (w.setCell ⟨g, k * 4 + 2, none⟩ (.int .u8 (x : Int))) b g n F L M c A B (upd V k x) T :=
  ⟨h.bg, fun i hi => by
    rw [set_other _ _ _ _ _ _ (by have := h.bg; omega)]; exact h.fst i hi, fun i hi => by
    rw [set_other _ _ _ _ _ _ (by have := h.bg; omega)]; exact h.lst i hi, fun i hi => by
    rw [set_other _ _ _ _ _ _ (by have := h.bg; omega)]; exact h.msk i hi, by
    obtain ⟨cp, q⟩ := h.sl; exact ⟨cp, by rw [set_other _ _ _ _ _ _ (by have := h.bg; omega)]; exact q⟩, by
    rw [set_other _ _ _ _ _ _ (by have := h.bg; omega)]; exact h.cn, fun s hs => by
    rw [set_other _ _ _ _ _ _ (by omega)]; exact h.la s hs, fun s hs => by
    rw [set_other _ _ _ _ _ _ (by omega)]; exact h.lb s hs, fun s hs => by
    by_cases e : s = k
    · subst e; rw [upd_same]; exact set_same _ _ _ _ (h.lv s hs)
    · rw [upd_other _ _ _ _ e, set_other _ _ _ _ _ _ (by omega)]; exact h.lv s hs, fun s hs => by
    rw [set_other _ _ _ _ _ _ (by omega)]; exact h.lt s hs,
    fun o => by simpa using h.fb o, fun o => by simpa using h.fg o⟩
theorem Rep.setT (h : Rep w b g n F L M c A B V T) (k : Nat) (hk : k ≤ n) (x : Bool) : Rep (w.setCell ⟨g, k * 4 + 3, none⟩ (.bool x)) b g n F L M c A B V (upd T k x) :=
  ⟨h.bg, fun i hi => by
    rw [set_other _ _ _ _ _ _ (by have := h.bg; omega)]; exact h.fst i hi, fun i hi => by
    rw [set_other _ _ _ _ _ _ (by have := h.bg; omega)]; exact h.lst i hi, fun i hi => by
    rw [set_other _ _ _ _ _ _ (by have := h.bg; omega)]; exact h.msk i hi, by
    obtain ⟨cp, q⟩ := h.sl; exact ⟨cp, by rw [set_other _ _ _ _ _ _ (by have := h.bg; omega)]; exact q⟩, by
    rw [set_other _ _ _ _ _ _ (by have := h.bg; omega)]; exact h.cn, fun s hs => by
    rw [set_other _ _ _ _ _ _ (by omega)]; exact h.la s hs, fun s hs => by
    rw [set_other _ _ _ _ _ _ (by omega)]; exact h.lb s hs, fun s hs => by
    rw [set_other _ _ _ _ _ _ (by omega)]; exact h.lv s hs, fun s hs => by
    by_cases e : s = k
    · subst e; rw [upd_same]; exact set_same _ _ _ _ (h.lt s hs)
    · rw [upd_other _ _ _ _ e, set_other _ _ _ _ _ _ (by omega)]; exact h.lt s hs,
    fun o => by simpa using h.fb o, fun o => by simpa using h.fg o⟩
end
end Go.Proofs.Ytbefehoegmmgpaa.Bq
