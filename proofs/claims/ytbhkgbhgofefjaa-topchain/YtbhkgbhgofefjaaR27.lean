/- TopChain's walk. -/
import Derived.Test.YtbhkgbhgofefjaaR26
namespace Go.Proofs.Ytbhkgbhgofefjaa
open Go.RowKit
set_option linter.unusedVariables false
def U8s (w : World) (a : Option Addr) (len : Nat) (D : Nat → Nat) : Prop :=
  len = 0 ∨ ∃ lb off, a = some ⟨lb, off, none⟩ ∧ lb < w.heap.size ∧ ∀ j, j < len → D j < 256 ∧ w.cell? ⟨lb, off + j, none⟩ = some (.int .u8 (D j : Int))
/-- The graph and the greatest so far. -/
structure CI (w wr : World) (g mb : Nat) (M : Md) (k : K) : Prop where
  gr : ∃ O, PG wr w.heap.size O g M ∧ ¬ O mb
  bx : KBox wr mb k
  be : Below w.heap.size w wr
  lo : w.heap.size ≤ mb
section
variable {w wr w' : World} {g mb : Nat} {M M' : Md} {k k' : K}
theorem CI.below (h : CI w wr g mb M k) (hb : Below wr.heap.size wr w') : CI w w' g mb M k := by
  obtain ⟨O, hp, hn⟩ := h.gr
  exact ⟨⟨O, hp.below hb, hn⟩, h.bx.below hb, h.be.trans (hb.mono h.be.size), h.lo⟩
theorem CI.step {b : Nat} {O : Nat → Prop} (h : CI w wr g mb M k) (hn : ¬ O mb) (hp : PG wr w.heap.size O g M) (hs : Stp wr w' w.heap.size O g M') : CI w w' g mb M' k := by
  obtain ⟨O', hp', hf, hn'⟩ := hs
  refine ⟨⟨O', hp', fun q => ?_⟩, (hf.block mb h.bx.lt hn).trans h.bx, h.be.trans (hf.below h.be.size (fun k hk => hp.ge hk)), h.lo⟩
  rcases hn' mb q with q | q
  · exact hn q
  · have := h.bx.lt; omega
theorem CI.set (h : CI w wr g mb M k) (k' : K) : CI w (((wr.setCell ⟨mb, 0, none⟩ (.bool k'.e)).setCell ⟨mb, 1, none⟩ (.int .u64 k'.d)).setCell ⟨mb, 2, none⟩ (.int .u8 k'.l)) g mb M k' := by
  obtain ⟨O, hp, hn⟩ := h.gr
  have hf : Fr (fun q => q = mb) wr (((wr.setCell ⟨mb, 0, none⟩ (.bool k'.e)).setCell ⟨mb, 1, none⟩ (.int .u64 k'.d)).setCell ⟨mb, 2, none⟩ (.int .u8 k'.l)) := (((Fr.refl (fun q => q = mb) wr).setCell (a := ⟨mb, 0, none⟩) rfl _).setCell (a := ⟨mb, 1, none⟩) rfl _).setCell (a := ⟨mb, 2, none⟩) rfl _
  exact ⟨⟨O, hp.frame hf (fun q hq e => hn (e ▸ hq)), hn⟩, h.bx.set k', h.be.trans (hf.below h.be.size (fun q hq => by rw [hq]; exact h.lo)), h.lo⟩
theorem CI.lock (h : CI w wr g mb M k) (t m : Int) : Calls Try.prog 28 #[.pointer (some ⟨g, 0, none⟩), .int .i64 t, .int .i64 m] wr fun e w' => e = .returned (.tuple #[.bool (lockR M t m).1.1, .int .i64 (lockR M t m).1.2]) ∧ CI w w' g mb (lockR M t m).2 k := by
  obtain ⟨O, hp, hn⟩ := h.gr
  exact (hp.lock t m).mono (fun e w' q => ⟨q.1, h.step (b := 0) hn hp q.2⟩)
theorem CI.unlock (h : CI w wr g mb M k) (t m : Int) : Calls Try.prog 26 #[.pointer (some ⟨g, 0, none⟩), .int .i64 t, .int .i64 m] wr fun e w' => e = .returned (.tuple #[.int .i64 (unlR M t m).1.1, .int .i64 (unlR M t m).1.2]) ∧ CI w w' g mb (unlR M t m).2 k := by
  obtain ⟨O, hp, hn⟩ := h.gr
  exact (hp.unlock t m).mono (fun e w' q => ⟨q.1, h.step (b := 0) hn hp q.2⟩)
theorem CI.base (h : CI w wr g mb M k) (t : Int) (c : K) (hc : c.ok) : Calls Try.prog 21 #[.pointer (some ⟨g, 0, none⟩), .int .i64 t, .agg #[.bool c.e, .int .u64 c.d, .int .u8 c.l]] wr fun e w' => e = .returned (.int .i64 (baseR M t c).1) ∧ CI w w' g mb (baseR M t c).2 k := by
  obtain ⟨O, hp, hn⟩ := h.gr
  exact (hp.base t c hc).mono (fun e w' q => ⟨q.1, h.step (b := 0) hn hp q.2⟩)
theorem CI.key (h : CI w wr g mb M k) (t : Int) : Calls Try.prog 24 #[.pointer (some ⟨g, 0, none⟩), .int .i64 t] wr fun e w' => e = .returned (.agg #[.bool (keyA M.T M.L t).e, .int .u64 (keyA M.T M.L t).d, .int .u8 (keyA M.T M.L t).l]) ∧ CI w w' g mb M k := by
  obtain ⟨O, hp, hn⟩ := h.gr
  exact (hp.key t).mono (fun e w' q => ⟨q.1, h.below q.2⟩)
theorem CI.f (h : CI w wr g mb M k) : Fine M.T M.L := by obtain ⟨O, hp, hn⟩ := h.gr; exact hp.f
theorem CI.drew (h : CI w wr g mb M k) : CI w wr.drew g mb M k := h.below (Below.refl _ wr).drew
end
end Go.Proofs.Ytbhkgbhgofefjaa
