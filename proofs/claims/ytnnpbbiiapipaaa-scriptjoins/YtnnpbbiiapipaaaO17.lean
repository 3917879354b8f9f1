/-
  prog: read walked.
-/
import Derived.Test.YtnnpbbiiapipaaaO16
import Derived.Test.YtnnpbbiiapipaaaO14
namespace Go.Proofs.Ytnnpbbiiapipaaa
open Go.RowKit Go.Lib

/-- The instructions that bytes tell. -/
def deO (X : Nat → Nat) (k : Nat) : Int := (X (1 + 4 * k) : Int)
def deR (X : Nat → Nat) (k : Nat) : Int := ((X (2 + 4 * k) * 65536 + X (3 + 4 * k) * 256 + X (4 + 4 * k) : Nat) : Int)

/-- What read answers. -/
def ReadPost (w : World) (X : Nat → Nat) (len : Nat) (v : Value) (w' : World) : Prop :=
  Below w.heap.size w w' ∧ ((len = 1 + 4 * X 0 ∧ w'.ownsRow w.heap.size 64 2 v (X 0) (pcells (deO X) (deR X) (X 0))) ∨ (len ≠ 1 + 4 * X 0 ∧ v = .slice none 0 0))

/-- The world behind the closure that has recovered. -/
def caught (w W : World) : World := (W.alloc (.cells #[] 83)).setCell ⟨w.heap.size, 0, none⟩ (.slice none 0 0)
theorem caught_cell {w W : World} {v : Value} (hc : W.cell? ⟨w.heap.size, 0, none⟩ = some v) : (caught w W).cell? ⟨w.heap.size, 0, none⟩ = some (.slice none 0 0) := by
  unfold caught
  have hlt := World.block_lt_of_cell? W _ hc
  exact World.cell?_setCell_same _ _ _ ((((Below.refl W.heap.size W).alloc (Nat.le_refl _) (.cells #[] 83)).cell (p := ⟨w.heap.size, 0, none⟩) hlt).trans hc)
theorem caught_post {w W : World} {X : Nat → Nat} {len : Nat} (hb : Below w.heap.size w W) (hl : len ≠ 1 + 4 * X 0) : ReadPost w X len (.slice none 0 0) (caught w W) := by
  refine ⟨?_, .inr ⟨hl, rfl⟩⟩
  have h1 := hb.alloc hb.size (.cells #[] 83)
  unfold caught
  exact ⟨h1.os, h1.tape, h1.output, by simpa using h1.size, fun k hk => (Below.heap_setCell _ _ _ _ (fun e => by simp at e; omega)).trans (h1.block k hk)⟩

theorem read_none (w : World) (a : Option Addr) (cap : Nat) (X : Nat → Nat) :
    Calls Try.prog 47 #[.slice a 0 cap] w fun e w' => ∃ v, e = .returned v ∧ ReadPost w X 0 v w' := by
  have hmf : ∀ (fn : Fn) (first cap : Array Value) (w : World), (Instr.makeFunc fn first cap).run Try.prog w = .ok (.func fn first cap) w := fun _ _ _ _ => rfl
  have HB : Hid (Below w.heap.size w ((w.alloc (.cells #[.slice none 0 0] 34)).alloc (.cells #[.slice a 0 cap] 86))) := ((Below.refl _ _).alloc (Nat.le_refl _) _).alloc (by simp) _
  have hp : ((w.alloc (.cells #[.slice none 0 0] 34)).alloc (.cells #[.slice a 0 cap] 86)).cell? ⟨w.heap.size, 0, none⟩ = some (.slice none 0 0) := by simp [go_sem]
  have hr : ((w.alloc (.cells #[.slice none 0 0] 34)).alloc (.cells #[.slice a 0 cap] 86)).cell? ⟨w.heap.size + 1, 0, none⟩ = some (.slice a 0 cap) := by simp [go_sem]
  have hz : ((w.alloc (.cells #[.slice none 0 0] 34)).alloc (.cells #[.slice a 0 cap] 86)).frozen? ⟨w.heap.size, 0, none⟩ = false := by simp [go_sem]
  have HN := veil (number_cut _ _ _ _ _ 1 hr (by omega) (by omega))
  have HP := veil hp
  have HZ := veil hz
  clear hp hr hz
  go_enter_defers Try.func47, Try.ntmps47
  go_wp2_with (go_at_call 49; refine (HN.out).mono ?_; rintro e w1 ⟨rfl, hw⟩; replace hw := hw.symm; subst hw)
  refine leaves_cons (f := 48) (args := #[.pointer (some ⟨w.heap.size, 0, none⟩)]) (by simp) (by simp [go_sem]) ?_
  refine (catch_panicking ⟨w.heap.size, 0, none⟩ _ [] _ HP.out HZ.out ⟨_, _, _, rfl⟩).mono ?_
  rintro e u' w'' ⟨rfl, rfl, hw⟩
  replace hw : w'' = caught w _ := hw
  have hcc : w''.cell? ⟨w.heap.size, 0, none⟩ = some (.slice none 0 0) := by rw [hw]; exact caught_cell HP.out
  have HW := veil hw
  clear hw
  simp [Leaves, settle, results, Try.results47, go_sem, hcc]
  rw [HW.out]
  exact caught_post HB.out (by omega)
end Go.Proofs.Ytnnpbbiiapipaaa
