/-
  exec: live; a frame that came in.
-/
import Derived.Test.YteknpjjgppmlmaaJ6
namespace Go.Proofs.Yteknpjjgppmlmaa
open Go.RowKit Go.Lib Go.Deep Go.ChangeShapes Go.WideShapes Go.ChangeAt
set_option linter.unusedVariables false

@[go_sem] theorem field_at (x y : Value) (w : World) : (Instr.field 24 (.agg #[x, y]) 0).run Try.prog w = .ok x w := by kernel_rfl
@[go_sem] theorem field_left (x y : Value) (w : World) : (Instr.field 24 (.agg #[x, y]) 1).run Try.prog w = .ok y w := by kernel_rfl
theorem open_frame {H : Type} {enc : TypeId × Value → H} {w : World} {base : Nat} {spare : Nat → Bool} {held : Bool} {r : Reach} {b0 : Nat} {v : Value} {d : DataW H} {p : List MemPlace} (hv : Value.okWide Try.prog w r b0 24 v) (h : DataW.Trod enc Try.prog w base spare held 24 v d p) :
    ∃ (p q : Int), v = .agg #[.int .i64 p, .int .i64 q] ∧ (Lit.int .i64 p).wf = true ∧ (Lit.int .i64 q).wf = true := by
  obtain ⟨cs, rfl, hsz⟩ := okWide_struct Try.underlying24 hv
  rw [show Try.prog.cellsOf 24 = 2 by kernel_rfl] at hsz
  obtain ⟨l⟩ := cs
  match l, hsz with
  | [c0, c1], _ =>
    obtain ⟨fuel, hf⟩ := h
    replace hf : DataW.trod enc Try.prog w base spare held fuel 24 [c0, c1] = some (d, p) := by simpa [Value.cells] using hf
    obtain ⟨y0, y1, n, _, _, h0, h1⟩ := trod_struct2 Try.underlying24 hf
    obtain ⟨p, e0, _, w0⟩ := DataW.trod_int Try.underlying3 (by simpa [cellsInt] using h0)
    obtain ⟨q, e1, _, w1⟩ := DataW.trod_int Try.underlying3 (by simpa [cellsInt] using h1)
    simp at e0 e1
    subst e0 e1
    exact ⟨p, q, rfl, w0, w1⟩
def liveO (i : Nat) : Int := if i = 0 then 1 else 9
def liveR (i : Nat) : Int := if i = 0 then 2 else 0
theorem live_rt : Chk 2 liveO liveR 0 0 := by
  refine .inr (.inr (.inr ⟨by omega, by omega, fun i hi => ?_, .inr rfl, rfl, rfl⟩))
  match i, hi with
  | 0, _ => rfl
  | 1, _ => rfl
theorem prg_live (w w1 : World) (hb : Below (w.heap.size + 1) (w.alloc (.cells #[.int .i64 1, .int .i64 2, .int .i64 9, .int .i64 0] 28)) w1) : Prg w1 (some ⟨w.heap.size, 0, none⟩) 2 liveO liveR := by
  have hs := hb.size
  simp at hs
  refine .inr ⟨w.heap.size, 0, rfl, by omega, fun j hj => ?_⟩
  have hb' : ∀ i, w1.cell? ⟨w.heap.size, i, none⟩ = _ := fun i => hb.cell (p := ⟨w.heap.size, i, none⟩) (by simp)
  match j, hj with
  | 0, _ => exact ⟨(hb' _).trans (by unfold World.cell?; simp only [(MapKept.heap_alloc w _).1]; rfl), (hb' _).trans (by unfold World.cell?; simp only [(MapKept.heap_alloc w _).1]; rfl)⟩
  | 1, _ => exact ⟨(hb' _).trans (by unfold World.cell?; simp only [(MapKept.heap_alloc w _).1]; rfl), (hb' _).trans (by unfold World.cell?; simp only [(MapKept.heap_alloc w _).1]; rfl)⟩
theorem row_two {w : World} {base : Nat} {e : TypeId} {v : Value} {k : Nat} {xs : List Value} (h : w.ownsRow base e 2 v k xs) : ∃ a cap, v = .slice a k cap := by
  rcases h.2 with ⟨rfl, rfl⟩ | ⟨g, cap, cur, rfl, _⟩
  · exact ⟨_, _, rfl⟩
  · exact ⟨_, _, rfl⟩
theorem live_ok (w : World) : Calls Try.prog 15 #[] w fun e w' => e = .returned (.bool true) ∧ Below w.heap.size w w' := by
  have HS := veil (step_yes (w.alloc (.cells #[.int .i64 1, .int .i64 2, .int .i64 9, .int .i64 0] 28)) (some ⟨w.heap.size, 0, none⟩) 2 2 liveO liveR (prg_live w _ (Below.refl _ _)) 0 0 (by decide) ⟨0, live_rt⟩ (by decide))
  have HT := veil (fun w1 => tick_ok w1 1 2 (by decide))
  have HR := veil (fun w1 hb => run_ok w1 (some ⟨w.heap.size, 0, none⟩) 2 2 (by decide) liveO liveR (prg_live w w1 hb) true ⟨fun _ => ⟨0, live_rt⟩, fun _ => rfl⟩ 9 (by decide))
  have HL : Hid (rlen (ro true 2 liveO liveR) 9 = 2) := by show rlen (ro true 2 liveO liveR) 9 = 2; decide +kernel
  rw [HL.out] at HR
  have e1 : nxI (liveO 0) (liveR 0) ((0 : Nat) : Int) = 1 := rfl
  have e2 : lfI (liveO 0) (liveR 0) 0 = 2 := rfl
  have e3 : liveO 0 = 1 := rfl
  have e4 : liveR 0 = 2 := rfl
  rw [e1, e2, e3, e4] at HS
  rw [show (if (0 : Int) < 2 then (2 : Int) - 1 else 2) = 1 from rfl] at HT
  clear e1 e2 e3 e4
  go_enter Try.func15, Try.ntmps15
  go_wp2_with (first
    | (go_at_call 11; refine (HS.out).mono ?_; rintro e w1 ⟨rfl, hb⟩; simp only [World.size_alloc] at hb; have HB := veil hb; clear hb; have hsz := HB.out.size; simp only [World.size_alloc] at hsz)
    | (go_at_call 13; refine (HT.out _).mono ?_; rintro e w2 ⟨rfl, hb⟩; have HX := veil ((((HB.out.alloc (by omega) _).alloc (by simp; omega) _).trans (hb.mono (by simp; omega)))); clear hb)
    | (go_at_call 17; refine (HR.out _ (by exact HX.out)).mono ?_; rintro e w3 ⟨v, rfl, hv, hb⟩; obtain ⟨a3, cap3, rfl⟩ := row_two hv; have HB3 := veil hb; clear hb hv))
  go_ret
  exact ⟨rfl, (((Below.refl _ _).alloc (Nat.le_refl _) _).trans (HX.out.mono (by omega))).trans (HB3.out.mono (by have := HX.out.size; simp at this; omega))⟩
end Go.Proofs.Yteknpjjgppmlmaa
