/-
  prog: live walked.
-/
import Derived.Test.YtinkdcjpiebcfaaO5
import Derived.Laws.BytesArg
namespace Go.Proofs.Ytinkdcjpiebcfaa
open Go.RowKit Go.Lib

/-- A row of bytes as a string. -/
theorem str_row (w : World) (base : Nat) (v : Value) (n : Nat) (zs : List Int) (h : w.ownsRow base 5 1 v n (zs.map (Value.int .u8))) :
    (convert 29 9 v).run Try.prog w = .ok (.string (strOfNums zs)) w := by
  obtain ⟨hl, h⟩ := h
  rw [List.length_map, Nat.mul_one] at hl
  rcases h with ⟨rfl, rfl⟩ | ⟨g, cap, cur, rfl, _, hb, hn, _, hc, ht⟩
  · obtain rfl : zs = [] := by simpa using hl
    exact run_convert_bytes_nil w _ _ Try.underlying29 Try.underlying5 0 0 _ Try.underlying9
  · refine run_convert_bytes_arg w _ _ Try.underlying29 Try.underlying5 g 0 n cap zs hl (fun i hi => ?_) _ Try.underlying9
    have h1 : (cur.toList.take (n * 1))[i]? = some (.int .u8 (zs.getD i 0)) := by
      rw [ht, List.getElem?_map, List.getElem?_eq_getElem (by omega)]
      simp [List.getD, List.getElem?_eq_getElem (show i < zs.length by omega)]
    rw [List.getElem?_take_of_lt (by omega)] at h1
    unfold World.cell?
    simp only [hb]
    simpa using h1

def liveO (i : Nat) : Int := if i = 0 then 1 else 9
def liveR (i : Nat) : Int := if i = 0 then 3 else 0
theorem live_rt : Chk 2 liveO liveR 0 0 := by
  refine .inr (.inr (.inr ⟨by omega, by omega, fun i hi => ?_, .inr rfl, rfl, rfl⟩))
  match i, hi with
  | 0, _ => rfl
  | 1, _ => rfl

theorem live_ok (w : World) : Calls Try.prog 15 #[] w fun e w' => e = .returned (.bool true) ∧ Below w.heap.size w w' := by
  have hp : ∀ w1, Below (w.heap.size + 1) (w.alloc (.cells #[.int .i64 1, .int .i64 3, .int .i64 9, .int .i64 0] 42)) w1 → Prg w1 (some ⟨w.heap.size, 0, none⟩) 2 liveO liveR := by
    intro w1 hb
    have hs := hb.size
    simp at hs
    refine .inr ⟨w.heap.size, 0, rfl, by omega, fun j hj => ?_⟩
    have hb' : ∀ i, w1.cell? ⟨w.heap.size, i, none⟩ = _ := fun i => hb.cell (p := ⟨w.heap.size, i, none⟩) (by simp)
    match j, hj with
    | 0, _ => exact ⟨(hb' _).trans (by unfold World.cell?; simp only [(MapKept.heap_alloc w _).1]; rfl), (hb' _).trans (by unfold World.cell?; simp only [(MapKept.heap_alloc w _).1]; rfl)⟩
    | 1, _ => exact ⟨(hb' _).trans (by unfold World.cell?; simp only [(MapKept.heap_alloc w _).1]; rfl), (hb' _).trans (by unfold World.cell?; simp only [(MapKept.heap_alloc w _).1]; rfl)⟩
  have hs9 : ((strOfNums [2, 1, 0, 0, 3, 9, 0, 0, 0]).toList == [2, 1, 0, 0, 3, 9, 0, 0, 0]) = true := by decide +kernel
  have HC := veil (check_ok (w.alloc (.cells #[.int .i64 1, .int .i64 3, .int .i64 9, .int .i64 0] 42)) (some ⟨w.heap.size, 0, none⟩) 2 2 (by omega) _ _ (hp _ (Below.refl _ _)))
  have HE := veil (fun w1 hb => encode_yes w1 (some ⟨w.heap.size, 0, none⟩) 2 2 (by omega) _ _ (hp w1 hb) ⟨0, live_rt⟩)
  clear hp
  go_enter Try.func15, Try.ntmps15
  go_wp2_with (first
    | (go_at_call 13; refine (HC.out).mono ?_; rintro e w1 ⟨x, y, rfl, hc, hb⟩; obtain ⟨rfl, rfl⟩ := live_rt.one hc; simp at hb; have HB := veil hb; clear hb hc)
    | (go_at_call 16; refine (HE.out _ HB.out).mono ?_; rintro e w2 ⟨v, rfl, ho, hb⟩; have HB2 := veil (HB.out.trans (hb.mono (by have := HB.out.size; simpa using this))); have hv := str_row _ _ _ _ [2, 1, 0, 0, 3, 9, 0, 0, 0] ho; clear ho hb))
  go_ret
  exact ⟨rfl, (((Below.refl _ _).alloc (Nat.le_refl _) _).trans (HB2.out.mono (by omega)))⟩
end Go.Proofs.Ytinkdcjpiebcfaa
