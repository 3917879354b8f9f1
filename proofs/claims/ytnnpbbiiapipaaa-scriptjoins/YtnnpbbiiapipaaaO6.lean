/-
  prog: live walked.
-/
import Derived.Test.YtnnpbbiiapipaaaO5
import Derived.Laws.BytesArg
namespace Go.Proofs.Ytnnpbbiiapipaaa
open Go.RowKit Go.Lib

/-- A row of bytes as a string. -/
theorem str_row (w : World) (base : Nat) (v : Value) (n : Nat) (zs : List Int) (h : w.ownsRow base 5 1 v n (zs.map (Value.int .u8))) :
    (convert 24 9 v).run Try.prog w = .ok (.string (strOfNums zs)) w := by
  obtain ⟨hl, h⟩ := h
  rw [List.length_map, Nat.mul_one] at hl
  rcases h with ⟨rfl, rfl⟩ | ⟨g, cap, cur, rfl, _, hb, hn, _, hc, ht⟩
  · obtain rfl : zs = [] := by simpa using hl
    exact run_convert_bytes_nil w _ _ Try.underlying24 Try.underlying5 0 0 _ Try.underlying9
  · refine run_convert_bytes_arg w _ _ Try.underlying24 Try.underlying5 g 0 n cap zs hl (fun i hi => ?_) _ Try.underlying9
    have h1 : (cur.toList.take (n * 1))[i]? = some (.int .u8 (zs.getD i 0)) := by
      rw [ht, List.getElem?_map, List.getElem?_eq_getElem (by omega)]
      simp [List.getD, List.getElem?_eq_getElem (show i < zs.length by omega)]
    rw [List.getElem?_take_of_lt (by omega)] at h1
    unfold World.cell?
    simp only [hb]
    simpa using h1

def liveO (i : Nat) : Int := if i = 0 then 1 else 9
def liveR (i : Nat) : Int := if i = 0 then 3 else 0
theorem live_rt : Chk 2 liveO liveR 0 0 := by
  refine .inr (.inr (.inr ⟨by omega, by omega, fun i hi => ?_, .inr rfl, rfl, rfl⟩))
  match i, hi with
  | 0, _ => rfl
  | 1, _ => rfl

end Go.Proofs.Ytnnpbbiiapipaaa
