/-
  prog: Decode walked; the bytes of a program as bytes that came in.
-/
import Derived.Test.YtnnpbbiiapipaaaO18
namespace Go.Proofs.Ytnnpbbiiapipaaa
open Go.RowKit Go.Lib

theorem read_ok (w : World) (a : Option Addr) (len cap : Nat) (X : Nat → Nat) (hb : Byt w a len X) (hc : len ≤ cap) (hcap : cap < 9223372036854775808) :
    Calls Try.prog 47 #[.slice a len cap] w fun e w' => ∃ v, e = .returned v ∧ ReadPost w X len v w' := by
  rcases hb with rfl | ⟨lb, off, rfl, hlb, hx⟩
  · exact read_none w a cap X
  · by_cases h0 : len = 0
    · subst h0
      exact read_none w _ cap X
    · exact read_some w lb off len cap X hlb (by omega) hc hcap hx
theorem not_rt0 (O R : Nat → Int) : ¬ Rt 0 O R := fun ⟨y, h⟩ => by
  have := h.zero.1
  omega
theorem decode_cut (w : World) (a : Option Addr) (len cap : Nat) (X : Nat → Nat) (hb : Byt w a len X) (hc : len ≤ cap) (hcap : cap < 9223372036854775808) (hne : len ≠ 1 + 4 * X 0) :
    Calls Try.prog 42 #[.slice a len cap] w fun e w' => e = .returned (.tuple #[.slice none 0 0, .int .i64 3]) ∧ Below w.heap.size w w' := by
  have HR := veil (read_ok w a len cap X hb hc hcap)
  have HN := veil (fun w1 => right_no w1 none 0 0 (by omega) (fun _ => 0) (fun _ => 0) (.inl rfl) (not_rt0 _ _))
  have HE := veil hne
  clear hb hne
  go_enter Try.func42, Try.ntmps42
  go_wp2_with (first
    | (go_at_call 47; refine (HR.out).mono ?_; rintro e w1 ⟨v, rfl, hb, hv⟩; obtain rfl : v = .slice none 0 0 := (by rcases hv with ⟨q, _⟩ | ⟨_, q⟩; exact absurd q HE.out; exact q); have HB := veil hb; clear hb hv)
    | (go_at_call 45; refine (HN.out _).mono ?_; rintro e w2 ⟨rfl, hb, _⟩; have HB2 := veil (HB.out.trans (hb.mono HB.out.size)); clear hb))
  go_ret2
  exact ⟨rfl, HB2.out⟩

def u8s (ys : List Nat) : List Value := ys.map fun (x : Nat) => .int .u8 (x : Int)
theorem enc_bytes {len : Nat} {O R : Nat → Int} (hl : len ≤ 64) : ∀ k, k ≤ len → (∀ i, i < len → okI len (O i) (R i) = true) → ∃ ys : List Nat, enc len O R k = u8s ys ∧ ys.length = 1 + 4 * k ∧ ys.getD 0 0 = len ∧ ∀ y ∈ ys, y < 256
  | 0, _, _ => ⟨[len], rfl, rfl, rfl, by simp; omega⟩
  | k + 1, hk, h => by
    obtain ⟨ys, e1, e2, e3, e4⟩ := enc_bytes hl k (by omega) h
    obtain ⟨b1, b2, b3, b4⟩ := okI_bounds (by omega) (h k (by omega))
    obtain ⟨o, ho⟩ : ∃ o : Nat, O k = (o : Int) := ⟨(O k).toNat, by omega⟩
    refine ⟨ys ++ [o, (R k).toNat / 65536 % 256, (R k).toNat / 256 % 256, (R k).toNat % 256], ?_, by simp; omega, ?_, ?_⟩
    · simp only [enc, e1, ho, lowByte, u8s, List.map_append, List.map_cons, List.map_nil, List.append_assoc, List.cons_append, List.nil_append]
    · rw [← e3]
      have h0 : 0 < ys.length := by omega
      unfold List.getD
      rw [List.getElem?_append_left h0]
    · intro y hy
      simp only [List.mem_append, List.mem_cons, List.not_mem_nil, or_false] at hy
      rcases hy with hy | rfl | rfl | rfl | rfl
      · exact e4 y hy
      · omega
      · omega
      · omega
      · omega
theorem byt_row {w : World} {base : Nat} {v : Value} {ys : List Nat} (h : w.ownsRow base 5 1 v ys.length (u8s ys)) (h1 : 0 < ys.length) (h2 : ∀ y ∈ ys, y < 256) :
    ∃ g cap, v = .slice (some ⟨g, 0, none⟩) ys.length cap ∧ ys.length ≤ cap ∧ cap ≤ maxLen ∧ base ≤ g ∧ g < w.heap.size ∧ ∀ j, j < ys.length → w.cell? ⟨g, 0 + j, none⟩ = some (.int .u8 ((ys.getD j 0 : Nat) : Int)) ∧ ys.getD j 0 < 256 := by
  rcases h.2 with ⟨_, h0⟩ | ⟨g, cap, cur, rfl, hb, hgg, hn, hm, hc, ht⟩
  · omega
  · refine ⟨g, cap, rfl, hn, hm, hb, (Array.getElem?_eq_some_iff.1 hgg).1, fun j hj => ?_⟩
    have hz : (cur.toList.take (ys.length * 1))[j]? = some (.int .u8 ((ys.getD j 0 : Nat) : Int)) := by
      rw [ht]
      unfold u8s
      rw [List.getElem?_map, List.getElem?_eq_getElem hj]
      simp [List.getD, List.getElem?_eq_getElem hj]
    rw [List.getElem?_take_of_lt (by omega)] at hz
    refine ⟨?_, ?_⟩
    · unfold World.cell?
      simp only [hgg]
      simpa using hz
    · have : ys.getD j 0 ∈ ys := by simp [List.getD, List.getElem?_eq_getElem hj]
      exact h2 _ this
end Go.Proofs.Ytnnpbbiiapipaaa
