/-
  prog: what a program that came in is, Check walked, the document's right and Check walked.
-/
import Derived.Test.YtnnpbbiiapipaaaO1
namespace Go.Proofs.Ytnnpbbiiapipaaa
open Go.RowKit Go.Lib

/-- A slice of instructions: its cells. -/
def Prg (w : World) (a : Option Addr) (len : Nat) (O R : Nat → Int) : Prop :=
  len = 0 ∨ ∃ lb off, a = some ⟨lb, off, none⟩ ∧ lb < w.heap.size ∧ ∀ j, j < len → w.cell? ⟨lb, off + j * 2, none⟩ = some (.int .i64 (O j)) ∧ w.cell? ⟨lb, off + j * 2 + 1, none⟩ = some (.int .i64 (R j))
theorem Prg.below {w w' : World} {a : Option Addr} {len : Nat} {O R : Nat → Int} (h : Prg w a len O R) (hb : Below w.heap.size w w') : Prg w' a len O R := by
  rcases h with h | ⟨lb, off, rfl, hlb, hc⟩
  · exact .inl h
  · refine .inr ⟨lb, off, rfl, Nat.lt_of_lt_of_le hlb hb.size, fun j hj => ?_⟩
    obtain ⟨q1, q2⟩ := hc j hj
    exact ⟨(hb.cell (p := ⟨lb, off + j * 2, none⟩) hlb).trans q1, (hb.cell (p := ⟨lb, off + j * 2 + 1, none⟩) hlb).trans q2⟩
theorem Prg.cut {w : World} {a : Option Addr} {len m : Nat} {O R : Nat → Int} (h : Prg w a len O R) (hm : m ≤ len) : Prg w a m O R := by
  rcases h with h | ⟨lb, off, rfl, hlb, hc⟩
  · exact .inl (by omega)
  · exact .inr ⟨lb, off, rfl, hlb, fun j hj => hc j (by omega)⟩

/-- Is an instruction right, in a program of n? -/
def okI (n op arg : Int) : Bool := known op && decide (lo op ≤ arg ∧ arg ≤ hi n op)
/-- What Check answers. -/
def Chk (len : Nat) (O R : Nat → Int) (e at_ : Int) : Prop :=
  ((len < 1 ∨ 64 < len) ∧ e = 3 ∧ at_ = 0) ∨
  (1 ≤ len ∧ len ≤ 64 ∧ ∃ j : Nat, j < len ∧ (∀ i, i < j → okI len (O i) (R i) = true) ∧ okI len (O j) (R j) = false ∧ e = 3 ∧ at_ = j) ∨
  (1 ≤ len ∧ len ≤ 64 ∧ (∀ i, i < len → okI len (O i) (R i) = true) ∧ O (len - 1) ≠ 8 ∧ O (len - 1) ≠ 9 ∧ e = 3 ∧ at_ = ((len - 1 : Nat) : Int)) ∨
  (1 ≤ len ∧ len ≤ 64 ∧ (∀ i, i < len → okI len (O i) (R i) = true) ∧ (O (len - 1) = 8 ∨ O (len - 1) = 9) ∧ e = 0 ∧ at_ = 0)
theorem Chk.one {len : Nat} {O R : Nat → Int} {e a e' a' : Int} (h : Chk len O R e a) (h' : Chk len O R e' a') : e' = e ∧ a' = a := by
  have no : ∀ {j i : Nat}, okI len (O j) (R j) = false → (∀ k, k < i → okI len (O k) (R k) = true) → j < i → False := by
    intro j i h1 h2 h3
    rw [h2 j h3] at h1
    cases h1
  rcases h with ⟨h1, h2, h3⟩ | ⟨h1, h2, j, h3, h4, h5, h6, h7⟩ | ⟨h1, h2, h3, h4, h5, h6, h7⟩ | ⟨h1, h2, h3, h4, h5, h6⟩ <;>
  rcases h' with ⟨g1, g2, g3⟩ | ⟨g1, g2, i, g3, g4, g5, g6, g7⟩ | ⟨g1, g2, g3, g4, g5, g6, g7⟩ | ⟨g1, g2, g3, g4, g5, g6⟩ <;> subst_vars <;> try omega
  · have : i = j := by
      rcases Nat.lt_trichotomy i j with q | q | q
      · exact (no g5 h4 q).elim
      · exact q
      · exact (no h5 g4 q).elim
    subst this
    exact ⟨rfl, rfl⟩
  all_goals first | exact (no h5 g3 h3).elim | exact (no g5 h3 g3).elim

set_option maxRecDepth 100000 in
theorem check_ok (w : World) (a : Option Addr) (len cap : Nat) (hlen : len < 9223372036854775808) (O R : Nat → Int) (hp : Prg w a len O R) :
    Calls Try.prog 25 #[.slice a len cap] w fun e w' => ∃ x y : Int, e = .returned (.tuple #[.int .i64 x, .int .i64 y]) ∧ Chk len O R x y ∧ Below w.heap.size w w' := by
  by_cases hl1 : len < 1
  · have hl1' : (len : Int) < 1 := by omega
    go_enter Try.func25, Try.ntmps25
    go_wp2
    go_ret2
    exact ⟨_, _, rfl, .inl ⟨.inl hl1, rfl, rfl⟩, Below.refl _ _⟩
  by_cases hl2 : 64 < len
  · have hl1' : ¬ (len : Int) < 1 := by omega
    have hl2' : 64 < (len : Int) := by omega
    go_enter Try.func25, Try.ntmps25
    go_wp2
    go_ret2
    exact ⟨_, _, rfl, .inl ⟨.inr hl2, rfl, rfl⟩, Below.refl _ _⟩
  have hl1' : ¬ (len : Int) < 1 := by omega
  have hl2' : ¬ 64 < (len : Int) := by omega
  have HP := veil hp
  have HS := veil (spans_ok w len (by omega) (by omega))
  clear hp
  go_enter Try.func25, Try.ntmps25
  go_wp2_with (go_at_call 38; refine (HS.out).mono ?_; rintro e w1 ⟨rfl, hw⟩; have HW := veil hw; clear hw)
  have HM : Hid (w1.heap[w.heap.size]? = some (.map (spanRow len).toArray 9)) := by rw [HW.out]; exact heap_alloc_new w _
  have HL : Hid (Below w.heap.size w w1) := by rw [HW.out]; exact (Below.refl _ _).alloc (Nat.le_refl _) _
  have hsz : w1.heap.size = w.heap.size + 1 := by rw [HW.out]; simp [spanW]
  clear HW HS
  have hcap : 0 ≤ (len : Int) := by omega
  go_loopw [23] (fun i wr => ∃ (j : Nat), j ≤ len ∧ i = .int .i64 j ∧ (∀ k, k < j → okI len (O k) (R k) = true) ∧ Below w1.heap.size w1 wr) (fun i _ => len - (intOf i).toNat)
  case atStart => exact ⟨0, by omega, rfl, fun k hk => by omega, Below.refl _ _⟩
  case round =>
    obtain ⟨j, hj, rfl, hall, hbel⟩ := hrel
    by_cases hjl : j < len
    · have hjl' : (j : Int) < (len : Int) := by omega
      rcases HP.out with h0 | ⟨lb, off, rfl, hlb, hc⟩
      · omega
      · obtain ⟨z1, z2⟩ := hc j hjl
        have y1 := (hbel.cell (p := ⟨lb, off + j * 2, none⟩) (by simp; omega)).trans ((HL.out.cell (p := ⟨lb, off + j * 2, none⟩) hlb).trans z1)
        have y2 := (hbel.cell (p := ⟨lb, off + j * 2 + 1, none⟩) (by simp; omega)).trans ((HL.out.cell (p := ⟨lb, off + j * 2 + 1, none⟩) hlb).trans z2)
        have HB := veil hbel
        have HA := veil hall
        clear hc z1 z2 hbel hall
        have hm : (wr.alloc (.cells #[.int .i64 (O j), .int .i64 (R j)] 64)).heap[w.heap.size]? = some (.map (spanRow len).toArray 9) := by
          rw [Below.heap_alloc _ _ _ (by have := HB.out.size; omega), HB.out.block _ (by omega)]
          exact HM.out
        have hk := look_span _ _ _ (O j) hm
        clear hm
        cases hkn : known (O j) with
        | false =>
          rw [hkn] at hk
          go_wp2
          go_ret2
          exact ⟨_, _, rfl, .inr (.inl ⟨by omega, by omega, j, hjl, HA.out, by simp [okI, hkn], rfl, rfl⟩), HL.out.trans (((HB.out.mono (by omega)).alloc (by have := HB.out.size; omega) _).alloc (by have := HB.out.size; simp; omega) _)⟩
        | true =>
          rw [hkn] at hk
          have HH := veil (fun W => holds_ok (lo (O j)) (hi len (O j)) (R j) W)
          cases hin : decide (lo (O j) ≤ R j ∧ R j ≤ hi len (O j)) with
          | false =>
            rw [hin] at HH
            go_wp2_with (go_at_call 39; refine (HH.out _).mono ?_; rintro e w2 ⟨rfl, hb⟩; have HB2 := veil hb; clear hb)
            go_ret2
            exact ⟨_, _, rfl, .inr (.inl ⟨by omega, by omega, j, hjl, HA.out, by simp only [okI, hkn, hin, Bool.and_false], rfl, rfl⟩), (HL.out.trans (((HB.out.mono (by omega)).alloc (by have := HB.out.size; omega) _).alloc (by have := HB.out.size; simp; omega) _)).trans (HB2.out.mono (by have := HB.out.size; simp; omega))⟩
          | true =>
            rw [hin] at HH
            go_wp2_with (go_at_call 39; refine (HH.out _).mono ?_; rintro e w2 ⟨rfl, hb⟩; have HB2 := veil hb; clear hb)
            go_roundw
            case rel =>
              refine ⟨j + 1, by omega, by go_num, fun k hk' => ?_, (((HB.out).alloc (by have := HB.out.size; omega) _).alloc (by have := HB.out.size; simp; omega) _).trans (HB2.out.mono (by have := HB.out.size; simp; omega))⟩
              by_cases q : k = j
              · subst q; simp only [okI, hkn, hin, Bool.and_self]
              · exact HA.out k (by omega)
            case measure => simp [intOf]; omega
    · have hjl' : ¬ (j : Int) < (len : Int) := by omega
      obtain rfl : j = len := by omega
      rcases HP.out with h0 | ⟨lb, off, rfl, hlb, hc⟩
      · omega
      obtain ⟨z1, _⟩ := hc (j - 1) (by omega)
      have y1 := (hbel.cell (p := ⟨lb, off + (j - 1) * 2, none⟩) (by simp; omega)).trans ((HL.out.cell (p := ⟨lb, off + (j - 1) * 2, none⟩) hlb).trans z1)
      have HB := veil hbel
      have HA := veil hall
      clear hc z1 hbel hall
      obtain ⟨n, rfl⟩ : ∃ n, j = n + 1 := ⟨j - 1, by omega⟩
      have e1 : ((n + 1 : Nat) : Int) - 1 = (n : Nat) := by omega
      have e2 : (n : Int) < ((n + 1 : Nat) : Int) := by omega
      simp only [Nat.add_sub_cancel] at y1
      have HL2 : Hid (Below w.heap.size w wr) := HL.out.trans (HB.out.mono (by omega))
      clear HL HB HM
      by_cases h8 : O n = 8
      · go_wp2
        go_ret2
        exact ⟨_, _, rfl, .inr (.inr (.inr ⟨by omega, by omega, HA.out, .inl h8, rfl, rfl⟩)), HL2.out⟩
      · by_cases h9 : O n = 9
        · go_wp2
          go_ret2
          exact ⟨_, _, rfl, .inr (.inr (.inr ⟨by omega, by omega, HA.out, .inr h9, rfl, rfl⟩)), HL2.out⟩
        · have b8 : (O n != 8) = true := by simpa using h8
          have b9 : (O n != 9) = true := by simpa using h9
          go_wp2
          go_ret2
          exact ⟨_, _, rfl, .inr (.inr (.inl ⟨by omega, by omega, HA.out, h8, h9, rfl, by go_num⟩)), HL2.out⟩
end Go.Proofs.Ytnnpbbiiapipaaa
