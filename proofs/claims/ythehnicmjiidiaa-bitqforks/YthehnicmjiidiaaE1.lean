/-
  The walk of 'play': deeds on both queues.
-/
import Derived.Test.YthehnicmjiidiaaD9
namespace Go.Proofs.Ythehnicmjiidiaa
open Go.RowKit Go.Lib

/-- A slice of deeds that came in: its cells. -/
def Deeds (w : World) (a : Option Addr) (len : Nat) (X Y : Nat → Int) (Z : Nat → Nat) : Prop :=
  len = 0 ∨ ∃ lb off, a = some ⟨lb, off, none⟩ ∧ lb < w.heap.size ∧ ∀ j, j < len → Z j < 256 ∧ w.cell? ⟨lb, off + j * 3, none⟩ = some (.int .i64 (X j)) ∧ w.cell? ⟨lb, off + j * 3 + 1, none⟩ = some (.int .i64 (Y j)) ∧ w.cell? ⟨lb, off + j * 3 + 2, none⟩ = some (.int .u8 (Z j))

/-- What play leaves: both queues, in blocks of their own. -/
def Played (w : World) (n : Nat) (e : Ending) (w' : World) : Prop :=
  ∃ (b g rb base : Nat) (v : Value) (R : List (Nat × Nat)), e = .returned (.tuple #[.pointer (some ⟨b, 0, none⟩), .pointer (some ⟨rb, 0, none⟩), .bool true]) ∧ w.heap.size ≤ b ∧ w.heap.size ≤ g ∧ w.heap.size ≤ rb ∧ w.heap.size ≤ base ∧ Both w' base b g rb n v R ∧ Below w.heap.size w w'

theorem rem12 (n : Nat) : Int.tmod (n : Int) 12 = ((n % 12 : Nat) : Int) := by
  rw [Int.tmod_eq_emod_of_nonneg (by omega)]
  omega

theorem Both.step {w w' w'' : World} {base b g rb n : Nat} {v : Value} {R : List (Nat × Nat)} {W : Nat} (h : Both w' base b g rb n v R) (hW : W ≤ w.heap.size) (hb : Below W w w') (h1 : W ≤ b) (h2 : W ≤ g) (h3 : W ≤ rb) (h4 : W ≤ base)
    (hf : Fr (fun k => k = b ∨ k = g ∨ k = rb ∨ some k = v.ownBlock) w' w'') : Below W w w'' := by
  refine hb.trans (hf.below (Nat.le_trans hW hb.size) ?_)
  rintro k (q | q | q | q)
  · omega
  · omega
  · omega
  · have := (h.row k q.symm).1; omega

set_option maxHeartbeats 4000000 in
theorem play_ok (w : World) (m : Nat) (hm : m < 256) (a : Option Addr) (len cap : Nat) (hlen : len < 9223372036854775808) (X Y : Nat → Int) (Z : Nat → Nat) (hd : Deeds w a len X Y Z) :
    Calls Try.prog 10 #[.int .u8 m, .slice a len cap] w (Played w (m % 12 + 1)) := by
  have hr := rem12 m
  have HN := veil (new_ok (m % 12 + 1) w (by omega) (by omega))
  have HR := veil (fun w' => rnew_ok (m % 12 + 1) w' (by omega) (by omega))
  have hN12 : m % 12 < 12 := Nat.mod_lt _ (by decide)
  have HD := veil hd
  clear hd
  generalize m % 12 = N at *
  go_enter Try.func10, Try.ntmps10
  go_wp2_with (first
    | (go_at_call 26; refine (HN.out).mono ?_; rintro e w1 ⟨rfl, hq, hb⟩; have HQ := veil hq; have HB := veil hb; clear hq hb)
    | (go_at_call 27; refine (HR.out _).mono ?_; rintro e w2 ⟨rfl, hr1, hb1⟩; have HR1 := veil hr1; have HB1 := veil hb1; clear hr1 hb1))
  have HB2 : Hid (Both w2 w1.heap.size (w.heap.size + 1) w.heap.size w1.heap.size (N + 1) (.slice none 0 0) []) := by
    have hbl := HQ.out.blocks
    exact ⟨HQ.out.below HB1.out, HR1.out, hbl.1, hbl.2.1, by omega, by omega⟩
  have HL : Hid (Below w.heap.size w w2) := HB.out.trans (HB1.out.mono HB.out.size)
  have h12 : w.heap.size ≤ w1.heap.size := HB.out.size
  clear HQ HR1 HB HB1 HN HR
  go_loopw [9] (fun i wr => ∃ (j : Nat) (v : Value) (R : List (Nat × Nat)), j ≤ len ∧ j ≤ 100 ∧ i = .int .i64 j ∧ Both wr w1.heap.size (w.heap.size + 1) w.heap.size w1.heap.size (N + 1) v R ∧ Below w.heap.size w wr) (fun i _ => len - (intOf i).toNat)
  case atStart => exact ⟨0, _, _, by omega, by omega, rfl, HB2.out, HL.out⟩
  case round =>
    obtain ⟨j, v, R, hj, hj1, rfl, hB, hbel⟩ := hrel
    by_cases hjl : j < len
    · have hjl' : (j : Int) < (len : Int) := by omega
      by_cases hj2 : j < 100
      · rcases HD.out with h0 | ⟨lb, off, rfl, hlb, hc⟩
        · omega
        · obtain ⟨z1, z2, z3, z4⟩ := hc j hjl
          have y2 := (hbel.cell (p := ⟨lb, off + j * 3, none⟩) hlb).trans z2
          have y3 := (hbel.cell (p := ⟨lb, off + j * 3 + 1, none⟩) hlb).trans z3
          have y4 := (hbel.cell (p := ⟨lb, off + j * 3 + 2, none⟩) hlb).trans z4
          have HO := veil (do_ok wr _ _ _ _ _ v R hB (X j) (Y j) (Z j) z1)
          have HS := veil (fun w'' hf => hB.step (w'' := w'') (Nat.le_refl _) hbel (by omega) (by omega) h12 h12 hf)
          clear hc z2 z3 z4 hB hbel
          go_wp2_with (go_at_call 25; refine (HO.out).mono ?_; rintro e w3 ⟨rfl, hb3, hf3⟩; have HB3 := veil hb3; have HF3 := veil (HS.out _ hf3); clear hb3 hf3)
          go_roundw
          case rel =>
            obtain ⟨v', R', hb'⟩ := HB3.out
            exact ⟨j + 1, v', R', by omega, by omega, by go_num, hb', HF3.out⟩
          case measure => simp [intOf]; omega
      · have HB4 := veil hB
        have HL4 := veil hbel
        clear hB hbel
        go_wp2
        go_ret3
        exact ⟨_, _, _, _, v, R, rfl, by omega, by omega, h12, h12, HB4.out, HL4.out⟩
    · have HB4 := veil hB
      have HL4 := veil hbel
      have hjl' : ¬ (j : Int) < (len : Int) := by omega
      clear hB hbel
      go_wp2
      go_ret3
      exact ⟨_, _, _, _, v, R, rfl, by omega, by omega, h12, h12, HB4.out, HL4.out⟩
end Go.Proofs.Ythehnicmjiidiaa
