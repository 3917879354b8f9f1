/-
  The walk of 'play'.
-/
import Derived.Test.YtblickncecpajaaC26
namespace Go.Proofs.Ytblickncecpajaa
open Go.RowKit Go.Lib
set_option linter.unusedVariables false
attribute [local go_sem ↓] Go.wp_at_zero Go.wp_at_succ
/-- What play leaves: both servers, in blocks of their own. -/
def Played (w : World) (e : Ending) (w' : World) : Prop :=
  ∃ (s r P : Nat) (v u : Value) (L : List Srv), e = .returned (.tuple #[.pointer (some ⟨s, 0, none⟩), .pointer (some ⟨r, 0, none⟩), .bool true]) ∧ Both w' w.heap.size s r P v u L ∧ Below w.heap.size w w'
theorem rem4 (n : Nat) : Int.tmod (n : Int) 4 = ((n % 4 : Nat) : Int) := by
  rw [Int.tmod_eq_emod_of_nonneg (by omega)]
  omega
set_option maxHeartbeats 4000000 in
theorem play_ok (w : World) (m : Nat) (hm : m < 256) (a : Option Addr) (len cap : Nat) (hlen : len < 9223372036854775808) (D : Nat → Dd) (hd : Dds w a len D) :
    Calls Try.prog 10 #[.int .u8 m, .slice a len cap] w (Played w) := by
  have hr := rem4 m
  have hN4 : m % 4 < 4 := Nat.mod_lt _ (by decide)
  generalize m % 4 = N at hr hN4
  have HN := veil (fun W => new_ok W (N + 1) (by omega) (by omega))
  have HR := veil (fun W => rnew_ok W (N + 1) (by omega) (by omega))
  have HD := veil hd
  clear hd
  have hb1 : Below w.heap.size w (w.alloc (.cells #[.int .u64 ((N + 1 : Nat) : Int), .slice none 0 0] 65)) := (Below.refl _ _).alloc (Nat.le_refl _) _
  have hp1 := Pep.new w (N + 1) (by omega) (by omega) w.heap.size (Nat.le_refl _)
  have HP1 := veil hp1
  have HB1 := veil hb1
  clear hp1 hb1
  generalize hW : w.alloc (.cells #[.int .u64 ((N + 1 : Nat) : Int), .slice none 0 0] 65) = W1 at HP1 HB1
  have hW' := veil hW
  clear hW
  go_enter Try.func10, Try.ntmps10
  go_wp2_with (first
    | (go_at_call 13; refine (HN.out _).mono ?_; rintro e w1 ⟨rfl, hw⟩; replace hw := hw.trans hW'.out; subst hw)
    | (go_at_call 28; refine (HR.out _).mono ?_; rintro e w2 ⟨rfl, hw⟩; have HR1 := veil (Rep.new w1 (N + 1) (by omega) (by omega) w.heap.size HB1.out.size); have HB2 := veil ((Below.refl w1.heap.size w1).alloc (Nat.le_refl _) (.cells #[.int .i64 ((N + 1 : Nat) : Int), .slice none 0 0] 79)); rw [← hw] at HR1 HB2; clear hw))
  have HBB : Hid (Both w2 w.heap.size w.heap.size w1.heap.size (N + 1) (.slice none 0 0) (.slice none 0 0) []) := ⟨HP1.out.below HB2.out, HR1.out, Nat.le_refl _, HB1.out.size⟩
  have HLL : Hid (Below w.heap.size w w2) := HB1.out.trans (HB2.out.mono HB1.out.size)
  generalize w1.heap.size = rb at *
  clear HP1 HR1 HB1 HB2 HN HR hW'
  go_loopw [9] (fun i wr => ∃ (j : Nat) (v u : Value) (L : List Srv), j ≤ len ∧ j ≤ 80 ∧ i = .int .i64 j ∧ Both wr w.heap.size w.heap.size rb (N + 1) v u L ∧ Below w.heap.size w wr) (fun i _ => len - (intOf i).toNat)
  case atStart => exact ⟨0, _, _, _, by omega, by omega, rfl, HBB.out, HLL.out⟩
  case round =>
    clear HBB HLL
    obtain ⟨j, v, u, L, hj, hj1, rfl, hB, hbel⟩ := hrel
    by_cases hjl : j < len
    · have hjl' : (j : Int) < (len : Int) := by omega
      by_cases hj2 : j < 80
      · rcases HD.out with h0 | ⟨lb, off, rfl, hlb, hc⟩
        · omega
        · obtain ⟨hok, z2, z3, z4, z5, z6⟩ := hc j hjl
          have y2 := (hbel.cell (p := ⟨lb, off + j * 5, none⟩) hlb).trans z2
          have y3 := (hbel.cell (p := ⟨lb, off + j * 5 + 1, none⟩) hlb).trans z3
          have y4 := (hbel.cell (p := ⟨lb, off + j * 5 + 2, none⟩) hlb).trans z4
          have y5 := (hbel.cell (p := ⟨lb, off + j * 5 + 3, none⟩) hlb).trans z5
          have y6 := (hbel.cell (p := ⟨lb, off + j * 5 + 4, none⟩) hlb).trans z6
          have HDO := veil (do_ok hB (D j) hok)
          have HS := veil hbel
          clear hc z2 z3 z4 z5 z6 hB hbel
          go_wp2_with (go_at_call 24; refine (HDO.out).mono ?_; rintro e w3 ⟨rfl, hd3⟩; have HD3 := veil hd3; clear hd3)
          go_roundw
          case rel =>
            obtain ⟨⟨v', u', L', hb'⟩, hf'⟩ := HD3.out
            exact ⟨j + 1, v', u', L', by omega, by omega, by go_num, hb', HS.out.trans hf'⟩
          case measure => simp [intOf]; omega
      · have HB4 := veil hB
        have HL4 := veil hbel
        clear hB hbel
        go_wp2
        go_ret3
        exact ⟨_, _, _, v, u, L, rfl, HB4.out, HL4.out⟩
    · have HB4 := veil hB
      have HL4 := veil hbel
      have hjl' : ¬ (j : Int) < (len : Int) := by omega
      clear hB hbel
      go_wp2
      go_ret3
      exact ⟨_, _, _, v, u, L, rfl, HB4.out, HL4.out⟩
end Go.Proofs.Ytblickncecpajaa
