/-
  exec: ExecBusy.
-/
import Derived.Test.YteknpjjgppmlmaaJ8
namespace Go.Proofs.Yteknpjjgppmlmaa
open Go.RowKit Go.Lib
set_option linter.unusedVariables false

def busyR (N : Nat) (i : Nat) : Int := if i = 0 then (N : Int) + 1 else 0
theorem busy_rt (N : Nat) (hN : N < 256) : Chk 2 liveO (busyR N) 0 0 := by
  refine .inr (.inr (.inr ⟨by omega, by omega, fun i hi' => ?_, .inr rfl, rfl, rfl⟩))
  match i, hi' with
  | 0, _ => simp [okI, liveO, busyR, known, lo, hi]; omega
  | 1, _ => rfl
theorem prg_busy (N : Nat) (w w1 : World) (hb : Below (w.heap.size + 1) (w.alloc (.cells #[.int .i64 1, .int .i64 ((N : Int) + 1), .int .i64 9, .int .i64 0] 28)) w1) : Prg w1 (some ⟨w.heap.size, 0, none⟩) 2 liveO (busyR N) := by
  have hs := hb.size
  simp at hs
  refine .inr ⟨w.heap.size, 0, rfl, by omega, fun j hj => ?_⟩
  have hb' : ∀ i, w1.cell? ⟨w.heap.size, i, none⟩ = _ := fun i => hb.cell (p := ⟨w.heap.size, i, none⟩) (by simp)
  match j, hj with
  | 0, _ => exact ⟨(hb' _).trans (by unfold World.cell?; simp only [(MapKept.heap_alloc w _).1]; rfl), (hb' _).trans (by unfold World.cell?; simp only [(MapKept.heap_alloc w _).1]; rfl)⟩
  | 1, _ => exact ⟨(hb' _).trans (by unfold World.cell?; simp only [(MapKept.heap_alloc w _).1]; rfl), (hb' _).trans (by unfold World.cell?; simp only [(MapKept.heap_alloc w _).1]; rfl)⟩
set_option maxHeartbeats 4000000 in
theorem busy_walk (w : World) (a : Option Addr) (len cap : Nat) (hl : len < 9223372036854775808) (hc : len ≤ cap) (O R : Nat → Int) (hp : Prg w a len O R) (N : Nat) (hN : N < 256) :
    Calls Try.prog 6 #[.int .u8 (N : Int), .slice a len cap] w fun e w' => e = .returned (.bool true) ∧ Below w.heap.size w w' := by
  have HF := veil (fun w1 (hb : Below w.heap.size w w1) => few_ok w1 a len cap hl hc O R (hp.below hb))
  have HL := veil live_ok
  generalize (min len 100) = m at HF
  have HS0 := veil (step_yes (w.alloc (.cells #[.int .i64 1, .int .i64 ((N : Int) + 1), .int .i64 9, .int .i64 0] 28)) (some ⟨w.heap.size, 0, none⟩) 2 2 liveO (busyR N) (prg_busy N w _ (Below.refl _ _)) 0 0 (by decide) ⟨0, busy_rt N hN⟩ (by decide))
  have HS1 := veil (fun w1 hb => step_yes w1 (some ⟨w.heap.size, 0, none⟩) 2 2 liveO (busyR N) (prg_busy N w w1 hb) 1 0 (by decide) ⟨0, busy_rt N hN⟩ (by decide))
  have HSB := veil (fun w1 a len cap y hy => step_busy w1 a len cap 1 y hy)
  have HT := veil (fun w1 y hy => tick_ok w1 1 y hy)
  rw [show nxI (liveO 0) (busyR N 0) ((0 : Nat) : Int) = 1 from rfl, show lfI (liveO 0) (busyR N 0) 0 = (N : Int) + 1 from rfl, show liveO 0 = 1 from rfl, show busyR N 0 = (N : Int) + 1 from rfl] at HS0
  rw [show nxI (liveO 1) (busyR N 1) ((1 : Nat) : Int) = 1 from rfl, show lfI (liveO 1) (busyR N 1) 0 = 0 from rfl, show liveO 1 = 9 from rfl, show busyR N 1 = 0 from rfl] at HS1
  clear hp
  go_enter Try.func6, Try.ntmps6
  go_wp2_with (first
    | (go_at_call 10; refine (HF.out _ (Below.refl _ _)).mono ?_; rintro e w0 ⟨rfl, hw⟩; replace hw := hw.symm; subst hw)
    | (go_at_call 11; refine (HS0.out).mono ?_; rintro e w1 ⟨rfl, hb⟩; simp only [World.size_alloc] at hb; have HB1 := veil hb; clear hb HS0))
  have hs1 := HB1.out.size
  rw [World.size_alloc] at hs1
  go_loopw [9] (fun i wr => ∃ t y : Nat, t ≤ N + 1 ∧ t + y = N + 1 ∧ i = .int .i64 (t : Int) ∧ Two wr (w1.heap.size + 1) (.int .i64 1) (.int .i64 (y : Int)) ∧ Below (w.heap.size + 1) (w.alloc (.cells #[.int .i64 1, .int .i64 ((N : Int) + 1), .int .i64 9, .int .i64 0] 28)) wr) (fun i _ => N + 1 - (intOf i).toNat)
  case atStart => exact ⟨0, N + 1, by omega, by omega, rfl, Two.new1 _ _ _ _ _, (HB1.out.alloc (by omega) _).alloc (by simp; omega) _⟩
  case round =>
    obtain ⟨t, y, ht, hty, rfl, htw, hbr⟩ := hrel
    have HTW := veil htw
    have HBR := veil hbr
    have lr := htw.lt
    obtain ⟨c0, c1, z0, z1⟩ := htw
    have HW0 : Hid (Below w.heap.size w wr) := ((Below.refl _ _).alloc (Nat.le_refl _) _).trans (hbr.mono (by omega))
    clear hbr
    have HTY := veil hty
    by_cases htl : t ≤ N
    · have htl' : (t : Int) ≤ (N : Int) := by omega
      have hy : 0 < (y : Int) := by omega
      have HT2 := veil (fun w1 => HT.out w1 (y : Int) (by omega))
      rw [if_pos hy, show ((y : Int) - 1) = ((y - 1 : Nat) : Int) by omega] at HT2
      have HA := veil (HSB.out wr (some ⟨w.heap.size, 0, none⟩) 2 2 (y : Int) hy)
      have HC := veil (fun w1 => HSB.out w1 a m cap (y : Int) hy)
      clear hy hty
      go_wp2_with (first
        | (go_at_call 11; refine (HA.out).mono ?_; rintro e w2 ⟨rfl, hb⟩; have tF := HTW.out.below hb; have HF2 := veil tF; have HB2 := veil (HBR.out.trans (hb.mono (by have := HBR.out.size; rw [World.size_alloc] at this; omega))); have l2 := HF2.out.lt; have tFA := (HF2.out.alloc (.cells #[.int .i64 0, .int .i64 0] 28)).alloc (.cells #[.int .i64 1, .int .i64 (y : Int)] 24); obtain ⟨d0, d1, _, _⟩ := tFA; clear hb HA tF)
        | (go_at_call 11; refine (HC.out _).mono ?_; rintro e w3 ⟨rfl, hb⟩; have tF := ((HF2.out.alloc _).alloc _).below hb; have tG := (Two.new1 w2 _ _ _ _).below hb; have HF3 := veil tF; have HG3 := veil tG; have HB3 := veil (((HB2.out.alloc (by omega) _).alloc (by simp; omega) _).trans (hb.mono (by simp; omega))); have hs3 := hb.size; have l3 := HG3.out.lt; have tFA := (HF3.out.alloc (.cells #[.int .i64 0, .int .i64 0] 28)).alloc (.cells #[.int .i64 1, .int .i64 (y : Int)] 24); have tGA := (HG3.out.alloc (.cells #[.int .i64 0, .int .i64 0] 28)).alloc (.cells #[.int .i64 1, .int .i64 (y : Int)] 24); obtain ⟨e0, e1, _, _⟩ := tFA; obtain ⟨g0, g1, _, _⟩ := tGA; clear hb HC d0 d1 tF tG)
        | (go_at_call 13; refine (HT2.out _).mono ?_; rintro e w4 ⟨rfl, hb⟩; have tF := ((HF3.out.alloc _).alloc _).below hb; have HF4 := veil tF; have HB4 := veil (((HB3.out.alloc (by omega) _).alloc (by simp; omega) _).trans (hb.mono (by simp; omega))); obtain ⟨k0, k1, zk0, zk1⟩ := tF; clear hb HT2))
      go_roundw
      case rel =>
        refine ⟨t + 1, y - 1, by omega, by have := HTY.out; omega, by go_num, ?_, ?_⟩
        · exact HF4.out.set _ _
        · exact (HB4.out.setCell (p := ⟨w1.heap.size + 1, 0, none⟩) (by simp; omega) _).setCell (p := ⟨w1.heap.size + 1, 1, none⟩) (by simp; omega) _
      case measure => simp [intOf]; omega
    · have htl' : ¬ (t : Int) ≤ (N : Int) := by omega
      obtain rfl : y = 0 := by omega
      have HT2 := veil (fun w1 => HT.out w1 0 (by omega))
      rw [if_neg (by decide)] at HT2
      have HA := veil (HS1.out wr HBR.out)
      clear hty HTY
      go_wp2_with (first
        | (go_at_call 11; refine (HA.out).mono ?_; rintro e w2 ⟨rfl, hb⟩; have HF2 := veil (HTW.out.below hb); have HB2 := veil (HW0.out.trans (hb.mono HW0.out.size)); clear hb HA))
      have hs2 := HB2.out.size
      have tX := (Two.new w2 (.int .i64 9) (.int .i64 0) 28).alloc (.cells #[.int .i64 1, .int .i64 0] 24)
      have tF := (HF2.out.alloc (.cells #[.int .i64 9, .int .i64 0] 28)).alloc (.cells #[.int .i64 1, .int .i64 0] 24)
      have HBW := veil ((HB2.out.alloc hs2 (.cells #[.int .i64 9, .int .i64 0] 28)).alloc (by simp; omega) (.cells #[.int .i64 1, .int .i64 0] 24))
      generalize (w2.alloc (.cells #[.int .i64 9, .int .i64 0] 28)).alloc (.cells #[.int .i64 1, .int .i64 0] 24) = W at tF tX HBW ⊢
      have HTF := veil tF
      have HTX := veil tX
      obtain ⟨f0, f1, _, _⟩ := tF
      obtain ⟨x0, x1, _, _⟩ := tX
      go_region_held3 (fun w' => w'.cell? ⟨w1.heap.size + 1, 0, none⟩ = some (.int .i64 1) ∧ w'.cell? ⟨w1.heap.size + 1, 1, none⟩ = some (.int .i64 0) ∧ w'.cell? ⟨w2.heap.size, 0, none⟩ = some (.int .i64 9))
        (first | with_reducible exact ⟨f0, f1, x0⟩ | with_reducible exact ⟨e0, e1, ex0⟩ | with_reducible exact ⟨k0, k1, kx0⟩ | go_keep)
        (first
          | (go_at_call 15; refine (HL.out _).mono ?_; rintro e w3 ⟨rfl, hb0⟩; have hb : Below W.heap.size W w3 := ((Below.refl _ W).drew).trans hb0; have tF := HTF.out.below hb; have tX := HTX.out.below hb; have HTF3 := veil tF; have HTX3 := veil tX; have HB3 := veil (HBW.out.trans (hb.mono HBW.out.size)); obtain ⟨e0, e1, _, _⟩ := tF; obtain ⟨ex0, ex1, _, _⟩ := tX; clear hb hb0)
          | (go_at_call 13; refine (HT2.out _).mono ?_; rintro e w4 ⟨rfl, hb⟩; have tF := HTF3.out.below hb; have tX := HTX3.out.below hb; have HB4 := veil (HB3.out.trans (hb.mono HB3.out.size)); obtain ⟨k0, k1, _, _⟩ := tF; obtain ⟨kx0, kx1, _, _⟩ := tX; clear hb))
      go_wp2
      go_ret
      exact ⟨rfl, HB4.out⟩
end Go.Proofs.Yteknpjjgppmlmaa
