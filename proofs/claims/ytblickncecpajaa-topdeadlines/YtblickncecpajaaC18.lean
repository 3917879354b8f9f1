/-
  TopDeadlines.
-/
import Derived.Test.YtblickncecpajaaC17
import Derived.Test.YtblickncecpajaaMk
namespace Go.Proofs.Ytblickncecpajaa
open Go.RowKit Go.Lib
set_option linter.unusedVariables false

def tops : List Nat := [1, 2, 3, 4, 5, 6, 10, 12, 15, 20]
theorem tops_ok (j : Nat) (hj : j < 10) : ∃ per, tops[j]? = some per ∧ 1 ≤ per ∧ per ≤ 20 ∧ 232792560 % per = 0 ∧ per * (232792560 / per) = 232792560 := by
  match j, hj with
  | 0, _ => exact ⟨1, rfl, by decide⟩
  | 1, _ => exact ⟨2, rfl, by decide⟩
  | 2, _ => exact ⟨3, rfl, by decide⟩
  | 3, _ => exact ⟨4, rfl, by decide⟩
  | 4, _ => exact ⟨5, rfl, by decide⟩
  | 5, _ => exact ⟨6, rfl, by decide⟩
  | 6, _ => exact ⟨10, rfl, by decide⟩
  | 7, _ => exact ⟨12, rfl, by decide⟩
  | 8, _ => exact ⟨15, rfl, by decide⟩
  | 9, _ => exact ⟨20, rfl, by decide⟩
theorem terms_ok {b per : Nat} (h1 : 1 ≤ b) (h2 : b ≤ per) (h3 : 232792560 % per = 0) (h4 : per * (232792560 / per) = 232792560) : rightB b per = true ∧ asks ⟨b, per, 0, 0⟩ ≤ 232792560 := by
  constructor
  · simp [rightB, h1, h2, h3]
  · show b * (232792560 / per) ≤ 232792560
    calc b * (232792560 / per) ≤ per * (232792560 / per) := Nat.mul_le_mul_right _ h2
      _ = 232792560 := h4
theorem tmodN (a b : Nat) : Int.tmod (a : Int) (b : Int) = ((a % b : Nat) : Int) := rfl
abbrev topCells : Array Value := #[.int .u64 1, .int .u64 2, .int .u64 3, .int .u64 4, .int .u64 5, .int .u64 6, .int .u64 10, .int .u64 12, .int .u64 15, .int .u64 20]
theorem top_cell (j : Nat) (hj : j < 10) (per : Nat) (h : tops[j]? = some per) : topCells[j]? = some (.int .u64 (per : Int)) := by
  match j, hj with
  | 0, _ => cases h; rfl
  | 1, _ => cases h; rfl
  | 2, _ => cases h; rfl
  | 3, _ => cases h; rfl
  | 4, _ => cases h; rfl
  | 5, _ => cases h; rfl
  | 6, _ => cases h; rfl
  | 7, _ => cases h; rfl
  | 8, _ => cases h; rfl
  | 9, _ => cases h; rfl
theorem On2.keys {w W : World} {s : Nat} {x : Srv} {kb : Nat} {c0 c1 c2 : Value} {t : TypeId} (h : On2 w W s x kb (.cells #[c0, c1, c2] t)) :
    W.cell? ⟨kb, 0, none⟩ = some c0 ∧ W.cell? ⟨kb, 1, none⟩ = some c1 ∧ W.cell? ⟨kb, 2, none⟩ = some c2 := by
  obtain ⟨_, _, _, h3, _⟩ := h
  refine ⟨?_, ?_, ?_⟩ <;> (unfold World.cell?; simp only [h3]; rfl)
set_option maxHeartbeats 400000 in
theorem deadlines_walk (w : World) (q p st : Nat) (hq : q < 256) (hp : p < 256) (hs : st < 4294967296) :
    Calls Try.prog 9 #[.int .u8 (q : Int), .int .u8 (p : Int), .int .u32 (st : Int)] w fun e w' => e = .returned (.bool true) ∧ Below w.heap.size w w' := by
  obtain ⟨j, hj, hjl⟩ : ∃ j, j = p % 10 ∧ j < 10 := ⟨_, rfl, Nat.mod_lt _ (by omega)⟩
  have hmod : Int.tmod (p : Int) 10 = (j : Int) := by rw [hj]; rfl
  obtain ⟨per, hper, hp1, hp2, hp3, hp4⟩ := tops_ok j hjl
  obtain ⟨b0, hb0, hbl⟩ : ∃ b0, b0 = q % per ∧ b0 < per := ⟨_, rfl, Nat.mod_lt _ (by omega)⟩
  have hmod2 : Int.tmod (q : Int) (per : Int) = (b0 : Int) := by rw [hb0]; rfl
  have hper0 : ¬ (per : Int) = 0 := by omega
  obtain ⟨ht1, ht2⟩ := terms_ok (b := b0 + 1) (by omega) (by omega) hp3 hp4
  have hcell : (w.alloc (.cells topCells 31)).cell? ⟨w.heap.size, j, none⟩ = some (.int .u64 (per : Int)) := by
    unfold World.cell?
    simp only [(MapKept.heap_alloc w _).1]
    exact top_cell j hjl per hper
  have HN := veil (fun W => new_ok W 1 (by omega) (by omega))
  rw [show ((1 : Nat) : Int) = 1 from rfl] at HN
  have HA := veil (on_new w (w.alloc (.cells topCells 31)) below_one (b0 + 1) per ht1 ht2)
  rw [World.size_alloc, show ((b0 + 1 : Nat) : Int) = (b0 : Int) + 1 from rfl] at HA
  obtain ⟨d, hde⟩ : ∃ d, d = st + per := ⟨_, rfl⟩
  have hfil : (if (⟨b0 + 1, per, 0, 0⟩ : Srv).d ≤ st then fillS ⟨b0 + 1, per, 0, 0⟩ st else ⟨b0 + 1, per, 0, 0⟩) = ⟨b0 + 1, per, b0 + 1, d⟩ := by
    rw [if_pos (Nat.zero_le _), hde]
    simp [fillS, addN]
    omega
  have HW := veil (fun W (h : On w W (w.heap.size + 1) ⟨b0 + 1, per, 0, 0⟩) => on_wake h st (by omega))
  rw [hfil] at HW
  have HD := veil (fun W (h : On w W (w.heap.size + 1) ⟨b0 + 1, per, b0 + 1, d⟩) => on_deadline h)
  have HD2 := veil (fun W l kb o (h : On2 w W (w.heap.size + 1) ⟨b0 + 1, per, l, d⟩ kb o) => on2_deadline h)
  have HAC := veil (fun W l kb o (h : On2 w W (w.heap.size + 1) ⟨b0 + 1, per, l, d⟩ kb o) => on2_active h)
  have HCH := veil (fun W l kb o (h : On2 w W (w.heap.size + 1) ⟨b0 + 1, per, l, d⟩ kb o) hl => on2_charge h hl)
  have HKD := veil (fun W => Ke.dead_ok W (d : Int))
  have HDE := veil hde
  clear hj hper hb0 hp3 hp4 ht1 ht2 hfil hde
  go_enter Try.func9, Try.ntmps9
  go_wp2_with (first
    | (go_at_call 13; refine (HN.out _).mono ?_; rintro e w1 ⟨rfl, rfl⟩)
    | (go_at_call 14; refine (HA.out).mono ?_; rintro e w2 ⟨rfl, h2⟩; have H2 := veil h2; clear h2)
    | (go_at_call 15; refine (HW.out _ H2.out).mono ?_; rintro e w3 ⟨rfl, h3⟩; have H3 := veil h3; clear h3)
    | (go_at_call 19; refine (HD.out _ H3.out).mono ?_; rintro e w4 ⟨rfl, h4⟩; have H4 := veil h4; clear h4)
    | (go_at_call 25; refine (HKD.out _).mono ?_; rintro e w5 ⟨rfl, hb⟩; have H5 := veil (H4.out.below hb); clear hb))
  have H6 := veil (H5.out.new (.cells #[.bool (Ke.deadK (d : Int)).e, .int .u64 (Ke.deadK (d : Int)).d, .int .u8 (Ke.deadK (d : Int)).l] 56))
  clear H5 H4 H3 H2 HA HN HW HD
  go_loopw [14] (fun i wr => ∃ t l : Nat, t ≤ b0 + 1 ∧ t + l = b0 + 1 ∧ i = .int .u64 (t : Int) ∧ On2 w wr (w.heap.size + 1) ⟨b0 + 1, per, l, d⟩ w5.heap.size (.cells #[.bool (Ke.deadK (d : Int)).e, .int .u64 (Ke.deadK (d : Int)).d, .int .u8 (Ke.deadK (d : Int)).l] 56)) (fun i _ => b0 + 1 - (intOf i).toNat)
  case atStart => exact ⟨0, b0 + 1, by omega, by omega, rfl, H6.out⟩
  case round =>
    obtain ⟨t, l, ht, htl, rfl, h6⟩ := hrel
    have H7 := veil h6
    have HTL := veil htl
    clear h6 htl
    by_cases htb : t < b0 + 1
    · have htb' : (t : Int) < (b0 : Int) + 1 := by omega
      have HAC2 := veil (HAC.out _ _ _ _ H7.out)
      have HLP : Hid (1 ≤ l) := by have := HTL.out; unfold Hid; omega
      simp only [show (0 < l) = True from eq_true (by have := HLP.out; omega), decide_true] at HAC2
      have HKF := veil (fun W => Ke.fixed_ok W 255)
      have HKA := veil (fun W => Ke.above_ok W (Ke.deadK (d : Int)) (Ke.fixK 255))
      rw [show Ke.up (Ke.deadK (d : Int)) (Ke.fixK 255) = true from rfl] at HKA
      have HCH2 := veil (fun W (h : On2 w W (w.heap.size + 1) ⟨b0 + 1, per, l, d⟩ w5.heap.size (.cells #[.bool (Ke.deadK (d : Int)).e, .int .u64 (Ke.deadK (d : Int)).d, .int .u8 (Ke.deadK (d : Int)).l] 56)) => HCH.out W l _ _ h HLP.out)
      by_cases hlast : t = b0
      · subst hlast
        have hl1 : (l - 1 == 0) = true := by have := HTL.out; simp; omega
        simp only [hl1] at HCH2
        go_wp2_with (first
          | (go_at_call 21; refine (HAC2.out).mono ?_; rintro e x1 ⟨rfl, g1⟩; have G1 := veil g1; clear g1 HAC2)
          | (go_at_call 19; refine (HD2.out _ _ _ _ G1.out).mono ?_; rintro e x2 ⟨rfl, g2⟩; have G2 := veil g2; clear g2)
          | (go_at_call 25; refine (HKD.out _).mono ?_; rintro e x3 ⟨rfl, hb⟩; have G3 := veil (G2.out.below hb); clear hb)
          | (go_at_call 27; refine (HKF.out _).mono ?_; rintro e x4 ⟨rfl, hb⟩; have G4 := veil (G3.out.below hb); clear hb)
          | (go_at_call 26; refine (HKA.out _).mono ?_; rintro e x5 ⟨rfl, hb⟩; have G5 := veil (G4.out.below hb); clear hb)
          | (go_at_call 17; refine (HCH2.out _ G5.out).mono ?_; rintro e x6 ⟨rfl, g6⟩; have G6 := veil g6; clear g6))
        go_roundw
        case rel => exact ⟨t + 1, l - 1, by omega, by have := HTL.out; have := HLP.out; omega, by go_num, G6.out⟩
        case measure => simp [intOf] <;> omega
      · have hl1 : (l - 1 == 0) = false := by have := HTL.out; have := HLP.out; simp; omega
        simp only [hl1] at HCH2
        have hn1 : ((t : Int) == (b0 : Int)) = false := by simp; omega
        go_wp2_with (first
          | (go_at_call 21; refine (HAC2.out).mono ?_; rintro e x1 ⟨rfl, g1⟩; have G1 := veil g1; clear g1 HAC2)
          | (go_at_call 19; refine (HD2.out _ _ _ _ G1.out).mono ?_; rintro e x2 ⟨rfl, g2⟩; have G2 := veil g2; clear g2)
          | (go_at_call 25; refine (HKD.out _).mono ?_; rintro e x3 ⟨rfl, hb⟩; have G3 := veil (G2.out.below hb); clear hb)
          | (go_at_call 27; refine (HKF.out _).mono ?_; rintro e x4 ⟨rfl, hb⟩; have G4 := veil (G3.out.below hb); clear hb)
          | (go_at_call 26; refine (HKA.out _).mono ?_; rintro e x5 ⟨rfl, hb⟩; have G5 := veil (G4.out.below hb); clear hb)
          | (go_at_call 17; refine (HCH2.out _ G5.out).mono ?_; rintro e x6 ⟨rfl, g6⟩; have G6 := veil g6; clear g6))
        go_roundw
        case rel => exact ⟨t + 1, l - 1, by omega, by have := HTL.out; have := HLP.out; omega, by go_num, G6.out⟩
        case measure => simp [intOf] <;> omega
    · have htb' : ¬ (t : Int) < (b0 : Int) + 1 := by omega
      obtain rfl : l = 0 := by have := HTL.out; omega
      have HAC2 := veil (HAC.out _ _ _ _ H7.out)
      simp only [Nat.lt_irrefl, decide_false] at HAC2
      have hd1 : dueB st ⟨b0 + 1, per, 0, d⟩ = false := by have := HDE.out; simp [dueB]; omega
      have hd2 : dueB d ⟨b0 + 1, per, 0, d⟩ = true := by have := HDE.out; simp [dueB]; omega
      have HR1 := veil (fun W (h : On2 w W (w.heap.size + 1) ⟨b0 + 1, per, 0, d⟩ w5.heap.size (.cells #[.bool (Ke.deadK (d : Int)).e, .int .u64 (Ke.deadK (d : Int)).d, .int .u8 (Ke.deadK (d : Int)).l] 56)) => on2_refill h st (by omega))
      have HR2 := veil (fun W (h : On2 w W (w.heap.size + 1) ⟨b0 + 1, per, 0, d⟩ w5.heap.size (.cells #[.bool (Ke.deadK (d : Int)).e, .int .u64 (Ke.deadK (d : Int)).d, .int .u8 (Ke.deadK (d : Int)).l] 56)) => on2_refill h d (by have := HDE.out; omega))
      simp only [hd1, hd2, if_true, Bool.false_eq_true, if_false, show refS st ⟨b0 + 1, per, 0, d⟩ = ⟨b0 + 1, per, 0, d⟩ from by simp [refS, hd1], show refS d ⟨b0 + 1, per, 0, d⟩ = ⟨b0 + 1, per, b0 + 1, d + per⟩ from by have := HDE.out; simp [refS, hd2, fillS, addN]; omega] at HR1 HR2
      have HL3 := veil (fun W (h : On2 w W (w.heap.size + 1) ⟨b0 + 1, per, b0 + 1, d + per⟩ w5.heap.size (.cells #[.bool (Ke.deadK (d : Int)).e, .int .u64 (Ke.deadK (d : Int)).d, .int .u8 (Ke.deadK (d : Int)).l] 56)) => on2_left h)
      have HD3 := veil (fun W (h : On2 w W (w.heap.size + 1) ⟨b0 + 1, per, b0 + 1, d + per⟩ w5.heap.size (.cells #[.bool (Ke.deadK (d : Int)).e, .int .u64 (Ke.deadK (d : Int)).d, .int .u8 (Ke.deadK (d : Int)).l] 56)) => on2_deadline h)
      have HKD3 := veil (fun W => Ke.dead_ok W ((d : Int) + (per : Int)))
      have HKA := veil (fun W => Ke.above_ok W (Ke.deadK (d : Int)) (Ke.deadK ((d : Int) + (per : Int))))
      have hup : Ke.up (Ke.deadK (d : Int)) (Ke.deadK ((d : Int) + (per : Int))) = true := by
        show decide ((d : Int) < (d : Int) + (per : Int)) = true
        exact decide_eq_true (by omega)
      rw [hup] at HKA
      clear hd1 hd2 HCH
      go_wp2_with (first
        | (go_at_call 21; refine (HAC2.out).mono ?_; rintro e x1 ⟨rfl, g1⟩; have G1 := veil g1; clear g1 HAC2)
        | (go_at_call 16; refine (HR1.out _ G1.out).mono ?_; rintro e x2 ⟨⟨a2, cap2, rfl⟩, g2⟩; have G2 := veil g2; clear g2 HR1)
        | (go_at_call 19; refine (HD2.out _ _ _ _ G2.out).mono ?_; rintro e x3 ⟨rfl, g3⟩; have G3 := veil g3; clear g3 HD2)
        | (go_at_call 16; refine (HR2.out _ G3.out).mono ?_; rintro e x4 ⟨⟨a4, cap4, rfl⟩, g4⟩; have G4 := veil g4; clear g4))
      have k4 := G4.out.keys
      go_region_held3 (fun w' => w'.cell? ⟨w5.heap.size, 0, none⟩ = some (.bool (Ke.deadK (d : Int)).e) ∧ w'.cell? ⟨w5.heap.size, 1, none⟩ = some (.int .u64 (Ke.deadK (d : Int)).d) ∧ w'.cell? ⟨w5.heap.size, 2, none⟩ = some (.int .u8 (Ke.deadK (d : Int)).l))
        (first | with_reducible exact k4 | with_reducible exact k5 | with_reducible exact k6 | with_reducible exact k7 | with_reducible exact k8 | go_keep)
        (first
          | (go_at_call 18; refine (HL3.out _ (G4.out.below ((Below.refl _ x4).drew))).mono ?_; rintro e x5 ⟨rfl, g5⟩; have k5 := g5.keys; have G5 := veil g5; clear g5)
          | (go_at_call 19; refine (HD3.out _ G5.out).mono ?_; rintro e x6 ⟨rfl, g6⟩; have k6 := g6.keys; have G6 := veil g6; clear g6)
          | (go_at_call 25; refine (HKD3.out _).mono ?_; rintro e x7 ⟨rfl, hb⟩; have G7 := veil (G6.out.below hb); have k7 := G7.out.keys; clear hb)
          | (go_at_call 26; refine (HKA.out _).mono ?_; rintro e x8 ⟨rfl, hb⟩; have G8 := veil (G7.out.below hb); have k8 := G8.out.keys; clear hb))
      go_wp2
      go_ret
      exact ⟨rfl, G8.out.one.2.1⟩
end Go.Proofs.Ytblickncecpajaa
