/-
  The walks of 'play' and 'same': deeds on both tables; both tell the same.
-/
import Derived.Test.YtfhnepoegdhjmaaDoorT13
namespace Go.Proofs.YtfhnepoegdhjmaaDoor
open Go.RowKit Go.Lib
set_option linter.unusedVariables false
attribute [local go_sem ↓] Go.wp_at_zero Go.wp_at_succ

theorem do_ok {w : World} {b g rb sb gb n : Nat} {G S : Nat → Nat} (h : Both w b g rb sb gb n G S) (M : Nat) (hM : M + 1 < 4294967296) (hG : ∀ j, j < n → G j ≤ M) (x0 x1 s : Int) (q : Nat) :
    Calls Tryd.prog 23 #[.pointer (some ⟨b, 0, none⟩), .pointer (some ⟨rb, 0, none⟩), .agg #[.int .i64 x0, .int .i64 x1, .int .u32 (q : Int), .int .i64 s]] w fun e w' => e = .returned (.bool true) ∧ (∃ G' S', Both w' b g rb sb gb n G' S' ∧ ∀ j, j < n → G' j ≤ M + 1) ∧ Fr (fun k => k = g ∨ k = sb ∨ k = gb) w w' := by
  have hG2 : ∀ j, j < n → G j ≤ M + 1 := fun j hj => by have := hG j hj; omega
  by_cases h0 : x0 = 0
  · subst h0
    obtain ⟨p1, q1, e1, G', S', g1, s1, hT, hR⟩ := alloc_both n G S M hM hG h.s4
    refine (do_alloc h s1 x1 s p1 q1 e1 q hT hR).mono ?_
    rintro e w' ⟨he, hb, hf⟩
    exact ⟨he, ⟨G', S', hb, g1⟩, hf⟩
  by_cases h1 : x0 = 1
  · subst h1
    obtain ⟨r, S', s1, hT, hR⟩ := release_both n G S h.s4 x1 q
    refine (do_release h s1 x1 s r q hT hR).mono ?_
    rintro e w' ⟨he, hb, hf⟩
    exact ⟨he, ⟨G, S', hb, hG2⟩, hf⟩
  by_cases h2 : x0 = 2
  · subst h2
    obtain ⟨r, S', s1, hT, hR⟩ := move_both n G S h.s4 x1 s q
    refine (do_move h s1 x1 s r q hT hR).mono ?_
    rintro e w' ⟨he, hb, hf⟩
    exact ⟨he, ⟨G, S', hb, hG2⟩, hf⟩
  refine (do_other h x0 x1 s q h0 h1 h2).mono ?_
  rintro e w' ⟨he, hb, hf⟩
  exact ⟨he, ⟨G, S, hb, hG2⟩, hf⟩

/-- What play leaves: both tables, in blocks of their own. -/
def Played (w : World) (n : Nat) (e : Ending) (w' : World) : Prop :=
  ∃ (b g rb sb gb : Nat) (G S : Nat → Nat), e = .returned (.tuple #[.pointer (some ⟨b, 0, none⟩), .pointer (some ⟨rb, 0, none⟩), .bool true]) ∧ (w.heap.size ≤ b ∧ w.heap.size ≤ g ∧ w.heap.size ≤ rb ∧ w.heap.size ≤ sb ∧ w.heap.size ≤ gb) ∧ Both w' b g rb sb gb n G S ∧ (∀ j, j < n → G j ≤ 100) ∧ Below w.heap.size w w'

theorem rem6 (n : Nat) : Int.tmod (n : Int) 6 = ((n % 6 : Nat) : Int) := by
  rw [Int.tmod_eq_emod_of_nonneg (by omega)]
  omega
theorem Both.step {w w' w'' : World} {W b g rb sb gb n : Nat} {G S : Nat → Nat} (h : Both w' b g rb sb gb n G S) (hW : W ≤ w.heap.size) (hb : Below W w w') (h2 : W ≤ g) (h4 : W ≤ sb) (h5 : W ≤ gb)
    (hf : Fr (fun k => k = g ∨ k = sb ∨ k = gb) w' w'') : Below W w w'' := by
  refine hb.trans (hf.below (Nat.le_trans hW hb.size) ?_)
  rintro k (q | q | q) <;> omega

set_option maxHeartbeats 4000000 in
theorem play_ok (w : World) (ht : Tab w) (m : Nat) (hm : m < 256) (a : Option Addr) (len cap : Nat) (hlen : len < 9223372036854775808) (K P : Nat → Int) (Q : Nat → Nat) (T : Nat → Int) (hd : Deeds w a len K P Q T) :
    Calls Tryd.prog 11 #[.int .u8 m, .slice a len cap] w (Played w (m % 6 + 1)) := by
  have hr := rem6 m
  have HN := veil (new_ok (m % 6 + 1) w (by omega) (by omega))
  have HR := veil (fun w' => rnew_ok (m % 6 + 1) w' (by omega) (by omega))
  have hN6 : m % 6 < 6 := Nat.mod_lt _ (by decide)
  have HD := veil hd
  have HT := veil ht
  have hpos := ht.pos
  clear hd ht
  generalize m % 6 = N at *
  go_enter Tryd.func11, Tryd.ntmps11
  go_wp2_with (first
    | (go_at_call 25; refine (HN.out).mono ?_; rintro e w1 ⟨rfl, hq, hb⟩; have HQ := veil hq; have HB := veil hb; clear hq hb)
    | (go_at_call 26; refine (HR.out _).mono ?_; rintro e w2 ⟨rb, sb, gb, rfl, k1, k2, k3, hr1, hb1⟩; have HR1 := veil hr1; have HB1 := veil hb1; clear hr1 hb1))
  have hsz1 : w.heap.size ≤ w1.heap.size := HB.out.size
  have hlt1 := HQ.out.lt_b
  have HB2 : Hid (Both w2 (w.heap.size + 1) w.heap.size rb sb gb (N + 1) (fun _ => 0) (fun _ => 0)) := 
    ⟨HQ.out.below HB1.out, HR1.out, (HT.out.below HB.out).below HB1.out, fun _ _ => by simp, by omega, by omega, by omega, by omega, by omega, by omega, by omega, by omega, by omega⟩
  have HL : Hid (Below w.heap.size w w2) := HB.out.trans (HB1.out.mono HB.out.size)
  clear HQ HR1 HB HB1 HN HR HT
  go_loopw [9] (fun i wr => ∃ (j : Nat) (G S : Nat → Nat), j ≤ len ∧ j ≤ 100 ∧ i = .int .i64 j ∧ Both wr (w.heap.size + 1) w.heap.size rb sb gb (N + 1) G S ∧ (∀ k, k < N + 1 → G k ≤ j) ∧ Below w.heap.size w wr) (fun i _ => len - (intOf i).toNat)
  case atStart => exact ⟨0, _, _, by omega, by omega, rfl, HB2.out, fun _ _ => by simp, HL.out⟩
  case round =>
    obtain ⟨j, G, S, hj, hj1, rfl, hB, hGj, hbel⟩ := hrel
    by_cases hjl : j < len
    · have hjl' : (j : Int) < (len : Int) := by omega
      by_cases hj2 : j < 100
      · rcases HD.out with h0 | ⟨lb, off, rfl, hlb, hc⟩
        · omega
        · obtain ⟨z1, z2, z3, z4⟩ := hc j hjl
          have y1 := (hbel.cell (p := ⟨lb, off + j * 4, none⟩) hlb).trans z1
          have y2 := (hbel.cell (p := ⟨lb, off + j * 4 + 1, none⟩) hlb).trans z2
          have y3 := (hbel.cell (p := ⟨lb, off + j * 4 + 2, none⟩) hlb).trans z3
          have y4 := (hbel.cell (p := ⟨lb, off + j * 4 + 3, none⟩) hlb).trans z4
          have HO := veil (do_ok hB j (by omega) hGj (K j) (P j) (T j) (Q j))
          have HS := veil (fun w'' hf => hB.step (w'' := w'') (Nat.le_refl _) hbel (by omega) (by omega) (by omega) hf)
          clear hc z1 z2 z3 z4 hB hbel hGj
          go_wp2_with (go_at_call 23; refine (HO.out).mono ?_; rintro e w3 ⟨rfl, hb3, hf3⟩; have HB3 := veil hb3; have HF3 := veil (HS.out _ hf3); clear hb3 hf3)
          go_roundw
          case rel =>
            obtain ⟨G', S', hb', hg'⟩ := HB3.out
            exact ⟨j + 1, G', S', by omega, by omega, by go_num, hb', hg', HF3.out⟩
          case measure => simp [intOf]; omega
      · have HB4 := veil hB
        have HL4 := veil hbel
        have HG4 := veil hGj
        clear hB hbel hGj
        go_wp2
        go_ret3
        exact ⟨_, _, _, _, _, G, S, rfl, ⟨by omega, by omega, by omega, by omega, by omega⟩, HB4.out, fun k hk => by have := HG4.out k hk; omega, HL4.out⟩
    · have HB4 := veil hB
      have HL4 := veil hbel
      have HG4 := veil hGj
      have hjl' : ¬ (j : Int) < (len : Int) := by omega
      clear hB hbel hGj
      go_wp2
      go_ret3
      exact ⟨_, _, _, _, _, G, S, rfl, ⟨by omega, by omega, by omega, by omega, by omega⟩, HB4.out, fun k hk => by have := HG4.out k hk; omega, HL4.out⟩

theorem state_both (n : Nat) (G S : Nat → Nat) (p : Int) (q : Nat) :
    ∃ (s : Int) (ok : Bool), (∀ (w : World) (b g : Nat), Rep w b g n G S → Calls Tryd.prog 18 #[.pointer (some ⟨b, 0, none⟩), .agg #[.int .i64 p, .int .u32 (q : Int)]] w fun e w' => e = .returned (.tuple #[.int .i64 s, .bool ok]) ∧ Below w.heap.size w w') ∧
      (∀ (w : World) (rb sb gb : Nat), RefR w rb sb gb n G S → Calls Tryd.prog 27 #[.pointer (some ⟨rb, 0, none⟩), .agg #[.int .i64 p, .int .u32 (q : Int)]] w fun e w' => e = .returned (.tuple #[.int .i64 s, .bool ok]) ∧ Below w.heap.size w w') := by
  by_cases hh : hasB n G S p q = true
  · obtain ⟨x, rfl, hx, hs, hg⟩ := hasB_some hh
    exact ⟨S x, true, fun w b g h => state_some h x q hx hs hg, fun w rb sb gb h => rstate_some h x q hx hs hg⟩
  · have hh' : hasB n G S p q = false := by simpa using hh
    exact ⟨0, false, fun w b g h => state_none h p q hh', fun w rb sb gb h => rstate_none h p q hh'⟩

set_option maxHeartbeats 16000000 in
set_option maxRecDepth 100000 in
theorem same_ok {w : World} {b g rb sb gb n : Nat} {G S : Nat → Nat} (h : Both w b g rb sb gb n G S) (p : Int) (q : Nat) :
    Calls Tryd.prog 13 #[.pointer (some ⟨b, 0, none⟩), .pointer (some ⟨rb, 0, none⟩), .agg #[.int .i64 p, .int .u32 (q : Int)]] w fun e w' => e = .returned (.bool true) ∧ Below w.heap.size w w' := by
  obtain ⟨s, ok, hS1, hS2⟩ := state_both n G S p q
  have hll := pl_len S false n n
  have hn2 := h.p.n2
  have HS1 := veil hS1
  have HS2 := veil hS2
  have HA := veil (h.alloc (.cells #[.int .i64 p, .int .u32 (q : Int)] 25))
  have HB0 : Hid (Below w.heap.size w (w.alloc (.cells #[.int .i64 p, .int .u32 (q : Int)] 25))) := (Below.refl _ _).alloc (Nat.le_refl _) _
  have HW : Hid (∀ w1 w2, Below w.heap.size w w1 → Below w1.heap.size w1 w2 → Below w.heap.size w w2) := fun w1 w2 q1 q2 => q1.trans (q2.mono q1.size)
  clear h hS1 hS2
  go_enter Tryd.func13, Tryd.ntmps13
  go_wp2_with (first
    | (go_at_call 18; refine (HS1.out _ b g HA.out.p).mono ?_; rintro e w1 ⟨rfl, hb⟩; have HA1 := veil (HA.out.below hb); have HB1 := veil (HW.out _ _ HB0.out hb); have c0 : w1.cell? ⟨w.heap.size, 0, none⟩ = some (.int .i64 p) := ((hb.cell (p := ⟨w.heap.size, 0, none⟩) (by simp)).trans (by rw [cell_new]; rfl)); have c1 : w1.cell? ⟨w.heap.size, 1, none⟩ = some (.int .u32 (q : Int)) := ((hb.cell (p := ⟨w.heap.size, 1, none⟩) (by simp)).trans (by rw [cell_new]; rfl)); clear hb HA HB0)
    | (go_at_call 27; refine (HS2.out _ rb sb gb HA1.out.r).mono ?_; rintro e w2 ⟨rfl, hb⟩; have HA2 := veil (HA1.out.below hb); have HB2 := veil (HW.out _ _ HB1.out hb); clear hb HA1 HB1)
    | (go_at_call 20; refine (len_ok HA2.out.p).mono ?_; rintro e w3 ⟨rfl, hb⟩; have HA3 := veil (HA2.out.below hb); have HB3 := veil (HW.out _ _ HB2.out hb); clear hb HA2 HB2)
    | (go_at_call 28; refine (rlen_ok HA3.out.r).mono ?_; rintro e w4 ⟨rfl, hb⟩; have HA4 := veil (HA3.out.below hb); have HB4 := veil (HW.out _ _ HB3.out hb); clear hb HA3 HB3)
    | (go_at_call 16; refine (live_ok HA4.out.p).mono ?_; rintro e w5 ⟨v5, rfl, ho, hb⟩; have HI5 := veil (ids_of ho); have HA5 := veil (HA4.out.below hb); have HB5 := veil (HW.out _ _ HB4.out hb); clear hb ho HA4 HB4)
    | (go_at_call 30; refine (rlive_ok HA5.out.r).mono ?_; rintro e w6 ⟨v6, rfl, ho, hb⟩; have HI6 := veil (ids_of ho); have HI56 := veil (HI5.out.below hb); have HB6 := veil (HW.out _ _ HB5.out hb); clear hb ho HA5 HB5)
    | (go_at_call 29; refine (same_ids _ G n (pl S false n n) _ _ (by omega) HI56.out HI6.out).mono ?_; rintro e w7 ⟨rfl, q7, hw⟩; have HB7 := veil (HW.out _ w7 HB6.out (by rw [hw]; exact below_drewN (Below.refl _ _) _)); clear hw))
  go_ret
  exact ⟨by simp, HB7.out⟩
end Go.Proofs.YtfhnepoegdhjmaaDoor
