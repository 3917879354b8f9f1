/-
  The walk of GtabLeast.
-/
import Derived.Test.YtfhnepoegdhjmaaDoorT18
namespace Go.Proofs.YtfhnepoegdhjmaaDoor
open Go.RowKit Go.Lib
set_option linter.unusedVariables false
attribute [local go_sem ↓] Go.wp_at_zero Go.wp_at_succ
theorem pl_low {S : Nat → Nat} {n x : Nat} (hf : ∀ j, j < x → S j ≠ 0) : ∀ k, k ≤ n → k ≤ x → ∀ i (hi : i < (pl S false n k).length), ((pl S false n k)[i]).val = i
  | 0, _, _, i, hi => by simp [pl] at hi
  | k + 1, hk, hx, i, hi => by
    have hs : (S k == 0) = false := by simpa using hf k (by omega)
    have hl := pl_all (S := S) (n := n) k (by omega) (fun j hj => hf j (by omega))
    have e := pl_yes (S := S) (fr := false) (n := n) (k := k) (by omega) hs
    by_cases hik : i < k
    · have := pl_low (n := n) hf k (by omega) (by omega) i (by omega)
      simp only [e]
      rw [List.getElem_append_left (by omega)]
      exact this
    · rw [e, List.length_append, hl] at hi
      simp at hi
      have : i = k := by omega
      subst this
      simp only [e]
      rw [List.getElem_append_right (by omega)]
      simp
theorem pl_high {S : Nat → Nat} {n x : Nat} (hx0 : S x = 0) (hxn : x < n) (hf : ∀ j, j < x → S j ≠ 0) (i : Nat) (hi : i < (pl S false n n).length) : (i < x → ((pl S false n n)[i]).val = i) ∧ (x ≤ i → x < ((pl S false n n)[i]).val) := by
  obtain ⟨t, ht⟩ : pl S false n x <+: pl S false n n := by
    have := pl_le S false n x (n - x)
    rw [show x + (n - x) = n by omega] at this
    exact this
  have hl := pl_all (S := S) (n := n) x (by omega) hf
  constructor
  · intro h
    have := pl_low (n := n) hf x (by omega) (Nat.le_refl _) i (by omega)
    simp only [← ht]
    rw [List.getElem_append_left (by omega)]
    exact this
  · intro h
    have hm : (pl S false n n)[i] ∈ t := by
      simp only [← ht]
      rw [List.getElem_append_right (by omega)]
      exact List.getElem_mem _
    have hb := pl_below n (Nat.le_refl _) (List.getElem_mem hi)
    have hne : ((pl S false n n)[i]).val ≠ x := by
      intro q
      rw [q] at hb
      simp [hx0] at hb
    rcases Nat.lt_or_ge ((pl S false n n)[i]).val x with q | q
    · exfalso
      have hnd := pl_nodup (S := S) (fr := false) (n := n) n (Nat.le_refl _)
      have hj : ((pl S false n n)[i]).val < (pl S false n x).length := by omega
      have h1 := pl_low (n := n) hf x (by omega) (Nat.le_refl _) _ hj
      rw [← ht, List.nodup_append] at hnd
      exact hnd.2.2 _ (List.getElem_mem hj) _ hm (Fin.ext h1)
    · omega
theorem step_le (y x : Nat) (h : y < x) : Value.int .i64 ((y : Int) + 1) = .int .i64 (if y + 1 < x then ((y + 1 : Nat) : Int) else (x : Int)) := by
  congr 1
  split <;> omega
set_option maxHeartbeats 16000000 in
theorem least_way (m : Nat) (hm : m < 256) (a : Option Addr) (len cap : Nat) (K P : Nat → Int) (Q : Nat → Nat) (T : Nat → Int) (w : World) (ht : Tab w) (hlen : len < 9223372036854775808) (hd : Deeds w a len K P Q T) :
    Calls Tryd.prog 9 #[.int .u8 m, .slice a len cap] w fun e w' => e = .returned (.bool true) ∧ Below w.heap.size w w' := by
  have hr := rem6 m
  have HP := veil (play_ok w ht m hm a len cap hlen K P Q T hd)
  have hN6 : m % 6 < 6 := Nat.mod_lt _ (by decide)
  clear hd ht
  generalize m % 6 = N at *
  go_enter Tryd.func9, Tryd.ntmps9
  go_wp2_with (first
    | (go_at_call 11; refine (HP.out).mono ?_; rintro e w1 ⟨b, g, rb, sb, gb, G, S, rfl, hh, hB, hG, hL⟩; have HB := veil hB; have HL := veil hL; have HG := veil hG; clear hB hL hG)
    | (go_at_call 12; refine (live_law _).mono ?_; rintro e w2 ⟨rfl, hb2⟩; have HB2 := veil (HB.out.below hb2); have HL2 := veil (HL.out.trans (hb2.mono HL.out.size)); clear hb2)
    | (go_at_call 16; refine (live_ok HB2.out.p).mono ?_; rintro e w3 ⟨v, rfl, ho, hb3⟩; have HI3 := veil (idsAt_of ho); have HB3 := veil (HB2.out.below hb3); have HL3 := veil (HL2.out.trans (hb3.mono HL2.out.size)); obtain ⟨a0, c0, hv0⟩ := owns_slice ho; clear ho hb3))
  have hG1 : Hid (∀ x, x < N + 1 → G x + 1 < 4294967296) := fun x hx => by have := HG.out x hx; omega
  have hg2 := HB2.out.p.lt_g
  have hgw : w.heap.size ≤ g := hh.2.1
  have hlenL := pl_len S false (N + 1) (N + 1)
  subst hv0
  rcases free_or S (N + 1) with ⟨x, hx, hs, hf⟩ | hf
  · have HA := veil (alloc_some HB3.out.p hG1.out x hx hs hf)
    have HH := veil (pl_high hs hx hf)
    have HAD := veil (pl_add (n := N + 1) (v := 1) hs (by decide) (N + 1) (Nat.le_refl _) hx)
    have hxl : x ≤ (pl S false (N + 1) (N + 1)).length := by
      have h1 := pl_all (S := S) (n := N + 1) x (by omega) hf
      have h2 := pl_le S false (N + 1) x (N + 1 - x)
      rw [show x + (N + 1 - x) = N + 1 by omega] at h2
      have := h2.length_le
      omega
    have hgx := HG.out x hx
    clear hs hf HP HB HB2 HL HL2
    generalize hLL : pl S false (N + 1) (N + 1) = L at *
    obtain ⟨KK, hKK⟩ : ∃ KK, L.length = KK := ⟨_, rfl⟩
    rw [hKK] at hlenL HI3 HAD hxl ⊢
    have HKK := veil hKK
    clear hKK hLL
    go_wp2_with (first
      | (go_at_call 24; refine (HA.out).mono ?_; rintro e w4 ⟨rfl, hr4, hf4⟩; have HR4 := veil hr4; have HI4 := veil (HI3.out.frame hf4 (fun k hk q => by omega)); have HL4 := veil (HL3.out.trans (hf4.below HL3.out.size (fun k q => by omega))); clear hr4 hf4))
    have z0 := cell_new w4 #[.int .i64 (x : Int), .int .u32 ((G x : Int) + 1)] 25 0
    have z1 := cell_new w4 #[.int .i64 (x : Int), .int .u32 ((G x : Int) + 1)] 25 1
    have HL5 : Hid (Below w.heap.size w (w4.alloc (.cells #[.int .i64 (x : Int), .int .u32 ((G x : Int) + 1)] 25))) := HL4.out.alloc HL4.out.size _
    have HI5 : Hid (IdsAt (w4.alloc (.cells #[.int .i64 (x : Int), .int .u32 ((G x : Int) + 1)] 25)) w2.heap.size (.slice a0 KK c0) KK (idCells G L)) := HI4.out.below ((Below.refl _ _).alloc (Nat.le_refl _) _)
    have HR5 : Hid (Rep (w4.alloc (.cells #[.int .i64 (x : Int), .int .u32 ((G x : Int) + 1)] 25)) b g (N + 1) (upd G x (G x + 1)) (upd S x 1)) := HR4.out.alloc _
    obtain ⟨W5, hW5⟩ : ∃ W5, w4.alloc (.cells #[.int .i64 (x : Int), .int .u32 ((G x : Int) + 1)] 25) = W5 := ⟨_, rfl⟩
    rw [hW5] at z0 z1 HL5 HI5 HR5 ⊢
    go_loopw [12, 13] (fun le i wr => ∃ j : Nat, j ≤ KK ∧ i = .int .i64 j ∧ le = .int .i64 (if j < x then (j : Int) else x) ∧ wr = W5) (fun _ i _ => KK - (intOf i).toNat)
    case atStart => exact ⟨0, by omega, rfl, by split <;> simp <;> omega, rfl⟩
    case round =>
      obtain ⟨j, hj, rfl, rfl, rfl⟩ := hrel
      by_cases hjk : j < KK
      · obtain ⟨ab, rfl, d0⟩ : ∃ ab, a0 = some ⟨ab, 0, none⟩ ∧ ∀ k, k < KK * 2 → wr.cell? ⟨ab, k, none⟩ = (idCells G L)[k]? := by
          obtain ⟨_, a', c', hv', h0 | ⟨a2, ha, _, _, hc⟩⟩ := HI5.out
          · omega
          · simp only [Value.slice.injEq] at hv'
            exact ⟨a2, hv'.1.trans ha, hc⟩
        have hjL : j < L.length := by rw [HKK.out]; exact hjk
        have y0 := (d0 (j * 2) (by omega)).trans (idCells_at G L j hjL).1
        obtain ⟨hlo, hhi⟩ := HH.out j hjL
        clear d0
        generalize (L[j]).val = y at *
        by_cases hjx : j < x
        · have hy := hlo hjx
          subst hy
          rw [if_pos hjx]
          clear hlo hhi
          go_wp2
          go_roundw
          case rel => exact ⟨y + 1, by omega, by go_num, step_le y x hjx, by first | rfl | trivial⟩
          case measure => simp [intOf]; omega
        · have hy := hhi (by omega)
          have hyx : ¬ (y : Int) = (x : Int) := by omega
          rw [if_neg hjx]
          clear hlo hhi
          go_wp2
          go_roundw
          case rel => exact ⟨j + 1, by omega, by go_num, by rw [if_neg (by omega)], by first | rfl | trivial⟩
          case measure => simp [intOf]; omega
      · have hjx : ¬ j < x := by omega
        rw [if_neg hjx]
        have had : (((pl (upd S x 1) false (N + 1) (N + 1)).length : Nat) : Int) = (KK : Int) + 1 := by have := HAD.out; omega
        have hkle : KK ≤ 1024 := by omega
        go_wp2_with (go_at_call 20; refine (len_ok HR5.out).mono ?_; rintro e w6 ⟨rfl, hb6⟩; have HL6 := veil (HL5.out.trans (hb6.mono HL5.out.size)); have b0 := (hb6.cell (p := ⟨w4.heap.size, 0, none⟩) (World.block_lt_of_cell? _ _ z0)).trans z0; have b1 := (hb6.cell (p := ⟨w4.heap.size, 1, none⟩) (World.block_lt_of_cell? _ _ z1)).trans z1; clear hb6)
        go_ret
        exact ⟨by simp, HL6.out⟩
  · have HA := veil (alloc_full HB3.out.p hG1.out hf)
    have hall := pl_all (S := S) (n := N + 1) (N + 1) (Nat.le_refl _) hf
    have hall2 : (((pl S false (N + 1) (N + 1)).length : Nat) : Int) = (N : Int) + 1 := by omega
    clear hf HP HB HB2 HL HL2
    go_wp2_with (first
      | (go_at_call 24; refine (HA.out).mono ?_; rintro e w4 ⟨rfl, hb4⟩; have HL4 := veil (HL3.out.trans (hb4.mono HL3.out.size)); clear hb4))
    go_ret
    exact ⟨by simp, HL4.out.alloc HL4.out.size _⟩
end Go.Proofs.YtfhnepoegdhjmaaDoor
