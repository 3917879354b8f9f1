/-
  The walk of GtabMoves.
-/
import Derived.Test.YtfhnepoegdhjmaaDoorT16
import Derived.Test.YtfhnepoegdhjmaaDoorT18
namespace Go.Proofs.YtfhnepoegdhjmaaDoor
open Go.RowKit Go.Lib
set_option linter.unusedVariables false
attribute [local go_sem ↓] Go.wp_at_zero Go.wp_at_succ

/-- The box of a deed that came in. -/
structure DBox (w : World) (p : Int) (q : Nat) (s : Int) (wr : World) : Prop where
  l : Below w.heap.size w wr
  lw : w.heap.size < wr.heap.size
  c1 : wr.cell? ⟨w.heap.size, 1, none⟩ = some (.int .i64 p)
  c2 : wr.cell? ⟨w.heap.size, 2, none⟩ = some (.int .u32 (q : Int))
  c3 : wr.cell? ⟨w.heap.size, 3, none⟩ = some (.int .i64 s)
theorem DBox.new (w : World) (k p : Int) (q : Nat) (s : Int) : DBox w p q s (w.alloc (.cells #[.int .i64 k, .int .i64 p, .int .u32 (q : Int), .int .i64 s] 45)) :=
  ⟨(Below.refl _ _).alloc (Nat.le_refl _) _, by simp, by rw [cell_new]; rfl, by rw [cell_new]; rfl, by rw [cell_new]; rfl⟩
theorem DBox.frame {w wr w' : World} {p s : Int} {q : Nat} {X : Nat → Prop} (h : DBox w p q s wr) (hf : Fr X wr w') (hX : ∀ k, X k → w.heap.size < k) : DBox w p q s w' :=
  ⟨h.l.trans (hf.below h.l.size (fun k e => Nat.le_of_lt (hX k e))), Nat.lt_of_lt_of_le h.lw hf.size, (hf.cell (a := ⟨w.heap.size, 1, none⟩) h.lw (fun e => by have := hX _ e; simp at this)).trans h.c1, (hf.cell (a := ⟨w.heap.size, 2, none⟩) h.lw (fun e => by have := hX _ e; simp at this)).trans h.c2, (hf.cell (a := ⟨w.heap.size, 3, none⟩) h.lw (fun e => by have := hX _ e; simp at this)).trans h.c3⟩
theorem DBox.below {w wr w' : World} {p s : Int} {q : Nat} (h : DBox w p q s wr) (hb : Below wr.heap.size wr w') : DBox w p q s w' := h.frame (X := fun _ => False) (Fr.of_below' hb) (fun _ e => e.elim)

/-- The table and its fork behind a Move, the ids that are there, and the deed's box. -/
structure Mv (w : World) (p : Int) (q : Nat) (s : Int) (b g b' g' n base K : Nat) (v : Value) (G S S' : Nat → Nat) (L : List (Fin n)) (wr : World) : Prop where
  d : DBox w p q s wr
  p : Rep wr b g n G S'
  f : Rep wr b' g' n G S
  i : IdsAt wr base v K (idCells G L)
theorem Mv.below {w wr w' : World} {p : Int} {q : Nat} {s : Int} {b g b' g' n base K : Nat} {v : Value} {G S S' : Nat → Nat} {L : List (Fin n)} (h : Mv w p q s b g b' g' n base K v G S S' L wr) (hb : Below wr.heap.size wr w') : Mv w p q s b g b' g' n base K v G S S' L w' :=
  ⟨h.d.below hb, h.p.below hb, h.f.below hb, h.i.below hb⟩
theorem Mv.cells {w wr : World} {p : Int} {q : Nat} {s : Int} {b g b' g' n base K c : Nat} {ab : Nat} {G S S' : Nat → Nat} {L : List (Fin n)} (h : Mv w p q s b g b' g' n base K (.slice (some ⟨ab, 0, none⟩) K c) G S S' L wr) (hK : L.length = K) (k : Nat) (hk : k < L.length) :
    wr.cell? ⟨ab, k * 2, none⟩ = some (.int .i64 ((L[k]).val : Int)) ∧ wr.cell? ⟨ab, k * 2 + 1, none⟩ = some (.int .u32 (G (L[k]).val : Int)) := by
  obtain ⟨_, a', c', hv', h0 | ⟨a2, ha, _, _, hc⟩⟩ := h.i
  · omega
  · simp only [Value.slice.injEq] at hv'
    obtain ⟨e, _, _⟩ := hv'
    rw [ha] at e
    simp only [Option.some.injEq, Addr.mk.injEq, and_true] at e
    subst e
    obtain ⟨z0, z1⟩ := idCells_at G L k hk
    exact ⟨(hc (k * 2) (by omega)).trans z0, (hc (k * 2 + 1) (by omega)).trans z1⟩

set_option maxHeartbeats 16000000 in
theorem moves_way (m : Nat) (hm : m < 256) (a : Option Addr) (len cap : Nat) (K P : Nat → Int) (Q : Nat → Nat) (T : Nat → Int) (k0 p s : Int) (q : Nat) (w : World) (ht : Tab w) (hlen : len < 9223372036854775808) (hd : Deeds w a len K P Q T)
    (hC : ∀ (n : Nat) (G S : Nat → Nat), (∀ j, j < n → S j ≤ 4) → ∃ (was e is : Int) (there ok : Bool) (S' : Nat → Nat),
      (∀ (w : World) (b g : Nat), Rep w b g n G S → Calls Tryd.prog 18 #[.pointer (some ⟨b, 0, none⟩), .agg #[.int .i64 p, .int .u32 (q : Int)]] w fun e w' => e = .returned (.tuple #[.int .i64 was, .bool there]) ∧ Below w.heap.size w w') ∧
      DoesT 19 [.agg #[.int .i64 p, .int .u32 (q : Int)], .int .i64 s] n G S (.int .i64 e) G S' ∧
      (∀ (w : World) (b g : Nat), Rep w b g n G S' → Calls Tryd.prog 18 #[.pointer (some ⟨b, 0, none⟩), .agg #[.int .i64 p, .int .u32 (q : Int)]] w fun e w' => e = .returned (.tuple #[.int .i64 is, .bool ok]) ∧ Below w.heap.size w w') ∧
      (∀ y, y < n → (S' y ≠ 0 → S y ≠ 0) ∧ (S' y ≠ S y → (y : Int) = p ∧ G y = q)) ∧
      ((there = false ∧ e = 6) ∨ (there = true ∧ mayB was s = true ∧ e = 0 ∧ is = s) ∨ (there = true ∧ mayB was s = false ∧ e = 11 ∧ is = was))) :
    Calls Tryd.prog 6 #[.int .u8 m, .slice a len cap, .agg #[.int .i64 k0, .int .i64 p, .int .u32 (q : Int), .int .i64 s]] w fun e w' => e = .returned (.bool true) ∧ Below w.heap.size w w' := by
  have hbx : Below w.heap.size w (w.alloc (.cells #[.int .i64 k0, .int .i64 p, .int .u32 (q : Int), .int .i64 s] 45)) := (Below.refl _ _).alloc (Nat.le_refl _) _
  have HP := veil (play_ok (w.alloc (.cells #[.int .i64 k0, .int .i64 p, .int .u32 (q : Int), .int .i64 s] 45)) (ht.below hbx) m hm a len cap hlen K P Q T (hd.below hbx))
  have HD0 := veil (DBox.new w k0 p q s)
  have HC := veil hC
  have hsz : (w.alloc (.cells #[.int .i64 k0, .int .i64 p, .int .u32 (q : Int), .int .i64 s] 45)).heap.size = w.heap.size + 1 := by simp
  clear hd ht hbx hC
  have hN : 1 ≤ m % 6 + 1 ∧ m % 6 + 1 ≤ 6 := by omega
  generalize m % 6 + 1 = n at *
  go_enter Tryd.func6, Tryd.ntmps6
  go_wp2_with (first
    | (go_at_call 11; refine (HP.out).mono ?_; rintro e w1 ⟨b, g, rb, sb, gb, G, S, rfl, hh, hB, hG, hL⟩; rw [hsz] at hh hL; have HD1 := veil (HD0.out.frame (X := fun k => w.heap.size + 1 ≤ k) (Fr.of_below hL) (fun k e => by omega)); have HB := veil hB; obtain ⟨was, ee, is, there, ok, S', h1, h2, h3, h4, h5⟩ := HC.out n G S hB.s4; have H1 := veil h1; have H2 := veil h2; have H3 := veil h3; have H4 := veil h4; have H5 := veil h5; clear hB hL hG h1 h2 h3 h4 h5)
    | (go_at_call 12; refine (live_law _).mono ?_; rintro e w2 ⟨rfl, hb2⟩; have HB2 := veil (HB.out.below hb2); have HD2 := veil (HD1.out.below hb2); have c21 := HD2.out.c1; have c22 := HD2.out.c2; have c23 := HD2.out.c3; clear hb2 HB HD1)
    | (go_at_call 18; refine (H1.out _ b g HB2.out.p).mono ?_; rintro e w3 ⟨rfl, hb3⟩; have HB3 := veil (HB2.out.below hb3); have HD3 := veil (HD2.out.below hb3); clear hb3 HB2 HD2 H1)
    | (go_at_call 21; refine (fork_ok HB3.out.p).mono ?_; rintro e w4 ⟨b', g', rfl, kb, kg, hr4, hb4⟩; have HF4 := veil hr4; have HB4 := veil (HB3.out.below hb4); have HD4 := veil (HD3.out.below hb4); have c41 := HD4.out.c1; have c42 := HD4.out.c2; have c43 := HD4.out.c3; have hg3 := HB3.out.p.lt_g; have hb3' := HB3.out.p.lt_b; clear hr4 hb4 HB3 HD3)
    | (go_at_call 19; refine (H2.out _ b g HB4.out.p HB4.out.t).mono ?_; rintro e w5 ⟨rfl, hr5, hf5⟩; have HR5 := veil hr5; have HF5 := veil (HF4.out.frame hf5 (by omega) (by omega)); have HD5 := veil (HD4.out.frame hf5 (fun k e => by omega)); have c51 := HD5.out.c1; have c52 := HD5.out.c2; have c53 := HD5.out.c3; have hg5 := hr5.lt_g; clear hr5 hf5 HB4 HF4 HD4 H2)
    | (go_at_call 18; refine (H3.out _ b g HR5.out).mono ?_; rintro e w6 ⟨rfl, hb6⟩; have HR6 := veil (HR5.out.below hb6); have HF6 := veil (HF5.out.below hb6); have HD6 := veil (HD5.out.below hb6); clear hb6 HR5 HF5 HD5 H3)
    | (go_at_call 16; refine (live_ok HR6.out).mono ?_; rintro e w7 ⟨v, rfl, ho, hb7⟩; have HI7 := veil (idsAt_of ho); have HR7 := veil (HR6.out.below hb7); have HF7 := veil (HF6.out.below hb7); have HD7 := veil (HD6.out.below hb7); obtain ⟨a0, c0, hv0⟩ := owns_slice ho; clear ho hb7))
  subst hv0
  have HM0 : Hid (Mv w p q s b g b' g' n w6.heap.size (pl S' false n n).length (.slice a0 (pl S' false n n).length c0) G S S' (pl S' false n n) w7) := ⟨HD7.out, HR7.out, HF7.out, HI7.out⟩
  have hlenL := pl_len S' false n n
  have HLV : Hid (∀ k (hk : k < (pl S' false n n).length), S' ((pl S' false n n)[k]).val ≠ 0) := fun k hk => by
    have := (pl_below n (Nat.le_refl _) (List.getElem_mem hk)).2
    simpa using this
  clear HI7 HR7 HF7 HD7 HR6 HF6 HD6 HP HD0 HC
  generalize hLL : pl S' false n n = L at *
  obtain ⟨KK, hKK⟩ : ∃ KK, L.length = KK := ⟨_, rfl⟩
  rw [hKK] at hlenL HM0 ⊢
  have HKK := veil hKK
  clear hKK hLL
  go_loopw [17] (fun i wr => ∃ j : Nat, j ≤ KK ∧ i = .int .i64 j ∧ Mv w p q s b g b' g' n w6.heap.size KK (.slice a0 KK c0) G S S' L wr) (fun i _ => KK - (intOf i).toNat)
  case atStart => exact ⟨0, by omega, rfl, HM0.out⟩
  case round =>
    obtain ⟨j, hj, rfl, hM⟩ := hrel
    have HM := veil hM
    clear hM
    by_cases hjk : j < KK
    · obtain ⟨ab, rfl⟩ : ∃ ab, a0 = some ⟨ab, 0, none⟩ := by
        obtain ⟨_, a', c', hv', h0 | ⟨a2, ha, _⟩⟩ := HM.out.i
        · omega
        · simp only [Value.slice.injEq] at hv'
          exact ⟨a2, hv'.1.trans ha⟩
      have hjL : j < L.length := by rw [HKK.out]; exact hjk
      obtain ⟨y0, y1⟩ := HM.out.cells HKK.out j hjL
      have hs := HLV.out j hjL
      have hxn := (L[j]).isLt
      have HCell : Hid (∀ wz, Mv w p q s b g b' g' n w6.heap.size KK (.slice (some ⟨ab, 0, none⟩) KK c0) G S S' L wz → wz.cell? ⟨ab, j * 2, none⟩ = some (.int .i64 ((L[j]).val : Int)) ∧ wz.cell? ⟨ab, j * 2 + 1, none⟩ = some (.int .u32 (G (L[j]).val : Int))) := fun wz hz => hz.cells HKK.out j hjL
      generalize (L[j]).val = y at *
      obtain ⟨h4a, h4b⟩ := H4.out y hxn
      have HS1 : Hid (∀ wz, Mv w p q s b g b' g' n w6.heap.size KK (.slice (some ⟨ab, 0, none⟩) KK c0) G S S' L wz → Calls Tryd.prog 18 #[.pointer (some ⟨b, 0, none⟩), .agg #[.int .i64 (y : Int), .int .u32 (G y : Int)]] wz fun e w' => e = .returned (.tuple #[.int .i64 (S' y : Int), .bool true]) ∧ Below wz.heap.size wz w') := fun wz hz => state_some hz.p y (G y) hxn hs rfl
      have HS2 : Hid (∀ wz, Mv w p q s b g b' g' n w6.heap.size KK (.slice (some ⟨ab, 0, none⟩) KK c0) G S S' L wz → Calls Tryd.prog 18 #[.pointer (some ⟨b', 0, none⟩), .agg #[.int .i64 (y : Int), .int .u32 (G y : Int)]] wz fun e w' => e = .returned (.tuple #[.int .i64 (S y : Int), .bool true]) ∧ Below wz.heap.size wz w') := fun wz hz => state_some hz.f y (G y) hxn (h4a hs) rfl
      have HB4 := veil h4b
      clear h4a h4b hs
      have hse : ¬ ((y : Int) = p ∧ G y = q) → S' y = S y := fun hn => by
        by_cases e : S' y = S y
        · exact e
        · exact absurd (HB4.out e) hn
      have HSE := veil hse
      clear hse HB4
      by_cases hp1 : p = (y : Int)
      · subst hp1
        by_cases hq1 : q = G y
        · subst hq1
          go_wp2_with (first
            | (go_at_call 18; refine (HS1.out _ HM.out).mono ?_; rintro e w8 ⟨rfl, hb8⟩; have HM8 := veil (HM.out.below hb8); obtain ⟨x80, x81⟩ := HCell.out _ HM8.out; clear hb8 HM HS1)
            | (go_at_call 18; refine (HS2.out _ HM8.out).mono ?_; rintro e w9 ⟨rfl, hb9⟩; have HM9 := veil (HM8.out.below hb9); obtain ⟨x90, x91⟩ := HCell.out _ HM9.out; have c91 := HM9.out.d.c1; have c92 := HM9.out.d.c2; clear hb9 HM8 HS2))
          go_quiet (fail)
          go_wp2
          go_roundw
          case rel => exact ⟨j + 1, by omega, by go_num, HM9.out.below (below_drewN (Below.refl _ _) _)⟩
          case measure => simp [intOf]; omega
        · have hqi : ¬ (G y : Int) = (q : Int) := by omega
          have hsy : S' y = S y := HSE.out (fun h => hq1 h.2.symm)
          rw [hsy] at HS1
          go_wp2_with (first
            | (go_at_call 18; refine (HS1.out _ HM.out).mono ?_; rintro e w8 ⟨rfl, hb8⟩; have HM8 := veil (HM.out.below hb8); obtain ⟨x80, x81⟩ := HCell.out _ HM8.out; clear hb8 HM HS1)
            | (go_at_call 18; refine (HS2.out _ HM8.out).mono ?_; rintro e w9 ⟨rfl, hb9⟩; have HM9 := veil (HM8.out.below hb9); obtain ⟨x90, x91⟩ := HCell.out _ HM9.out; have c91 := HM9.out.d.c1; have c92 := HM9.out.d.c2; clear hb9 HM8 HS2))
          go_quiet (fail)
          go_wp2
          go_roundw
          case rel => exact ⟨j + 1, by omega, by go_num, HM9.out.below (below_drewN (Below.refl _ _) _)⟩
          case measure => simp [intOf]; omega
      · have hpi : ¬ (y : Int) = p := fun h => hp1 h.symm
        have hsy : S' y = S y := HSE.out (fun h => hp1 h.1.symm)
        rw [hsy] at HS1
        go_wp2_with (first
          | (go_at_call 18; refine (HS1.out _ HM.out).mono ?_; rintro e w8 ⟨rfl, hb8⟩; have HM8 := veil (HM.out.below hb8); obtain ⟨x80, x81⟩ := HCell.out _ HM8.out; clear hb8 HM HS1)
          | (go_at_call 18; refine (HS2.out _ HM8.out).mono ?_; rintro e w9 ⟨rfl, hb9⟩; have HM9 := veil (HM8.out.below hb9); obtain ⟨x90, x91⟩ := HCell.out _ HM9.out; have c91 := HM9.out.d.c1; have c92 := HM9.out.d.c2; clear hb9 HM8 HS2))
        go_quiet (fail)
        go_wp2
        go_roundw
        case rel => exact ⟨j + 1, by omega, by go_num, HM9.out.below (below_drewN (Below.refl _ _) _)⟩
        case measure => simp [intOf]; omega
    · rcases H5.out with ⟨rfl, rfl⟩ | ⟨rfl, hmy, rfl, rfl⟩ | ⟨rfl, hmn, rfl, rfl⟩
      · go_wp2
        go_ret
        exact ⟨by simp, HM.out.d.l⟩
      · have c3 := HM.out.d.c3
        have HRM : Hid (∀ w1, Calls Tryd.prog 15 #[.int .i64 was, .int .i64 is] w1 fun e w' => e = .returned (.bool true) ∧ w' = w1) := fun w1 => by rw [← hmy]; exact rmay_ok _ _ _
        clear hmy
        go_wp2_with (go_at_call 15; refine (HRM.out _).mono ?_; rintro e w9 ⟨rfl, hw⟩; replace hw := hw.symm; subst hw)
        go_ret
        exact ⟨by simp, HM.out.d.l⟩
      · have c3 := HM.out.d.c3
        have HRM : Hid (∀ w1, Calls Tryd.prog 15 #[.int .i64 is, .int .i64 s] w1 fun e w' => e = .returned (.bool false) ∧ w' = w1) := fun w1 => by rw [← hmn]; exact rmay_ok _ _ _
        clear hmn
        go_wp2_with (go_at_call 15; refine (HRM.out _).mono ?_; rintro e w9 ⟨rfl, hw⟩; replace hw := hw.symm; subst hw)
        go_ret
        exact ⟨by simp, HM.out.d.l⟩
end Go.Proofs.YtfhnepoegdhjmaaDoor
