/-
  ScriptBack walked.
-/
import Derived.Test.YtnnpbbiiapipaaaS21
namespace Go.Proofs.Ytnnpbbiiapipaaa
open Go.RowKit Go.Lib
set_option linter.unusedVariables false
theorem ens_wf {w : World} {a : Option Addr} {L : List En} (h : Ens w a L) : ∀ x ∈ L, WfE x := by
  intro x hx
  rcases h with rfl | ⟨lb, off, _, _, hc⟩
  · cases hx
  · obtain ⟨j, hj⟩ := List.getElem?_of_mem hx
    obtain ⟨ca, cc, he⟩ := hc j x hj
    exact he.wf
set_option maxHeartbeats 8000000 in
theorem back_cut_r_good (w : World) (a0 : Option Addr) (L0 : List En) (cap0 : Nat) (hL0 : L0.length < 9223372036854775808) (hE0 : Ens w a0 L0) (hR : ∀ x ∈ fewE L0, RightE x)
    (a : Option Addr) (len cap : Nat) (hlen : 2000 < len) (hc : len ≤ cap) (hc2 : cap < 9223372036854775808) (X : Nat → Nat) (hB : Byt w a len X) (l : List Nat) (hl : l = (List.range 2000).map X) (L : List En) (hG : Good l L) :
    Calls Try.prog 5 #[.slice a0 L0.length cap0, .slice a len cap] w fun e w' => e = .returned (.bool true) ∧ Below w.heap.size w w' := by
  have HF := veil (few_ok' w a0 L0 cap0 hL0 hE0)
  have HV := veil live_ok'
  have h60 := fewE_length L0
  clear hE0 hL0
  generalize fewE L0 = M at *
  have h2000 : 2000 < (len : Int) := by omega
  have hcI : 2000 ≤ (cap : Int) := by omega
  have hBn := hB.cut (m := 2000) (by omega)
  obtain ⟨ad, rfl⟩ : ∃ ad, a = some ad := by
    rcases hB with h | ⟨lb, of, h, _⟩
    · omega
    · exact ⟨_, h⟩
  have hll : l.length = 2000 := by rw [hl]; simp
  have hLL := good_le hG
  have HSB : Hid (Says w (.slice (some ad) 2000 cap) (strN l)) := by rw [hl]; exact says_byt hBn
  have HD2 : Hid (∀ W, Below w.heap.size w W → Calls Try.prog 18 #[.slice (some ad) 2000 cap] W (DecY W 36 L)) := fun W hb => (dec_ok W _ 2000 cap X (hBn.below hb) (by omega) (by omega) hc2 l hl).mono (fun e w' q => q.good hG)
  have HEN2 := veil (fun W a c (h : Ens W a L) => (encodes W a L c (by omega) h).mono (fun e w' h => h.yes (fun x hx => (hG.1 x hx).1)))
  have HAL : Hid (all L = l) := hG.2.symm
  have HEN := veil (fun W a c (h : Ens W a M) => (encodes W a M c (by omega) h).mono (fun e w' h => h.yes hR))
  have hal : (all M).length < 16000 := by have := all_le M hR; omega
  have HD1 : Hid (∀ (W W0 : World) a0 base v, Ens W0 a0 M → W.ownsRow base 5 1 v (all M).length (u8s (all M)) → Calls Try.prog 18 #[v] W (DecY W 36 M)) := fun W W0 a0 base v h ho => (dec_row W base v _ ho (all_small (fun x hx => ⟨hR x hx, ens_wf h x hx⟩)) (by omega)).mono (fun e w' q => q.good ⟨fun x hx => ⟨hR x hx, ens_wf h x hx⟩, rfl⟩)
  have hLm' : (L.length : Int) ≤ 2000 := by omega
  clear hG hBn hl hB hR
  go_enter Try.func5, Try.ntmps5
  go_wp2_with (first
    | (go_at_call 18; refine (HD1.out _ _ _ _ _ HE2.out HO2.out).mono ?_; rintro e w3 ⟨Z3, v3, hZ3, rfl, hR3, hb3⟩; obtain ⟨a3, c3, rfl, hE3⟩ := hR3.ens; rw [hZ3] at hE3; have hl3 : Z3.length = M.length := (by rw [← hZ3, List.length_map]); rw [hl3]; have HE3 := veil hE3; have HE3' := veil (HE2.out.below hb3); have HB3 := veil (HB2.out.trans (hb3.mono HB2.out.size)); clear hZ3 hR3 hb3 hE3 hl3)
    | (go_at_call 11; refine (HEN.out _ _ _ HE1.out).mono ?_; rintro e w2 ⟨v2, rfl, ho2, hb2⟩; have HO2 := veil ho2; have HE2 := veil (HE1.out.below hb2); have HB2 := veil (HB1.out.trans (hb2.mono HB1.out.size)); clear ho2 hb2)
    | (go_at_call 10; refine (HF.out).mono ?_; rintro e w1 ⟨a1, c1, rfl, hen, hb1⟩; have HE1 := veil hen; have HB1 := veil hb1; clear hen hb1))
  clear HF HEN HD1 HE1 HE2 HO2 HB1 HB2
  go_loopw [11] (fun i wr => ∃ (j : Nat), j ≤ M.length ∧ i = .int .i64 (j : Int) ∧ Below w3.heap.size w3 wr) (fun i _ => M.length - (intOf i).toNat)
  case atStart => exact ⟨0, by omega, rfl, Below.refl _ _⟩
  case round =>
    obtain ⟨j, hj, rfl, hbel⟩ := hrel
    by_cases hjl : j < M.length
    · have hjl' : (j : Int) < (M.length : Int) := by omega
      obtain ⟨x, hx⟩ : ∃ x, M[j]? = some x := ⟨M[j], List.getElem?_eq_getElem hjl⟩
      rcases HE3'.out with h0 | ⟨lx, ox, rfl, hlx, hcx⟩
      · subst h0; simp at hjl
      rcases HE3.out with h0 | ⟨ly, oy, rfl, hly, hcy⟩
      · subst h0; simp at hjl
      obtain ⟨cx, dx, hex⟩ := hcx j x hx
      obtain ⟨cy, dy, hey⟩ := hcy j x hx
      have hfx := hex.below hlx hbel
      have hfy := hey.below hly hbel
      have HSx : Hid ((wr.cell? ⟨lx, ox + j * 10, none⟩ = some (.int .i64 x.d) ∧ wr.cell? ⟨lx, ox + j * 10 + 1, none⟩ = some (.int .i64 x.p) ∧ wr.cell? ⟨lx, ox + j * 10 + 2, none⟩ = some (.int .u64 (x.dr : Int)) ∧ wr.cell? ⟨lx, ox + j * 10 + 3, none⟩ = some (.int .i64 x.n) ∧ wr.cell? ⟨lx, ox + j * 10 + 4, none⟩ = some (.slice cx x.code.length dx) ∧ wr.cell? ⟨lx, ox + j * 10 + 5, none⟩ = some (.int .u64 (x.bu : Int)) ∧ wr.cell? ⟨lx, ox + j * 10 + 6, none⟩ = some (.int .u64 (x.pe : Int)) ∧ wr.cell? ⟨lx, ox + j * 10 + 7, none⟩ = some (.int .i64 x.pr) ∧ wr.cell? ⟨lx, ox + j * 10 + 8, none⟩ = some (.int .u8 (x.lv : Int)) ∧ wr.cell? ⟨lx, ox + j * 10 + 9, none⟩ = some (.int .i64 x.sv)) ∧ (wr.cell? ⟨ly, oy + j * 10, none⟩ = some (.int .i64 x.d) ∧ wr.cell? ⟨ly, oy + j * 10 + 1, none⟩ = some (.int .i64 x.p) ∧ wr.cell? ⟨ly, oy + j * 10 + 2, none⟩ = some (.int .u64 (x.dr : Int)) ∧ wr.cell? ⟨ly, oy + j * 10 + 3, none⟩ = some (.int .i64 x.n) ∧ wr.cell? ⟨ly, oy + j * 10 + 4, none⟩ = some (.slice cy x.code.length dy) ∧ wr.cell? ⟨ly, oy + j * 10 + 5, none⟩ = some (.int .u64 (x.bu : Int)) ∧ wr.cell? ⟨ly, oy + j * 10 + 6, none⟩ = some (.int .u64 (x.pe : Int)) ∧ wr.cell? ⟨ly, oy + j * 10 + 7, none⟩ = some (.int .i64 x.pr) ∧ wr.cell? ⟨ly, oy + j * 10 + 8, none⟩ = some (.int .u8 (x.lv : Int)) ∧ wr.cell? ⟨ly, oy + j * 10 + 9, none⟩ = some (.int .i64 x.sv)) ∧ Below w3.heap.size w3 wr) := ⟨⟨hfx.c0, hfx.c1, hfx.c2, hfx.c3, hfx.c4, hfx.c5, hfx.c6, hfx.c7, hfx.c8, hfx.c9⟩, ⟨hfy.c0, hfy.c1, hfy.c2, hfy.c3, hfy.c4, hfy.c5, hfy.c6, hfy.c7, hfy.c8, hfy.c9⟩, hbel⟩
      have HSM : Hid (∀ W, Below w3.heap.size w3 W → Calls Try.prog 21 #[.agg #[.int .i64 x.d, .int .i64 x.p, .int .u64 (x.dr : Int), .int .i64 x.n, .slice cx x.code.length dx, .int .u64 (x.bu : Int), .int .u64 (x.pe : Int), .int .i64 x.pr, .int .u8 (x.lv : Int), .int .i64 x.sv], .agg #[.int .i64 x.d, .int .i64 x.p, .int .u64 (x.dr : Int), .int .i64 x.n, .slice cy x.code.length dy, .int .u64 (x.bu : Int), .int .u64 (x.pe : Int), .int .i64 x.pr, .int .u8 (x.lv : Int), .int .i64 x.sv]] W fun e w' => e = .returned (.bool true) ∧ Below W.heap.size W w') := fun W hb => by rw [← eqB_self x]; exact same_b W x x cx cy dx dy (hex.cod.below hb) (hey.cod.below hb) hex.len
      clear hbel hcx hcy hx hex hey hfx hfy HE3 HE3' HV HD2 HSB HEN2 HAL
      go_wp2_with fail
      refine wp_region_held_drew (S := (fun W => (W.cell? ⟨lx, ox + j * 10, none⟩ = some (.int .i64 x.d) ∧ W.cell? ⟨lx, ox + j * 10 + 1, none⟩ = some (.int .i64 x.p) ∧ W.cell? ⟨lx, ox + j * 10 + 2, none⟩ = some (.int .u64 (x.dr : Int)) ∧ W.cell? ⟨lx, ox + j * 10 + 3, none⟩ = some (.int .i64 x.n) ∧ W.cell? ⟨lx, ox + j * 10 + 4, none⟩ = some (.slice cx x.code.length dx) ∧ W.cell? ⟨lx, ox + j * 10 + 5, none⟩ = some (.int .u64 (x.bu : Int)) ∧ W.cell? ⟨lx, ox + j * 10 + 6, none⟩ = some (.int .u64 (x.pe : Int)) ∧ W.cell? ⟨lx, ox + j * 10 + 7, none⟩ = some (.int .i64 x.pr) ∧ W.cell? ⟨lx, ox + j * 10 + 8, none⟩ = some (.int .u8 (x.lv : Int)) ∧ W.cell? ⟨lx, ox + j * 10 + 9, none⟩ = some (.int .i64 x.sv)) ∧ (W.cell? ⟨ly, oy + j * 10, none⟩ = some (.int .i64 x.d) ∧ W.cell? ⟨ly, oy + j * 10 + 1, none⟩ = some (.int .i64 x.p) ∧ W.cell? ⟨ly, oy + j * 10 + 2, none⟩ = some (.int .u64 (x.dr : Int)) ∧ W.cell? ⟨ly, oy + j * 10 + 3, none⟩ = some (.int .i64 x.n) ∧ W.cell? ⟨ly, oy + j * 10 + 4, none⟩ = some (.slice cy x.code.length dy) ∧ W.cell? ⟨ly, oy + j * 10 + 5, none⟩ = some (.int .u64 (x.bu : Int)) ∧ W.cell? ⟨ly, oy + j * 10 + 6, none⟩ = some (.int .u64 (x.pe : Int)) ∧ W.cell? ⟨ly, oy + j * 10 + 7, none⟩ = some (.int .i64 x.pr) ∧ W.cell? ⟨ly, oy + j * 10 + 8, none⟩ = some (.int .u8 (x.lv : Int)) ∧ W.cell? ⟨ly, oy + j * 10 + 9, none⟩ = some (.int .i64 x.sv)) ∧ Below w3.heap.size w3 W)) (by kernel_rfl) (kpTwod HSx.out) (fun hHeld => ?_)
      refine wpAnyH_take (i := 0) (v := ?_) rfl (by kernel_rfl) (by kernel_rfl) (by kernel_rfl) (fun _ _ _ h => h) (Or.inl ⟨by rfl, ?v0⟩) (by assumption) ?_
      case v0 => (intro w hSw; (try dsimp only at hSw); go_simp; try with_reducible rfl)
      try simp only [Act.put, List.setIfInBounds_toArray, List.set_cons_zero, List.set_cons_succ, List.getElem_toArray, List.getElem_cons_zero]
      refine wpAnyH_take (i := 1) (v := ?_) rfl (by kernel_rfl) (by kernel_rfl) (by kernel_rfl) (fun _ _ _ h => h) (Or.inl ⟨by rfl, ?v1⟩) (by assumption) ?_
      case v1 => (intro w hSw; (try dsimp only at hSw); go_simp; try with_reducible rfl)
      try simp only [Act.put, List.setIfInBounds_toArray, List.set_cons_zero, List.set_cons_succ, List.getElem_toArray, List.getElem_cons_succ, List.getElem_cons_zero]
      refine wpAnyH_take (i := 2) (v := ?_) rfl (by kernel_rfl) (by kernel_rfl) (by kernel_rfl) (fun _ _ _ h => h) (Or.inl ⟨by rfl, ?v2⟩) (by assumption) ?_
      case v2 => (intro w hSw; (try dsimp only at hSw); go_simp; try with_reducible rfl)
      try simp only [Act.put, List.setIfInBounds_toArray, List.set_cons_zero, List.set_cons_succ, List.getElem_toArray, List.getElem_cons_succ, List.getElem_cons_zero]
      refine wpAnyH_take (i := 3) (v := ?_) rfl (by kernel_rfl) (by kernel_rfl) (by kernel_rfl) (fun _ _ _ h => h) (Or.inl ⟨by rfl, ?v3⟩) (by assumption) ?_
      case v3 => (intro w hSw; (try dsimp only at hSw); go_simp; try with_reducible rfl)
      try simp only [Act.put, List.setIfInBounds_toArray, List.set_cons_zero, List.set_cons_succ, List.getElem_toArray, List.getElem_cons_succ, List.getElem_cons_zero]
      refine wpAnyH_take (i := 4) (v := ?_) rfl (by kernel_rfl) (by kernel_rfl) (by kernel_rfl) (fun _ _ _ h => h) (Or.inl ⟨by rfl, ?v4⟩) (by assumption) ?_
      case v4 => (intro w hSw; (try dsimp only at hSw); go_simp; try with_reducible rfl)
      try simp only [Act.put, List.setIfInBounds_toArray, List.set_cons_zero, List.set_cons_succ, List.getElem_toArray, List.getElem_cons_succ, List.getElem_cons_zero]
      refine wpAnyH_take (i := 5) (v := ?_) rfl (by kernel_rfl) (by kernel_rfl) (by kernel_rfl) (fun _ _ _ h => h) (Or.inl ⟨by rfl, ?v5⟩) (by assumption) ?_
      case v5 => (intro w hSw; (try dsimp only at hSw); go_simp; try with_reducible rfl)
      try simp only [Act.put, List.setIfInBounds_toArray, List.set_cons_zero, List.set_cons_succ, List.getElem_toArray, List.getElem_cons_succ, List.getElem_cons_zero]
      refine wpAnyH_take (i := 6) (v := ?_) rfl (by kernel_rfl) (by kernel_rfl) (by kernel_rfl) (fun _ _ _ h => h) (Or.inl ⟨by rfl, ?v6⟩) (by assumption) ?_
      case v6 => (intro w hSw; (try dsimp only at hSw); go_simp; try with_reducible rfl)
      try simp only [Act.put, List.setIfInBounds_toArray, List.set_cons_zero, List.set_cons_succ, List.getElem_toArray, List.getElem_cons_succ, List.getElem_cons_zero]
      refine wpAnyH_take (i := 7) (v := ?_) rfl (by kernel_rfl) (by kernel_rfl) (by kernel_rfl) (fun _ _ _ h => h) (Or.inl ⟨by rfl, ?v7⟩) (by assumption) ?_
      case v7 => (intro w hSw; (try dsimp only at hSw); go_simp; try with_reducible rfl)
      try simp only [Act.put, List.setIfInBounds_toArray, List.set_cons_zero, List.set_cons_succ, List.getElem_toArray, List.getElem_cons_succ, List.getElem_cons_zero]
      refine wpAnyH_ready (rs := [8]) (by kernel_rfl) (by simp) ?_
      refine AllReadyH.cons rfl (fun K hK => ?_) AllReadyH.nil
      go_simp
      have hS := hHeld
      clear hHeld
      refine (HSM.out _ hS.2.2).mono ?_
      rintro e w5 ⟨rfl, hb1⟩
      have hHeld := kpTwo hb1 hS
      clear hS hb1
      dsimp only
      refine hK.out _ _ ?_ (fun hHeld => ?_)
      · exact hHeld
      clear hK K
      try simp only [Act.put, List.setIfInBounds_toArray, List.set_cons_zero, List.set_cons_succ, List.getElem_toArray, List.getElem_cons_succ, List.getElem_cons_zero]
      refine wpAnyH_take (i := 9) (v := ?_) rfl (by kernel_rfl) (by kernel_rfl) (by kernel_rfl) (fun _ _ _ h => h) (Or.inl ⟨by rfl, ?v9⟩) (by assumption) ?_
      case v9 => (intro w hSw; (try dsimp only at hSw); go_simp; try with_reducible rfl)
      try simp only [Act.put, List.setIfInBounds_toArray, List.set_cons_zero, List.set_cons_succ, List.getElem_toArray, List.getElem_cons_succ, List.getElem_cons_zero]
      refine wpAnyH_done (by kernel_rfl) ?_ _
      skip
      go_wp2
      exact ⟨⟨j + 1, by omega, by go_num, hHeld.2.2⟩, by simp [intOf]; omega⟩
    · have hjl' : ¬ (j : Int) < (M.length : Int) := by omega
      have HB4 := veil (HB3.out.trans (hbel.mono HB3.out.size))
      clear hbel HE3 HE3'
      go_wp2_with (first
        | (go_at_call 17; refine (HV.out _).mono ?_; rintro e w8 ⟨rfl, hb8⟩; have t1 := HS7.out _ hb8; have t2 := HSB.out _ (HB7.out.trans (hb8.mono HB7.out.size)); have HB8 := veil (HB7.out.trans (hb8.mono HB7.out.size)); clear hb8)
        | (go_at_call 11; refine (HEN2.out _ _ _ HE6.out).mono ?_; rintro e w7 ⟨v7, rfl, ho7, hb7⟩; rw [HAL.out] at ho7; have HS7 := veil (says_u8s ho7); have HB7 := veil (HB6.out.trans (hb7.mono HB6.out.size)); clear ho7 hb7)
        | (go_at_call 18; refine (HD2.out _ HB4.out).mono ?_; rintro e w6 ⟨Z6, v6, hZ6, rfl, hR6, hb6⟩; obtain ⟨a6, c6, rfl, hE6⟩ := hR6.ens; rw [hZ6] at hE6; have hl6 : Z6.length = L.length := (by rw [← hZ6, List.length_map]); rw [hl6]; have HE6 := veil hE6; have HB6 := veil (HB4.out.trans (hb6.mono HB4.out.size)); clear hZ6 hR6 hb6 hE6 hl6))
      go_ret
      exact ⟨by simp, HB8.out⟩
set_option maxHeartbeats 8000000 in
theorem back_cut_r_bad (w : World) (a0 : Option Addr) (L0 : List En) (cap0 : Nat) (hL0 : L0.length < 9223372036854775808) (hE0 : Ens w a0 L0) (hR : ∀ x ∈ fewE L0, RightE x)
    (a : Option Addr) (len cap : Nat) (hlen : 2000 < len) (hc : len ≤ cap) (hc2 : cap < 9223372036854775808) (X : Nat → Nat) (hB : Byt w a len X) (l : List Nat) (hl : l = (List.range 2000).map X) (L : List En) (hG : Bad l L) :
    Calls Try.prog 5 #[.slice a0 L0.length cap0, .slice a len cap] w fun e w' => e = .returned (.bool true) ∧ Below w.heap.size w w' := by
  have HF := veil (few_ok' w a0 L0 cap0 hL0 hE0)
  have HV := veil live_ok'
  have h60 := fewE_length L0
  clear hE0 hL0
  generalize fewE L0 = M at *
  have h2000 : 2000 < (len : Int) := by omega
  have hcI : 2000 ≤ (cap : Int) := by omega
  have hBn := hB.cut (m := 2000) (by omega)
  obtain ⟨ad, rfl⟩ : ∃ ad, a = some ad := by
    rcases hB with h | ⟨lb, of, h, _⟩
    · omega
    · exact ⟨_, h⟩
  have hll : l.length = 2000 := by rw [hl]; simp
  have hLL := bad_le hG
  have HSB : Hid (Says w (.slice (some ad) 2000 cap) (strN l)) := by rw [hl]; exact says_byt hBn
  have HD2 : Hid (∀ W, Below w.heap.size w W → Calls Try.prog 18 #[.slice (some ad) 2000 cap] W fun e w' => e = .returned (.tuple #[.slice none 0 0, .int .i64 3, .int .i64 (L.length : Int)]) ∧ Below W.heap.size W w') := fun W hb => (dec_ok W _ 2000 cap X (hBn.below hb) (by omega) (by omega) hc2 l hl).mono (fun e w' q => q.bad hG)
  have HEN := veil (fun W a c (h : Ens W a M) => (encodes W a M c (by omega) h).mono (fun e w' h => h.yes hR))
  have hal : (all M).length < 16000 := by have := all_le M hR; omega
  have HD1 : Hid (∀ (W W0 : World) a0 base v, Ens W0 a0 M → W.ownsRow base 5 1 v (all M).length (u8s (all M)) → Calls Try.prog 18 #[v] W (DecY W 36 M)) := fun W W0 a0 base v h ho => (dec_row W base v _ ho (all_small (fun x hx => ⟨hR x hx, ens_wf h x hx⟩)) (by omega)).mono (fun e w' q => q.good ⟨fun x hx => ⟨hR x hx, ens_wf h x hx⟩, rfl⟩)
  have hLm' : (L.length : Int) ≤ 2000 := by omega
  clear hG hBn hl hB hR
  go_enter Try.func5, Try.ntmps5
  go_wp2_with (first
    | (go_at_call 18; refine (HD1.out _ _ _ _ _ HE2.out HO2.out).mono ?_; rintro e w3 ⟨Z3, v3, hZ3, rfl, hR3, hb3⟩; obtain ⟨a3, c3, rfl, hE3⟩ := hR3.ens; rw [hZ3] at hE3; have hl3 : Z3.length = M.length := (by rw [← hZ3, List.length_map]); rw [hl3]; have HE3 := veil hE3; have HE3' := veil (HE2.out.below hb3); have HB3 := veil (HB2.out.trans (hb3.mono HB2.out.size)); clear hZ3 hR3 hb3 hE3 hl3)
    | (go_at_call 11; refine (HEN.out _ _ _ HE1.out).mono ?_; rintro e w2 ⟨v2, rfl, ho2, hb2⟩; have HO2 := veil ho2; have HE2 := veil (HE1.out.below hb2); have HB2 := veil (HB1.out.trans (hb2.mono HB1.out.size)); clear ho2 hb2)
    | (go_at_call 10; refine (HF.out).mono ?_; rintro e w1 ⟨a1, c1, rfl, hen, hb1⟩; have HE1 := veil hen; have HB1 := veil hb1; clear hen hb1))
  clear HF HEN HD1 HE1 HE2 HO2 HB1 HB2
  go_loopw [11] (fun i wr => ∃ (j : Nat), j ≤ M.length ∧ i = .int .i64 (j : Int) ∧ Below w3.heap.size w3 wr) (fun i _ => M.length - (intOf i).toNat)
  case atStart => exact ⟨0, by omega, rfl, Below.refl _ _⟩
  case round =>
    obtain ⟨j, hj, rfl, hbel⟩ := hrel
    by_cases hjl : j < M.length
    · have hjl' : (j : Int) < (M.length : Int) := by omega
      obtain ⟨x, hx⟩ : ∃ x, M[j]? = some x := ⟨M[j], List.getElem?_eq_getElem hjl⟩
      rcases HE3'.out with h0 | ⟨lx, ox, rfl, hlx, hcx⟩
      · subst h0; simp at hjl
      rcases HE3.out with h0 | ⟨ly, oy, rfl, hly, hcy⟩
      · subst h0; simp at hjl
      obtain ⟨cx, dx, hex⟩ := hcx j x hx
      obtain ⟨cy, dy, hey⟩ := hcy j x hx
      have hfx := hex.below hlx hbel
      have hfy := hey.below hly hbel
      have HSx : Hid ((wr.cell? ⟨lx, ox + j * 10, none⟩ = some (.int .i64 x.d) ∧ wr.cell? ⟨lx, ox + j * 10 + 1, none⟩ = some (.int .i64 x.p) ∧ wr.cell? ⟨lx, ox + j * 10 + 2, none⟩ = some (.int .u64 (x.dr : Int)) ∧ wr.cell? ⟨lx, ox + j * 10 + 3, none⟩ = some (.int .i64 x.n) ∧ wr.cell? ⟨lx, ox + j * 10 + 4, none⟩ = some (.slice cx x.code.length dx) ∧ wr.cell? ⟨lx, ox + j * 10 + 5, none⟩ = some (.int .u64 (x.bu : Int)) ∧ wr.cell? ⟨lx, ox + j * 10 + 6, none⟩ = some (.int .u64 (x.pe : Int)) ∧ wr.cell? ⟨lx, ox + j * 10 + 7, none⟩ = some (.int .i64 x.pr) ∧ wr.cell? ⟨lx, ox + j * 10 + 8, none⟩ = some (.int .u8 (x.lv : Int)) ∧ wr.cell? ⟨lx, ox + j * 10 + 9, none⟩ = some (.int .i64 x.sv)) ∧ (wr.cell? ⟨ly, oy + j * 10, none⟩ = some (.int .i64 x.d) ∧ wr.cell? ⟨ly, oy + j * 10 + 1, none⟩ = some (.int .i64 x.p) ∧ wr.cell? ⟨ly, oy + j * 10 + 2, none⟩ = some (.int .u64 (x.dr : Int)) ∧ wr.cell? ⟨ly, oy + j * 10 + 3, none⟩ = some (.int .i64 x.n) ∧ wr.cell? ⟨ly, oy + j * 10 + 4, none⟩ = some (.slice cy x.code.length dy) ∧ wr.cell? ⟨ly, oy + j * 10 + 5, none⟩ = some (.int .u64 (x.bu : Int)) ∧ wr.cell? ⟨ly, oy + j * 10 + 6, none⟩ = some (.int .u64 (x.pe : Int)) ∧ wr.cell? ⟨ly, oy + j * 10 + 7, none⟩ = some (.int .i64 x.pr) ∧ wr.cell? ⟨ly, oy + j * 10 + 8, none⟩ = some (.int .u8 (x.lv : Int)) ∧ wr.cell? ⟨ly, oy + j * 10 + 9, none⟩ = some (.int .i64 x.sv)) ∧ Below w3.heap.size w3 wr) := ⟨⟨hfx.c0, hfx.c1, hfx.c2, hfx.c3, hfx.c4, hfx.c5, hfx.c6, hfx.c7, hfx.c8, hfx.c9⟩, ⟨hfy.c0, hfy.c1, hfy.c2, hfy.c3, hfy.c4, hfy.c5, hfy.c6, hfy.c7, hfy.c8, hfy.c9⟩, hbel⟩
      have HSM : Hid (∀ W, Below w3.heap.size w3 W → Calls Try.prog 21 #[.agg #[.int .i64 x.d, .int .i64 x.p, .int .u64 (x.dr : Int), .int .i64 x.n, .slice cx x.code.length dx, .int .u64 (x.bu : Int), .int .u64 (x.pe : Int), .int .i64 x.pr, .int .u8 (x.lv : Int), .int .i64 x.sv], .agg #[.int .i64 x.d, .int .i64 x.p, .int .u64 (x.dr : Int), .int .i64 x.n, .slice cy x.code.length dy, .int .u64 (x.bu : Int), .int .u64 (x.pe : Int), .int .i64 x.pr, .int .u8 (x.lv : Int), .int .i64 x.sv]] W fun e w' => e = .returned (.bool true) ∧ Below W.heap.size W w') := fun W hb => by rw [← eqB_self x]; exact same_b W x x cx cy dx dy (hex.cod.below hb) (hey.cod.below hb) hex.len
      clear hbel hcx hcy hx hex hey hfx hfy HE3 HE3' HV HD2 HSB
      go_wp2_with fail
      refine wp_region_held_drew (S := (fun W => (W.cell? ⟨lx, ox + j * 10, none⟩ = some (.int .i64 x.d) ∧ W.cell? ⟨lx, ox + j * 10 + 1, none⟩ = some (.int .i64 x.p) ∧ W.cell? ⟨lx, ox + j * 10 + 2, none⟩ = some (.int .u64 (x.dr : Int)) ∧ W.cell? ⟨lx, ox + j * 10 + 3, none⟩ = some (.int .i64 x.n) ∧ W.cell? ⟨lx, ox + j * 10 + 4, none⟩ = some (.slice cx x.code.length dx) ∧ W.cell? ⟨lx, ox + j * 10 + 5, none⟩ = some (.int .u64 (x.bu : Int)) ∧ W.cell? ⟨lx, ox + j * 10 + 6, none⟩ = some (.int .u64 (x.pe : Int)) ∧ W.cell? ⟨lx, ox + j * 10 + 7, none⟩ = some (.int .i64 x.pr) ∧ W.cell? ⟨lx, ox + j * 10 + 8, none⟩ = some (.int .u8 (x.lv : Int)) ∧ W.cell? ⟨lx, ox + j * 10 + 9, none⟩ = some (.int .i64 x.sv)) ∧ (W.cell? ⟨ly, oy + j * 10, none⟩ = some (.int .i64 x.d) ∧ W.cell? ⟨ly, oy + j * 10 + 1, none⟩ = some (.int .i64 x.p) ∧ W.cell? ⟨ly, oy + j * 10 + 2, none⟩ = some (.int .u64 (x.dr : Int)) ∧ W.cell? ⟨ly, oy + j * 10 + 3, none⟩ = some (.int .i64 x.n) ∧ W.cell? ⟨ly, oy + j * 10 + 4, none⟩ = some (.slice cy x.code.length dy) ∧ W.cell? ⟨ly, oy + j * 10 + 5, none⟩ = some (.int .u64 (x.bu : Int)) ∧ W.cell? ⟨ly, oy + j * 10 + 6, none⟩ = some (.int .u64 (x.pe : Int)) ∧ W.cell? ⟨ly, oy + j * 10 + 7, none⟩ = some (.int .i64 x.pr) ∧ W.cell? ⟨ly, oy + j * 10 + 8, none⟩ = some (.int .u8 (x.lv : Int)) ∧ W.cell? ⟨ly, oy + j * 10 + 9, none⟩ = some (.int .i64 x.sv)) ∧ Below w3.heap.size w3 W)) (by kernel_rfl) (kpTwod HSx.out) (fun hHeld => ?_)
      refine wpAnyH_take (i := 0) (v := ?_) rfl (by kernel_rfl) (by kernel_rfl) (by kernel_rfl) (fun _ _ _ h => h) (Or.inl ⟨by rfl, ?v0⟩) (by assumption) ?_
      case v0 => (intro w hSw; (try dsimp only at hSw); go_simp; try with_reducible rfl)
      try simp only [Act.put, List.setIfInBounds_toArray, List.set_cons_zero, List.set_cons_succ, List.getElem_toArray, List.getElem_cons_zero]
      refine wpAnyH_take (i := 1) (v := ?_) rfl (by kernel_rfl) (by kernel_rfl) (by kernel_rfl) (fun _ _ _ h => h) (Or.inl ⟨by rfl, ?v1⟩) (by assumption) ?_
      case v1 => (intro w hSw; (try dsimp only at hSw); go_simp; try with_reducible rfl)
      try simp only [Act.put, List.setIfInBounds_toArray, List.set_cons_zero, List.set_cons_succ, List.getElem_toArray, List.getElem_cons_succ, List.getElem_cons_zero]
      refine wpAnyH_take (i := 2) (v := ?_) rfl (by kernel_rfl) (by kernel_rfl) (by kernel_rfl) (fun _ _ _ h => h) (Or.inl ⟨by rfl, ?v2⟩) (by assumption) ?_
      case v2 => (intro w hSw; (try dsimp only at hSw); go_simp; try with_reducible rfl)
      try simp only [Act.put, List.setIfInBounds_toArray, List.set_cons_zero, List.set_cons_succ, List.getElem_toArray, List.getElem_cons_succ, List.getElem_cons_zero]
      refine wpAnyH_take (i := 3) (v := ?_) rfl (by kernel_rfl) (by kernel_rfl) (by kernel_rfl) (fun _ _ _ h => h) (Or.inl ⟨by rfl, ?v3⟩) (by assumption) ?_
      case v3 => (intro w hSw; (try dsimp only at hSw); go_simp; try with_reducible rfl)
      try simp only [Act.put, List.setIfInBounds_toArray, List.set_cons_zero, List.set_cons_succ, List.getElem_toArray, List.getElem_cons_succ, List.getElem_cons_zero]
      refine wpAnyH_take (i := 4) (v := ?_) rfl (by kernel_rfl) (by kernel_rfl) (by kernel_rfl) (fun _ _ _ h => h) (Or.inl ⟨by rfl, ?v4⟩) (by assumption) ?_
      case v4 => (intro w hSw; (try dsimp only at hSw); go_simp; try with_reducible rfl)
      try simp only [Act.put, List.setIfInBounds_toArray, List.set_cons_zero, List.set_cons_succ, List.getElem_toArray, List.getElem_cons_succ, List.getElem_cons_zero]
      refine wpAnyH_take (i := 5) (v := ?_) rfl (by kernel_rfl) (by kernel_rfl) (by kernel_rfl) (fun _ _ _ h => h) (Or.inl ⟨by rfl, ?v5⟩) (by assumption) ?_
      case v5 => (intro w hSw; (try dsimp only at hSw); go_simp; try with_reducible rfl)
      try simp only [Act.put, List.setIfInBounds_toArray, List.set_cons_zero, List.set_cons_succ, List.getElem_toArray, List.getElem_cons_succ, List.getElem_cons_zero]
      refine wpAnyH_take (i := 6) (v := ?_) rfl (by kernel_rfl) (by kernel_rfl) (by kernel_rfl) (fun _ _ _ h => h) (Or.inl ⟨by rfl, ?v6⟩) (by assumption) ?_
      case v6 => (intro w hSw; (try dsimp only at hSw); go_simp; try with_reducible rfl)
      try simp only [Act.put, List.setIfInBounds_toArray, List.set_cons_zero, List.set_cons_succ, List.getElem_toArray, List.getElem_cons_succ, List.getElem_cons_zero]
      refine wpAnyH_take (i := 7) (v := ?_) rfl (by kernel_rfl) (by kernel_rfl) (by kernel_rfl) (fun _ _ _ h => h) (Or.inl ⟨by rfl, ?v7⟩) (by assumption) ?_
      case v7 => (intro w hSw; (try dsimp only at hSw); go_simp; try with_reducible rfl)
      try simp only [Act.put, List.setIfInBounds_toArray, List.set_cons_zero, List.set_cons_succ, List.getElem_toArray, List.getElem_cons_succ, List.getElem_cons_zero]
      refine wpAnyH_ready (rs := [8]) (by kernel_rfl) (by simp) ?_
      refine AllReadyH.cons rfl (fun K hK => ?_) AllReadyH.nil
      go_simp
      have hS := hHeld
      clear hHeld
      refine (HSM.out _ hS.2.2).mono ?_
      rintro e w5 ⟨rfl, hb1⟩
      have hHeld := kpTwo hb1 hS
      clear hS hb1
      dsimp only
      refine hK.out _ _ ?_ (fun hHeld => ?_)
      · exact hHeld
      clear hK K
      try simp only [Act.put, List.setIfInBounds_toArray, List.set_cons_zero, List.set_cons_succ, List.getElem_toArray, List.getElem_cons_succ, List.getElem_cons_zero]
      refine wpAnyH_take (i := 9) (v := ?_) rfl (by kernel_rfl) (by kernel_rfl) (by kernel_rfl) (fun _ _ _ h => h) (Or.inl ⟨by rfl, ?v9⟩) (by assumption) ?_
      case v9 => (intro w hSw; (try dsimp only at hSw); go_simp; try with_reducible rfl)
      try simp only [Act.put, List.setIfInBounds_toArray, List.set_cons_zero, List.set_cons_succ, List.getElem_toArray, List.getElem_cons_succ, List.getElem_cons_zero]
      refine wpAnyH_done (by kernel_rfl) ?_ _
      skip
      go_wp2
      exact ⟨⟨j + 1, by omega, by go_num, hHeld.2.2⟩, by simp [intOf]; omega⟩
    · have hjl' : ¬ (j : Int) < (M.length : Int) := by omega
      have HB4 := veil (HB3.out.trans (hbel.mono HB3.out.size))
      clear hbel HE3 HE3'
      go_wp2_with (first
        | (go_at_call 17; refine (HV.out _).mono ?_; rintro e w8 ⟨rfl, hb8⟩; have HB8 := veil (HB6.out.trans (hb8.mono HB6.out.size)); clear hb8)
        | (go_at_call 18; refine (HD2.out _ HB4.out).mono ?_; rintro e w6 ⟨rfl, hb6⟩; have HB6 := veil (HB4.out.trans (hb6.mono HB4.out.size)); clear hb6))
      go_ret
      exact ⟨rfl, HB8.out⟩
set_option maxHeartbeats 8000000 in
theorem back_cut_n_good (w : World) (a0 : Option Addr) (L0 : List En) (cap0 : Nat) (hL0 : L0.length < 9223372036854775808) (hE0 : Ens w a0 L0) (hR : ¬ ∀ x ∈ fewE L0, RightE x)
    (a : Option Addr) (len cap : Nat) (hlen : 2000 < len) (hc : len ≤ cap) (hc2 : cap < 9223372036854775808) (X : Nat → Nat) (hB : Byt w a len X) (l : List Nat) (hl : l = (List.range 2000).map X) (L : List En) (hG : Good l L) :
    Calls Try.prog 5 #[.slice a0 L0.length cap0, .slice a len cap] w fun e w' => e = .returned (.bool true) ∧ Below w.heap.size w w' := by
  have HF := veil (few_ok' w a0 L0 cap0 hL0 hE0)
  have HV := veil live_ok'
  have h60 := fewE_length L0
  clear hE0 hL0
  generalize fewE L0 = M at *
  have h2000 : 2000 < (len : Int) := by omega
  have hcI : 2000 ≤ (cap : Int) := by omega
  have hBn := hB.cut (m := 2000) (by omega)
  obtain ⟨ad, rfl⟩ : ∃ ad, a = some ad := by
    rcases hB with h | ⟨lb, of, h, _⟩
    · omega
    · exact ⟨_, h⟩
  have hll : l.length = 2000 := by rw [hl]; simp
  have hLL := good_le hG
  have HSB : Hid (Says w (.slice (some ad) 2000 cap) (strN l)) := by rw [hl]; exact says_byt hBn
  have HD2 : Hid (∀ W, Below w.heap.size w W → Calls Try.prog 18 #[.slice (some ad) 2000 cap] W (DecY W 36 L)) := fun W hb => (dec_ok W _ 2000 cap X (hBn.below hb) (by omega) (by omega) hc2 l hl).mono (fun e w' q => q.good hG)
  have HEN2 := veil (fun W a c (h : Ens W a L) => (encodes W a L c (by omega) h).mono (fun e w' h => h.yes (fun x hx => (hG.1 x hx).1)))
  have HAL : Hid (all L = l) := hG.2.symm
  have HEN := veil (fun W a c (h : Ens W a M) => (encodes W a M c (by omega) h).mono (fun e w' h => h.no hR))
  have hLm' : (L.length : Int) ≤ 2000 := by omega
  clear hG hBn hl hB hR
  go_enter Try.func5, Try.ntmps5
  go_upto_region 14 with (first
    | (go_at_call 11; refine (HEN.out _ _ _ HE1.out).mono ?_; rintro e w2 ⟨rfl, hb2⟩; have HB4 := veil (HB1.out.trans (hb2.mono HB1.out.size)); clear hb2)
    | (go_at_call 10; refine (HF.out).mono ?_; rintro e w1 ⟨a1, c1, rfl, hen, hb1⟩; have HE1 := veil hen; have HB1 := veil hb1; clear hen hb1))
  clear HEN HF HE1 HB1
  go_wp2_with (first
    | (go_at_call 17; refine (HV.out _).mono ?_; rintro e w8 ⟨rfl, hb8⟩; have t1 := HS7.out _ hb8; have t2 := HSB.out _ (HB7.out.trans (hb8.mono HB7.out.size)); have HB8 := veil (HB7.out.trans (hb8.mono HB7.out.size)); clear hb8)
    | (go_at_call 11; refine (HEN2.out _ _ _ HE6.out).mono ?_; rintro e w7 ⟨v7, rfl, ho7, hb7⟩; rw [HAL.out] at ho7; have HS7 := veil (says_u8s ho7); have HB7 := veil (HB6.out.trans (hb7.mono HB6.out.size)); clear ho7 hb7)
    | (go_at_call 18; refine (HD2.out _ HB4.out).mono ?_; rintro e w6 ⟨Z6, v6, hZ6, rfl, hR6, hb6⟩; obtain ⟨a6, c6, rfl, hE6⟩ := hR6.ens; rw [hZ6] at hE6; have hl6 : Z6.length = L.length := (by rw [← hZ6, List.length_map]); rw [hl6]; have HE6 := veil hE6; have HB6 := veil (HB4.out.trans (hb6.mono HB4.out.size)); clear hZ6 hR6 hb6 hE6 hl6))
  go_ret
  exact ⟨by simp, HB8.out⟩
set_option maxHeartbeats 8000000 in
theorem back_cut_n_bad (w : World) (a0 : Option Addr) (L0 : List En) (cap0 : Nat) (hL0 : L0.length < 9223372036854775808) (hE0 : Ens w a0 L0) (hR : ¬ ∀ x ∈ fewE L0, RightE x)
    (a : Option Addr) (len cap : Nat) (hlen : 2000 < len) (hc : len ≤ cap) (hc2 : cap < 9223372036854775808) (X : Nat → Nat) (hB : Byt w a len X) (l : List Nat) (hl : l = (List.range 2000).map X) (L : List En) (hG : Bad l L) :
    Calls Try.prog 5 #[.slice a0 L0.length cap0, .slice a len cap] w fun e w' => e = .returned (.bool true) ∧ Below w.heap.size w w' := by
  have HF := veil (few_ok' w a0 L0 cap0 hL0 hE0)
  have HV := veil live_ok'
  have h60 := fewE_length L0
  clear hE0 hL0
  generalize fewE L0 = M at *
  have h2000 : 2000 < (len : Int) := by omega
  have hcI : 2000 ≤ (cap : Int) := by omega
  have hBn := hB.cut (m := 2000) (by omega)
  obtain ⟨ad, rfl⟩ : ∃ ad, a = some ad := by
    rcases hB with h | ⟨lb, of, h, _⟩
    · omega
    · exact ⟨_, h⟩
  have hll : l.length = 2000 := by rw [hl]; simp
  have hLL := bad_le hG
  have HSB : Hid (Says w (.slice (some ad) 2000 cap) (strN l)) := by rw [hl]; exact says_byt hBn
  have HD2 : Hid (∀ W, Below w.heap.size w W → Calls Try.prog 18 #[.slice (some ad) 2000 cap] W fun e w' => e = .returned (.tuple #[.slice none 0 0, .int .i64 3, .int .i64 (L.length : Int)]) ∧ Below W.heap.size W w') := fun W hb => (dec_ok W _ 2000 cap X (hBn.below hb) (by omega) (by omega) hc2 l hl).mono (fun e w' q => q.bad hG)
  have HEN := veil (fun W a c (h : Ens W a M) => (encodes W a M c (by omega) h).mono (fun e w' h => h.no hR))
  have hLm' : (L.length : Int) ≤ 2000 := by omega
  clear hG hBn hl hB hR
  go_enter Try.func5, Try.ntmps5
  go_upto_region 14 with (first
    | (go_at_call 11; refine (HEN.out _ _ _ HE1.out).mono ?_; rintro e w2 ⟨rfl, hb2⟩; have HB4 := veil (HB1.out.trans (hb2.mono HB1.out.size)); clear hb2)
    | (go_at_call 10; refine (HF.out).mono ?_; rintro e w1 ⟨a1, c1, rfl, hen, hb1⟩; have HE1 := veil hen; have HB1 := veil hb1; clear hen hb1))
  clear HEN HF HE1 HB1
  go_wp2_with (first
    | (go_at_call 17; refine (HV.out _).mono ?_; rintro e w8 ⟨rfl, hb8⟩; have HB8 := veil (HB6.out.trans (hb8.mono HB6.out.size)); clear hb8)
    | (go_at_call 18; refine (HD2.out _ HB4.out).mono ?_; rintro e w6 ⟨rfl, hb6⟩; have HB6 := veil (HB4.out.trans (hb6.mono HB4.out.size)); clear hb6))
  go_ret
  exact ⟨rfl, HB8.out⟩
set_option maxHeartbeats 8000000 in
theorem back_all_r_good (w : World) (a0 : Option Addr) (L0 : List En) (cap0 : Nat) (hL0 : L0.length < 9223372036854775808) (hE0 : Ens w a0 L0) (hR : ∀ x ∈ fewE L0, RightE x)
    (a : Option Addr) (len cap : Nat) (hlen : len ≤ 2000) (hc : len ≤ cap) (hc2 : cap < 9223372036854775808) (X : Nat → Nat) (hB : Byt w a len X) (l : List Nat) (hl : l = (List.range len).map X) (L : List En) (hG : Good l L) :
    Calls Try.prog 5 #[.slice a0 L0.length cap0, .slice a len cap] w fun e w' => e = .returned (.bool true) ∧ Below w.heap.size w w' := by
  have HF := veil (few_ok' w a0 L0 cap0 hL0 hE0)
  have HV := veil live_ok'
  have h60 := fewE_length L0
  clear hE0 hL0
  generalize fewE L0 = M at *
  have h2000 : ¬ 2000 < (len : Int) := by omega
  have hBn := hB
  have hll : l.length = len := by rw [hl]; simp
  have hLL := good_le hG
  have HSB : Hid (Says w (.slice a len cap) (strN l)) := by rw [hl]; exact says_byt hBn
  have HD2 : Hid (∀ W, Below w.heap.size w W → Calls Try.prog 18 #[.slice a len cap] W (DecY W 36 L)) := fun W hb => (dec_ok W _ len cap X (hBn.below hb) (by omega) (by omega) hc2 l hl).mono (fun e w' q => q.good hG)
  have HEN2 := veil (fun W a c (h : Ens W a L) => (encodes W a L c (by omega) h).mono (fun e w' h => h.yes (fun x hx => (hG.1 x hx).1)))
  have HAL : Hid (all L = l) := hG.2.symm
  have HEN := veil (fun W a c (h : Ens W a M) => (encodes W a M c (by omega) h).mono (fun e w' h => h.yes hR))
  have hal : (all M).length < 16000 := by have := all_le M hR; omega
  have HD1 : Hid (∀ (W W0 : World) a0 base v, Ens W0 a0 M → W.ownsRow base 5 1 v (all M).length (u8s (all M)) → Calls Try.prog 18 #[v] W (DecY W 36 M)) := fun W W0 a0 base v h ho => (dec_row W base v _ ho (all_small (fun x hx => ⟨hR x hx, ens_wf h x hx⟩)) (by omega)).mono (fun e w' q => q.good ⟨fun x hx => ⟨hR x hx, ens_wf h x hx⟩, rfl⟩)
  have hLm' : (L.length : Int) ≤ 2000 := by omega
  clear hG hBn hl hB hR
  go_enter Try.func5, Try.ntmps5
  go_wp2_with (first
    | (go_at_call 18; refine (HD1.out _ _ _ _ _ HE2.out HO2.out).mono ?_; rintro e w3 ⟨Z3, v3, hZ3, rfl, hR3, hb3⟩; obtain ⟨a3, c3, rfl, hE3⟩ := hR3.ens; rw [hZ3] at hE3; have hl3 : Z3.length = M.length := (by rw [← hZ3, List.length_map]); rw [hl3]; have HE3 := veil hE3; have HE3' := veil (HE2.out.below hb3); have HB3 := veil (HB2.out.trans (hb3.mono HB2.out.size)); clear hZ3 hR3 hb3 hE3 hl3)
    | (go_at_call 11; refine (HEN.out _ _ _ HE1.out).mono ?_; rintro e w2 ⟨v2, rfl, ho2, hb2⟩; have HO2 := veil ho2; have HE2 := veil (HE1.out.below hb2); have HB2 := veil (HB1.out.trans (hb2.mono HB1.out.size)); clear ho2 hb2)
    | (go_at_call 10; refine (HF.out).mono ?_; rintro e w1 ⟨a1, c1, rfl, hen, hb1⟩; have HE1 := veil hen; have HB1 := veil hb1; clear hen hb1))
  clear HF HEN HD1 HE1 HE2 HO2 HB1 HB2
  go_loopw [11] (fun i wr => ∃ (j : Nat), j ≤ M.length ∧ i = .int .i64 (j : Int) ∧ Below w3.heap.size w3 wr) (fun i _ => M.length - (intOf i).toNat)
  case atStart => exact ⟨0, by omega, rfl, Below.refl _ _⟩
  case round =>
    obtain ⟨j, hj, rfl, hbel⟩ := hrel
    by_cases hjl : j < M.length
    · have hjl' : (j : Int) < (M.length : Int) := by omega
      obtain ⟨x, hx⟩ : ∃ x, M[j]? = some x := ⟨M[j], List.getElem?_eq_getElem hjl⟩
      rcases HE3'.out with h0 | ⟨lx, ox, rfl, hlx, hcx⟩
      · subst h0; simp at hjl
      rcases HE3.out with h0 | ⟨ly, oy, rfl, hly, hcy⟩
      · subst h0; simp at hjl
      obtain ⟨cx, dx, hex⟩ := hcx j x hx
      obtain ⟨cy, dy, hey⟩ := hcy j x hx
      have hfx := hex.below hlx hbel
      have hfy := hey.below hly hbel
      have HSx : Hid ((wr.cell? ⟨lx, ox + j * 10, none⟩ = some (.int .i64 x.d) ∧ wr.cell? ⟨lx, ox + j * 10 + 1, none⟩ = some (.int .i64 x.p) ∧ wr.cell? ⟨lx, ox + j * 10 + 2, none⟩ = some (.int .u64 (x.dr : Int)) ∧ wr.cell? ⟨lx, ox + j * 10 + 3, none⟩ = some (.int .i64 x.n) ∧ wr.cell? ⟨lx, ox + j * 10 + 4, none⟩ = some (.slice cx x.code.length dx) ∧ wr.cell? ⟨lx, ox + j * 10 + 5, none⟩ = some (.int .u64 (x.bu : Int)) ∧ wr.cell? ⟨lx, ox + j * 10 + 6, none⟩ = some (.int .u64 (x.pe : Int)) ∧ wr.cell? ⟨lx, ox + j * 10 + 7, none⟩ = some (.int .i64 x.pr) ∧ wr.cell? ⟨lx, ox + j * 10 + 8, none⟩ = some (.int .u8 (x.lv : Int)) ∧ wr.cell? ⟨lx, ox + j * 10 + 9, none⟩ = some (.int .i64 x.sv)) ∧ (wr.cell? ⟨ly, oy + j * 10, none⟩ = some (.int .i64 x.d) ∧ wr.cell? ⟨ly, oy + j * 10 + 1, none⟩ = some (.int .i64 x.p) ∧ wr.cell? ⟨ly, oy + j * 10 + 2, none⟩ = some (.int .u64 (x.dr : Int)) ∧ wr.cell? ⟨ly, oy + j * 10 + 3, none⟩ = some (.int .i64 x.n) ∧ wr.cell? ⟨ly, oy + j * 10 + 4, none⟩ = some (.slice cy x.code.length dy) ∧ wr.cell? ⟨ly, oy + j * 10 + 5, none⟩ = some (.int .u64 (x.bu : Int)) ∧ wr.cell? ⟨ly, oy + j * 10 + 6, none⟩ = some (.int .u64 (x.pe : Int)) ∧ wr.cell? ⟨ly, oy + j * 10 + 7, none⟩ = some (.int .i64 x.pr) ∧ wr.cell? ⟨ly, oy + j * 10 + 8, none⟩ = some (.int .u8 (x.lv : Int)) ∧ wr.cell? ⟨ly, oy + j * 10 + 9, none⟩ = some (.int .i64 x.sv)) ∧ Below w3.heap.size w3 wr) := ⟨⟨hfx.c0, hfx.c1, hfx.c2, hfx.c3, hfx.c4, hfx.c5, hfx.c6, hfx.c7, hfx.c8, hfx.c9⟩, ⟨hfy.c0, hfy.c1, hfy.c2, hfy.c3, hfy.c4, hfy.c5, hfy.c6, hfy.c7, hfy.c8, hfy.c9⟩, hbel⟩
      have HSM : Hid (∀ W, Below w3.heap.size w3 W → Calls Try.prog 21 #[.agg #[.int .i64 x.d, .int .i64 x.p, .int .u64 (x.dr : Int), .int .i64 x.n, .slice cx x.code.length dx, .int .u64 (x.bu : Int), .int .u64 (x.pe : Int), .int .i64 x.pr, .int .u8 (x.lv : Int), .int .i64 x.sv], .agg #[.int .i64 x.d, .int .i64 x.p, .int .u64 (x.dr : Int), .int .i64 x.n, .slice cy x.code.length dy, .int .u64 (x.bu : Int), .int .u64 (x.pe : Int), .int .i64 x.pr, .int .u8 (x.lv : Int), .int .i64 x.sv]] W fun e w' => e = .returned (.bool true) ∧ Below W.heap.size W w') := fun W hb => by rw [← eqB_self x]; exact same_b W x x cx cy dx dy (hex.cod.below hb) (hey.cod.below hb) hex.len
      clear hbel hcx hcy hx hex hey hfx hfy HE3 HE3' HV HD2 HSB HEN2 HAL
      go_wp2_with fail
      refine wp_region_held_drew (S := (fun W => (W.cell? ⟨lx, ox + j * 10, none⟩ = some (.int .i64 x.d) ∧ W.cell? ⟨lx, ox + j * 10 + 1, none⟩ = some (.int .i64 x.p) ∧ W.cell? ⟨lx, ox + j * 10 + 2, none⟩ = some (.int .u64 (x.dr : Int)) ∧ W.cell? ⟨lx, ox + j * 10 + 3, none⟩ = some (.int .i64 x.n) ∧ W.cell? ⟨lx, ox + j * 10 + 4, none⟩ = some (.slice cx x.code.length dx) ∧ W.cell? ⟨lx, ox + j * 10 + 5, none⟩ = some (.int .u64 (x.bu : Int)) ∧ W.cell? ⟨lx, ox + j * 10 + 6, none⟩ = some (.int .u64 (x.pe : Int)) ∧ W.cell? ⟨lx, ox + j * 10 + 7, none⟩ = some (.int .i64 x.pr) ∧ W.cell? ⟨lx, ox + j * 10 + 8, none⟩ = some (.int .u8 (x.lv : Int)) ∧ W.cell? ⟨lx, ox + j * 10 + 9, none⟩ = some (.int .i64 x.sv)) ∧ (W.cell? ⟨ly, oy + j * 10, none⟩ = some (.int .i64 x.d) ∧ W.cell? ⟨ly, oy + j * 10 + 1, none⟩ = some (.int .i64 x.p) ∧ W.cell? ⟨ly, oy + j * 10 + 2, none⟩ = some (.int .u64 (x.dr : Int)) ∧ W.cell? ⟨ly, oy + j * 10 + 3, none⟩ = some (.int .i64 x.n) ∧ W.cell? ⟨ly, oy + j * 10 + 4, none⟩ = some (.slice cy x.code.length dy) ∧ W.cell? ⟨ly, oy + j * 10 + 5, none⟩ = some (.int .u64 (x.bu : Int)) ∧ W.cell? ⟨ly, oy + j * 10 + 6, none⟩ = some (.int .u64 (x.pe : Int)) ∧ W.cell? ⟨ly, oy + j * 10 + 7, none⟩ = some (.int .i64 x.pr) ∧ W.cell? ⟨ly, oy + j * 10 + 8, none⟩ = some (.int .u8 (x.lv : Int)) ∧ W.cell? ⟨ly, oy + j * 10 + 9, none⟩ = some (.int .i64 x.sv)) ∧ Below w3.heap.size w3 W)) (by kernel_rfl) (kpTwod HSx.out) (fun hHeld => ?_)
      refine wpAnyH_take (i := 0) (v := ?_) rfl (by kernel_rfl) (by kernel_rfl) (by kernel_rfl) (fun _ _ _ h => h) (Or.inl ⟨by rfl, ?v0⟩) (by assumption) ?_
      case v0 => (intro w hSw; (try dsimp only at hSw); go_simp; try with_reducible rfl)
      try simp only [Act.put, List.setIfInBounds_toArray, List.set_cons_zero, List.set_cons_succ, List.getElem_toArray, List.getElem_cons_zero]
      refine wpAnyH_take (i := 1) (v := ?_) rfl (by kernel_rfl) (by kernel_rfl) (by kernel_rfl) (fun _ _ _ h => h) (Or.inl ⟨by rfl, ?v1⟩) (by assumption) ?_
      case v1 => (intro w hSw; (try dsimp only at hSw); go_simp; try with_reducible rfl)
      try simp only [Act.put, List.setIfInBounds_toArray, List.set_cons_zero, List.set_cons_succ, List.getElem_toArray, List.getElem_cons_succ, List.getElem_cons_zero]
      refine wpAnyH_take (i := 2) (v := ?_) rfl (by kernel_rfl) (by kernel_rfl) (by kernel_rfl) (fun _ _ _ h => h) (Or.inl ⟨by rfl, ?v2⟩) (by assumption) ?_
      case v2 => (intro w hSw; (try dsimp only at hSw); go_simp; try with_reducible rfl)
      try simp only [Act.put, List.setIfInBounds_toArray, List.set_cons_zero, List.set_cons_succ, List.getElem_toArray, List.getElem_cons_succ, List.getElem_cons_zero]
      refine wpAnyH_take (i := 3) (v := ?_) rfl (by kernel_rfl) (by kernel_rfl) (by kernel_rfl) (fun _ _ _ h => h) (Or.inl ⟨by rfl, ?v3⟩) (by assumption) ?_
      case v3 => (intro w hSw; (try dsimp only at hSw); go_simp; try with_reducible rfl)
      try simp only [Act.put, List.setIfInBounds_toArray, List.set_cons_zero, List.set_cons_succ, List.getElem_toArray, List.getElem_cons_succ, List.getElem_cons_zero]
      refine wpAnyH_take (i := 4) (v := ?_) rfl (by kernel_rfl) (by kernel_rfl) (by kernel_rfl) (fun _ _ _ h => h) (Or.inl ⟨by rfl, ?v4⟩) (by assumption) ?_
      case v4 => (intro w hSw; (try dsimp only at hSw); go_simp; try with_reducible rfl)
      try simp only [Act.put, List.setIfInBounds_toArray, List.set_cons_zero, List.set_cons_succ, List.getElem_toArray, List.getElem_cons_succ, List.getElem_cons_zero]
      refine wpAnyH_take (i := 5) (v := ?_) rfl (by kernel_rfl) (by kernel_rfl) (by kernel_rfl) (fun _ _ _ h => h) (Or.inl ⟨by rfl, ?v5⟩) (by assumption) ?_
      case v5 => (intro w hSw; (try dsimp only at hSw); go_simp; try with_reducible rfl)
      try simp only [Act.put, List.setIfInBounds_toArray, List.set_cons_zero, List.set_cons_succ, List.getElem_toArray, List.getElem_cons_succ, List.getElem_cons_zero]
      refine wpAnyH_take (i := 6) (v := ?_) rfl (by kernel_rfl) (by kernel_rfl) (by kernel_rfl) (fun _ _ _ h => h) (Or.inl ⟨by rfl, ?v6⟩) (by assumption) ?_
      case v6 => (intro w hSw; (try dsimp only at hSw); go_simp; try with_reducible rfl)
      try simp only [Act.put, List.setIfInBounds_toArray, List.set_cons_zero, List.set_cons_succ, List.getElem_toArray, List.getElem_cons_succ, List.getElem_cons_zero]
      refine wpAnyH_take (i := 7) (v := ?_) rfl (by kernel_rfl) (by kernel_rfl) (by kernel_rfl) (fun _ _ _ h => h) (Or.inl ⟨by rfl, ?v7⟩) (by assumption) ?_
      case v7 => (intro w hSw; (try dsimp only at hSw); go_simp; try with_reducible rfl)
      try simp only [Act.put, List.setIfInBounds_toArray, List.set_cons_zero, List.set_cons_succ, List.getElem_toArray, List.getElem_cons_succ, List.getElem_cons_zero]
      refine wpAnyH_ready (rs := [8]) (by kernel_rfl) (by simp) ?_
      refine AllReadyH.cons rfl (fun K hK => ?_) AllReadyH.nil
      go_simp
      have hS := hHeld
      clear hHeld
      refine (HSM.out _ hS.2.2).mono ?_
      rintro e w5 ⟨rfl, hb1⟩
      have hHeld := kpTwo hb1 hS
      clear hS hb1
      dsimp only
      refine hK.out _ _ ?_ (fun hHeld => ?_)
      · exact hHeld
      clear hK K
      try simp only [Act.put, List.setIfInBounds_toArray, List.set_cons_zero, List.set_cons_succ, List.getElem_toArray, List.getElem_cons_succ, List.getElem_cons_zero]
      refine wpAnyH_take (i := 9) (v := ?_) rfl (by kernel_rfl) (by kernel_rfl) (by kernel_rfl) (fun _ _ _ h => h) (Or.inl ⟨by rfl, ?v9⟩) (by assumption) ?_
      case v9 => (intro w hSw; (try dsimp only at hSw); go_simp; try with_reducible rfl)
      try simp only [Act.put, List.setIfInBounds_toArray, List.set_cons_zero, List.set_cons_succ, List.getElem_toArray, List.getElem_cons_succ, List.getElem_cons_zero]
      refine wpAnyH_done (by kernel_rfl) ?_ _
      skip
      go_wp2
      exact ⟨⟨j + 1, by omega, by go_num, hHeld.2.2⟩, by simp [intOf]; omega⟩
    · have hjl' : ¬ (j : Int) < (M.length : Int) := by omega
      have HB4 := veil (HB3.out.trans (hbel.mono HB3.out.size))
      clear hbel HE3 HE3'
      go_wp2_with (first
        | (go_at_call 17; refine (HV.out _).mono ?_; rintro e w8 ⟨rfl, hb8⟩; have t1 := HS7.out _ hb8; have t2 := HSB.out _ (HB7.out.trans (hb8.mono HB7.out.size)); have HB8 := veil (HB7.out.trans (hb8.mono HB7.out.size)); clear hb8)
        | (go_at_call 11; refine (HEN2.out _ _ _ HE6.out).mono ?_; rintro e w7 ⟨v7, rfl, ho7, hb7⟩; rw [HAL.out] at ho7; have HS7 := veil (says_u8s ho7); have HB7 := veil (HB6.out.trans (hb7.mono HB6.out.size)); clear ho7 hb7)
        | (go_at_call 18; refine (HD2.out _ HB4.out).mono ?_; rintro e w6 ⟨Z6, v6, hZ6, rfl, hR6, hb6⟩; obtain ⟨a6, c6, rfl, hE6⟩ := hR6.ens; rw [hZ6] at hE6; have hl6 : Z6.length = L.length := (by rw [← hZ6, List.length_map]); rw [hl6]; have HE6 := veil hE6; have HB6 := veil (HB4.out.trans (hb6.mono HB4.out.size)); clear hZ6 hR6 hb6 hE6 hl6))
      go_ret
      exact ⟨by simp, HB8.out⟩
set_option maxHeartbeats 8000000 in
theorem back_all_r_bad (w : World) (a0 : Option Addr) (L0 : List En) (cap0 : Nat) (hL0 : L0.length < 9223372036854775808) (hE0 : Ens w a0 L0) (hR : ∀ x ∈ fewE L0, RightE x)
    (a : Option Addr) (len cap : Nat) (hlen : len ≤ 2000) (hc : len ≤ cap) (hc2 : cap < 9223372036854775808) (X : Nat → Nat) (hB : Byt w a len X) (l : List Nat) (hl : l = (List.range len).map X) (L : List En) (hG : Bad l L) :
    Calls Try.prog 5 #[.slice a0 L0.length cap0, .slice a len cap] w fun e w' => e = .returned (.bool true) ∧ Below w.heap.size w w' := by
  have HF := veil (few_ok' w a0 L0 cap0 hL0 hE0)
  have HV := veil live_ok'
  have h60 := fewE_length L0
  clear hE0 hL0
  generalize fewE L0 = M at *
  have h2000 : ¬ 2000 < (len : Int) := by omega
  have hBn := hB
  have hll : l.length = len := by rw [hl]; simp
  have hLL := bad_le hG
  have HSB : Hid (Says w (.slice a len cap) (strN l)) := by rw [hl]; exact says_byt hBn
  have HD2 : Hid (∀ W, Below w.heap.size w W → Calls Try.prog 18 #[.slice a len cap] W fun e w' => e = .returned (.tuple #[.slice none 0 0, .int .i64 3, .int .i64 (L.length : Int)]) ∧ Below W.heap.size W w') := fun W hb => (dec_ok W _ len cap X (hBn.below hb) (by omega) (by omega) hc2 l hl).mono (fun e w' q => q.bad hG)
  have HEN := veil (fun W a c (h : Ens W a M) => (encodes W a M c (by omega) h).mono (fun e w' h => h.yes hR))
  have hal : (all M).length < 16000 := by have := all_le M hR; omega
  have HD1 : Hid (∀ (W W0 : World) a0 base v, Ens W0 a0 M → W.ownsRow base 5 1 v (all M).length (u8s (all M)) → Calls Try.prog 18 #[v] W (DecY W 36 M)) := fun W W0 a0 base v h ho => (dec_row W base v _ ho (all_small (fun x hx => ⟨hR x hx, ens_wf h x hx⟩)) (by omega)).mono (fun e w' q => q.good ⟨fun x hx => ⟨hR x hx, ens_wf h x hx⟩, rfl⟩)
  have hLm' : (L.length : Int) ≤ 2000 := by omega
  clear hG hBn hl hB hR
  go_enter Try.func5, Try.ntmps5
  go_wp2_with (first
    | (go_at_call 18; refine (HD1.out _ _ _ _ _ HE2.out HO2.out).mono ?_; rintro e w3 ⟨Z3, v3, hZ3, rfl, hR3, hb3⟩; obtain ⟨a3, c3, rfl, hE3⟩ := hR3.ens; rw [hZ3] at hE3; have hl3 : Z3.length = M.length := (by rw [← hZ3, List.length_map]); rw [hl3]; have HE3 := veil hE3; have HE3' := veil (HE2.out.below hb3); have HB3 := veil (HB2.out.trans (hb3.mono HB2.out.size)); clear hZ3 hR3 hb3 hE3 hl3)
    | (go_at_call 11; refine (HEN.out _ _ _ HE1.out).mono ?_; rintro e w2 ⟨v2, rfl, ho2, hb2⟩; have HO2 := veil ho2; have HE2 := veil (HE1.out.below hb2); have HB2 := veil (HB1.out.trans (hb2.mono HB1.out.size)); clear ho2 hb2)
    | (go_at_call 10; refine (HF.out).mono ?_; rintro e w1 ⟨a1, c1, rfl, hen, hb1⟩; have HE1 := veil hen; have HB1 := veil hb1; clear hen hb1))
  clear HF HEN HD1 HE1 HE2 HO2 HB1 HB2
  go_loopw [11] (fun i wr => ∃ (j : Nat), j ≤ M.length ∧ i = .int .i64 (j : Int) ∧ Below w3.heap.size w3 wr) (fun i _ => M.length - (intOf i).toNat)
  case atStart => exact ⟨0, by omega, rfl, Below.refl _ _⟩
  case round =>
    obtain ⟨j, hj, rfl, hbel⟩ := hrel
    by_cases hjl : j < M.length
    · have hjl' : (j : Int) < (M.length : Int) := by omega
      obtain ⟨x, hx⟩ : ∃ x, M[j]? = some x := ⟨M[j], List.getElem?_eq_getElem hjl⟩
      rcases HE3'.out with h0 | ⟨lx, ox, rfl, hlx, hcx⟩
      · subst h0; simp at hjl
      rcases HE3.out with h0 | ⟨ly, oy, rfl, hly, hcy⟩
      · subst h0; simp at hjl
      obtain ⟨cx, dx, hex⟩ := hcx j x hx
      obtain ⟨cy, dy, hey⟩ := hcy j x hx
      have hfx := hex.below hlx hbel
      have hfy := hey.below hly hbel
      have HSx : Hid ((wr.cell? ⟨lx, ox + j * 10, none⟩ = some (.int .i64 x.d) ∧ wr.cell? ⟨lx, ox + j * 10 + 1, none⟩ = some (.int .i64 x.p) ∧ wr.cell? ⟨lx, ox + j * 10 + 2, none⟩ = some (.int .u64 (x.dr : Int)) ∧ wr.cell? ⟨lx, ox + j * 10 + 3, none⟩ = some (.int .i64 x.n) ∧ wr.cell? ⟨lx, ox + j * 10 + 4, none⟩ = some (.slice cx x.code.length dx) ∧ wr.cell? ⟨lx, ox + j * 10 + 5, none⟩ = some (.int .u64 (x.bu : Int)) ∧ wr.cell? ⟨lx, ox + j * 10 + 6, none⟩ = some (.int .u64 (x.pe : Int)) ∧ wr.cell? ⟨lx, ox + j * 10 + 7, none⟩ = some (.int .i64 x.pr) ∧ wr.cell? ⟨lx, ox + j * 10 + 8, none⟩ = some (.int .u8 (x.lv : Int)) ∧ wr.cell? ⟨lx, ox + j * 10 + 9, none⟩ = some (.int .i64 x.sv)) ∧ (wr.cell? ⟨ly, oy + j * 10, none⟩ = some (.int .i64 x.d) ∧ wr.cell? ⟨ly, oy + j * 10 + 1, none⟩ = some (.int .i64 x.p) ∧ wr.cell? ⟨ly, oy + j * 10 + 2, none⟩ = some (.int .u64 (x.dr : Int)) ∧ wr.cell? ⟨ly, oy + j * 10 + 3, none⟩ = some (.int .i64 x.n) ∧ wr.cell? ⟨ly, oy + j * 10 + 4, none⟩ = some (.slice cy x.code.length dy) ∧ wr.cell? ⟨ly, oy + j * 10 + 5, none⟩ = some (.int .u64 (x.bu : Int)) ∧ wr.cell? ⟨ly, oy + j * 10 + 6, none⟩ = some (.int .u64 (x.pe : Int)) ∧ wr.cell? ⟨ly, oy + j * 10 + 7, none⟩ = some (.int .i64 x.pr) ∧ wr.cell? ⟨ly, oy + j * 10 + 8, none⟩ = some (.int .u8 (x.lv : Int)) ∧ wr.cell? ⟨ly, oy + j * 10 + 9, none⟩ = some (.int .i64 x.sv)) ∧ Below w3.heap.size w3 wr) := ⟨⟨hfx.c0, hfx.c1, hfx.c2, hfx.c3, hfx.c4, hfx.c5, hfx.c6, hfx.c7, hfx.c8, hfx.c9⟩, ⟨hfy.c0, hfy.c1, hfy.c2, hfy.c3, hfy.c4, hfy.c5, hfy.c6, hfy.c7, hfy.c8, hfy.c9⟩, hbel⟩
      have HSM : Hid (∀ W, Below w3.heap.size w3 W → Calls Try.prog 21 #[.agg #[.int .i64 x.d, .int .i64 x.p, .int .u64 (x.dr : Int), .int .i64 x.n, .slice cx x.code.length dx, .int .u64 (x.bu : Int), .int .u64 (x.pe : Int), .int .i64 x.pr, .int .u8 (x.lv : Int), .int .i64 x.sv], .agg #[.int .i64 x.d, .int .i64 x.p, .int .u64 (x.dr : Int), .int .i64 x.n, .slice cy x.code.length dy, .int .u64 (x.bu : Int), .int .u64 (x.pe : Int), .int .i64 x.pr, .int .u8 (x.lv : Int), .int .i64 x.sv]] W fun e w' => e = .returned (.bool true) ∧ Below W.heap.size W w') := fun W hb => by rw [← eqB_self x]; exact same_b W x x cx cy dx dy (hex.cod.below hb) (hey.cod.below hb) hex.len
      clear hbel hcx hcy hx hex hey hfx hfy HE3 HE3' HV HD2 HSB
      go_wp2_with fail
      refine wp_region_held_drew (S := (fun W => (W.cell? ⟨lx, ox + j * 10, none⟩ = some (.int .i64 x.d) ∧ W.cell? ⟨lx, ox + j * 10 + 1, none⟩ = some (.int .i64 x.p) ∧ W.cell? ⟨lx, ox + j * 10 + 2, none⟩ = some (.int .u64 (x.dr : Int)) ∧ W.cell? ⟨lx, ox + j * 10 + 3, none⟩ = some (.int .i64 x.n) ∧ W.cell? ⟨lx, ox + j * 10 + 4, none⟩ = some (.slice cx x.code.length dx) ∧ W.cell? ⟨lx, ox + j * 10 + 5, none⟩ = some (.int .u64 (x.bu : Int)) ∧ W.cell? ⟨lx, ox + j * 10 + 6, none⟩ = some (.int .u64 (x.pe : Int)) ∧ W.cell? ⟨lx, ox + j * 10 + 7, none⟩ = some (.int .i64 x.pr) ∧ W.cell? ⟨lx, ox + j * 10 + 8, none⟩ = some (.int .u8 (x.lv : Int)) ∧ W.cell? ⟨lx, ox + j * 10 + 9, none⟩ = some (.int .i64 x.sv)) ∧ (W.cell? ⟨ly, oy + j * 10, none⟩ = some (.int .i64 x.d) ∧ W.cell? ⟨ly, oy + j * 10 + 1, none⟩ = some (.int .i64 x.p) ∧ W.cell? ⟨ly, oy + j * 10 + 2, none⟩ = some (.int .u64 (x.dr : Int)) ∧ W.cell? ⟨ly, oy + j * 10 + 3, none⟩ = some (.int .i64 x.n) ∧ W.cell? ⟨ly, oy + j * 10 + 4, none⟩ = some (.slice cy x.code.length dy) ∧ W.cell? ⟨ly, oy + j * 10 + 5, none⟩ = some (.int .u64 (x.bu : Int)) ∧ W.cell? ⟨ly, oy + j * 10 + 6, none⟩ = some (.int .u64 (x.pe : Int)) ∧ W.cell? ⟨ly, oy + j * 10 + 7, none⟩ = some (.int .i64 x.pr) ∧ W.cell? ⟨ly, oy + j * 10 + 8, none⟩ = some (.int .u8 (x.lv : Int)) ∧ W.cell? ⟨ly, oy + j * 10 + 9, none⟩ = some (.int .i64 x.sv)) ∧ Below w3.heap.size w3 W)) (by kernel_rfl) (kpTwod HSx.out) (fun hHeld => ?_)
      refine wpAnyH_take (i := 0) (v := ?_) rfl (by kernel_rfl) (by kernel_rfl) (by kernel_rfl) (fun _ _ _ h => h) (Or.inl ⟨by rfl, ?v0⟩) (by assumption) ?_
      case v0 => (intro w hSw; (try dsimp only at hSw); go_simp; try with_reducible rfl)
      try simp only [Act.put, List.setIfInBounds_toArray, List.set_cons_zero, List.set_cons_succ, List.getElem_toArray, List.getElem_cons_zero]
      refine wpAnyH_take (i := 1) (v := ?_) rfl (by kernel_rfl) (by kernel_rfl) (by kernel_rfl) (fun _ _ _ h => h) (Or.inl ⟨by rfl, ?v1⟩) (by assumption) ?_
      case v1 => (intro w hSw; (try dsimp only at hSw); go_simp; try with_reducible rfl)
      try simp only [Act.put, List.setIfInBounds_toArray, List.set_cons_zero, List.set_cons_succ, List.getElem_toArray, List.getElem_cons_succ, List.getElem_cons_zero]
      refine wpAnyH_take (i := 2) (v := ?_) rfl (by kernel_rfl) (by kernel_rfl) (by kernel_rfl) (fun _ _ _ h => h) (Or.inl ⟨by rfl, ?v2⟩) (by assumption) ?_
      case v2 => (intro w hSw; (try dsimp only at hSw); go_simp; try with_reducible rfl)
      try simp only [Act.put, List.setIfInBounds_toArray, List.set_cons_zero, List.set_cons_succ, List.getElem_toArray, List.getElem_cons_succ, List.getElem_cons_zero]
      refine wpAnyH_take (i := 3) (v := ?_) rfl (by kernel_rfl) (by kernel_rfl) (by kernel_rfl) (fun _ _ _ h => h) (Or.inl ⟨by rfl, ?v3⟩) (by assumption) ?_
      case v3 => (intro w hSw; (try dsimp only at hSw); go_simp; try with_reducible rfl)
      try simp only [Act.put, List.setIfInBounds_toArray, List.set_cons_zero, List.set_cons_succ, List.getElem_toArray, List.getElem_cons_succ, List.getElem_cons_zero]
      refine wpAnyH_take (i := 4) (v := ?_) rfl (by kernel_rfl) (by kernel_rfl) (by kernel_rfl) (fun _ _ _ h => h) (Or.inl ⟨by rfl, ?v4⟩) (by assumption) ?_
      case v4 => (intro w hSw; (try dsimp only at hSw); go_simp; try with_reducible rfl)
      try simp only [Act.put, List.setIfInBounds_toArray, List.set_cons_zero, List.set_cons_succ, List.getElem_toArray, List.getElem_cons_succ, List.getElem_cons_zero]
      refine wpAnyH_take (i := 5) (v := ?_) rfl (by kernel_rfl) (by kernel_rfl) (by kernel_rfl) (fun _ _ _ h => h) (Or.inl ⟨by rfl, ?v5⟩) (by assumption) ?_
      case v5 => (intro w hSw; (try dsimp only at hSw); go_simp; try with_reducible rfl)
      try simp only [Act.put, List.setIfInBounds_toArray, List.set_cons_zero, List.set_cons_succ, List.getElem_toArray, List.getElem_cons_succ, List.getElem_cons_zero]
      refine wpAnyH_take (i := 6) (v := ?_) rfl (by kernel_rfl) (by kernel_rfl) (by kernel_rfl) (fun _ _ _ h => h) (Or.inl ⟨by rfl, ?v6⟩) (by assumption) ?_
      case v6 => (intro w hSw; (try dsimp only at hSw); go_simp; try with_reducible rfl)
      try simp only [Act.put, List.setIfInBounds_toArray, List.set_cons_zero, List.set_cons_succ, List.getElem_toArray, List.getElem_cons_succ, List.getElem_cons_zero]
      refine wpAnyH_take (i := 7) (v := ?_) rfl (by kernel_rfl) (by kernel_rfl) (by kernel_rfl) (fun _ _ _ h => h) (Or.inl ⟨by rfl, ?v7⟩) (by assumption) ?_
      case v7 => (intro w hSw; (try dsimp only at hSw); go_simp; try with_reducible rfl)
      try simp only [Act.put, List.setIfInBounds_toArray, List.set_cons_zero, List.set_cons_succ, List.getElem_toArray, List.getElem_cons_succ, List.getElem_cons_zero]
      refine wpAnyH_ready (rs := [8]) (by kernel_rfl) (by simp) ?_
      refine AllReadyH.cons rfl (fun K hK => ?_) AllReadyH.nil
      go_simp
      have hS := hHeld
      clear hHeld
      refine (HSM.out _ hS.2.2).mono ?_
      rintro e w5 ⟨rfl, hb1⟩
      have hHeld := kpTwo hb1 hS
      clear hS hb1
      dsimp only
      refine hK.out _ _ ?_ (fun hHeld => ?_)
      · exact hHeld
      clear hK K
      try simp only [Act.put, List.setIfInBounds_toArray, List.set_cons_zero, List.set_cons_succ, List.getElem_toArray, List.getElem_cons_succ, List.getElem_cons_zero]
      refine wpAnyH_take (i := 9) (v := ?_) rfl (by kernel_rfl) (by kernel_rfl) (by kernel_rfl) (fun _ _ _ h => h) (Or.inl ⟨by rfl, ?v9⟩) (by assumption) ?_
      case v9 => (intro w hSw; (try dsimp only at hSw); go_simp; try with_reducible rfl)
      try simp only [Act.put, List.setIfInBounds_toArray, List.set_cons_zero, List.set_cons_succ, List.getElem_toArray, List.getElem_cons_succ, List.getElem_cons_zero]
      refine wpAnyH_done (by kernel_rfl) ?_ _
      skip
      go_wp2
      exact ⟨⟨j + 1, by omega, by go_num, hHeld.2.2⟩, by simp [intOf]; omega⟩
    · have hjl' : ¬ (j : Int) < (M.length : Int) := by omega
      have HB4 := veil (HB3.out.trans (hbel.mono HB3.out.size))
      clear hbel HE3 HE3'
      go_wp2_with (first
        | (go_at_call 17; refine (HV.out _).mono ?_; rintro e w8 ⟨rfl, hb8⟩; have HB8 := veil (HB6.out.trans (hb8.mono HB6.out.size)); clear hb8)
        | (go_at_call 18; refine (HD2.out _ HB4.out).mono ?_; rintro e w6 ⟨rfl, hb6⟩; have HB6 := veil (HB4.out.trans (hb6.mono HB4.out.size)); clear hb6))
      go_ret
      exact ⟨rfl, HB8.out⟩
set_option maxHeartbeats 8000000 in
theorem back_all_n_good (w : World) (a0 : Option Addr) (L0 : List En) (cap0 : Nat) (hL0 : L0.length < 9223372036854775808) (hE0 : Ens w a0 L0) (hR : ¬ ∀ x ∈ fewE L0, RightE x)
    (a : Option Addr) (len cap : Nat) (hlen : len ≤ 2000) (hc : len ≤ cap) (hc2 : cap < 9223372036854775808) (X : Nat → Nat) (hB : Byt w a len X) (l : List Nat) (hl : l = (List.range len).map X) (L : List En) (hG : Good l L) :
    Calls Try.prog 5 #[.slice a0 L0.length cap0, .slice a len cap] w fun e w' => e = .returned (.bool true) ∧ Below w.heap.size w w' := by
  have HF := veil (few_ok' w a0 L0 cap0 hL0 hE0)
  have HV := veil live_ok'
  have h60 := fewE_length L0
  clear hE0 hL0
  generalize fewE L0 = M at *
  have h2000 : ¬ 2000 < (len : Int) := by omega
  have hBn := hB
  have hll : l.length = len := by rw [hl]; simp
  have hLL := good_le hG
  have HSB : Hid (Says w (.slice a len cap) (strN l)) := by rw [hl]; exact says_byt hBn
  have HD2 : Hid (∀ W, Below w.heap.size w W → Calls Try.prog 18 #[.slice a len cap] W (DecY W 36 L)) := fun W hb => (dec_ok W _ len cap X (hBn.below hb) (by omega) (by omega) hc2 l hl).mono (fun e w' q => q.good hG)
  have HEN2 := veil (fun W a c (h : Ens W a L) => (encodes W a L c (by omega) h).mono (fun e w' h => h.yes (fun x hx => (hG.1 x hx).1)))
  have HAL : Hid (all L = l) := hG.2.symm
  have HEN := veil (fun W a c (h : Ens W a M) => (encodes W a M c (by omega) h).mono (fun e w' h => h.no hR))
  have hLm' : (L.length : Int) ≤ 2000 := by omega
  clear hG hBn hl hB hR
  go_enter Try.func5, Try.ntmps5
  go_upto_region 14 with (first
    | (go_at_call 11; refine (HEN.out _ _ _ HE1.out).mono ?_; rintro e w2 ⟨rfl, hb2⟩; have HB4 := veil (HB1.out.trans (hb2.mono HB1.out.size)); clear hb2)
    | (go_at_call 10; refine (HF.out).mono ?_; rintro e w1 ⟨a1, c1, rfl, hen, hb1⟩; have HE1 := veil hen; have HB1 := veil hb1; clear hen hb1))
  clear HEN HF HE1 HB1
  go_wp2_with (first
    | (go_at_call 17; refine (HV.out _).mono ?_; rintro e w8 ⟨rfl, hb8⟩; have t1 := HS7.out _ hb8; have t2 := HSB.out _ (HB7.out.trans (hb8.mono HB7.out.size)); have HB8 := veil (HB7.out.trans (hb8.mono HB7.out.size)); clear hb8)
    | (go_at_call 11; refine (HEN2.out _ _ _ HE6.out).mono ?_; rintro e w7 ⟨v7, rfl, ho7, hb7⟩; rw [HAL.out] at ho7; have HS7 := veil (says_u8s ho7); have HB7 := veil (HB6.out.trans (hb7.mono HB6.out.size)); clear ho7 hb7)
    | (go_at_call 18; refine (HD2.out _ HB4.out).mono ?_; rintro e w6 ⟨Z6, v6, hZ6, rfl, hR6, hb6⟩; obtain ⟨a6, c6, rfl, hE6⟩ := hR6.ens; rw [hZ6] at hE6; have hl6 : Z6.length = L.length := (by rw [← hZ6, List.length_map]); rw [hl6]; have HE6 := veil hE6; have HB6 := veil (HB4.out.trans (hb6.mono HB4.out.size)); clear hZ6 hR6 hb6 hE6 hl6))
  go_ret
  exact ⟨by simp, HB8.out⟩
set_option maxHeartbeats 8000000 in
theorem back_all_n_bad (w : World) (a0 : Option Addr) (L0 : List En) (cap0 : Nat) (hL0 : L0.length < 9223372036854775808) (hE0 : Ens w a0 L0) (hR : ¬ ∀ x ∈ fewE L0, RightE x)
    (a : Option Addr) (len cap : Nat) (hlen : len ≤ 2000) (hc : len ≤ cap) (hc2 : cap < 9223372036854775808) (X : Nat → Nat) (hB : Byt w a len X) (l : List Nat) (hl : l = (List.range len).map X) (L : List En) (hG : Bad l L) :
    Calls Try.prog 5 #[.slice a0 L0.length cap0, .slice a len cap] w fun e w' => e = .returned (.bool true) ∧ Below w.heap.size w w' := by
  have HF := veil (few_ok' w a0 L0 cap0 hL0 hE0)
  have HV := veil live_ok'
  have h60 := fewE_length L0
  clear hE0 hL0
  generalize fewE L0 = M at *
  have h2000 : ¬ 2000 < (len : Int) := by omega
  have hBn := hB
  have hll : l.length = len := by rw [hl]; simp
  have hLL := bad_le hG
  have HSB : Hid (Says w (.slice a len cap) (strN l)) := by rw [hl]; exact says_byt hBn
  have HD2 : Hid (∀ W, Below w.heap.size w W → Calls Try.prog 18 #[.slice a len cap] W fun e w' => e = .returned (.tuple #[.slice none 0 0, .int .i64 3, .int .i64 (L.length : Int)]) ∧ Below W.heap.size W w') := fun W hb => (dec_ok W _ len cap X (hBn.below hb) (by omega) (by omega) hc2 l hl).mono (fun e w' q => q.bad hG)
  have HEN := veil (fun W a c (h : Ens W a M) => (encodes W a M c (by omega) h).mono (fun e w' h => h.no hR))
  have hLm' : (L.length : Int) ≤ 2000 := by omega
  clear hG hBn hl hB hR
  go_enter Try.func5, Try.ntmps5
  go_upto_region 14 with (first
    | (go_at_call 11; refine (HEN.out _ _ _ HE1.out).mono ?_; rintro e w2 ⟨rfl, hb2⟩; have HB4 := veil (HB1.out.trans (hb2.mono HB1.out.size)); clear hb2)
    | (go_at_call 10; refine (HF.out).mono ?_; rintro e w1 ⟨a1, c1, rfl, hen, hb1⟩; have HE1 := veil hen; have HB1 := veil hb1; clear hen hb1))
  clear HEN HF HE1 HB1
  go_wp2_with (first
    | (go_at_call 17; refine (HV.out _).mono ?_; rintro e w8 ⟨rfl, hb8⟩; have HB8 := veil (HB6.out.trans (hb8.mono HB6.out.size)); clear hb8)
    | (go_at_call 18; refine (HD2.out _ HB4.out).mono ?_; rintro e w6 ⟨rfl, hb6⟩; have HB6 := veil (HB4.out.trans (hb6.mono HB4.out.size)); clear hb6))
  go_ret
  exact ⟨rfl, HB8.out⟩
end Go.Proofs.Ytnnpbbiiapipaaa
