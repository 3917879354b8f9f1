/-
  ScriptEncodes walked.
-/
import Derived.Test.YtnnpbbiiapipaaaS23
import Derived.OrdersHeld
import Derived.Deep.DeepCutAuto
namespace Go.Proofs.Ytnnpbbiiapipaaa
open Go.RowKit Go.Lib
set_option linter.unusedVariables false
theorem kp10 {w W W1 : World} {k o : Nat} {v0 v1 v2 v3 v4 v5 v6 v7 v8 v9 : Value} (hb : Below W.heap.size W W1) (h : (W.cell? ⟨k, o, none⟩ = some (v0) ∧ W.cell? ⟨k, o + 1, none⟩ = some (v1) ∧ W.cell? ⟨k, o + 2, none⟩ = some (v2) ∧ W.cell? ⟨k, o + 3, none⟩ = some (v3) ∧ W.cell? ⟨k, o + 4, none⟩ = some (v4) ∧ W.cell? ⟨k, o + 5, none⟩ = some (v5) ∧ W.cell? ⟨k, o + 6, none⟩ = some (v6) ∧ W.cell? ⟨k, o + 7, none⟩ = some (v7) ∧ W.cell? ⟨k, o + 8, none⟩ = some (v8) ∧ W.cell? ⟨k, o + 9, none⟩ = some (v9)) ∧ Below w.heap.size w W) : (W1.cell? ⟨k, o, none⟩ = some (v0) ∧ W1.cell? ⟨k, o + 1, none⟩ = some (v1) ∧ W1.cell? ⟨k, o + 2, none⟩ = some (v2) ∧ W1.cell? ⟨k, o + 3, none⟩ = some (v3) ∧ W1.cell? ⟨k, o + 4, none⟩ = some (v4) ∧ W1.cell? ⟨k, o + 5, none⟩ = some (v5) ∧ W1.cell? ⟨k, o + 6, none⟩ = some (v6) ∧ W1.cell? ⟨k, o + 7, none⟩ = some (v7) ∧ W1.cell? ⟨k, o + 8, none⟩ = some (v8) ∧ W1.cell? ⟨k, o + 9, none⟩ = some (v9)) ∧ Below w.heap.size w W1 := by
  obtain ⟨⟨h0, h1, h2, h3, h4, h5, h6, h7, h8, h9⟩, hB⟩ := h
  have hk := World.block_lt_of_cell? W _ h0
  exact ⟨⟨(hb.cell (p := ⟨k, o + 0, none⟩) hk).trans h0, (hb.cell (p := ⟨k, o + 1, none⟩) hk).trans h1, (hb.cell (p := ⟨k, o + 2, none⟩) hk).trans h2, (hb.cell (p := ⟨k, o + 3, none⟩) hk).trans h3, (hb.cell (p := ⟨k, o + 4, none⟩) hk).trans h4, (hb.cell (p := ⟨k, o + 5, none⟩) hk).trans h5, (hb.cell (p := ⟨k, o + 6, none⟩) hk).trans h6, (hb.cell (p := ⟨k, o + 7, none⟩) hk).trans h7, (hb.cell (p := ⟨k, o + 8, none⟩) hk).trans h8, (hb.cell (p := ⟨k, o + 9, none⟩) hk).trans h9⟩, hB.trans (hb.mono hB.size)⟩
theorem kp10d {w W : World} {k o : Nat} {v0 v1 v2 v3 v4 v5 v6 v7 v8 v9 : Value} (h : (W.cell? ⟨k, o, none⟩ = some (v0) ∧ W.cell? ⟨k, o + 1, none⟩ = some (v1) ∧ W.cell? ⟨k, o + 2, none⟩ = some (v2) ∧ W.cell? ⟨k, o + 3, none⟩ = some (v3) ∧ W.cell? ⟨k, o + 4, none⟩ = some (v4) ∧ W.cell? ⟨k, o + 5, none⟩ = some (v5) ∧ W.cell? ⟨k, o + 6, none⟩ = some (v6) ∧ W.cell? ⟨k, o + 7, none⟩ = some (v7) ∧ W.cell? ⟨k, o + 8, none⟩ = some (v8) ∧ W.cell? ⟨k, o + 9, none⟩ = some (v9)) ∧ Below w.heap.size w W) : (W.drew.cell? ⟨k, o, none⟩ = some (v0) ∧ W.drew.cell? ⟨k, o + 1, none⟩ = some (v1) ∧ W.drew.cell? ⟨k, o + 2, none⟩ = some (v2) ∧ W.drew.cell? ⟨k, o + 3, none⟩ = some (v3) ∧ W.drew.cell? ⟨k, o + 4, none⟩ = some (v4) ∧ W.drew.cell? ⟨k, o + 5, none⟩ = some (v5) ∧ W.drew.cell? ⟨k, o + 6, none⟩ = some (v6) ∧ W.drew.cell? ⟨k, o + 7, none⟩ = some (v7) ∧ W.drew.cell? ⟨k, o + 8, none⟩ = some (v8) ∧ W.drew.cell? ⟨k, o + 9, none⟩ = some (v9)) ∧ Below w.heap.size w W.drew := ⟨h.1, below_drew h.2⟩
theorem fewE_d {L : List En} (h : ∀ x ∈ L, (Lit.int .i64 x.d).wf = true) : ∀ x ∈ fewE L, (Lit.int .i64 x.d).wf = true := by
  intro x hx
  unfold fewE at hx
  rw [List.mem_map] at hx
  obtain ⟨y, hy, rfl⟩ := hx
  exact h y (List.mem_of_mem_take hy)
set_option maxHeartbeats 8000000 in
theorem encodes_walk (w : World) (a : Option Addr) (L : List En) (cap : Nat) (hL : L.length < 9223372036854775808) (hE : Ens w a L) (hD : ∀ x ∈ L, (Lit.int .i64 x.d).wf = true) :
    Calls Try.prog 3 #[.slice a L.length cap] w fun e w' => e = .returned (.bool true) ∧ Below w.heap.size w w' := by
  have HF := veil (few_ok' w a L cap hL hE)
  have HV := veil live_ok'
  have h60 := fewE_length L
  have hDM := fewE_d hD
  clear hE hL hD
  generalize fewE L = M at *
  obtain ⟨S, c, hS⟩ := encS_ex M
  have HEN := veil (fun W a c' (h : Ens W a M) => (encodes W a M c' (by omega) h).mono (fun e w' h => h.says hS))
  have HREN := veil (fun W a c' (h : Ens W a M) => (rencodes W a M c' (by omega) h).mono (fun e w' h => h.says hS))
  have HRFS := veil (fun W a c' (h : Ens W a M) => refs_ok W a M c' (by omega) h hDM)
  have HDM := veil hDM
  clear hS hDM
  go_enter Try.func3, Try.ntmps3
  go_wp2_with (first
    | (go_at_call 12; refine (HREN.out _ _ _ HE3.out).mono ?_; rintro e w4 ⟨v4, rfl, hs4, hb4⟩; have HS4 := veil hs4; have HS4' := veil (HS3.out.below hb4); have HE4 := veil (HEM3.out.below hb4); have HB4 := veil (HB3.out.trans (hb4.mono HB3.out.size)); clear hs4 hb4)
    | (go_at_call 13; refine (HRFS.out _ _ _ HE2.out).mono ?_; rintro e w3 ⟨a3, c3, rfl, hen3, hb3⟩; have HE3 := veil hen3; have HEM3 := veil (HE2.out.below hb3); have HS3 := veil (HS2.out.below hb3); have HB3 := veil (HB2.out.trans (hb3.mono HB2.out.size)); clear hen3 hb3)
    | (go_at_call 11; refine (HEN.out _ _ _ HE1.out).mono ?_; rintro e w2 ⟨v2, rfl, hs2, hb2⟩; have HS2 := veil hs2; have HE2 := veil (HE1.out.below hb2); have HB2 := veil (HB1.out.trans (hb2.mono HB1.out.size)); clear hs2 hb2)
    | (go_at_call 10; refine (HF.out).mono ?_; rintro e w1 ⟨a1, c1, rfl, hen, hb1⟩; have HE1 := veil hen; have HB1 := veil hb1; clear hen hb1))
  clear HF HEN HREN HRFS HE1 HE2 HE3 HEM3 HS2 HS3 HB1 HB2 HB3
  go_loopw [8] (fun i wr => ∃ (j : Nat), j ≤ M.length ∧ i = .int .i64 (j : Int) ∧ Below w4.heap.size w4 wr) (fun i _ => M.length - (intOf i).toNat)
  case atStart => exact ⟨0, by omega, rfl, Below.refl _ _⟩
  case round =>
    obtain ⟨j, hj, rfl, hbel⟩ := hrel
    by_cases hjl : j < M.length
    · have hjl' : (j : Int) < (M.length : Int) := by omega
      obtain ⟨x, hx⟩ : ∃ x, M[j]? = some x := ⟨M[j], List.getElem?_eq_getElem hjl⟩
      rcases HE4.out with h0 | ⟨lb, off, rfl, hlb, hc⟩
      · subst h0; simp at hjl
      obtain ⟨ca, cc, he0⟩ := hc j x hx
      have he := he0.below hlb hbel
      have HSx : Hid ((wr.cell? ⟨lb, off + j * 10, none⟩ = some (.int .i64 x.d) ∧ wr.cell? ⟨lb, off + j * 10 + 1, none⟩ = some (.int .i64 x.p) ∧ wr.cell? ⟨lb, off + j * 10 + 2, none⟩ = some (.int .u64 (x.dr : Int)) ∧ wr.cell? ⟨lb, off + j * 10 + 3, none⟩ = some (.int .i64 x.n) ∧ wr.cell? ⟨lb, off + j * 10 + 4, none⟩ = some (.slice ca x.code.length cc) ∧ wr.cell? ⟨lb, off + j * 10 + 5, none⟩ = some (.int .u64 (x.bu : Int)) ∧ wr.cell? ⟨lb, off + j * 10 + 6, none⟩ = some (.int .u64 (x.pe : Int)) ∧ wr.cell? ⟨lb, off + j * 10 + 7, none⟩ = some (.int .i64 x.pr) ∧ wr.cell? ⟨lb, off + j * 10 + 8, none⟩ = some (.int .u8 (x.lv : Int)) ∧ wr.cell? ⟨lb, off + j * 10 + 9, none⟩ = some (.int .i64 x.sv)) ∧ Below w4.heap.size w4 wr) := ⟨⟨he.c0, he.c1, he.c2, he.c3, he.c4, he.c5, he.c6, he.c7, he.c8, he.c9⟩, hbel⟩
      have HR := veil (fun W (hb : Below w4.heap.size w4 W) => right_b W x ca cc (he0.cod.below hb) he0.len)
      have HRR := veil (fun W (hb : Below w4.heap.size w4 W) => rright_b W x ca cc (he0.cod.below hb) he0.len)
      have HRF := veil (fun W => ref_ok W x ca cc (HDM.out x (List.mem_of_getElem? hx)))
      generalize rtB x = B at *
      clear hbel hc hx he he0 HDM HE4 HS4 HS4' HV
      go_wp2_with fail
      refine wp_region_held_drew (S := (fun W => (W.cell? ⟨lb, off + j * 10, none⟩ = some (.int .i64 x.d) ∧ W.cell? ⟨lb, off + j * 10 + 1, none⟩ = some (.int .i64 x.p) ∧ W.cell? ⟨lb, off + j * 10 + 2, none⟩ = some (.int .u64 (x.dr : Int)) ∧ W.cell? ⟨lb, off + j * 10 + 3, none⟩ = some (.int .i64 x.n) ∧ W.cell? ⟨lb, off + j * 10 + 4, none⟩ = some (.slice ca x.code.length cc) ∧ W.cell? ⟨lb, off + j * 10 + 5, none⟩ = some (.int .u64 (x.bu : Int)) ∧ W.cell? ⟨lb, off + j * 10 + 6, none⟩ = some (.int .u64 (x.pe : Int)) ∧ W.cell? ⟨lb, off + j * 10 + 7, none⟩ = some (.int .i64 x.pr) ∧ W.cell? ⟨lb, off + j * 10 + 8, none⟩ = some (.int .u8 (x.lv : Int)) ∧ W.cell? ⟨lb, off + j * 10 + 9, none⟩ = some (.int .i64 x.sv)) ∧ Below w4.heap.size w4 W)) (by kernel_rfl) (kp10d HSx.out) (fun hHeld => ?_)
      refine wpAnyH_take (i := 0) (v := ?_) rfl (by kernel_rfl) (by kernel_rfl) (by kernel_rfl) (fun _ _ _ h => h) (Or.inl ⟨by rfl, ?v0⟩) (by assumption) ?_
      case v0 => (intro w hSw; (try dsimp only at hSw); go_simp; try with_reducible rfl)
      try simp only [Act.put, List.setIfInBounds_toArray, List.set_cons_zero, List.set_cons_succ, List.getElem_toArray, List.getElem_cons_zero]
      refine wpAnyH_take (i := 1) (v := ?_) rfl (by kernel_rfl) (by kernel_rfl) (by kernel_rfl) (fun _ _ _ h => h) (Or.inl ⟨by rfl, ?v1⟩) (by assumption) ?_
      case v1 => (intro w hSw; (try dsimp only at hSw); go_simp; try with_reducible rfl)
      try simp only [Act.put, List.setIfInBounds_toArray, List.set_cons_zero, List.set_cons_succ, List.getElem_toArray, List.getElem_cons_succ, List.getElem_cons_zero]
      refine wpAnyH_take (i := 2) (v := ?_) rfl (by kernel_rfl) (by kernel_rfl) (by kernel_rfl) (fun _ _ _ h => h) (Or.inl ⟨by rfl, ?v2⟩) (by assumption) ?_
      case v2 => (intro w hSw; (try dsimp only at hSw); go_simp; try with_reducible rfl)
      try simp only [Act.put, List.setIfInBounds_toArray, List.set_cons_zero, List.set_cons_succ, List.getElem_toArray, List.getElem_cons_succ, List.getElem_cons_zero]
      refine wpAnyH_take (i := 3) (v := ?_) rfl (by kernel_rfl) (by kernel_rfl) (by kernel_rfl) (fun _ _ _ h => h) (Or.inl ⟨by rfl, ?v3⟩) (by assumption) ?_
      case v3 => (intro w hSw; (try dsimp only at hSw); go_simp; try with_reducible rfl)
      try simp only [Act.put, List.setIfInBounds_toArray, List.set_cons_zero, List.set_cons_succ, List.getElem_toArray, List.getElem_cons_succ, List.getElem_cons_zero]
      refine wpAnyH_take (i := 5) (v := ?_) rfl (by kernel_rfl) (by kernel_rfl) (by kernel_rfl) (fun _ _ _ h => h) (Or.inl ⟨by rfl, ?v5⟩) (by assumption) ?_
      case v5 => (intro w hSw; (try dsimp only at hSw); go_simp; try with_reducible rfl)
      try simp only [Act.put, List.setIfInBounds_toArray, List.set_cons_zero, List.set_cons_succ, List.getElem_toArray, List.getElem_cons_succ, List.getElem_cons_zero]
      refine wpAnyH_take (i := 6) (v := ?_) rfl (by kernel_rfl) (by kernel_rfl) (by kernel_rfl) (fun _ _ _ h => h) (Or.inl ⟨by rfl, ?v6⟩) (by assumption) ?_
      case v6 => (intro w hSw; (try dsimp only at hSw); go_simp; try with_reducible rfl)
      try simp only [Act.put, List.setIfInBounds_toArray, List.set_cons_zero, List.set_cons_succ, List.getElem_toArray, List.getElem_cons_succ, List.getElem_cons_zero]
      refine wpAnyH_take (i := 7) (v := ?_) rfl (by kernel_rfl) (by kernel_rfl) (by kernel_rfl) (fun _ _ _ h => h) (Or.inl ⟨by rfl, ?v7⟩) (by assumption) ?_
      case v7 => (intro w hSw; (try dsimp only at hSw); go_simp; try with_reducible rfl)
      try simp only [Act.put, List.setIfInBounds_toArray, List.set_cons_zero, List.set_cons_succ, List.getElem_toArray, List.getElem_cons_succ, List.getElem_cons_zero]
      refine wpAnyH_take (i := 8) (v := ?_) rfl (by kernel_rfl) (by kernel_rfl) (by kernel_rfl) (fun _ _ _ h => h) (Or.inl ⟨by rfl, ?v8⟩) (by assumption) ?_
      case v8 => (intro w hSw; (try dsimp only at hSw); go_simp; try with_reducible rfl)
      try simp only [Act.put, List.setIfInBounds_toArray, List.set_cons_zero, List.set_cons_succ, List.getElem_toArray, List.getElem_cons_succ, List.getElem_cons_zero]
      refine wpAnyH_ready (rs := [4]) (by kernel_rfl) (by simp) ?_
      refine AllReadyH.cons rfl (fun K hK => ?_) AllReadyH.nil
      go_simp
      have hS := hHeld
      clear hHeld
      refine (HR.out _ hS.2).mono ?_
      rintro e w5 ⟨rfl, hb1⟩
      have hHeld := kp10 hb1 hS
      clear hS hb1
      dsimp only
      refine hK.out _ _ ?_ (fun hHeld => ?_)
      · exact hHeld
      clear hK K
      try simp only [Act.put, List.setIfInBounds_toArray, List.set_cons_zero, List.set_cons_succ, List.getElem_toArray, List.getElem_cons_succ, List.getElem_cons_zero]
      refine wpAnyH_ready (rs := [9]) (by kernel_rfl) (by simp) ?_
      refine AllReadyH.cons rfl (fun K hK => ?_) AllReadyH.nil
      go_simp
      have hS := hHeld
      clear hHeld
      refine (HRF.out _).mono ?_
      rintro e w5 ⟨rfl, hb1⟩
      have hHeld := kp10 hb1 hS
      clear hS hb1
      dsimp only
      refine hK.out _ _ ?_ (fun hHeld => ?_)
      · exact hHeld
      clear hK K
      try simp only [Act.put, List.setIfInBounds_toArray, List.set_cons_zero, List.set_cons_succ, List.getElem_toArray, List.getElem_cons_succ, List.getElem_cons_zero]
      refine wpAnyH_ready (rs := [10]) (by kernel_rfl) (by simp) ?_
      refine AllReadyH.cons rfl (fun K hK => ?_) AllReadyH.nil
      go_simp
      have hS := hHeld
      clear hHeld
      refine (HRR.out _ hS.2).mono ?_
      rintro e w5 ⟨rfl, hb1⟩
      have hHeld := kp10 hb1 hS
      clear hS hb1
      dsimp only
      refine hK.out _ _ ?_ (fun hHeld => ?_)
      · exact hHeld
      clear hK K
      try simp only [Act.put, List.setIfInBounds_toArray, List.set_cons_zero, List.set_cons_succ, List.getElem_toArray, List.getElem_cons_succ, List.getElem_cons_zero]
      refine wpAnyH_take (i := 11) (v := ?_) rfl (by kernel_rfl) (by kernel_rfl) (by kernel_rfl) (fun _ _ _ h => h) (Or.inl ⟨by rfl, ?v11⟩) (by assumption) ?_
      case v11 => (intro w hSw; (try dsimp only at hSw); go_simp; try with_reducible rfl)
      try simp only [Act.put, List.setIfInBounds_toArray, List.set_cons_zero, List.set_cons_succ, List.getElem_toArray, List.getElem_cons_succ, List.getElem_cons_zero]
      refine wpAnyH_done (by kernel_rfl) ?_ _
      skip
      go_wp2
      exact ⟨⟨j + 1, by omega, by go_num, hHeld.2⟩, by simp [intOf]; omega⟩
    · have hjl' : ¬ (j : Int) < (M.length : Int) := by omega
      have HB5 := veil (HB4.out.trans (hbel.mono HB4.out.size))
      have hq1 := HS4.out
      have HT := veil (fun W (hb : Below wr.heap.size wr W) => HS4.out W (hbel.trans (hb.mono hbel.size)))
      have HT' := veil (fun W (hb : Below wr.heap.size wr W) => HS4'.out W (hbel.trans (hb.mono hbel.size)))
      clear hbel hq1 HS4 HS4'
      go_wp2_with (go_at_call 17; refine (HV.out _).mono ?_; rintro e w6 ⟨rfl, hb6⟩; have t1 := HT.out _ hb6; have t2 := HT'.out _ hb6; have HB6 := veil (HB5.out.trans (hb6.mono HB5.out.size)); clear hb6)
      go_ret
      exact ⟨by simp, HB6.out⟩
end Go.Proofs.Ytnnpbbiiapipaaa
