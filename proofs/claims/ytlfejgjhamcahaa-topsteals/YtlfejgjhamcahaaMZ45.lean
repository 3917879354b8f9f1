/-
  The walk of topKey.
-/
import Derived.Test.YtlfejgjhamcahaaMZ44
namespace Go.Proofs.Ytlfejgjhamcahaa
open Go.RowKit Go.Lib
set_option linter.unusedVariables false
attribute [local go_sem ↓] Go.wp_at_zero Go.wp_at_succ

theorem RD.lst_le {w : World} {D : Nat → Prop} {base rb n np q : Nat} {G : List (List En)} (h : RD w D base rb n np q G) (i : Int) : (lst (gh G) i).length ≤ 1024 := by
  obtain ⟨v, X, hD, rfl, hO⟩ := h
  rw [lst_eq (Ms_gh _)]
  unfold lst
  split
  · rw [idE_len]
    cases hx : X[i.toNat]? with
    | none => unfold MM; rw [hx]; simp
    | some x => rw [MM_at hx]; exact hD.mlen hx
  · simp
theorem fr_set_new {S : Nat → Prop} {w w' : World} (h : Fr S w w') {b o : Nat} {v : Value} (hb : w.heap.size ≤ b) : Fr S w (w'.setCell ⟨b, o, none⟩ v) :=
  ⟨h.os, h.tape, h.output, by simpa using h.size, fun k hk hn => (Below.heap_setCell _ _ _ _ (fun e => by have e : b = k := e.symm; omega)).trans (h.block k hk hn)⟩
theorem lst_nat (G : List (List En)) (i : Int) : ∀ z ∈ lst (gh G) i, ∃ e : Nat, z = (e : Int) := by
  intro z hz
  unfold lst at hz
  split at hz
  · unfold idE at hz
    obtain ⟨y, _, rfl⟩ := List.mem_map.1 hz
    exact ⟨_, rfl⟩
  · cases hz
set_option maxHeartbeats 8000000 in
set_option maxRecDepth 20000 in
theorem topKey_ok (w : World) (D : Nat → Prop) (base rb np q : Nat) (G : List (List En)) (h : RD w D base rb 10 np q G) (hnp4 : np ≤ 4) (hu : Un (gh G)) (at' : Nat) (y : En) (hy : ∃ M, G[at']? = some M ∧ y ∈ M) :
    Calls Try.prog 21 #[.pointer (some ⟨rb, 0, none⟩), .int .i64 (at' : Int), .int .i64 (y.1 : Int)] w fun e w' => e = .returned (.agg #[.bool y.2.e, .int .u64 y.2.d, .int .u8 y.2.l]) ∧ Fr D w w' := by
  have HND : Hid (∀ (k : Nat) (M : List En), G[k]? = some M → (M.map (·.1)).Nodup) := fun k M hM => (h.at hM).1
  obtain ⟨_, hnp, hgl⟩ := h.facts
  have HU := veil hu
  have HI0 := veil (TkI.start hy)
  have HR0 := veil (h.below ((Below.refl _ _).alloc (Nat.le_refl _) (.cells #[.bool false, .int .u64 0, .int .u8 0] 25)))
  have HDL := veil h.lt
  have HBX := veil (World.alloc_heap_new w (.cells #[.bool false, .int .u64 0, .int .u8 0] 25))
  have hy10 : y.1 < 10 := by
    obtain ⟨M, hM, hm⟩ := hy
    exact (h.at hM).2 y hm
  clear h hu hy
  go_enter Try.func21, Try.ntmps21
  go_wp2
  go_loopw [7] (fun iv wr => ∃ (i : Nat) (G2 : List (List En)), i ≤ 6 ∧ iv = .int .i64 (i : Int) ∧ TkI G at' y i 0 (lst (gh G2) (i : Int)) G2 ∧ RD wr D base rb 10 np q G2 ∧ Fr D (w.alloc (.cells #[.bool false, .int .u64 0, .int .u8 0] 25)) wr) (fun iv _ => 6 - (intOf iv).toNat)
  case atStart => exact ⟨0, G, by omega, rfl, HI0.out, HR0.out, Fr.refl _ _⟩
  case round =>
    obtain ⟨i, G2, hi, rfl, hT, hR, hF⟩ := hrel
    have HT := veil hT
    have HR := veil hR
    have HF := veil hF
    clear hT hR hF
    by_cases hil : i < 6
    · have hil' : (i : Int) < 6 := by omega
      have HLI := veil (HR.out.list (i : Int))
      have hl1024 := HR.out.lst_le (i : Int)
      have HZN := veil (lst_nat G2 (i : Int))
      generalize hll : lst (gh G2) (i : Int) = l at *
      clear hll
      go_wp2_with (go_at_call 40; refine (HLI.out).mono ?_; rintro e w4 ⟨v4, rfl, hI4, hb⟩; have HI4 := veil hI4; have HB4 := veil hb; obtain ⟨av, cv, rfl⟩ := hI4.slice; clear hb hI4)
      have HR4 := veil (HR.out.below HB4.out)
      have HF4 : Hid (Fr D (w.alloc (.cells #[.bool false, .int .u64 0, .int .u8 0] 25)) w4) := HF.out.trans (Fr.of_below' HB4.out)
      have hsz : w.heap.size ≤ wr.heap.size := by have := HF.out.size; simp at this; omega
      generalize wr = Wo at *
      go_loopw [9] (fun jv wr => ∃ (j : Nat) (G3 : List (List En)), j ≤ l.length ∧ jv = .int .i64 (j : Int) ∧ TkI G at' y i j l G3 ∧ RD wr D base rb 10 np q G3 ∧ Fr D w4 wr) (fun jv _ => l.length - (intOf jv).toNat)
      case atStart => exact ⟨0, G2, by omega, rfl, HT.out, HR4.out, Fr.refl _ _⟩
      case round =>
        obtain ⟨j, G3, hj, rfl, hT3, hR3, hF3⟩ := hrel
        have HR3 := veil hR3
        have HF3 := veil hF3
        by_cases hjl : j < l.length
        · have hjl' : (j : Int) < (l.length : Int) := by omega
          obtain ⟨z, hz⟩ : ∃ z, l[j]? = some z := ⟨_, List.getElem?_eq_getElem hjl⟩
          have hcell : ∃ g, av = some ⟨g, 0, none⟩ ∧ wr.cell? ⟨g, j, none⟩ = some (.int .i64 z) := by
            have hne : l ≠ [] := by intro e; rw [e] at hjl; simp at hjl
            have hI5 : Dc.IL wr Wo.heap.size (.slice av l.length cv) l := owns_at HI4.out hF3 (fun k hk e => by have := (Dc.own_ge HI4.out k hk).1; have := HDL.out k e; omega)
            obtain ⟨g, cg, e, _, _, h3⟩ := hI5.cells hne
            simp at e
            refine ⟨g, e.1, ?_⟩
            rw [h3 j hjl]
            simp [List.getD, hz]
          obtain ⟨g, rfl, hc1⟩ := hcell
          by_cases hzy : z = (y.1 : Int)
          · have HT4 := veil (hT3.pass hz hzy)
            clear hT3 hR3 hF3 hz
            subst hzy
            go_wp2
            go_roundw
            case rel => exact ⟨j + 1, G3, by omega, by go_num, HT4.out, HR3.out, HF3.out⟩
            case measure => simp [intOf]; omega
          · have hz0 : ∃ e : Nat, z = (e : Int) := HZN.out z (List.mem_of_getElem? hz)
            obtain ⟨e, rfl⟩ := hz0
            have HT4 := veil (hT3.took HU.out 10 (fun k M2 hM => (HR3.out.at hM).2) hz (by omega))
            have HRM := veil (HR3.out.remove (e : Int))
            have hne : ((e : Int) != (y.1 : Int)) = true := by simp; omega
            clear hT3 hR3 hF3 hz
            generalize premC 10 (gh G3) (e : Int) = pc at *
            generalize premG 10 (gh G3) (e : Int) = G4 at *
            go_wp2_with (go_at_call 48; refine (HRM.out).mono ?_; rintro e' w5 ⟨rfl, hr5, hf5⟩; have HR5 := veil hr5; have HF5 := veil (HF3.out.trans hf5); clear hr5 hf5)
            go_roundw
            case rel => exact ⟨j + 1, G4, by omega, by go_num, HT4.out, HR5.out, HF5.out⟩
            case measure => simp [intOf]; omega
        · have hjl' : ¬ (j : Int) < (l.length : Int) := by omega
          have HT4 := veil (hT3.next (by omega))
          have HF5 := veil (HF4.out.trans hF3)
          clear hT3 hR3 hF3
          go_wp2
          go_roundw
          case rel => exact ⟨i + 1, G3, by omega, by go_num, HT4.out, HR3.out, HF5.out⟩
          case measure => simp [intOf]; omega
    · have hil' : ¬ (i : Int) < 6 := by omega
      have HK := veil (HT.out.last HU.out HND.out (np := np) (by omega) hgl (by omega))
      have HB := veil (HR.out.best 0 0 (by omega))
      rw [HK.out] at HB
      generalize bI (gh G2) (bb np (gh G2) 0 0) = ti at *
      generalize bA (bb np (gh G2) 0 0) = ta at *
      generalize (bb np (gh G2) 0 0).isSome = ob at *
      obtain ⟨yi, yk⟩ := y
      simp only at HB HK
      go_wp2_with (go_at_call 37; refine (HB.out).mono ?_; rintro e w5 ⟨rfl, hb5⟩; have HF5 : Hid (Fr D (w.alloc (.cells #[.bool false, .int .u64 0, .int .u8 0] 25)) w5) := HF.out.trans (Fr.of_below' hb5); have hbx5 := (HF5.out.block w.heap.size (by simp) (fun q => by have := HDL.out _ q; omega)).trans HBX.out; have n0 := (blk_cell hbx5 0).1; have n1 := (blk_cell hbx5 1).1; have n2 := (blk_cell hbx5 2).1; have f0 := (blk_cell hbx5 0).2; have f1 := (blk_cell hbx5 1).2; have f2 := (blk_cell hbx5 2).2; simp only [List.getElem?_toArray, List.getElem?_cons_zero, List.getElem?_cons_succ] at n0 n1 n2; have hs5 : w.heap.size < w5.heap.size := (by have h1 := hb5.size; have h2 := HF.out.size; simp at h2; omega); have z0 : ¬ w.heap.size = w5.heap.size := (by omega); have z1 : ¬ w5.heap.size = w.heap.size := (by omega); have HBX5 := veil hbx5; clear hb5 hbx5)
      have hkb := (Below.heap_alloc (key3 w5 w.heap.size yk) (.cells #[.bool yk.e, .int .u64 yk.d, .int .u8 yk.l] 25) w.heap.size (by have := (fr_key3 w5 w.heap.size yk).size; omega)).trans (blk_key3 (k0 := ⟨false, 0, 0⟩) (k1 := yk) HBX5.out)
      have g0 := (blk_cell hkb 0).1
      have g1 := (blk_cell hkb 1).1
      have g2 := (blk_cell hkb 2).1
      simp only [List.getElem?_toArray, List.getElem?_cons_zero, List.getElem?_cons_succ] at g0 g1 g2
      have h0 : Fr D w w5 := ((Fr.refl D w).alloc (.cells #[.bool false, .int .u64 0, .int .u8 0] 25)).trans HF5.out
      have HFE : Hid (Fr D w ((key3 w5 w.heap.size yk).alloc (.cells #[.bool yk.e, .int .u64 yk.d, .int .u8 yk.l] 25))) := (fr_set_new (fr_set_new (fr_set_new h0 (Nat.le_refl _)) (Nat.le_refl _)) (Nat.le_refl _)).alloc _
      have hkk : ((((w5.setCell ⟨w.heap.size, 0, none⟩ (.bool yk.e)).setCell ⟨w.heap.size, 1, none⟩ (.int .u64 yk.d)).setCell ⟨w.heap.size, 2, none⟩ (.int .u8 yk.l)).alloc (.cells #[.bool yk.e, .int .u64 yk.d, .int .u8 yk.l] 25)) = (key3 w5 w.heap.size yk).alloc (.cells #[.bool yk.e, .int .u64 yk.d, .int .u8 yk.l] 25) := rfl
      rw [hkk]
      generalize (key3 w5 w.heap.size yk).alloc (.cells #[.bool yk.e, .int .u64 yk.d, .int .u8 yk.l] 25) = W6 at *
      refine bodyPost_ret (v := .agg #[.bool yk.e, .int .u64 yk.d, .int .u8 yk.l]) ?_ rfl ?_
      · simp [results, Try.f21, go_sem, g0, g1, g2]
      exact ⟨rfl, HFE.out⟩
end Go.Proofs.Ytlfejgjhamcahaa
