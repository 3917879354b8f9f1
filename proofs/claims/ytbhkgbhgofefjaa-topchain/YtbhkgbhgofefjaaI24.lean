/- foremost: the place of the most urgent one in a line. -/
import Derived.Test.YtbhkgbhgofefjaaI23
namespace Go.Proofs.Ytbhkgbhgofefjaa
open Go.RowKit Go.Lib
set_option linter.unusedVariables false
/-- The place of the most urgent of the first n, and its key; -1: none yet. -/
def foreTo (g : Nat → K) (l : List Nat) : Nat → Int × K
  | 0 => (-1, fixK 0)
  | n + 1 => if (foreTo g l n).1 = -1 ∨ up (g (l[n]?.getD 0)) (foreTo g l n).2 = true then ((n : Int), g (l[n]?.getD 0)) else foreTo g l n
section
variable {w : World} {s : Nat} {T : List Th} {L : List Lk} {n0 gt ct cap : Nat} {a : Option Addr} {ln : Nat → Option Addr × Nat}
set_option maxRecDepth 100000 in
set_option maxHeartbeats 2000000 in
theorem fore_v (h : Vw n0 w s gt ct a cap ln T L) (f : Vf T L) (hn : n0 ≤ w.heap.size) (l : List Nat) (va : Option Addr) (vc : Nat) (hl : ∀ x ∈ l, x < T.length) (h1 : l.length ≤ vc) (h2 : vc ≤ maxLen)
    (hc : ∀ (i : Nat) (x : Nat), l[i]? = some x → ∃ gg, va = some ⟨gg, 0, none⟩ ∧ gg < n0 ∧ w.cell? ⟨gg, i, none⟩ = some (.int .i64 (x : Int))) :
    Calls Try.prog 50 #[.pointer (some ⟨s, 0, none⟩), .slice va l.length vc] w fun e w' => e = .returned (.int .i64 (foreTo (keyOf T L) l l.length).1) ∧ Below w.heap.size w w' := by
  have HC := veil hc
  have HV := veil h
  have HF := veil f
  have HL := veil hl
  clear h hc hl
  have h3 : l.length ≤ 9223372036854775807 := by unfold maxLen at h2; omega
  go_enter Try.func50, Try.ntmps50
  go_wp2
  go_loopw [5, 12] (fun b i wr => ∃ (j : Nat), j ≤ l.length ∧ i = .int .i64 j ∧ b = .int .i64 (foreTo (keyOf T L) l j).1 ∧ KBox wr w.heap.size (foreTo (keyOf T L) l j).2 ∧ Below w.heap.size w wr) (fun _ i _ => l.length - (intOf i).toNat)
  case atStart => exact ⟨0, by omega, rfl, rfl, World.alloc_heap_new w _, (Below.refl _ w).alloc (Nat.le_refl _) _⟩
  case round =>
    obtain ⟨j, hj, rfl, rfl, hkb, hbe⟩ := hrel
    by_cases hjl : j < l.length
    · have hjl' : (j : Int) < (l.length : Int) := by omega
      obtain ⟨x, hx⟩ : ∃ x, l[j]? = some x := ⟨_, List.getElem?_eq_getElem hjl⟩
      obtain ⟨gg, rfl, hgg, x0'⟩ := HC.out j x hx
      have x0 := (hbe.cell (p := ⟨gg, j, none⟩) (Nat.lt_of_lt_of_le hgg hn)).trans x0'
      clear x0'
      have hxl := HL.out x (List.mem_of_getElem? hx)
      have HKY := veil (key_yes (HV.out.below (hbe.mono hn)) HF.out (Nat.le_trans hn hbe.size) x hxl)
      have enext : Hid (foreTo (keyOf T L) l (j + 1) = if (foreTo (keyOf T L) l j).1 = -1 ∨ up (keyOf T L x) (foreTo (keyOf T L) l j).2 = true then ((j : Int), keyOf T L x) else foreTo (keyOf T L) l j) := by
        show _ = _
        rw [foreTo, hx, Option.getD_some]
      generalize hG : foreTo (keyOf T L) l (j + 1) = G at enext
      replace hG := veil hG
      generalize foreTo (keyOf T L) l j = F at hkb enext ⊢
      generalize keyOf T L x = kx at HKY enext
      obtain ⟨b, m⟩ := F
      dsimp only at hkb enext ⊢
      have HB := veil hbe
      have HK := veil hkb
      have HI := veil (show j + 1 ≤ l.length from hjl)
      clear hbe hkb hx
      by_cases hb : b = -1
      · subst hb
        have eG := enext.out
        rw [if_pos (.inl rfl)] at eG
        replace eG := veil eG
        go_wp2_with (go_at_call 24; refine (HKY.out).mono ?_; rintro e w1 ⟨rfl, hb1⟩; have HB1 := veil (HB.out.trans (hb1.mono HB.out.size)); have HK1 := veil (HK.out.below hb1); clear hb1)
        have HW3 : Hid (KBox (w1.alloc (.cells #[.bool kx.e, .int .u64 kx.d, .int .u8 kx.l] 36)) w1.heap.size kx ∧ KBox (w1.alloc (.cells #[.bool kx.e, .int .u64 kx.d, .int .u8 kx.l] 36)) w.heap.size m ∧ Below w.heap.size w (w1.alloc (.cells #[.bool kx.e, .int .u64 kx.d, .int .u8 kx.l] 36)) ∧ w1.heap.size ≠ w.heap.size) := ⟨World.alloc_heap_new w1 _, HK1.out.alloc _, HB1.out.alloc HB1.out.size _, by have := HK1.out.lt; omega⟩
        clear HB1 HK1 HKY HK HB
        generalize w1.alloc (.cells #[.bool kx.e, .int .u64 kx.d, .int .u8 kx.l] 36) = W3 at HW3 ⊢
        generalize w1.heap.size = q at HW3 ⊢
        have hq3 := HW3.out
        obtain ⟨kq, km, hbw, hqn⟩ := hq3
        have a0 := kq.at.1
        have a1 := kq.at.2.1
        have a2 := kq.at.2.2
        have m0 := km.at.1
        have m1 := km.at.2.1
        have m2 := km.at.2.2
        have fz := km.frozen
        have HKM := veil km
        have HBW := veil hbw
        have hSS : ∀ (p : Prop), p → p := fun _ h => h
        have hS1 := veil (And.intro a0 (And.intro a1 a2))
        have hS2 : Hid (W3.drew.cell? ⟨q, 0, none⟩ = some (.bool kx.e) ∧ W3.drew.cell? ⟨q, 1, none⟩ = some (.int .u64 kx.d) ∧ W3.drew.cell? ⟨q, 2, none⟩ = some (.int .u8 kx.l)) := ⟨a0, a1, a2⟩
        have e3 : (((W3.setCell ⟨w.heap.size, 0, none⟩ (.bool kx.e)).setCell ⟨w.heap.size, 1, none⟩ (.int .u64 kx.d)).setCell ⟨w.heap.size, 2, none⟩ (.int .u8 kx.l)).heap[q]? = W3.heap[q]? := by
          rw [Below.heap_setCell _ _ _ _ hqn, Below.heap_setCell _ _ _ _ hqn, Below.heap_setCell _ _ _ _ hqn]
        have hS3 : Hid ((((W3.setCell ⟨w.heap.size, 0, none⟩ (.bool kx.e)).setCell ⟨w.heap.size, 1, none⟩ (.int .u64 kx.d)).setCell ⟨w.heap.size, 2, none⟩ (.int .u8 kx.l)).drew.cell? ⟨q, 0, none⟩ = some (.bool kx.e) ∧ (((W3.setCell ⟨w.heap.size, 0, none⟩ (.bool kx.e)).setCell ⟨w.heap.size, 1, none⟩ (.int .u64 kx.d)).setCell ⟨w.heap.size, 2, none⟩ (.int .u8 kx.l)).drew.cell? ⟨q, 1, none⟩ = some (.int .u64 kx.d) ∧ (((W3.setCell ⟨w.heap.size, 0, none⟩ (.bool kx.e)).setCell ⟨w.heap.size, 1, none⟩ (.int .u64 kx.d)).setCell ⟨w.heap.size, 2, none⟩ (.int .u8 kx.l)).drew.cell? ⟨q, 2, none⟩ = some (.int .u8 kx.l)) :=
          ⟨(World.cell?_of_block e3).trans a0, (World.cell?_of_block e3).trans a1, (World.cell?_of_block e3).trans a2⟩
        clear kq km hbw hSS
        go_region_held3 (fun w' => (w'.cell? ⟨q, 0, none⟩ = some (.bool kx.e) ∧ w'.cell? ⟨q, 1, none⟩ = some (.int .u64 kx.d) ∧ w'.cell? ⟨q, 2, none⟩ = some (.int .u8 kx.l)))
          (first | with_reducible exact hS1.out | with_reducible exact hS2.out | with_reducible exact hS3.out)
          (first | fail)
        all_goals go_wp2
        all_goals go_roundw
        case rel =>
          refine ⟨j + 1, HI.out, by go_num, ?_, ?_, ?_⟩
          · rw [hG.out, eG.out]
          · rw [hG.out, eG.out]
            exact HKM.out.set kx
          · exact (((HBW.out.setCell (p := ⟨w.heap.size, 0, none⟩) (by simp) _).setCell (p := ⟨w.heap.size, 1, none⟩) (by simp) _).setCell (p := ⟨w.heap.size, 2, none⟩) (by simp) _).drew
        case measure => simp [intOf]; omega
      · have hbb : (b == -1) = false := by simpa using hb
        have HAB := veil (fun w' => above_ok w' kx m)
        cases hu : up kx m with
        | true =>
          rw [hu] at HAB
          have eG := enext.out
          rw [if_pos (.inr hu)] at eG
          replace eG := veil eG
          go_wp2_with (first
            | (go_at_call 24; refine (HKY.out).mono ?_; rintro e w1 ⟨rfl, hb1⟩; have HB1 := veil (HB.out.trans (hb1.mono HB.out.size)); have HK1 := veil (HK.out.below hb1); have m0 := HK1.out.at.1; have m1 := HK1.out.at.2.1; have m2 := HK1.out.at.2.2; have hwl := HK1.out.lt; clear hb1)
            | (go_at_call 57; refine (HAB.out _).mono ?_; rintro e w2 ⟨rfl, hb2⟩; replace hb2 := veil hb2))
          have HW3 : Hid (KBox w2 w1.heap.size kx ∧ KBox w2 w.heap.size m ∧ Below w.heap.size w w2 ∧ w1.heap.size ≠ w.heap.size) := ⟨KBox.below (World.alloc_heap_new w1 _) hb2.out, (HK1.out.alloc _).below hb2.out, (HB1.out.alloc HB1.out.size _).trans (hb2.out.mono (by have := HB1.out.size; simp; omega)), by omega⟩
          clear HB1 HK1 HKY HK HB hb2 m0 m1 m2
          obtain ⟨W3, rfl⟩ : ∃ W3, W3 = w2 := ⟨_, rfl⟩
          generalize w1.heap.size = q at HW3 ⊢
          have hq3 := HW3.out
          obtain ⟨kq, km, hbw, hqn⟩ := hq3
          have a0 := kq.at.1
          have a1 := kq.at.2.1
          have a2 := kq.at.2.2
          have m0 := km.at.1
          have m1 := km.at.2.1
          have m2 := km.at.2.2
          have fz := km.frozen
          have HKM := veil km
          have HBW := veil hbw
          have hSS : ∀ (p : Prop), p → p := fun _ h => h
          have hS1 := veil (And.intro a0 (And.intro a1 a2))
          have hS2 : Hid (W3.drew.cell? ⟨q, 0, none⟩ = some (.bool kx.e) ∧ W3.drew.cell? ⟨q, 1, none⟩ = some (.int .u64 kx.d) ∧ W3.drew.cell? ⟨q, 2, none⟩ = some (.int .u8 kx.l)) := ⟨a0, a1, a2⟩
          have e3 : (((W3.setCell ⟨w.heap.size, 0, none⟩ (.bool kx.e)).setCell ⟨w.heap.size, 1, none⟩ (.int .u64 kx.d)).setCell ⟨w.heap.size, 2, none⟩ (.int .u8 kx.l)).heap[q]? = W3.heap[q]? := by
            rw [Below.heap_setCell _ _ _ _ hqn, Below.heap_setCell _ _ _ _ hqn, Below.heap_setCell _ _ _ _ hqn]
          have hS3 : Hid ((((W3.setCell ⟨w.heap.size, 0, none⟩ (.bool kx.e)).setCell ⟨w.heap.size, 1, none⟩ (.int .u64 kx.d)).setCell ⟨w.heap.size, 2, none⟩ (.int .u8 kx.l)).drew.cell? ⟨q, 0, none⟩ = some (.bool kx.e) ∧ (((W3.setCell ⟨w.heap.size, 0, none⟩ (.bool kx.e)).setCell ⟨w.heap.size, 1, none⟩ (.int .u64 kx.d)).setCell ⟨w.heap.size, 2, none⟩ (.int .u8 kx.l)).drew.cell? ⟨q, 1, none⟩ = some (.int .u64 kx.d) ∧ (((W3.setCell ⟨w.heap.size, 0, none⟩ (.bool kx.e)).setCell ⟨w.heap.size, 1, none⟩ (.int .u64 kx.d)).setCell ⟨w.heap.size, 2, none⟩ (.int .u8 kx.l)).drew.cell? ⟨q, 2, none⟩ = some (.int .u8 kx.l)) :=
            ⟨(World.cell?_of_block e3).trans a0, (World.cell?_of_block e3).trans a1, (World.cell?_of_block e3).trans a2⟩
          clear kq km hbw hSS
          go_region_held3 (fun w' => (w'.cell? ⟨q, 0, none⟩ = some (.bool kx.e) ∧ w'.cell? ⟨q, 1, none⟩ = some (.int .u64 kx.d) ∧ w'.cell? ⟨q, 2, none⟩ = some (.int .u8 kx.l)))
            (first | with_reducible exact hS1.out | with_reducible exact hS2.out | with_reducible exact hS3.out)
            (first | fail)
          all_goals go_wp2
          all_goals go_roundw
          case rel =>
            refine ⟨j + 1, HI.out, by go_num, ?_, ?_, ?_⟩
            · rw [hG.out, eG.out]
            · rw [hG.out, eG.out]
              exact HKM.out.set kx
            · exact (((HBW.out.setCell (p := ⟨w.heap.size, 0, none⟩) (by simp) _).setCell (p := ⟨w.heap.size, 1, none⟩) (by simp) _).setCell (p := ⟨w.heap.size, 2, none⟩) (by simp) _).drew
          case measure => simp [intOf]; omega
        | false =>
          rw [hu] at HAB
          have eG := enext.out
          rw [if_neg (by simp [hb, hu])] at eG
          replace eG := veil eG
          go_wp2_with (first
            | (go_at_call 24; refine (HKY.out).mono ?_; rintro e w1 ⟨rfl, hb1⟩; have HB1 := veil (HB.out.trans (hb1.mono HB.out.size)); have HK1 := veil (HK.out.below hb1); have m0 := HK1.out.at.1; have m1 := HK1.out.at.2.1; have m2 := HK1.out.at.2.2; have hwl := HK1.out.lt; clear hb1)
            | (go_at_call 57; refine (HAB.out _).mono ?_; rintro e w2 ⟨rfl, hb2⟩; replace hb2 := veil hb2))
          go_roundw
          case rel =>
            refine ⟨j + 1, HI.out, by go_num, ?_, ?_, ?_⟩
            · rw [hG.out, eG.out]
            · rw [hG.out, eG.out]
              exact (HK1.out.alloc _).below hb2.out
            · exact (HB1.out.alloc HB1.out.size _).trans (hb2.out.mono (by have := HB1.out.size; simp; omega))
          case measure => simp [intOf]; omega
    · have hjl' : ¬ (j : Int) < (l.length : Int) := by omega
      obtain rfl : j = l.length := by omega
      have HB := veil hbe
      clear hbe hkb
      go_wp2
      go_ret
      exact ⟨rfl, HB.out⟩
end
end Go.Proofs.Ytbhkgbhgofefjaa
