/- TopDue's walk. -/
import Derived.Test.YtjmbadadelelfaaWg2
namespace Go.Proofs.Ytjmbadadelelfaa
open Go.RowKit Go.Lib
set_option linter.unusedVariables false
set_option linter.unusedSimpArgs false
attribute [local go_sem ↓] Go.wp_at_zero Go.wp_at_succ
theorem owns_sl {w : World} {base : Nat} {e : TypeId} {size : Nat} {v : Value} {n : Nat} {xs : List Value} (h : w.ownsRow base e size v n xs) : ∃ a cap, v = .slice a n cap := by
  rcases h.2 with ⟨q, q2⟩ | ⟨g0, c0, ce, q, _⟩
  · exact ⟨none, 0, by rw [q, q2]⟩
  · exact ⟨_, _, q⟩
/-- The row of what is due: the ids of the first m of L. -/
def DR (wr : World) (lo : Nat) (av : Option Addr) (m : Nat) (L : List Ph.Item) : Prop := ∀ i, i < m → ∃ rb x, av = some ⟨rb, 0, none⟩ ∧ lo ≤ rb ∧ L[i]? = some x ∧ wr.cell? ⟨rb, i, none⟩ = some (.int .i64 (x.1 : Int))
theorem DR.only {wr w' : World} {lo m hb hg : Nat} {av : Option Addr} {L : List Ph.Item} (h : DR wr lo av m L) (o : Ph.Only hb hg wr w') (h1 : hb < lo) (h2 : hg < lo) : DR w' lo av m L := fun i hi => by
  obtain ⟨rb, x, e, hl, hx, hc⟩ := h i hi
  have hlt : rb < wr.heap.size := World.block_lt_of_cell? wr _ hc
  exact ⟨rb, x, e, hl, hx, (World.cell?_of_block (o.block rb hlt (by omega) (by omega))).trans hc⟩
theorem parts {tm : Nat} {L : List Ph.Item} (hs : Srt (L.map toIt)) : (L.take (due tm (L.map toIt)).length).map toIt = due tm (L.map toIt) ∧ (L.drop (due tm (L.map toIt)).length).map toIt = late tm (L.map toIt) := by
  have h := due_late hs tm
  have e1 : (L.map toIt).take (due tm (L.map toIt)).length = due tm (L.map toIt) := by
    have := congrArg (List.take (due tm (L.map toIt)).length) h
    rw [List.take_left] at this
    exact this.symm
  have e2 : (L.map toIt).drop (due tm (L.map toIt)).length = late tm (L.map toIt) := by
    have := congrArg (List.drop (due tm (L.map toIt)).length) h
    rw [List.drop_left] at this
    exact this.symm
  exact ⟨by rw [List.map_take]; exact e1, by rw [List.map_drop]; exact e2⟩
theorem due_row {w : World} {base tm cv : Nat} {av : Option Addr} {L : List Ph.Item} (hs : Srt (L.map toIt)) (h : w.ownsRow base 3 1 (.slice av (due tm (L.map toIt)).length cv) (due tm (L.map toIt)).length (iv (spots (due tm (L.map toIt))))) : DR w base av (due tm (L.map toIt)).length L := fun i hi => by
  obtain ⟨r, e, h1, h2, h3⟩ := cell_of_own h i hi
  have hp := (parts (tm := tm) hs).1
  have hl : (due tm (L.map toIt)).length ≤ L.length := by have := congrArg List.length hp; rw [List.length_map, List.length_take] at this; omega
  have hiL : i < L.length := by omega
  refine ⟨r, L[i], e, h1, List.getElem?_eq_getElem hiL, ?_⟩
  rw [h3]
  have hd : (due tm (L.map toIt))[i]? = some (toIt L[i]) := by
    have : ((L.take (due tm (L.map toIt)).length).map toIt)[i]? = some (toIt L[i]) := by
      rw [List.getElem?_map, List.getElem?_take, if_pos hi, List.getElem?_eq_getElem hiL]
      rfl
    rw [hp] at this
    exact this
  have : (spots (due tm (L.map toIt))).getD i 0 = L[i].1 + 1 := by
    unfold spots
    rw [List.getD, List.getElem?_map, hd]
    rfl
  rw [this]
  congr 2
  omega
set_option maxRecDepth 100000 in
set_option maxHeartbeats 8000000 in
theorem due_way (a : Option Addr) (len cap : Nat) (D : Nat → Nat) (tm : Nat) (htm : tm < 65536) (w : World) (hlen : len < 9223372036854775808) (hd : U16s w a len D) :
    Calls Try.prog 10 #[.slice a len cap, .int .u16 (tm : Int)] w fun e w' => e = .returned (.bool true) ∧ Below w.heap.size w w' := by
  have HD := veil hd
  have HN := veil (Ph.hnew_ok 64 w (by decide) (by decide))
  have HW := veil (fun w1 => new_isW 64 w1 (by decide) (by decide))
  clear hd
  go_enter Try.func10, Try.ntmps10
  go_wp2_with (first
    | (go_at_call 25; have hh := HB.out; clear hh; refine (HW.out _).mono ?_; rintro e w2 ⟨b, g, mb, rfl, hlt, hq2, hb2⟩; have HT : Hid (TD w w2 (w.heap.size + 1) w.heap.size b g mb 0 [] []) := ⟨HQ.out.below hb2, hq2, fun k hk => (by have := (hlt k hk).1; have := HQ.out.blocks; omega), ⟨Nat.le_succ _, Nat.le_refl _⟩, fun k hk => (by have := (hlt k hk).1; have := HB.out.size; omega), HB.out.trans (hb2.mono HB.out.size)⟩; clear hlt hq2 hb2)
    | (go_at_call 27; refine (HN.out).mono ?_; rintro e w1 ⟨rfl, hq, hb⟩; have HQ := veil hq; have HB := veil hb; clear hq hb))
  clear HN HW HQ HB
  go_loopw [7] (fun i wr => ∃ (j : Nat) (L : List Ph.Item), j ≤ len ∧ j ≤ 64 ∧ i = .int .i64 j ∧ NumTo j L ∧ TD w wr (w.heap.size + 1) w.heap.size b g mb 0 L (L.map toIt)) (fun i _ => len - (intOf i).toNat)
  case atStart => exact ⟨0, [], by omega, by omega, rfl, fun x hx => (by cases hx), HT.out⟩
  case round =>
    obtain ⟨j, L, hj, hj1, rfl, hnum, ht⟩ := hrel
    have HNUM := veil hnum
    have HTJ := veil ht
    clear HT
    by_cases hjl : j < len ∧ j < 64
    · obtain ⟨hjl, hj2⟩ := hjl
      have hjl' : (j : Int) < (len : Int) := by omega
      rcases HD.out with h0 | ⟨lb, off, rfl, hlb, hc⟩
      · omega
      · obtain ⟨z1, z2⟩ := hc j hjl
        have HY : Hid (∀ V, Below w.heap.size w V → V.cell? ⟨lb, off + j, none⟩ = some (.int .u16 (D j : Int))) := fun V hV => (hV.cell (p := ⟨lb, off + j, none⟩) hlb).trans z2
        have y2 := HY.out _ ht.bel
        have HI := veil (Ph.hinsert_ok ht.h j (D j) j (by omega) (fun it hit => by have := (hnum it hit).2; omega))
        have hno : ∀ x ∈ L.map toIt, x.i ≠ j := fun x hx => by
          obtain ⟨u, hu, rfl⟩ := List.mem_map.1 hx
          have := (hnum u hu).2
          show u.1 ≠ j
          omega
        have hsrt := ht.h.good.srt
        have HS : Hid (∀ V L', TD w V (w.heap.size + 1) w.heap.size b g mb 0 L' (L.map toIt) → Calls Try.prog 21 #[.pointer (some ⟨b, 0, none⟩), .int .i64 (j : Int), .int .u64 (D j : Int)] V fun e w' => e = .returned (.int .i64 0) ∧ TD w w' (w.heap.size + 1) w.heap.size b g mb 0 L' ((Ph.ins (j, D j, j) L).map toIt)) := fun V L' hV => by
          refine (set_ok hV.s (j : Int) (D j) (by omega)).mono ?_
          rintro e w' ⟨rfl, hs, hf⟩
          rw [setC_new hj2 hno]
          refine ⟨rfl, ?_⟩
          rw [setS_new hj2 hno, ins_same j (D j) L hsrt hnum] at hs
          exact hV.wheel hs hf
        have hwj : IntKind.u64.wrap (j : Int) = (j : Int) := by rw [IntKind.wrap_u64]; omega
        have hwd : IntKind.u64.wrap (D j : Int) = (D j : Int) := by rw [IntKind.wrap_u64]; omega
        clear hnum ht z2 hc hno hsrt
        go_wp2_with (first
          | (go_at_call 21; have hh := HT2.out; clear hh; refine (HS.out _ _ (by exact HT2.out)).mono ?_; rintro e w4 ⟨rfl, ht4⟩; have HT4 := veil ht4; clear ht4)
          | (go_at_call 28; refine (HI.out).mono ?_; rintro e w3 ⟨rfl, hq3, ho3⟩; have ht2 := HTJ.out.heap hq3 ho3; have y3 := HY.out _ ht2.bel; have HT2 := veil ht2; clear hq3 ho3 ht2))
        go_roundw
        case rel => exact ⟨j + 1, _, by omega, by omega, by go_num, HNUM.out.ins, HT4.out⟩
        case measure => simp [intOf]; omega
    · have hsrt := ht.s.facts.1
      have hA := advance_ok ht.s 1024 sorts1024 (by decide) tm (by omega)
      rw [show max tm 0 = tm by omega] at hA
      have HA := veil hA
      have hpt := (parts (tm := tm) hsrt)
      have HDR : Hid (∀ V base av cv, V.ownsRow base 3 1 (.slice av (due tm (L.map toIt)).length cv) (due tm (L.map toIt)).length (iv (spots (due tm (L.map toIt)))) → DR V base av (due tm (L.map toIt)).length L) := fun V base av cv hV => due_row hsrt hV
      have hml : (due tm (L.map toIt)).length ≤ L.length := by have := congrArg List.length hpt.1; rw [List.length_map, List.length_take] at this; omega
      have HPT := veil hpt.2
      have hblk : w.heap.size + 1 < wr.heap.size := ht.h.blocks.1
      have hlate : ∀ x ∈ late tm (L.map toIt), tm < x.t := fun x hx => by
        unfold late at hx
        have := (List.mem_filter.1 hx).2
        simp at this
        exact this
      have HLT := veil hlate
      have hL64 : L.length ≤ 64 := ht.h.good.len
      have hwt : IntKind.u64.wrap (tm : Int) = (tm : Int) := by rw [IntKind.wrap_u64]; omega
      clear hnum ht hA hpt hlate hsrt HNUM
      generalize late tm (L.map toIt) = Lt at *
      generalize hm : (due tm (L.map toIt)).length = m at *
      generalize iv (spots (due tm (L.map toIt))) = rowv at *
      have key : ∀ (P : Prop), (¬ (j : Int) < (len : Int) → P) → ((j : Int) < (len : Int) → ¬ (j : Int) < 64 → P) → P := fun P p1 p2 => by
        by_cases h1 : (j : Int) < (len : Int)
        · exact p2 h1 (by omega)
        · exact p1 h1
      refine key _ (fun e1 => ?_) (fun e1 e2 => ?_)
      all_goals
        clear key hjl hm
        go_wp2_with (go_at_call 16; refine (HA.out).mono ?_; rintro e w5 ⟨⟨v, rfl, hv⟩, hs5, hf5⟩; obtain ⟨av, cv, rfl⟩ : ∃ av cv, v = .slice av m cv := owns_sl hv; have HT5 := veil (HTJ.out.wheel hs5 hf5); have HR5 := veil (HDR.out _ _ _ _ hv); clear hv hs5 hf5)
        obtain ⟨lo, hlo⟩ : ∃ lo, wr.heap.size = lo := ⟨_, rfl⟩
        rw [hlo] at hblk HR5
        clear hlo
        go_loopw [9] (fun i wx => ∃ (k : Nat), k ≤ m ∧ i = .int .i64 k ∧ TD w wx (w.heap.size + 1) w.heap.size b g mb tm (L.drop k) Lt ∧ DR wx lo av m L) (fun i _ => m - (intOf i).toNat)
        case atStart => exact ⟨0, by omega, rfl, HT5.out, HR5.out⟩
        case round =>
          obtain ⟨k, hk, rfl, htk, hrk⟩ := hrel
          have HTK := veil htk
          have HRK := veil hrk
          by_cases hkm : k < m
          · have hkm' : (k : Int) < (m : Int) := by omega
            obtain ⟨rb, x, rfl, hlo, hx, hc⟩ := hrk k hkm
            have hdk : L.drop k = x :: L.drop (k + 1) := by
              obtain ⟨q1, q2⟩ := List.getElem?_eq_some_iff.1 hx
              rw [← q2]
              exact List.drop_eq_getElem_cons q1
            have hth := htk.h
            rw [hdk] at hth
            have HTA := veil (Ph.htake_ok hth)
            have HY : Hid (∀ V, Ph.Only (w.heap.size + 1) w.heap.size wr V → V.cell? ⟨rb, k, none⟩ = some (.int .i64 (x.1 : Int))) := fun V hV => (World.cell?_of_block (hV.block rb (World.block_lt_of_cell? wr _ hc) (by omega) (by omega))).trans hc
            clear htk hrk hth hdk hx hc
            go_wp2_with (go_at_call 29; refine (HTA.out).mono ?_; rintro e w6 ⟨rfl, hq6, ho6⟩; have y6 := HY.out _ ho6; have HT6 := veil (HTK.out.heap hq6 ho6); have HR6 := veil (HRK.out.only ho6 hblk (by omega)); clear hq6 ho6)
            go_roundw
            case rel => exact ⟨k + 1, by omega, by go_num, HT6.out, HR6.out⟩
            case measure => simp [intOf]; omega
          · have hkm2 : k = m := by omega
            have hkm' : ¬ (k : Int) < (m : Int) := by omega
            have hpd := HPT.out
            rw [hkm2] at htk
            generalize L.drop m = L2 at *
            have hll : Lt.length = L2.length := by rw [← hpd, List.length_map]
            have hb3 := htk.bel
            cases L2 with
            | nil =>
              have hl0 : Lt.length = 0 := hll
              have HMN := veil (Ph.hmin_none htk.h)
              have hlen2 := len_ok htk.s
              rw [hl0] at hlen2
              have HLN := veil hlen2
              have HB3 := veil hb3
              clear htk hrk hpd hll hl0 hb3 hlen2 hkm2
              go_wp2_with (first
                | (go_at_call 30; refine (HMN.out).mono ?_; rintro e w6 ⟨rfl, hw⟩; subst hw)
                | (go_at_call 15; refine (HLN.out).mono ?_; rintro e w7 ⟨rfl, hw⟩; subst hw))
              go_ret
              exact ⟨rfl, HB3.out⟩
            | cons x L3 =>
              have HMN := veil (Ph.hmin_ok htk.h)
              have hLt : Lt = toIt x :: L3.map toIt := hpd.symm
              have hgt := HLT.out (toIt x) (by rw [hLt]; simp)
              have hnx : ∀ q, Calls Try.prog 19 #[.pointer (some ⟨b, 0, none⟩)] (wr.drewN q) fun e w' => e = .returned (.tuple #[.int .u64 (x.2.1 : Int), .bool true]) ∧ Below wr.heap.size wr w' := fun q => by
                have := next_ok (htk.s.below (below_drewN (Below.refl _ _) q))
                rw [hLt] at this
                exact this.mono (fun e w' h => ⟨h.1, (below_drewN (Below.refl _ _) q).trans h.2⟩)
              have hge : ∀ V, Below wr.heap.size wr V → Calls Try.prog 31 #[.pointer (some ⟨w.heap.size + 1, 0, none⟩), .int .i64 (x.1 : Int)] V fun e w' => e = .returned (.tuple #[.int .u64 (x.2.1 : Int), .int .u64 (x.2.2 : Int), .bool true]) ∧ Below wr.heap.size wr w' := fun V hV => (Ph.hget_some (htk.h.below hV) x.1 x.2.1 x.2.2 (by simp)).mono (fun e w' h => ⟨h.1, hV.trans (h.2.mono hV.size)⟩)
              have hwl : ∀ V, Below wr.heap.size wr V → Calls Try.prog 15 #[.pointer (some ⟨b, 0, none⟩)] V fun e w' => e = .returned (.int .i64 (Lt.length : Int)) ∧ w' = V := fun V hV => len_ok (htk.s.below hV)
              have hhl : ∀ V, Below wr.heap.size wr V → Calls Try.prog 32 #[.pointer (some ⟨w.heap.size + 1, 0, none⟩)] V fun e w' => e = .returned (.int .i64 (Lt.length : Int)) ∧ w' = V := fun V hV => by
                rw [hll]
                exact Ph.hlen_ok (htk.h.below hV)
              have HNX := veil hnx
              have HGE := veil hge
              have HWL := veil hwl
              have HHL := veil hhl
              have HB3 := veil hb3
              have hgt1 : tm < x.2.1 := hgt
              have hgt' : (tm : Int) < (x.2.1 : Int) := by omega
              have hgd : decide ((tm : Int) < (x.2.1 : Int)) = true := by simp [hgt1]
              have hgd2 : decide (tm < x.2.1) = true := by simp [hgt1]
              generalize Lt.length = ll at *
              clear htk hrk hpd hll hb3 hkm2 hLt hgt hnx hge hwl hhl hgt1
              go_wp2_with (first
                | (go_at_call 30; refine (HMN.out).mono ?_; rintro e w6 ⟨rfl, q, hw⟩; subst hw)
                | (go_at_call 19; refine (HNX.out _).mono ?_; rintro e w7 ⟨rfl, hb7⟩; have HB7 := veil hb7; clear hb7)
                | (go_at_call 31; refine (HGE.out _ HB7.out).mono ?_; rintro e w8 ⟨rfl, hb8⟩; have HB8 := veil hb8; clear hb8)
                | (go_at_call 15; refine (HWL.out _ HB8.out).mono ?_; rintro e w9 ⟨rfl, hw⟩; subst hw)
                | (go_at_call 32; refine (HHL.out _ HB8.out).mono ?_; rintro e w9 ⟨rfl, hw⟩; subst hw))
              go_ret
              exact ⟨rfl, HB3.out.trans (HB8.out.mono HB3.out.size)⟩
end Go.Proofs.Ytjmbadadelelfaa
