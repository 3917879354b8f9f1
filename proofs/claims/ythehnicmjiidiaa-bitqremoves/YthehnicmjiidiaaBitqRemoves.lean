/-
  For every size, every deeds and every deed more BitqRemoves answers true: what is removed is gone, the others stay as they stood; what is not there is refused. No condition.
-/
import Derived.Test.YthehnicmjiidiaaRows
import Derived.Test.YthehnicmjiidiaaE8
import Derived.WalkKit
import Derived.ProofKit
import Derived.OpenShut
import Derived.RowKit3
import Derived.Laws.Cover2
import Derived.Laws.IdiomArrays
import Derived.ChangeOld
import Derived.Below
import Derived.Carry
import Derived.Lib.SmallJoins
namespace Go.Proofs.Ythehnicmjiidiaa.bitqRemoves
open Go.ChangeShapes Go.WideShapes Go.ChangeAt Go.RowKit
set_option linter.unusedVariables false

theorem own : ownKnob Try.prog.godebug = none := by kernel_rfl
theorem laidOut : laidOutB Try.prog = true := by kernel_rfl
theorem cells2 : Try.prog.cellsOf 24 = 3 := by kernel_rfl
open Go.Lib
def wanted (k : Int) (xs : List Int) : List Int := xs.filter (fun x => decide (¬ x = k))
theorem wanted_len (k : Int) (xs : List Int) : (wanted k xs).length ≤ xs.length := List.length_filter_le _ _
theorem wanted_hit (k : Int) (xs : List Int) : wanted k (xs ++ [k]) = wanted k xs := by unfold wanted; simp
theorem wanted_miss (k : Int) (xs : List Int) (x : Int) (h : ¬ x = k) : wanted k (xs ++ [x]) = wanted k xs ++ [x] := by unfold wanted; simp [h]
theorem ids_filter (R1 R2 : List (Nat × Nat)) (k l : Nat) (h : ((R1 ++ (k, l) :: R2).map (·.1)).Nodup) : wanted (k : Int) (idsOf (R1 ++ (k, l) :: R2) l) = idsOf (R1 ++ R2) l := by
  unfold wanted
  have hh := h
  rw [List.map_append, List.nodup_append] at hh
  simp only [List.map_cons, List.nodup_cons] at hh
  have hne : ∀ S : List (Nat × Nat), (∀ it ∈ S, it.1 ≠ k) → (idsOf S l).filter (fun x => decide (¬ x = (k : Int))) = idsOf S l := by
    intro S hS
    apply List.filter_eq_self.2
    intro x hx
    unfold idsOf at hx
    obtain ⟨s, hs, rfl⟩ := List.mem_map.1 hx
    obtain ⟨it, a, _, e⟩ := mem_QL.1 hs
    have := hS it a
    simp
    omega
  have e1 : idsOf (R1 ++ (k, l) :: R2) l = idsOf R1 l ++ (k : Int) :: idsOf R2 l := by
    unfold idsOf
    rw [QL_append, QL_cons, if_pos rfl]
    simp
  have e2 : idsOf (R1 ++ R2) l = idsOf R1 l ++ idsOf R2 l := by unfold idsOf; rw [QL_append, List.map_append]
  rw [e1, e2, List.filter_append, List.filter_cons, hne R1 (fun it hit e => hh.2.2 it.1 (List.mem_map_of_mem (f := (·.1)) hit) k (by simp) e), hne R2 (fun it hit e => hh.2.1.1 (by rw [← e]; exact List.mem_map_of_mem (f := (·.1)) hit))]
  simp

set_option maxHeartbeats 8000000 in
theorem absent (m : Nat) (hm : m < 256) (a : Option Addr) (len cap : Nat) (X Y : Nat → Int) (Z : Nat → Nat) (x0 x1 : Int) (x2 : Nat) (hx2 : x2 < 256) (w : World) (hlen : len < 9223372036854775808) (hd : Deeds w a len X Y Z) :
    Calls Try.prog 7 #[.int .u8 m, .slice a len cap, .agg #[.int .i64 x0, .int .i64 x1, .int .u8 x2]] w fun e w' => e = .returned (.bool true) ∧ Below w.heap.size w w' := by
  have HP := veil (play_ok (w.alloc (.cells #[.int .i64 x0, .int .i64 x1, .int .u8 x2] 24)) m hm a len cap hlen X Y Z (hd.alloc _))
  have hsz : (w.alloc (.cells #[.int .i64 x0, .int .i64 x1, .int .u8 x2] 24)).heap.size = w.heap.size + 1 := by simp
  have HSZ := veil hsz
  have HW : Hid (∀ w1 w2, Below (w.heap.size + 1) (w.alloc (.cells #[.int .i64 x0, .int .i64 x1, .int .u8 x2] 24)) w1 → Below w1.heap.size w1 w2 → Below (w.heap.size + 1) (w.alloc (.cells #[.int .i64 x0, .int .i64 x1, .int .u8 x2] 24)) w2) := by
    intro w1 w2 q1 q2
    exact q1.trans (q2.mono (Nat.le_trans (Nat.le_of_eq hsz.symm) q1.size))
  clear hd hsz
  go_enter Try.func7, Try.ntmps7
  go_wp2_with (first
    | (go_at_call 10; refine (HP.out).mono ?_; rintro e w1 ⟨b, g, rb, base, v, R, rfl, h1, h2, h3, h4, hB, hL⟩; rw [HSZ.out] at hL h1 h2; have HQ := veil hB.q; have HL := veil hL; clear hB hL h3 h4)
    | (go_at_call 11; refine (live_queue _).mono ?_; rintro e w2 ⟨rfl, hb2⟩; have HQ2 := veil (HQ.out.below hb2); have HL2 := veil (HW.out _ _ HL.out hb2); have d1 := (box_cells HL2.out).1; clear hb2 HQ HL))
  by_cases hthere : ∃ k : Nat, x1 = (k : Int) ∧ ∃ it ∈ R, it.1 = k
  · obtain ⟨k, rfl, hm⟩ := hthere
    obtain ⟨R1, l, R2, rfl⟩ := mem_split R k hm
    have hids := HQ2.out.ids
    have hk := (HQ2.out.rng (k, l) (by simp)).1
    have hl := (HQ2.out.rng (k, l) (by simp)).2
    have hfil := ids_filter R1 R2 k l hids
    have hll : (idsOf (R1 ++ (k, l) :: R2) l).length ≤ 1024 := by have := idsOf_len (R1 ++ (k, l) :: R2) l; have := HQ2.out.len_le; omega
    have hll2 : (idsOf (R1 ++ R2) l).length ≤ 1024 := by have := idsOf_len (R1 ++ R2) l; have := HQ2.out.len_le; simp at *; omega
    have hnil : idsOf (R1 ++ (k, l) :: R2) l ≠ [] := by
      unfold idsOf
      rw [QL_append, QL_cons, if_pos rfl]
      simp
    have hfresh : ∀ it ∈ R1 ++ R2, it.1 ≠ k := by
      have hh := hids
      rw [List.map_append, List.nodup_append] at hh
      simp only [List.map_cons, List.nodup_cons] at hh
      intro it hit e
      rcases List.mem_append.1 hit with q | q
      · exact hh.2.2 it.1 (List.mem_map_of_mem (f := (·.1)) q) k (by simp) e
      · exact hh.2.1.1 (by rw [← e]; exact List.mem_map_of_mem (f := (·.1)) q)
    have HFr := veil hfresh
    have HNil := veil hnil
    have HLL := veil hll
    have HLL2 := veil hll2
    have HFIL := veil hfil
    have HIds := veil hids
    clear hfresh hnil hll hll2 hfil hids hm
    go_wp2_with (first
      | (go_at_call 19; refine (level_some HQ2.out).mono ?_; rintro e w3 ⟨rfl, hb⟩; have HQ3 := veil (HQ2.out.below hb); have HL3 := veil (HW.out _ _ HL2.out hb); clear hb)
      | (go_at_call 17; refine (list_il b g _ l _ _ HQ3.out hl).mono ?_; rintro e w4 ⟨v4, rfl, hil, hb⟩; have HI4 := veil hil; have hbl := HQ3.out.blocks; obtain ⟨ga, c4, rfl, ha1, ha2, ha3⟩ := hil.cells HNil.out; have HQ4 := veil (HQ3.out.below hb); have HL4 := veil (HW.out _ _ HL3.out hb); have d4 := (box_cells HL4.out).1; clear hb hil ha3)
      | (go_at_call 20; refine (remove_some HQ4.out).mono ?_; rintro e w5 ⟨rfl, hq5, ho5⟩; have HQ5 := veil hq5; have HL5 := veil (below_fr HL4.out (Nat.le_of_eq HSZ.out.symm) (Fr.of_only ho5) h1 h2); have HI5 := veil (HI4.out.apart (Fr.of_only ho5) hbl.1 hbl.2.1); have hga5 := Nat.lt_of_lt_of_le ha2 ho5.size; clear hq5 ho5))
    obtain ⟨i0, hi0, hz0, hz1, hz2⟩ := info_parts infoInt
    generalize hxs : idsOf (R1 ++ (k, l) :: R2) l = xs at *
    have HC5 : Hid (∀ j, j < xs.length → w5.cell? ⟨ga, j, none⟩ = some (.int .i64 (xs.getD j 0))) := by
      obtain ⟨ga', c', e, _, _, h⟩ := HI5.out.cells HNil.out
      simp at e
      rw [e.1]
      exact h
    have hxl : xs.length ≤ 1024 := HLL.out
    have HBOX := veil (box_cells HL5.out).1
    have hsz5 : w.heap.size < w5.heap.size := Nat.lt_of_lt_of_le (by rw [HSZ.out]; omega) HL5.out.size
    clear HQ2 HL2 HQ3 HL3 HQ4 HL4 HI4 HI5 HP d1 d4 HIds HLL hxs HNil
    go_loopw [14, 15] (fun o i wr => ∃ j : Nat, j ≤ xs.length ∧ i = .int .i64 j ∧ IL wr w5.heap.size o (wanted (k : Int) (xs.take j)) ∧ Below w5.heap.size w5 wr) (fun _ i _ => xs.length - (intOf i).toNat)
    case atStart => exact ⟨0, by omega, rfl, World.ownsRow_nil _ _ _ _, Below.refl _ _⟩
    case round =>
      obtain ⟨j, hj, rfl, hil, hbel⟩ := hrel
      obtain ⟨ao, co, rfl⟩ := hil.slice
      have HIL := veil hil
      have HBE := veil hbel
      by_cases hjl : j < xs.length
      · have y1 := (hbel.cell (p := ⟨ga, j, none⟩) hga5).trans (HC5.out j hjl)
        have y2 := (hbel.cell (p := ⟨w.heap.size, 1, none⟩) hsz5).trans HBOX.out
        have htk : xs.take (j + 1) = xs.take j ++ [xs.getD j 0] := by
          rw [List.take_add_one]
          simp [List.getD, hjl]
        have hlf : (wanted (k : Int) (xs.take j)).length ≤ 1024 := by
          have := wanted_len (k : Int) (xs.take j)
          have : (xs.take j).length ≤ xs.length := by rw [List.length_take]; omega
          omega
        have hsz := hbel.size
        have HTK := veil htk
        generalize xs.getD j 0 = x at *
        by_cases hx : x = (k : Int)
        · clear hil hbel htk
          subst hx
          go_wp2
          go_quiet (fail)
          go_wp2
          go_roundw
          case rel =>
            refine ⟨j + 1, by omega, by go_num, ?_, below_drewN HBE.out _⟩
            rw [HTK.out, wanted_hit]
            exact HIL.out
          case measure => simp [intOf]; omega
        · clear hil hbel htk
          go_wp2
          go_quiet (fail)
          go_wp2_with (at_builtin; refine wpList_append_own _ rfl _ _ 40 rfl w5.heap.size 3 i0 (.int .i64 0) 1 8 Try.underlying40 hi0 hz0 hz1 hz2 rfl (by decide) _ _ _ rfl (World.ownsRow.alloc (w := wr.drewN _) HIL.out _) ⟨wr.heap.size, 0, none⟩ 1 1 [.int .i64 x] rfl rfl (cell_one_new _ _ _) (by simp [Value.oneCell']) (by unfold maxLen; omega) (by omega) (by simp; omega) ?_; intro v' w6 hown' hgrow _; have HO := veil hown'; have HG := veil hgrow; clear hown' hgrow)
          go_roundw
          case rel =>
            refine ⟨j + 1, by omega, by go_num, ?_, ?_⟩
            · rw [HTK.out, wanted_miss _ _ _ hx]
              have := HO.out
              unfold IL
              simpa using this
            · exact ((below_drewN HBE.out _).alloc (by simpa using HBE.out.size) _).grown HG.out (by simp; omega) (fun q hq => (HIL.out.lt q hq).1)
          case measure => simp [intOf]; omega
      · have hj' : j = xs.length := by omega
        have hil2 : IL wr w5.heap.size (.slice ao (wanted (k : Int) (xs.take j)).length co) (idsOf (R1 ++ R2) l) := by
          have h2 : wanted (k : Int) (xs.take j) = idsOf (R1 ++ R2) l := by rw [hj', List.take_length]; exact HFIL.out
          have key : ∀ S T, S = T → IL wr w5.heap.size (.slice ao (wanted (k : Int) (xs.take j)).length co) S → IL wr w5.heap.size (.slice ao (wanted (k : Int) (xs.take j)).length co) T := fun S T e q => e ▸ q
          exact key _ _ h2 HIL.out
        generalize (wanted (k : Int) (xs.take j)).length = L7 at *
        have hjx : ¬ (j : Int) < (xs.length : Int) := by omega
        clear hj' hj
        generalize xs.length = Lx at *
        have HI6 := veil hil2
        have HQ6 := veil (HQ5.out.below hbel)
        have HL6 := veil (HW.out _ _ HL5.out hbel)
        have e6 := (box_cells HL6.out).1
        clear hil hbel hil2 HIL HBE HQ5 HL5
        go_wp2_with (first
          | (go_at_call 19; refine (level_none HQ6.out hk HFr.out).mono ?_; rintro e w7 ⟨rfl, hb⟩; have HQ7 := veil (HQ6.out.below hb); have HL7 := veil (HW.out _ _ HL6.out hb); have HI7 := veil (HI6.out.below hb); clear hb)
          | (go_at_call 17; refine (list_il b g _ l _ _ HQ7.out hl).mono ?_; rintro e w8 ⟨v8, rfl, hil8, hb⟩; have HJ8 := veil hil8; have HI8 := veil (HI7.out.below hb); have HQ8 := veil (HQ7.out.below hb); have HL8 := veil (HW.out _ _ HL7.out hb); clear hb hil8)
          | (go_at_call 21; refine (same_yes _ _ _ _ _ (idsOf (R1 ++ R2) l) HLL2.out HJ8.out HI8.out).mono ?_; rintro e w9 ⟨rfl, q9, hw⟩; have HQ9 := veil (HQ8.out.drewN q9); have HL9 := veil (below_drewN HL8.out q9); subst hw; have e9 := (box_cells HL9.out).1)
          | (go_at_call 22; refine (push_ok _ b g _ (R1 ++ R2) k l HQ9.out hk hl HFr.out).mono ?_; rintro e w10 ⟨rfl, _, ho⟩; have HL10 := veil (below_fr HL9.out (Nat.le_of_eq HSZ.out.symm) (Fr.of_only ho) h1 h2); clear ho))
        go_ret
        exact ⟨by simp, below_box HL10.out⟩
  · have hrem : ∃ r : Int, (r = 2 ∨ r = 6) ∧ ∀ w b g, IsQ w b g (m % 12 + 1) R → Calls Try.prog 20 #[.pointer (some ⟨b, 0, none⟩), .int .i64 x1] w fun e w' => e = .returned (.int .i64 r) ∧ w' = w := by
      by_cases hi : x1 < 0 ∨ ((m % 12 + 1 : Nat) : Int) ≤ x1
      · exact ⟨2, .inl rfl, fun w b g h => remove_range h x1 hi⟩
      · obtain ⟨k, rfl⟩ := Int.eq_ofNat_of_zero_le (show 0 ≤ x1 by omega)
        exact ⟨6, .inr rfl, fun w b g h => remove_none h (by omega) (fun it hit e => hthere ⟨k, rfl, it, hit, e⟩)⟩
    have hlev : ∀ w b g, IsQ w b g (m % 12 + 1) R → Calls Try.prog 19 #[.pointer (some ⟨b, 0, none⟩), .int .i64 x1] w fun e w' => e = .returned (.tuple #[.int .u8 0, .bool false]) ∧ Below w.heap.size w w' := by
      intro w b g h
      by_cases hi : x1 < 0 ∨ ((m % 12 + 1 : Nat) : Int) ≤ x1
      · refine (level_range h x1 hi).mono ?_
        rintro e w' ⟨he, rfl⟩
        exact ⟨he, Below.refl _ _⟩
      · obtain ⟨k, rfl⟩ := Int.eq_ofNat_of_zero_le (show 0 ≤ x1 by omega)
        exact level_none h (by omega) (fun it hit e => hthere ⟨k, rfl, it, hit, e⟩)
    obtain ⟨r, hr, hrem⟩ := hrem
    have HRe := veil hrem
    have HLe := veil hlev
    have hlist : ∀ w b g, IsQ w b g (m % 12 + 1) R → Calls Try.prog 17 #[.pointer (some ⟨b, 0, none⟩), .int .u8 0] w fun e W' => ∃ v, e = .returned v ∧ IL W' w.heap.size v (idsOf R 0) ∧ Below w.heap.size w W' := fun w b g h => list_il b g _ 0 R w h (by decide)
    have HLi := veil hlist
    clear hrem hlev hthere hlist
    rcases hr with rfl | rfl
    all_goals
      go_wp2_with (first
        | (go_at_call 19; refine (HLe.out _ b g HQ2.out).mono ?_; rintro e w3 ⟨rfl, hb⟩; have HQ3 := veil (HQ2.out.below hb); have HL3 := veil (HW.out _ _ HL2.out hb); clear hb)
        | (go_at_call 17; refine (HLi.out _ b g HQ3.out).mono ?_; rintro e w4 ⟨v4, rfl, hil, hb⟩; obtain ⟨a4, c4, rfl⟩ := hil.slice; have HQ4 := veil (HQ3.out.below hb); have HL4 := veil (HW.out _ _ HL3.out hb); have d4 := (box_cells HL4.out).1; clear hb hil)
        | (go_at_call 20; refine (HRe.out _ b g HQ4.out).mono ?_; rintro e w5 ⟨rfl, hw⟩; replace hw := hw.symm; subst hw))
      go_ret
      exact ⟨by simp, below_box HL4.out⟩

set_option maxHeartbeats 1000000 in
theorem walk (a0 : Int) (a1 : Option Addr) (len1 cap1 : Nat) (X1 Y1 : Nat → Int) (Z1 : Nat → Nat) (a2x0 a2x1 a2x2 : Int) (w : World) (w0 : (Lit.int .u8 a0).wf = true) (n1 : len1 < 9223372036854775808) (w1 : Deeds w a1 len1 X1 Y1 Z1) (w2x0 : (Lit.int .i64 a2x0).wf = true) (w2x1 : (Lit.int .i64 a2x1).wf = true) (w2x2 : (Lit.int .u8 a2x2).wf = true) :
    Calls Try.prog 7 #[.int .u8 a0, .slice a1 len1 cap1, .agg #[.int .i64 a2x0, .int .i64 a2x1, .int .u8 a2x2]] w fun e w' => e = .returned (.bool true) ∧ Below w.heap.size w w' := by
  obtain ⟨l0, m0⟩ := bounds_u8 w0
  obtain ⟨l2, m2⟩ := bounds_u8 w2x2
  obtain ⟨M, rfl⟩ := Int.eq_ofNat_of_zero_le l0
  obtain ⟨V, rfl⟩ := Int.eq_ofNat_of_zero_le l2
  exact absent M (by omega) a1 len1 cap1 X1 Y1 Z1 a2x0 a2x1 V (by omega) w n1 w1

set_option maxHeartbeats 1000000 in
set_option maxRecDepth 100000 in
theorem lifted (os : Os) (started : os.Started) (H : Type) (enc : TypeId × Value → H) :
    ReturnsInHanded {} Try.checked os 7 .any (Rows.bitqRemovesSpec.pre6 enc Try.prog Try.f7 Rows.bitqRemovesRow.domain false) (Rows.bitqRemovesSpec.post enc Try.prog Try.f7 false true false false) := by
  refine returnsInHanded_of_change (C := Try.checked) own started (by kernel_rfl) Try.func7
    (ChangeSpec.witness6 (enc := enc) (C := Try.checked) false ⟨#[], #[.int .u8 0, .slice none 0 0, .agg #[.int .i64 0, .int .i64 0, .int .u8 0]], []⟩ 8 (by kernel_rfl) (by kernel_rfl) (by kernel_rfl) (by kernel_rfl)) ?_
  intro W base args ds gs before hval0 hW hcnd _
  have hval : ∀ (j : Nat) t v, Try.f7.params[j]? = some t → args[j]? = some v → Value.okWide Try.prog W .any base t v := hval0
  have hW' := hW
  obtain ⟨p, q, hA0, hV, rfl, hfz, hnd⟩ := hW
  have hA : DataW.TrodAll enc Try.prog W 0 (fun _ => true) true Try.f7.params.toList args.toList ds p := hA0
  rw [Try.params7] at hA hval
  obtain ⟨v0, vs0, d0, ds0, p0, q0, hargs, rfl, rfl, h0, r0⟩ := trodAll_cons hA
  obtain ⟨v1, vs1, d1, ds1, p1, q1, rfl, rfl, rfl, h1, r1⟩ := trodAll_cons r0
  obtain ⟨v2, vs2, d2, ds2, p2, q2, rfl, rfl, rfl, h2, r2⟩ := trodAll_cons r1
  obtain ⟨rfl, rfl, rfl⟩ := trodAll_nil r2
  obtain rfl : args = #[v0, v1, v2] := by cases args; simp_all
  obtain ⟨rfl, rfl⟩ := trodVars_none hV
  have k0 := h0
  have lt0 : ∀ x ∈ p0, x.block < W.heap.size := by obtain ⟨m, hm⟩ := k0; exact DataW.trod_lt m _ _ _ hm
  obtain ⟨a0, rfl, rfl, rfl, w0⟩ := open_int Try.underlying5 (hval 0 5 v0 rfl rfl) h0
  have k1 := h1
  have lt1 : ∀ x ∈ p1, x.block < W.heap.size := by obtain ⟨m, hm⟩ := k1; exact DataW.trod_lt m _ _ _ hm
  obtain ⟨a1, len1, cap1, rfl⟩ := okWide_slice Try.underlying22 (hval 1 22 v1 rfl rfl)
  obtain ⟨n1, X1, Y1, Z1, w1⟩ : len1 < 9223372036854775808 ∧ ∃ (X Y : Nat → Int) (Z : Nat → Nat), Deeds W a1 len1 X Y Z := by
    obtain ⟨fuel, hf⟩ := h1
    exact open_deeds Try.underlying22 Try.underlying24 rfl rfl rfl rfl rfl rfl Try.underlying3 Try.underlying5 (by kernel_rfl) (by kernel_rfl) (by kernel_rfl) hf
  have k2 := h2
  have lt2 : ∀ x ∈ p2, x.block < W.heap.size := by obtain ⟨m, hm⟩ := k2; exact DataW.trod_lt m _ _ _ hm
  obtain ⟨c20, c21, c22, y20, y21, y22, m2, rfl, rfl, rfl, hy20, hy21, hy22⟩ := Go.Joins.open_agg3 Try.underlying24 (by kernel_rfl) cells2 (hval 2 24 v2 rfl rfl) h2
  obtain ⟨a2x0, e20, rfl, w2x0⟩ := DataW.trod_int Try.underlying3 hy20
  obtain ⟨a2x1, e21, rfl, w2x1⟩ := DataW.trod_int Try.underlying3 hy21
  obtain ⟨a2x2, e22, rfl, w2x2⟩ := DataW.trod_int Try.underlying5 hy22
  simp at e20 e21 e22
  subst e20 e21 e22
  clear hA0 hval0
  refine (walk a0 a1 len1 cap1 X1 Y1 Z1 a2x0 a2x1 a2x2 W w0 n1 w1 w2x0 w2x1 w2x2).mono fun e W' ⟨he, bel⟩ => ?_
  subst he
  exact ⟨_, rfl, _, _, _, [], _, [], hW', trodAll_mk1 (shut_bool Try.underlying4 _), (trodAll_cons_mk (Below.trod laidOut (by kernel_rfl) (of_decide_eq_true (by kernel_rfl)) k0 bel lt0) (trodAll_cons_mk (Below.trod laidOut (by kernel_rfl) (of_decide_eq_true (by kernel_rfl)) k1 bel lt1) (trodAll_cons_mk (Below.trod laidOut (by kernel_rfl) (of_decide_eq_true (by kernel_rfl)) k2 bel lt2) trodAll_mk0))), rfl, bel.frame _, fun h => by cases h⟩

theorem over : Rows.bitqRemovesRow.holds Try.pinned (OpenSpec.ofChange Rows.bitqRemovesSpec) :=
  OpenClaim.holds_of_wide 7 Try.f7 rfl rfl rfl rfl rfl rfl rfl ⟨rfl, rfl, rfl, rfl, rfl⟩ rfl rfl rfl rfl rfl (by kernel_rfl) Try.func7 (by kernel_rfl)
    (of_decide_eq_true (by kernel_rfl)) (by unfold Func.isWrapper; first | (rw [if_pos (by decide +kernel)]; kernel_rfl) | (rw [if_neg (by decide +kernel)]; exact ⟨rfl, rfl⟩))
    (fun os started H enc _ => lifted os started H enc)
end Go.Proofs.Ythehnicmjiidiaa.bitqRemoves
namespace Go.Proofs.Ythehnicmjiidiaa
/-- The statement. -/
theorem bitqRemoves_holds : Rows.BitqRemovesSaid := bitqRemoves.over
#print axioms bitqRemoves_holds
end Go.Proofs.Ythehnicmjiidiaa
