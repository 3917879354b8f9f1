/-
  The walks of Same, and of the document's queue: Len, Level, List.
-/
import Derived.Test.YthehnicmjiidiaaE7
namespace Go.Proofs.Ythehnicmjiidiaa
open Go.RowKit Go.Lib

set_option maxHeartbeats 1000000 in
theorem same_walk (w : World) (ga gb len ca cb : Nat) (xs : Nat → Int) (hl : len ≤ 1024)
    (hca : ∀ j, j < len → w.cell? ⟨ga, j, none⟩ = some (.int .i64 (xs j))) (hcb : ∀ j, j < len → w.cell? ⟨gb, j, none⟩ = some (.int .i64 (xs j))) :
    Calls Try.prog 21 #[.slice (some ⟨ga, 0, none⟩) len ca, .slice (some ⟨gb, 0, none⟩) len cb] w fun e w' => e = .returned (.bool true) ∧ ∃ q, w' = w.drewN q := by
  have HA := veil hca
  have HB := veil hcb
  clear hca hcb
  go_enter Try.func21, Try.ntmps21
  go_wp2
  go_loopw [5] (fun i wr => ∃ j q : Nat, j ≤ len ∧ i = .int .i64 j ∧ wr = w.drewN q) (fun i _ => len - (intOf i).toNat)
  case atStart => exact ⟨0, 0, by omega, rfl, rfl⟩
  case round =>
    obtain ⟨j, q, hj, rfl, rfl⟩ := hrel
    by_cases hjl : j < len
    · have e1 := HA.out j hjl
      have e2 := HB.out j hjl
      go_wp2
      go_quiet (fail)
      go_wp2
      go_roundw
      case rel => exact ⟨j + 1, _, by omega, by go_num, rfl⟩
      case measure => simp [intOf]; omega
    · go_wp2
      go_ret
      exact ⟨rfl, _, rfl⟩
theorem same_empty (w : World) (a b : Option Addr) (ca cb : Nat) :
    Calls Try.prog 21 #[.slice a 0 ca, .slice b 0 cb] w fun e w' => e = .returned (.bool true) ∧ ∃ q, w' = w.drewN q := by
  go_enter Try.func21, Try.ntmps21
  go_wp2
  go_loopw [5] (fun i wr => i = .int .i64 0 ∧ wr = w) (fun i _ => 0)
  case atStart => exact ⟨rfl, rfl⟩
  case round =>
    obtain ⟨rfl, rfl⟩ := hrel
    go_wp2
    go_ret
    exact ⟨rfl, 0, rfl⟩
theorem same_yes (w : World) (b1 b2 : Nat) (v1 v2 : Value) (xs : List Int) (hl : xs.length ≤ 1024) (h1 : IL w b1 v1 xs) (h2 : IL w b2 v2 xs) :
    Calls Try.prog 21 #[v1, v2] w fun e w' => e = .returned (.bool true) ∧ ∃ q, w' = w.drewN q := by
  by_cases hx : xs = []
  · subst hx
    obtain ⟨a, ca, rfl⟩ := h1.slice
    obtain ⟨b, cb, rfl⟩ := h2.slice
    exact same_empty w a b ca cb
  · obtain ⟨ga, ca, rfl, _, _, c1⟩ := h1.cells hx
    obtain ⟨gb, cb, rfl, _, _, c2⟩ := h2.cells hx
    exact same_walk w ga gb xs.length ca cb (fun j => xs.getD j 0) hl c1 c2

section
variable {w : World} {base rb n : Nat} {v : Value} {R R1 R2 : List (Nat × Nat)} {id lv : Nat}
theorem rLen_ok (h : IsRef w base rb n v R) :
    Calls Try.prog 31 #[.pointer (some ⟨rb, 0, none⟩)] w fun e w' => e = .returned (.int .i64 (R.length : Int)) ∧ w' = w := by
  obtain ⟨a, cap, rfl, _⟩ := h.form
  have e1 := h.c1
  clear h
  go_enter Try.func31, Try.ntmps31
  go_wp2
  go_ret
  exact ⟨rfl, rfl⟩
theorem rLevel_none (h : IsRef w base rb n v R) (id : Int) (hno : ∀ it ∈ R, ¬ (it.1 : Int) = id) :
    Calls Try.prog 29 #[.pointer (some ⟨rb, 0, none⟩), .int .i64 id] w fun e w' => e = .returned (.tuple #[.int .u8 0, .bool false]) ∧ w' = w := by
  have HA := veil (rat_none h id hno)
  clear h hno
  go_enter Try.func29, Try.ntmps29
  go_wp2_with (go_at_call 43; refine (HA.out).mono ?_; rintro e w1 ⟨rfl, hw⟩; replace hw := hw.symm; subst hw)
  go_ret2
  exact ⟨rfl, rfl⟩
theorem rLevel_some (h : IsRef w base rb n v (R1 ++ (id, lv) :: R2)) :
    Calls Try.prog 29 #[.pointer (some ⟨rb, 0, none⟩), .int .i64 id] w fun e w' => e = .returned (.tuple #[.int .u8 lv, .bool true]) ∧ w' = w := by
  have HA := veil (rat_some h)
  obtain ⟨g, cap, rfl, h1, h2, h3, h4, h5⟩ := h.cells (by simp)
  have e1 := h.c1
  have hlen := h.len_le
  have hL : (R1 ++ (id, lv) :: R2).length = R1.length + R2.length + 1 := by simp; omega
  rw [hL] at e1 hlen h1
  obtain ⟨_, e3⟩ := h5 R1.length (id, lv) (by simp)
  clear h h5 hL
  generalize R1.length = k at *
  generalize hLL : k + R2.length + 1 = L at *
  have b3 : k < L := by omega
  go_enter Try.func29, Try.ntmps29
  go_wp2_with (go_at_call 43; refine (HA.out).mono ?_; rintro e w1 ⟨rfl, hw⟩; replace hw := hw.symm; subst hw)
  go_ret2
  exact ⟨rfl, rfl⟩
end

theorem idsOf_take (R : List (Nat × Nat)) (lv j : Nat) (it : Nat × Nat) (h : R[j]? = some it) : idsOf (R.take (j + 1)) lv = idsOf (R.take j) lv ++ (if it.2 = lv then [(it.1 : Int)] else []) := by
  rw [List.take_add_one, h]
  unfold idsOf
  rw [QL_append]
  simp only [Option.toList_some, List.map_append]
  congr 1
  rw [show ([it] : List (Nat × Nat)) = [(it.1, it.2)] from rfl, QL_cons]
  by_cases e : lv = it.2
  · rw [if_pos e, if_pos e.symm]
    simp [QL]
  · rw [if_neg e, if_neg (fun q => e q.symm)]
    rfl
theorem idsOf_len (R : List (Nat × Nat)) (lv : Nat) : (idsOf R lv).length ≤ R.length := by
  unfold idsOf QL
  rw [List.length_map, List.length_map]
  exact List.length_filter_le _ _

set_option maxHeartbeats 2000000 in
theorem rList_ok {w : World} {base rb n : Nat} {v : Value} {R : List (Nat × Nat)} (h : IsRef w base rb n v R) (lv : Nat) :
    Calls Try.prog 32 #[.pointer (some ⟨rb, 0, none⟩), .int .u8 lv] w fun e w' => ∃ v', e = .returned v' ∧ IL w' w.heap.size v' (idsOf R lv) ∧ Below w.heap.size w w' := by
  obtain ⟨i0, hi0, hz0, hz1, hz2⟩ := info_parts infoInt
  obtain ⟨a, cap, rfl, hcap, _⟩ := h.form
  have hlen := h.len_le
  have hrb := h.lt
  have HH := veil h
  have HC1 := veil h.c1
  clear h
  go_enter Try.func32, Try.ntmps32
  go_wp2
  go_loopw [5, 6] (fun o i wr => ∃ j : Nat, j ≤ R.length ∧ i = .int .i64 j ∧ IL wr w.heap.size o (idsOf (R.take j) lv) ∧ Below w.heap.size w wr) (fun _ i _ => R.length - (intOf i).toNat)
  case atStart => exact ⟨0, by omega, rfl, World.ownsRow_nil _ _ _ _, Below.refl _ _⟩
  case round =>
    obtain ⟨j, hj, rfl, hil, hbel⟩ := hrel
    have e1 := (hbel.cell (p := ⟨rb, 1, none⟩) hrb).trans HC1.out
    obtain ⟨ao, co, rfl⟩ := hil.slice
    have HIL := veil hil
    have HBE := veil hbel
    by_cases hjl : j < R.length
    · obtain ⟨g, cap', hv, h1, h2, h3, h4, h5⟩ := HH.out.cells (by intro e; subst e; simp at hjl)
      simp at hv
      obtain ⟨rfl, rfl⟩ := hv
      obtain ⟨it, hit⟩ : ∃ it, R[j]? = some it := ⟨_, List.getElem?_eq_getElem hjl⟩
      obtain ⟨z1, z2⟩ := h5 j it hit
      have y1 := (hbel.cell (p := ⟨g, j * 2, none⟩) h3).trans z1
      have y2 := (hbel.cell (p := ⟨g, j * 2 + 1, none⟩) h3).trans z2
      have hrng := (HH.out.rng it (List.mem_of_getElem? hit)).2
      have htk := idsOf_take R lv j it hit
      have hll := idsOf_len (R.take j) lv
      have hll2 : (R.take j).length ≤ j := by simp; omega
      have hsz := hbel.size
      have HT := veil htk
      by_cases hq : it.2 = lv
      · subst hq
        clear hil hbel z1 z2 h5 htk
        go_wp2_with (at_builtin; refine wpList_append_own _ rfl _ _ 40 rfl w.heap.size 3 i0 (.int .i64 0) 1 8 Try.underlying40 hi0 hz0 hz1 hz2 rfl (by decide) _ _ _ rfl (World.ownsRow.alloc HIL.out _) ⟨wr.heap.size, 0, none⟩ 1 1 [.int .i64 (it.1 : Int)] rfl rfl (cell_one_new _ _ _) (by simp [Value.oneCell']) (by unfold maxLen; omega) (by omega) (by simp; omega) ?_; intro v' w1 hown' hgrow _; have HO := veil hown'; have HG := veil hgrow; clear hown' hgrow)
        go_roundw
        case rel =>
          refine ⟨j + 1, by omega, by go_num, ?_, ?_⟩
          · rw [HT.out, if_pos rfl]
            have := HO.out
            unfold IL
            simpa using this
          · exact (HBE.out.alloc HBE.out.size _).grown HG.out (by simp; omega) (fun k hk => (HIL.out.lt k hk).1)
        case measure => simp [intOf]; omega
      · have hq' : ¬ (it.2 : Int) = (lv : Int) := by omega
        clear hil hbel z1 z2 h5 htk
        go_wp2
        go_roundw
        case rel =>
          refine ⟨j + 1, by omega, by go_num, ?_, HBE.out⟩
          rw [HT.out, if_neg hq, List.append_nil]
          exact HIL.out
        case measure => simp [intOf]; omega
    · have hj' : j = R.length := by omega
      clear hil hbel
      go_wp2
      go_ret
      refine ⟨_, rfl, ?_, HBE.out⟩
      have hR : R.take j = R := by rw [hj', List.take_length]
      have := HIL.out
      have key : ∀ S, S = R → IL wr w.heap.size (.slice ao (idsOf (R.take j) lv).length co) (idsOf S lv) → IL wr w.heap.size (.slice ao (idsOf (R.take j) lv).length co) (idsOf R lv) := fun S e q => by rw [e] at q; exact q
      exact key _ hR this
end Go.Proofs.Ythehnicmjiidiaa
