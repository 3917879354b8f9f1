/-
  A set's calls that are refused; Key, Len, Change.
-/
import Derived.Test.YtlfejgjhamcahaaY12
namespace Go.Proofs.Ytlfejgjhamcahaa
open Go.RowKit
attribute [local go_sem ↓] Go.wp_at_zero Go.wp_at_succ

theorem below_eq {w w' : World} (h : w' = w) : Below w.heap.size w w' := by rw [h]; exact Below.refl _ _
section
variable {w : World} {sb qb gq hb gh n most turn : Nat} {R : List (Nat × Nat)} {L : List Ph.Item} {M : List En}
theorem id_S (h : IsS w sb qb gq hb gh n most turn M) : ∃ R L, St w sb qb gq hb gh n most turn R L ∧ InvS n most turn R L M := h
set_option maxHeartbeats 1000000 in
theorem pkey_range (h : St w sb qb gq hb gh n most turn R L) (id : Int) (hi : id < 0 ∨ (n : Int) ≤ id) :
    Calls Try.prog 68 #[.agg #[.pointer (some ⟨qb, 0, none⟩), .pointer (some ⟨hb, 0, none⟩)], .int .i64 id] w fun e w' => e = .returned (.tuple #[.agg #[.bool false, .int .u64 0, .int .u8 0], .bool false]) ∧ Below w.heap.size w w' := by
  have hA := ((Below.refl w.heap.size w).alloc (Nat.le_refl _) (.cells #[.pointer (some ⟨qb, 0, none⟩), .pointer (some ⟨hb, 0, none⟩)] 97)).alloc (by simp) (.cells #[.bool false, .int .u64 0, .int .u8 0] 25)
  have HA := veil hA
  have HS := veil (h.below hA)
  have hz : ((w.alloc (.cells #[.pointer (some ⟨qb, 0, none⟩), .pointer (some ⟨hb, 0, none⟩)] 97)).alloc (.cells #[.bool false, .int .u64 0, .int .u8 0] 25)).heap.size = w.heap.size + 2 := by simp
  have HZ := veil hz
  have c1 : ((w.alloc (.cells #[.pointer (some ⟨qb, 0, none⟩), .pointer (some ⟨hb, 0, none⟩)] 97)).alloc (.cells #[.bool false, .int .u64 0, .int .u8 0] 25)).cell? ⟨w.heap.size, 1, none⟩ = some (.pointer (some ⟨hb, 0, none⟩)) := by
    rw [World.cell?_alloc_lt _ _ _ (by simp), Ph.cell_new]; rfl
  have CK : Hid (∀ i, ((w.alloc (.cells #[.pointer (some ⟨qb, 0, none⟩), .pointer (some ⟨hb, 0, none⟩)] 97)).alloc (.cells #[.bool false, .int .u64 0, .int .u8 0] 25)).cell? ⟨w.heap.size + 1, i, none⟩ = (#[.bool false, .int .u64 0, .int .u8 0] : Array Value)[i]?) := fun i => by
    rw [show w.heap.size + 1 = (w.alloc (.cells #[.pointer (some ⟨qb, 0, none⟩), .pointer (some ⟨hb, 0, none⟩)] 97)).heap.size by simp]; exact Ph.cell_new _ _ _ _
  have CF : Hid (∀ i, ((w.alloc (.cells #[.pointer (some ⟨qb, 0, none⟩), .pointer (some ⟨hb, 0, none⟩)] 97)).alloc (.cells #[.bool false, .int .u64 0, .int .u8 0] 25)).frozen? ⟨w.heap.size + 1, i, none⟩ = false) := fun i => by
    rw [show w.heap.size + 1 = (w.alloc (.cells #[.pointer (some ⟨qb, 0, none⟩), .pointer (some ⟨hb, 0, none⟩)] 97)).heap.size by simp]; exact Ph.frozen_new _ _ _ _
  have C1 := veil c1
  clear h hA hz c1
  go_enter Try.func68, Try.ntmps68
  go_wp2_with (first
    | (go_at_call 90; refine (Bq.level_range HS.out.q id hi).mono ?_; rintro e w1 ⟨rfl, hb1⟩; replace hb1 := below_eq hb1; have HS1 := veil (HS.out.below hb1); have HB1 := veil hb1; have x1 := (hb1.cell (p := ⟨w.heap.size, 1, none⟩) (by rw [HZ.out]; simp)).trans C1.out; clear hb1)
    | (go_at_call 91; refine (Ph.hget_range HS1.out.h id hi).mono ?_; rintro e w2 ⟨rfl, hb2⟩; replace hb2 := below_eq hb2; have HB2 := veil (HB1.out.trans (hb2.mono HB1.out.size)); have s2 := HB2.out.size; have k0 := (HB2.out.cell (p := ⟨w.heap.size + 1, 0, none⟩) (by rw [HZ.out]; simp)).trans (CK.out 0); have k1 := (HB2.out.cell (p := ⟨w.heap.size + 1, 1, none⟩) (by rw [HZ.out]; simp)).trans (CK.out 1); have k2 := (HB2.out.cell (p := ⟨w.heap.size + 1, 2, none⟩) (by rw [HZ.out]; simp)).trans (CK.out 2); have f0 := (World.frozen?_of_block (a := ⟨w.heap.size + 1, 0, none⟩) (HB2.out.block (w.heap.size + 1) (by rw [HZ.out]; simp))).trans (CF.out 0); have f1 := (World.frozen?_of_block (a := ⟨w.heap.size + 1, 1, none⟩) (HB2.out.block (w.heap.size + 1) (by rw [HZ.out]; simp))).trans (CF.out 1); have f2 := (World.frozen?_of_block (a := ⟨w.heap.size + 1, 2, none⟩) (HB2.out.block (w.heap.size + 1) (by rw [HZ.out]; simp))).trans (CF.out 2); have hW := veil ((HA.out.trans (HB2.out.mono (by rw [HZ.out]; omega)))); clear hb2))
  refine bodyPost_ret (v := .tuple #[.agg #[.bool false, .int .u64 0, .int .u8 0], .bool false]) ?_ rfl ?_
  · simp [results, Try.f68, go_sem, k0, k1, k2]
  · refine ⟨rfl, ?_⟩
    exact ((hW.out.setCell (p := ⟨w.heap.size + 1, 0, none⟩) (by simp) _).setCell (p := ⟨w.heap.size + 1, 1, none⟩) (by simp) _).setCell (p := ⟨w.heap.size + 1, 2, none⟩) (by simp) _
theorem pkeyN (h : IsS w sb qb gq hb gh n most turn M) (id : Nat) (hi : id < n) :
    Calls Try.prog 68 #[.agg #[.pointer (some ⟨qb, 0, none⟩), .pointer (some ⟨hb, 0, none⟩)], .int .i64 (id : Int)] w fun e w' => e = .returned (.tuple #[.agg #[.bool (kz (keyOf M id)).e, .int .u64 (kz (keyOf M id)).d, .int .u8 (kz (keyOf M id)).l], .bool (keyOf M id).isSome]) ∧ Below w.heap.size w w' := by
  obtain ⟨R, L, hS, hI⟩ := h
  exact pkey_ok hS hI id hi
/-- The key of any number. -/
def keyAt (n : Nat) (M : List En) (id : Int) : Option Ke.K := if 0 ≤ id ∧ id < (n : Int) then keyOf M id.toNat else none
theorem pkeyA (h : IsS w sb qb gq hb gh n most turn M) (id : Int) :
    Calls Try.prog 68 #[.agg #[.pointer (some ⟨qb, 0, none⟩), .pointer (some ⟨hb, 0, none⟩)], .int .i64 id] w fun e w' => e = .returned (.tuple #[.agg #[.bool (kz (keyAt n M id)).e, .int .u64 (kz (keyAt n M id)).d, .int .u8 (kz (keyAt n M id)).l], .bool (keyAt n M id).isSome]) ∧ Below w.heap.size w w' := by
  unfold keyAt
  by_cases hi : 0 ≤ id ∧ id < (n : Int)
  · rw [if_pos hi]
    obtain ⟨k, rfl⟩ := Int.eq_ofNat_of_zero_le hi.1
    exact pkeyN h k (by omega)
  · rw [if_neg hi]
    obtain ⟨R, L, hS, hI⟩ := h
    exact pkey_range hS id (by omega)
theorem slenS (h : IsS w sb qb gq hb gh n most turn M) :
    Calls Try.prog 44 #[.pointer (some ⟨sb, 0, none⟩)] w fun e w' => e = .returned (.int .i64 (M.length : Int)) ∧ Below w.heap.size w w' := by
  have hn := h.n_le
  obtain ⟨R, L, hS, hI⟩ := h
  have h1 := hI.len
  have h2 := hI.fits
  have h3 := hI.mn
  have := slen_ok hS (by omega)
  rw [h1] at this
  exact this
set_option maxHeartbeats 1000000 in
theorem smay_no (h : IsS w sb qb gq hb gh n most turn M) (id : Int) (k : Ke.K) (hb : id < 0 ∨ (n : Int) ≤ id ∨ Ke.rightK k = false) :
    Calls Try.prog 74 #[.pointer (some ⟨sb, 0, none⟩), .int .i64 id, .agg #[.bool k.e, .int .u64 k.d, .int .u8 k.l]] w fun e w' => e = .returned (.int .i64 2) ∧ Below w.heap.size w w' := by
  obtain ⟨R, L, hS, _⟩ := h
  have c2 := (hS.below ((Below.refl _ _).alloc (Nat.le_refl _) (.cells #[.bool k.e, .int .u64 k.d, .int .u8 k.l] 25))).c2
  have HA : Hid (Below w.heap.size w (w.alloc (.cells #[.bool k.e, .int .u64 k.d, .int .u8 k.l] 25))) := (Below.refl _ _).alloc (Nat.le_refl _) _
  have hlt := hS.lt
  have y0 : ¬ sb = w.heap.size := by omega
  have c20 := hS.c2
  have HR := veil (fun W => Ke.right_ok W k)
  clear hS
  have hcs : id < 0 ∨ (¬ id < 0 ∧ (n : Int) ≤ id) ∨ (¬ id < 0 ∧ ¬ (n : Int) ≤ id ∧ Ke.rightK k = false) := by
    by_cases q1 : id < 0
    · exact .inl q1
    · by_cases q2 : (n : Int) ≤ id
      · exact .inr (.inl ⟨q1, q2⟩)
      · rcases hb with q | q | q
        · exact absurd q q1
        · exact absurd q q2
        · exact .inr (.inr ⟨q1, q2, q⟩)
  clear hb
  rcases hcs with h1 | ⟨h1, h2⟩ | ⟨h1, h2, h3⟩
  · go_enter Try.func74, Try.ntmps74
    go_wp2
    go_ret
    exact ⟨rfl, HA.out⟩
  · go_enter Try.func74, Try.ntmps74
    go_wp2
    go_ret
    exact ⟨rfl, HA.out⟩
  · rw [h3] at HR
    go_enter Try.func74, Try.ntmps74
    go_wp2_with (go_at_call 49; refine (HR.out _).mono ?_; rintro e w1 ⟨rfl, hb1⟩; have HB1 := veil (HA.out.trans (hb1.mono HA.out.size)); clear hb1)
    go_ret
    exact ⟨rfl, HB1.out⟩
/-- What is asked while a key lies in a box of its own. -/
theorem boxS (h : IsS w sb qb gq hb gh n most turn M) (k : Ke.K) : ∀ W, Below (w.heap.size + 1) (w.alloc (.cells #[.bool k.e, .int .u64 k.d, .int .u8 k.l] 25)) W → IsS W sb qb gq hb gh n most turn M ∧ (W.cell? ⟨w.heap.size, 0, none⟩ = some (.bool k.e) ∧ W.cell? ⟨w.heap.size, 1, none⟩ = some (.int .u64 k.d) ∧ W.cell? ⟨w.heap.size, 2, none⟩ = some (.int .u8 k.l)) ∧ (∀ o, W.frozen? ⟨w.heap.size, o, none⟩ = false) ∧ w.heap.size + 1 ≤ W.heap.size ∧ Below w.heap.size w W := fun W hW => by
  have hA := (Below.refl w.heap.size w).alloc (Nat.le_refl _) (.cells #[.bool k.e, .int .u64 k.d, .int .u8 k.l] 25)
  have hz : (w.alloc (.cells #[.bool k.e, .int .u64 k.d, .int .u8 k.l] 25)).heap.size = w.heap.size + 1 := by simp
  refine ⟨(h.below hA).below (by rw [hz]; exact hW), ⟨?_, ?_, ?_⟩, fun o => ?_, by rw [← hz]; exact hW.size, hA.trans (hW.mono (by omega))⟩
  · rw [hW.cell (p := ⟨w.heap.size, 0, none⟩) (by simp), Ph.cell_new]; rfl
  · rw [hW.cell (p := ⟨w.heap.size, 1, none⟩) (by simp), Ph.cell_new]; rfl
  · rw [hW.cell (p := ⟨w.heap.size, 2, none⟩) (by simp), Ph.cell_new]; rfl
  · rw [World.frozen?_of_block (a := ⟨w.heap.size, o, none⟩) (hW.block w.heap.size (by omega))]
    exact Ph.frozen_new _ _ _ _
theorem smay_yes (h : IsS w sb qb gq hb gh n most turn M) (id : Nat) (hi : id < n) (k : Ke.K) (hk : Ke.rightK k = true) :
    Calls Try.prog 74 #[.pointer (some ⟨sb, 0, none⟩), .int .i64 (id : Int), .agg #[.bool k.e, .int .u64 k.d, .int .u8 k.l]] w fun e w' => e = .returned (.int .i64 0) ∧ Below w.heap.size w w' := by
  obtain ⟨R, L, hS, _⟩ := h
  exact smay_ok hS id hi k hk
set_option maxHeartbeats 1000000 in
theorem sPut_no (h : IsS w sb qb gq hb gh n most turn M) (id : Int) (k : Ke.K) (hb : id < 0 ∨ (n : Int) ≤ id ∨ Ke.rightK k = false) :
    Calls Try.prog 50 #[.pointer (some ⟨sb, 0, none⟩), .int .i64 id, .agg #[.bool k.e, .int .u64 k.d, .int .u8 k.l]] w fun e w' => e = .returned (.int .i64 2) ∧ Below w.heap.size w w' := by
  have HX := veil (boxS h k)
  have HMay := veil (smay_no (boxS h k _ (Below.refl _ _)).1 id k hb)
  clear h hb
  go_enter Try.func50, Try.ntmps50
  go_wp2_with (go_at_call 74; refine (HMay.out).mono ?_; rintro e w1 ⟨rfl, hb1⟩; have HB1 := veil (show Below (w.heap.size + 1) _ w1 by simpa using hb1); obtain ⟨hs1, ⟨k10, k11, k12⟩, _, hz1, hbw1⟩ := HX.out _ HB1.out; have HS1 := veil hs1; have HBW1 := veil hbw1; obtain ⟨R1, L1, hst1, _⟩ := id_S hs1; have c10 := hst1.c0; have c11 := hst1.c1; clear hb1 hs1 hst1 hbw1)
  go_ret
  exact ⟨rfl, HBW1.out⟩
set_option maxHeartbeats 1000000 in
theorem sPut_known (h : IsS w sb qb gq hb gh n most turn M) (id : Nat) (hi : id < n) (k : Ke.K) (hr : Ke.rightK k = true) (k' : Ke.K) (hko : keyOf M id = some k') :
    Calls Try.prog 50 #[.pointer (some ⟨sb, 0, none⟩), .int .i64 (id : Int), .agg #[.bool k.e, .int .u64 k.d, .int .u8 k.l]] w fun e w' => e = .returned (.int .i64 5) ∧ Below w.heap.size w w' := by
  have HX := veil (boxS h k)
  have HMay := veil (smay_yes (boxS h k _ (Below.refl _ _)).1 id hi k hr)
  have HKO := veil hko
  clear h hko
  go_enter Try.func50, Try.ntmps50
  go_wp2_with (first | (go_at_call 74; refine (HMay.out).mono ?_; rintro e w1 ⟨rfl, hb1⟩; have HB1 := veil (show Below (w.heap.size + 1) _ w1 by simpa using hb1); obtain ⟨hs1, ⟨k10, k11, k12⟩, _, hz1, hbw1⟩ := HX.out _ HB1.out; have HS1 := veil hs1; have HBW1 := veil hbw1; obtain ⟨R1, L1, hst1, _⟩ := id_S hs1; have c10 := hst1.c0; have c11 := hst1.c1; clear hb1 hs1 hst1 hbw1) | (go_at_call 68; refine (pkeyN HS1.out id hi).mono ?_; rw [HKO.out]; rintro e w2 ⟨rfl, hb2⟩; have HB2 := veil (HB1.out.trans (hb2.mono hz1)); obtain ⟨hs2, ⟨k20, k21, k22⟩, _, hz2, hbw2⟩ := HX.out _ HB2.out; have HS2 := veil hs2; have HBW2 := veil hbw2; obtain ⟨R2, L2, hst2, _⟩ := id_S hs2; have c23 := hst2.c3; clear hb2 hs2 hst2 hbw2))
  go_ret
  exact ⟨rfl, HBW2.out.alloc HBW2.out.size _⟩
set_option maxHeartbeats 2000000 in
theorem sPut_full (h : IsS w sb qb gq hb gh n most turn M) (id : Nat) (hi : id < n) (k : Ke.K) (hr : Ke.rightK k = true) (hko : keyOf M id = none) (hf : M.length = most) :
    Calls Try.prog 50 #[.pointer (some ⟨sb, 0, none⟩), .int .i64 (id : Int), .agg #[.bool k.e, .int .u64 k.d, .int .u8 k.l]] w fun e w' => e = .returned (.int .i64 4) ∧ Below w.heap.size w w' := by
  have HX := veil (boxS h k)
  have HMay := veil (smay_yes (boxS h k _ (Below.refl _ _)).1 id hi k hr)
  have HKO := veil hko
  have hm1 := h.n_le
  clear h hko
  go_enter Try.func50, Try.ntmps50
  go_wp2_with (first | (go_at_call 74; refine (HMay.out).mono ?_; rintro e w1 ⟨rfl, hb1⟩; have HB1 := veil (show Below (w.heap.size + 1) _ w1 by simpa using hb1); obtain ⟨hs1, ⟨k10, k11, k12⟩, _, hz1, hbw1⟩ := HX.out _ HB1.out; have HS1 := veil hs1; have HBW1 := veil hbw1; obtain ⟨R1, L1, hst1, _⟩ := id_S hs1; have c10 := hst1.c0; have c11 := hst1.c1; clear hb1 hs1 hst1 hbw1) | (go_at_call 68; refine (pkeyN HS1.out id hi).mono ?_; rw [HKO.out]; rintro e w2 ⟨rfl, hb2⟩; have HB2 := veil (HB1.out.trans (hb2.mono hz1)); obtain ⟨hs2, ⟨k20, k21, k22⟩, _, hz2, hbw2⟩ := HX.out _ HB2.out; have HS2 := veil hs2; have HBW2 := veil hbw2; obtain ⟨R2, L2, hst2, _⟩ := id_S hs2; have c23 := hst2.c3; clear hb2 hs2 hst2 hbw2))
  have HW3 := veil (show Below (w.heap.size + 1) (w.alloc (.cells #[.bool k.e, .int .u64 k.d, .int .u8 k.l] 25)) ((w2.alloc (.cells #[.bool false, .int .u64 0, .int .u8 0] 25)).drew) from (HB2.out.alloc hz2 _).drew)
  obtain ⟨hs3, _, _, hz3, hbw3⟩ := HX.out _ HW3.out
  have HLn := veil (slenS hs3)
  rw [hf] at HLn
  obtain ⟨R3, L3, hst3, _⟩ := id_S hs3
  have c33 := hst3.c3
  clear hs3 hst3 hbw3 k10 k11 k12 k20 k21 k22 c10 c11 c23 hf
  go_region_held3 (fun w' => w'.cell? ⟨sb, 3, none⟩ = some (.int .i64 (most : Int)))
    (first | exact c43 | exact c33 | go_keep)
    (first | (go_at_call 44; refine (HLn.out).mono ?_; rintro e w3 ⟨rfl, hb3⟩; have HB3 := veil (HW3.out.trans (hb3.mono (by simpa using hz3))); obtain ⟨hs4, _, _, hz4, hbw4⟩ := HX.out _ HB3.out; have HBW4 := veil hbw4; obtain ⟨R4, L4, hst4, _⟩ := id_S hs4; have c43 := hst4.c3; clear hb3 hs4 hst4 hbw4))
  go_wp2
  go_ret
  exact ⟨rfl, HBW4.out⟩
theorem sputS (h : IsS w sb qb gq hb gh n most turn M) (ht : turn ≤ 1000) (id : Nat) (k : Ke.K) (hi : id < n) (hr : Ke.rightK k = true) (hk : k.ok) (hno : keyOf M id = none) (hlen : M.length < most) :
    Calls Try.prog 75 #[.pointer (some ⟨sb, 0, none⟩), .int .i64 (id : Int), .agg #[.bool k.e, .int .u64 k.d, .int .u8 k.l]] w fun e w' => e = .returned (.tuple #[]) ∧ IsS w' sb qb gq hb gh n most (turn + 1) (put (id, k) M) ∧ Fr (OwnS sb qb gq hb gh) w w' := by
  have hn := h.n_le
  obtain ⟨R, L, hS, hI⟩ := h
  have hm := keyOf_none.1 hno
  have hl := hI.len
  have hmn := hI.mn
  have e1 := len_put (x := (id, k)) (M := M)
  rcases right_cases hr hk with ⟨d, rfl⟩ | ⟨lv, hlv, rfl⟩
  · refine (sput_dead hS ht id d hi (hI.missL hm)).mono ?_
    rintro e w' ⟨rfl, a, b⟩
    refine ⟨rfl, ⟨R, _, a, ?_, nd_put hI.nd hm, by rw [Ph.len_ins]; omega, fun y hy => ?_, by omega, hI.mn, hI.rl⟩, b.wide (fun k _ q => ?_)⟩
    · rw [← hI.eq, put_dead R L id d turn hI.lt]
    · rcases Ph.mem_ins.1 hy with rfl | q
      · exact Nat.lt_succ_self _
      · exact Nat.lt_succ_of_lt (hI.lt y q)
    · unfold OwnS Own; omega
  · refine (sput_level hS ht id lv hi hlv (hI.missR hm)).mono ?_
    rintro e w' ⟨rfl, a, b⟩
    refine ⟨rfl, ⟨_, L, a, ?_, nd_put hI.nd hm, by simp; omega, fun y hy => Nat.lt_succ_of_lt (hI.lt y hy), by omega, hI.mn, fun it hit => ?_⟩, b.wide (fun k _ q => ?_)⟩
    · rw [← hI.eq, put_level R L id lv hlv]
    · rcases List.mem_append.1 hit with q | q
      · exact hI.rl it q
      · simp at q; rw [q]; exact hlv
    · unfold OwnS Own; omega
set_option maxHeartbeats 1000000 in
theorem sChange_no (h : IsS w sb qb gq hb gh n most turn M) (id : Int) (k : Ke.K) (hb : id < 0 ∨ (n : Int) ≤ id ∨ Ke.rightK k = false) :
    Calls Try.prog 58 #[.pointer (some ⟨sb, 0, none⟩), .int .i64 id, .agg #[.bool k.e, .int .u64 k.d, .int .u8 k.l]] w fun e w' => e = .returned (.int .i64 2) ∧ Below w.heap.size w w' := by
  have HX := veil (boxS h k)
  have HMay := veil (smay_no (boxS h k _ (Below.refl _ _)).1 id k hb)
  clear h hb
  go_enter Try.func58, Try.ntmps58
  go_wp2_with (go_at_call 74; refine (HMay.out).mono ?_; rintro e w1 ⟨rfl, hb1⟩; have HB1 := veil (show Below (w.heap.size + 1) _ w1 by simpa using hb1); obtain ⟨hs1, ⟨k10, k11, k12⟩, _, hz1, hbw1⟩ := HX.out _ HB1.out; have HS1 := veil hs1; have HBW1 := veil hbw1; obtain ⟨R1, L1, hst1, _⟩ := id_S hs1; have c10 := hst1.c0; have c11 := hst1.c1; clear hb1 hs1 hst1 hbw1)
  go_ret
  exact ⟨rfl, HBW1.out⟩
set_option maxHeartbeats 2000000 in
theorem sChange_none (h : IsS w sb qb gq hb gh n most turn M) (id : Nat) (hi : id < n) (k : Ke.K) (hr : Ke.rightK k = true) (hko : keyOf M id = none) :
    Calls Try.prog 58 #[.pointer (some ⟨sb, 0, none⟩), .int .i64 (id : Int), .agg #[.bool k.e, .int .u64 k.d, .int .u8 k.l]] w fun e w' => e = .returned (.int .i64 6) ∧ Below w.heap.size w w' := by
  have HX := veil (boxS h k)
  have HMay := veil (smay_yes (boxS h k _ (Below.refl _ _)).1 id hi k hr)
  have HKEY : Hid (∀ W, IsS W sb qb gq hb gh n most turn M → Calls Try.prog 68 #[.agg #[.pointer (some ⟨qb, 0, none⟩), .pointer (some ⟨hb, 0, none⟩)], .int .i64 (id : Int)] W fun e w' => e = .returned (.tuple #[.agg #[.bool false, .int .u64 0, .int .u8 0], .bool false]) ∧ Below W.heap.size W w') := fun W hW => by
    have := pkeyN hW id hi
    rw [hko] at this
    exact this
  have HRM : Hid (∀ W, IsS W sb qb gq hb gh n most turn M → Calls Try.prog 59 #[.pointer (some ⟨sb, 0, none⟩), .int .i64 (id : Int)] W fun e w' => e = .returned (.int .i64 6) ∧ w' = W) := fun W hW => by
    obtain ⟨R, L, hS, hI⟩ := hW
    have hm := keyOf_none.1 hko
    exact sremove_none hS id hi (hI.missR hm) (hI.missL hm)
  clear h hko
  go_enter Try.func58, Try.ntmps58
  go_wp2_with (first | (go_at_call 74; refine (HMay.out).mono ?_; rintro e w1 ⟨rfl, hb1⟩; have HB1 := veil (show Below (w.heap.size + 1) _ w1 by simpa using hb1); obtain ⟨hs1, ⟨k10, k11, k12⟩, _, hz1, hbw1⟩ := HX.out _ HB1.out; have HS1 := veil hs1; have HBW1 := veil hbw1; obtain ⟨R1, L1, hst1, _⟩ := id_S hs1; have c10 := hst1.c0; have c11 := hst1.c1; clear hb1 hs1 hst1 hbw1) | (go_at_call 68; refine (HKEY.out _ HS1.out).mono ?_; rintro e w2 ⟨rfl, hb2⟩; have HB2 := veil (HB1.out.trans (hb2.mono hz1)); have hz2 := (HX.out _ HB2.out).2.2.2.1; have HB3 := veil (HB2.out.alloc hz2 (.cells #[.bool false, .int .u64 0, .int .u8 0] 25)); obtain ⟨hs3, ⟨k30, k31, k32⟩, _, hz3, hbw3⟩ := HX.out _ HB3.out; have HS3 := veil hs3; have HBW3 := veil hbw3; have y0 : ¬ w.heap.size = w2.heap.size := (by omega); have y1 : ¬ w2.heap.size = w.heap.size := (by omega); obtain ⟨_, ⟨k20, k21, k22⟩, _, _, _⟩ := HX.out _ HB2.out; clear hb2 hs3 hbw3) | (go_at_call 59; refine (HRM.out _ HS3.out).mono ?_; rintro e w4 ⟨rfl, hw⟩; subst hw))
  go_ret
  exact ⟨rfl, HBW3.out⟩
set_option maxHeartbeats 2000000 in
theorem sChange_same (h : IsS w sb qb gq hb gh n most turn M) (id : Nat) (hi : id < n) (k : Ke.K) (hr : Ke.rightK k = true) (hko : keyOf M id = some k) :
    Calls Try.prog 58 #[.pointer (some ⟨sb, 0, none⟩), .int .i64 (id : Int), .agg #[.bool k.e, .int .u64 k.d, .int .u8 k.l]] w fun e w' => e = .returned (.int .i64 0) ∧ Below w.heap.size w w' := by
  have HX := veil (boxS h k)
  have HMay := veil (smay_yes (boxS h k _ (Below.refl _ _)).1 id hi k hr)
  have HKEY : Hid (∀ W, IsS W sb qb gq hb gh n most turn M → Calls Try.prog 68 #[.agg #[.pointer (some ⟨qb, 0, none⟩), .pointer (some ⟨hb, 0, none⟩)], .int .i64 (id : Int)] W fun e w' => e = .returned (.tuple #[.agg #[.bool k.e, .int .u64 k.d, .int .u8 k.l], .bool true]) ∧ Below W.heap.size W w') := fun W hW => by
    have := pkeyN hW id hi
    rw [hko] at this
    exact this
  have hsm : Ke.same k k = true := by rw [Ke.same_eq]; exact decide_eq_true rfl
  clear h hko
  go_enter Try.func58, Try.ntmps58
  go_wp2_with (first | (go_at_call 74; refine (HMay.out).mono ?_; rintro e w1 ⟨rfl, hb1⟩; have HB1 := veil (show Below (w.heap.size + 1) _ w1 by simpa using hb1); obtain ⟨hs1, ⟨k10, k11, k12⟩, _, hz1, hbw1⟩ := HX.out _ HB1.out; have HS1 := veil hs1; have HBW1 := veil hbw1; obtain ⟨R1, L1, hst1, _⟩ := id_S hs1; have c10 := hst1.c0; have c11 := hst1.c1; clear hb1 hs1 hst1 hbw1) | (go_at_call 68; refine (HKEY.out _ HS1.out).mono ?_; rintro e w2 ⟨rfl, hb2⟩; have HB2 := veil (HB1.out.trans (hb2.mono hz1)); have hz2 := (HX.out _ HB2.out).2.2.2.1; have HB3 := veil (HB2.out.alloc hz2 (.cells #[.bool k.e, .int .u64 k.d, .int .u8 k.l] 25)); obtain ⟨hs3, ⟨k30, k31, k32⟩, _, hz3, hbw3⟩ := HX.out _ HB3.out; have HS3 := veil hs3; have HBW3 := veil hbw3; have y0 : ¬ w.heap.size = w2.heap.size := (by omega); have y1 : ¬ w2.heap.size = w.heap.size := (by omega); obtain ⟨_, ⟨k20, k21, k22⟩, _, _, _⟩ := HX.out _ HB2.out; clear hb2 hs3 hbw3))
  go_ret
  exact ⟨rfl, HBW3.out⟩
set_option maxHeartbeats 2000000 in
theorem sChange_other (h : IsS w sb qb gq hb gh n most turn M) (ht : turn ≤ 1000) (id : Nat) (hi : id < n) (k : Ke.K) (hr : Ke.rightK k = true) (hk : k.ok) (k' : Ke.K) (hko : keyOf M id = some k') (hne : k' ≠ k) :
    Calls Try.prog 58 #[.pointer (some ⟨sb, 0, none⟩), .int .i64 (id : Int), .agg #[.bool k.e, .int .u64 k.d, .int .u8 k.l]] w fun e w' => e = .returned (.int .i64 0) ∧ IsS w' sb qb gq hb gh n most (turn + 1) (put (id, k) (cut id M)) ∧ Fr (OwnS sb qb gq hb gh) w w' := by
  have HX := veil (boxS h k)
  have HMay := veil (smay_yes (boxS h k _ (Below.refl _ _)).1 id hi k hr)
  have HKEY : Hid (∀ W, IsS W sb qb gq hb gh n most turn M → Calls Try.prog 68 #[.agg #[.pointer (some ⟨qb, 0, none⟩), .pointer (some ⟨hb, 0, none⟩)], .int .i64 (id : Int)] W fun e w' => e = .returned (.tuple #[.agg #[.bool k'.e, .int .u64 k'.d, .int .u8 k'.l], .bool true]) ∧ Below W.heap.size W w') := fun W hW => by
    have := pkeyN hW id hi
    rw [hko] at this
    exact this
  have hsm : Ke.same k' k = false := by rw [Ke.same_eq]; exact decide_eq_false hne
  obtain ⟨R, L, hS, hI⟩ := id_S h
  have hmem := (keyOf_some hI.nd).1 hko
  have HMEM := veil hmem
  have hcl := len_cut hI.nd hmem
  have hfit := hI.fits
  have HNC : Hid (keyOf (cut id M) id = none) := keyOf_none.2 (fun y hy => (mem_cut.1 hy).2)
  have HLC : Hid ((cut id M).length < most) := by unfold Hid; omega
  have hnb : ¬ Own qb gq hb gh w.heap.size := by have := h.blocks w.heap.size; intro q; exact absurd (this (.inr q)) (by omega)
  have HNB := veil hnb
  clear h hko hS hI hmem hcl hfit hne hnb
  go_enter Try.func58, Try.ntmps58
  go_wp2_with (first
    | (go_at_call 74; refine (HMay.out).mono ?_; rintro e w1 ⟨rfl, hb1⟩; have HB1 := veil (show Below (w.heap.size + 1) _ w1 by simpa using hb1); obtain ⟨hs1, ⟨k10, k11, k12⟩, _, hz1, hbw1⟩ := HX.out _ HB1.out; have HS1 := veil hs1; have HBW1 := veil hbw1; obtain ⟨R1, L1, hst1, _⟩ := id_S hs1; have c10 := hst1.c0; have c11 := hst1.c1; clear hb1 hs1 hst1 hbw1)
    | (go_at_call 68; refine (HKEY.out _ HS1.out).mono ?_; rintro e w2 ⟨rfl, hb2⟩; have HB2 := veil (HB1.out.trans (hb2.mono hz1)); have hz2 := (HX.out _ HB2.out).2.2.2.1; have HB3 := veil (HB2.out.alloc hz2 (.cells #[.bool k'.e, .int .u64 k'.d, .int .u8 k'.l] 25)); obtain ⟨hs3, ⟨k30, k31, k32⟩, _, hz3, hbw3⟩ := HX.out _ HB3.out; have HS3 := veil hs3; have HBW3 := veil hbw3; have y0 : ¬ w.heap.size = w2.heap.size := (by omega); have y1 : ¬ w2.heap.size = w.heap.size := (by omega); obtain ⟨_, ⟨k20, k21, k22⟩, _, _, _⟩ := HX.out _ HB2.out; clear hb2 hs3 hbw3)
    | (go_at_call 59; refine (remove_ok HS3.out HMEM.out).mono ?_; rintro e w4 ⟨rfl, hs4, hf4⟩; have HS4 := veil hs4; have HF4 := veil hf4; have m0 := (hf4.cell (a := ⟨w.heap.size, 0, none⟩) hz3 HNB.out).trans k30; have m1 := (hf4.cell (a := ⟨w.heap.size, 1, none⟩) hz3 HNB.out).trans k31; have m2 := (hf4.cell (a := ⟨w.heap.size, 2, none⟩) hz3 HNB.out).trans k32; clear hs4 hf4)
    | (go_at_call 75; refine (sputS HS4.out ht id k hi hr hk HNC.out HLC.out).mono ?_; rintro e w5 ⟨rfl, hs5, hf5⟩; have HS5 := veil hs5; have HF5 := veil (((Fr.of_below' HBW3.out).trans (HF4.out.wide (fun q _ z => (.inr z : OwnS sb qb gq hb gh q)))).trans hf5); clear hs5 hf5))
  go_ret
  exact ⟨rfl, HS5.out, HF5.out⟩
end
end Go.Proofs.Ytlfejgjhamcahaa
