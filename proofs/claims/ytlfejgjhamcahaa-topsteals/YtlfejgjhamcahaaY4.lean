/-
  A set's Put, of one that is in none of its parts.
-/
import Derived.Test.YtlfejgjhamcahaaY3
namespace Go.Proofs.Ytlfejgjhamcahaa
open Go.RowKit
attribute [local go_sem ↓] Go.wp_at_zero Go.wp_at_succ

section
variable {w w' : World} {sb qb gq hb gh n most turn : Nat} {R R' : List (Nat × Nat)} {L L' : List Ph.Item}

set_option maxHeartbeats 2000000 in
theorem sPut_level (h : St w sb qb gq hb gh n most turn R L) (ht : turn ≤ 1000) (id lv : Nat) (hi : id < n) (hlv : lv < 256) (hr : ∀ it ∈ R, it.1 ≠ id) (hl : ∀ it ∈ L, it.1 ≠ id) (hlen : R.length + L.length < most) (hm : most ≤ 1024) :
    Calls Try.prog 50 #[.pointer (some ⟨sb, 0, none⟩), .int .i64 (id : Int), .agg #[.bool false, .int .u64 0, .int .u8 (lv : Int)]] w fun e w' => e = .returned (.int .i64 0) ∧ St w' sb qb gq hb gh n most (turn + 1) (R ++ [(id, lv)]) L ∧ Fr (fun k => k = sb ∨ k = qb ∨ k = gq) w w' := by
  have hA := (Below.refl w.heap.size w).alloc (Nat.le_refl _) (.cells #[.bool false, .int .u64 0, .int .u8 (lv : Int)] 25)
  have hS := h.below hA
  have hz : (w.alloc (.cells #[.bool false, .int .u64 0, .int .u8 (lv : Int)] 25)).heap.size = w.heap.size + 1 := by simp
  have HZ := veil hz
  have hMay := smay_ok hS id hi ⟨false, 0, (lv : Int)⟩ (by simp [Ke.rightK])
  have HMay := veil hMay
  have hlt := h.lt
  have HS := veil hS
  have HA := veil hA
  have HB0 : Hid (∀ W, Below (w.heap.size + 1) (w.alloc (.cells #[.bool false, .int .u64 0, .int .u8 (lv : Int)] 25)) W → St W sb qb gq hb gh n most turn R L ∧ W.cell? ⟨w.heap.size, 0, none⟩ = (#[.bool false, .int .u64 0, .int .u8 (lv : Int)] : Array Value)[0]? ∧ W.cell? ⟨w.heap.size, 1, none⟩ = (#[.bool false, .int .u64 0, .int .u8 (lv : Int)] : Array Value)[1]? ∧ W.cell? ⟨w.heap.size, 2, none⟩ = (#[.bool false, .int .u64 0, .int .u8 (lv : Int)] : Array Value)[2]? ∧ w.heap.size + 1 ≤ W.heap.size) := fun W hW => by
    refine ⟨hS.below (by rw [hz]; exact hW), ?_, ?_, ?_, by rw [← hz]; exact hW.size⟩
    · rw [hW.cell (p := ⟨w.heap.size, 0, none⟩) (by simp), Ph.cell_new]
    · rw [hW.cell (p := ⟨w.heap.size, 1, none⟩) (by simp), Ph.cell_new]
    · rw [hW.cell (p := ⟨w.heap.size, 2, none⟩) (by simp), Ph.cell_new]
  have HRL := veil hlen
  have HIR := veil hr
  have HIL := veil hl
  clear h hS hA hz hMay hlen hr hl
  go_enter Try.func50, Try.ntmps50
  go_wp2_with (first
    | (go_at_call 74; refine (HMay.out).mono ?_; rintro e w1 ⟨rfl, hb1⟩; have HB1 := veil (show Below (w.heap.size + 1) _ w1 by rw [← HZ.out]; exact hb1); obtain ⟨hs1, k10, k11, k12, hz1⟩ := HB0.out _ HB1.out; have HS1 := veil hs1; have c10 := hs1.c0; have c11 := hs1.c1; clear hb1 hs1)
    | (go_at_call 68; refine (pkey_none HS1.out id hi HIR.out HIL.out).mono ?_; rintro e w2 ⟨rfl, hb2⟩; have HB2 := veil (HB1.out.trans (hb2.mono hz1)); obtain ⟨hs2, k20, k21, k22, hz2⟩ := HB0.out _ HB2.out; have HS2 := veil hs2; have c23 := hs2.c3; clear hb2 hs2))
  have HW3 := veil (show Below (w.heap.size + 1) (w.alloc (.cells #[.bool false, .int .u64 0, .int .u8 (lv : Int)] 25)) ((w2.alloc (.cells #[.bool false, .int .u64 0, .int .u8 0] 25)).drew) from (HB2.out.alloc hz2 _).drew)
  have HS3 := veil (HB0.out _ HW3.out).1
  have c33 := HS3.out.c3
  have hll : R.length + L.length ≤ 4096 := by have := HRL.out; omega
  generalize hNN : R.length + L.length = NN at *
  have HLn : Hid (Calls Try.prog 44 #[.pointer (some ⟨sb, 0, none⟩)] ((w2.alloc (.cells #[.bool false, .int .u64 0, .int .u8 0] 25)).drew) fun e w' => e = .returned (.int .i64 (NN : Int)) ∧ Below ((w2.alloc (.cells #[.bool false, .int .u64 0, .int .u8 0] 25)).drew).heap.size ((w2.alloc (.cells #[.bool false, .int .u64 0, .int .u8 0] 25)).drew) w') := by
    have := slen_ok HS3.out (by rw [hNN]; exact hll)
    rw [hNN] at this
    exact this
  have hne : ¬ (NN : Int) = (most : Int) := by have := HRL.out; omega
  have hne2 : ¬ NN = most := by have := HRL.out; omega
  clear k10 k11 k12 k20 k21 k22 c10 c11 c23 hNN
  go_region_held3 (fun w' => w'.cell? ⟨sb, 3, none⟩ = some (.int .i64 (most : Int)))
    (first | exact c43 | go_keep)
    ((go_at_call 44; refine (HLn.out).mono ?_; rintro e w3 ⟨rfl, hb3⟩; have HB3 := veil (HW3.out.trans (hb3.mono (by simp; omega))); obtain ⟨hs3, k30, k31, k32, hz3⟩ := HB0.out _ HB3.out; have HS4 := veil hs3; have c43 := hs3.c3; clear hb3 hs3))
  have HPut := veil (sput_level HS4.out ht id lv hi hlv HIR.out)
  go_wp2_with (go_at_call 75; refine (HPut.out).mono ?_; rintro e w4 ⟨rfl, hx, hf⟩; have HX := veil hx; have HF := veil hf; clear hx hf)
  go_ret
  exact ⟨rfl, HX.out, (Fr.of_below' (((Below.refl w.heap.size w).alloc (Nat.le_refl _) _).trans (HB3.out.mono (by omega)))).trans HF.out⟩

set_option maxHeartbeats 2000000 in
theorem sPut_dead (h : St w sb qb gq hb gh n most turn R L) (ht : turn ≤ 1000) (id d : Nat) (hi : id < n) (hr : ∀ it ∈ R, it.1 ≠ id) (hl : ∀ it ∈ L, it.1 ≠ id) (hlen : R.length + L.length < most) (hm : most ≤ 1024) :
    Calls Try.prog 50 #[.pointer (some ⟨sb, 0, none⟩), .int .i64 (id : Int), .agg #[.bool true, .int .u64 (d : Int), .int .u8 0]] w fun e w' => e = .returned (.int .i64 0) ∧ St w' sb qb gq hb gh n most (turn + 1) R (Ph.ins (id, d, turn) L) ∧ Fr (fun k => k = sb ∨ k = hb ∨ k = gh) w w' := by
  have hA := (Below.refl w.heap.size w).alloc (Nat.le_refl _) (.cells #[.bool true, .int .u64 (d : Int), .int .u8 0] 25)
  have hS := h.below hA
  have hz : (w.alloc (.cells #[.bool true, .int .u64 (d : Int), .int .u8 0] 25)).heap.size = w.heap.size + 1 := by simp
  have HZ := veil hz
  have hMay := smay_ok hS id hi ⟨true, (d : Int), 0⟩ (by simp [Ke.rightK])
  have HMay := veil hMay
  have hlt := h.lt
  have HS := veil hS
  have HA := veil hA
  have HB0 : Hid (∀ W, Below (w.heap.size + 1) (w.alloc (.cells #[.bool true, .int .u64 (d : Int), .int .u8 0] 25)) W → St W sb qb gq hb gh n most turn R L ∧ W.cell? ⟨w.heap.size, 0, none⟩ = (#[.bool true, .int .u64 (d : Int), .int .u8 0] : Array Value)[0]? ∧ W.cell? ⟨w.heap.size, 1, none⟩ = (#[.bool true, .int .u64 (d : Int), .int .u8 0] : Array Value)[1]? ∧ W.cell? ⟨w.heap.size, 2, none⟩ = (#[.bool true, .int .u64 (d : Int), .int .u8 0] : Array Value)[2]? ∧ w.heap.size + 1 ≤ W.heap.size) := fun W hW => by
    refine ⟨hS.below (by rw [hz]; exact hW), ?_, ?_, ?_, by rw [← hz]; exact hW.size⟩
    · rw [hW.cell (p := ⟨w.heap.size, 0, none⟩) (by simp), Ph.cell_new]
    · rw [hW.cell (p := ⟨w.heap.size, 1, none⟩) (by simp), Ph.cell_new]
    · rw [hW.cell (p := ⟨w.heap.size, 2, none⟩) (by simp), Ph.cell_new]
  have HRL := veil hlen
  have HIR := veil hr
  have HIL := veil hl
  clear h hS hA hz hMay hlen hr hl
  go_enter Try.func50, Try.ntmps50
  go_wp2_with (first
    | (go_at_call 74; refine (HMay.out).mono ?_; rintro e w1 ⟨rfl, hb1⟩; have HB1 := veil (show Below (w.heap.size + 1) _ w1 by rw [← HZ.out]; exact hb1); obtain ⟨hs1, k10, k11, k12, hz1⟩ := HB0.out _ HB1.out; have HS1 := veil hs1; have c10 := hs1.c0; have c11 := hs1.c1; clear hb1 hs1)
    | (go_at_call 68; refine (pkey_none HS1.out id hi HIR.out HIL.out).mono ?_; rintro e w2 ⟨rfl, hb2⟩; have HB2 := veil (HB1.out.trans (hb2.mono hz1)); obtain ⟨hs2, k20, k21, k22, hz2⟩ := HB0.out _ HB2.out; have HS2 := veil hs2; have c23 := hs2.c3; clear hb2 hs2))
  have HW3 := veil (show Below (w.heap.size + 1) (w.alloc (.cells #[.bool true, .int .u64 (d : Int), .int .u8 0] 25)) ((w2.alloc (.cells #[.bool false, .int .u64 0, .int .u8 0] 25)).drew) from (HB2.out.alloc hz2 _).drew)
  have HS3 := veil (HB0.out _ HW3.out).1
  have c33 := HS3.out.c3
  have hll : R.length + L.length ≤ 4096 := by have := HRL.out; omega
  generalize hNN : R.length + L.length = NN at *
  have HLn : Hid (Calls Try.prog 44 #[.pointer (some ⟨sb, 0, none⟩)] ((w2.alloc (.cells #[.bool false, .int .u64 0, .int .u8 0] 25)).drew) fun e w' => e = .returned (.int .i64 (NN : Int)) ∧ Below ((w2.alloc (.cells #[.bool false, .int .u64 0, .int .u8 0] 25)).drew).heap.size ((w2.alloc (.cells #[.bool false, .int .u64 0, .int .u8 0] 25)).drew) w') := by
    have := slen_ok HS3.out (by rw [hNN]; exact hll)
    rw [hNN] at this
    exact this
  have hne : ¬ (NN : Int) = (most : Int) := by have := HRL.out; omega
  have hne2 : ¬ NN = most := by have := HRL.out; omega
  clear k10 k11 k12 k20 k21 k22 c10 c11 c23 hNN
  go_region_held3 (fun w' => w'.cell? ⟨sb, 3, none⟩ = some (.int .i64 (most : Int)))
    (first | exact c43 | go_keep)
    ((go_at_call 44; refine (HLn.out).mono ?_; rintro e w3 ⟨rfl, hb3⟩; have HB3 := veil (HW3.out.trans (hb3.mono (by simp; omega))); obtain ⟨hs3, k30, k31, k32, hz3⟩ := HB0.out _ HB3.out; have HS4 := veil hs3; have c43 := hs3.c3; clear hb3 hs3))
  have HPut := veil (sput_dead HS4.out ht id d hi HIL.out)
  go_wp2_with (go_at_call 75; refine (HPut.out).mono ?_; rintro e w4 ⟨rfl, hx, hf⟩; have HX := veil hx; have HF := veil hf; clear hx hf)
  go_ret
  exact ⟨rfl, HX.out, (Fr.of_below' (((Below.refl w.heap.size w).alloc (Nat.le_refl _) _).trans (HB3.out.mono (by omega)))).trans HF.out⟩
end
end Go.Proofs.Ytlfejgjhamcahaa
