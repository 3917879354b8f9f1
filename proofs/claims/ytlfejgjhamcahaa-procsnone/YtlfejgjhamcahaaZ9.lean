/-
  Put to a place that is full; what is refused.
-/
import Derived.Test.YtlfejgjhamcahaaZ8
namespace Go.Proofs.Ytlfejgjhamcahaa
open Go.RowKit Go.Lib
set_option linter.unusedVariables false
attribute [local go_sem ↓] Go.wp_at_zero Go.wp_at_succ

section
variable {w w' wa wb : World} {base lo pb mb n np q T g cap : Nat} {v : Value} {H : List Hd}
set_option maxHeartbeats 4000000 in
set_option maxRecDepth 20000 in
theorem pput_over (h : IsQ w base lo pb mb n np q (.slice (some ⟨g, 0, none⟩) (np + 1) cap) T H) (hT : T ≤ 1000) (p : Nat) (hp : p < np) {x y : Hd} (hx : H[p]? = some x) (hy : H[np]? = some y) (id : Nat) (hi : id < n) (k : Ke.K) (hr : Ke.rightK k = true) (hk : k.ok) (hw : whereF n H 0 (id : Int) = none) (hl : x.M.length = moP np n q p) :
    Calls Try.prog 26 #[.pointer (some ⟨pb, 0, none⟩), .int .i64 (p : Int), .int .i64 (id : Int), .agg #[.bool k.e, .int .u64 k.d, .int .u8 k.l]] w fun e w' => e = .returned (.int .i64 0) ∧ PutTo w w' base lo pb mb n np q (.slice (some ⟨g, 0, none⟩) (np + 1) cap) T H np y (put (id, k) y.M) := by
  have hn1 := h.p.n1
  have hnp1 := h.p.np1
  have HX := veil (boxP h k)
  have hroom : y.M.length < moP np n q np := by
    have := IsS.roomy (h.p.sets.it np y hy) hi (whereF_no hw hi hy)
    unfold moP
    rw [if_neg (by omega)]
    exact this
  have HPUT := veil (put_way h hT hy id hi k hr hk (whereF_no hw hi hy) hroom)
  have HFULL : Hid (∀ W, Below (w.heap.size + 1) (w.alloc (.cells #[.bool k.e, .int .u64 k.d, .int .u8 k.l] 25)) W → Calls Try.prog 50 #[.pointer (some ⟨x.sb, 0, none⟩), .int .i64 (id : Int), .agg #[.bool k.e, .int .u64 k.d, .int .u8 k.l]] W fun e w' => e = .returned (.int .i64 4) ∧ Below (w.heap.size + 1) (w.alloc (.cells #[.bool k.e, .int .u64 k.d, .int .u8 k.l] 25)) w') := fun W hW => by
    obtain ⟨hQ, _, hz, _⟩ := boxP h k W hW
    refine (sPut_full (hQ.p.sets.it p x hx) id hi k hr (whereF_no hw hi hx) hl).mono ?_
    rintro e w1 ⟨rfl, hb⟩
    exact ⟨rfl, hW.trans (hb.mono hz)⟩
  have HDONE := veil (fun wa wb a b c d => put_done (wa := wa) (wb := wb) (k := k) h hy hi hw a b c d)
  have HR := veil (fun W => by have := Ke.right_ok W k; rw [hr] at this; exact this)
  have HSH := veil (fun W h0 => pshared_c W pb np (some ⟨g, 0, none⟩) cap hnp1.2 h0)
  have hsum := h.p.sum_le
  have HW := veil hw
  have wfi := wf_nat (i := id) (by omega)
  have wfp := wf_nat (i := np) (by omega)
  have hA0 : Below (w.heap.size + 1) (w.alloc (.cells #[.bool k.e, .int .u64 k.d, .int .u8 k.l] 25)) (w.alloc (.cells #[.bool k.e, .int .u64 k.d, .int .u8 k.l] 25)) := Below.refl _ _
  have HA := veil hA0
  obtain ⟨hQ0, ⟨k0, k1, k2⟩, hz0, _⟩ := boxP h k _ hA0
  have HHAS := veil (phasY hQ0.p p hp)
  obtain ⟨c0, c1, c2, _, _⟩ := hQ0.p.view
  have i0 : ¬ (id : Int) < 0 := by omega
  have i1 : ¬ (n : Int) ≤ (id : Int) := by omega
  have i2 : (id : Int) < (n : Int) := by omega
  have b1 : (p : Int) < (np : Int) + 1 := by omega
  have b2 : (p : Int) < ((np + 1 : Nat) : Int) := by omega
  have b3 : p < np + 1 := by omega
  have b4 : ¬ (p : Int) < 0 := by omega
  have d1 : (np : Int) < (np : Int) + 1 := by omega
  have d2 : (np : Int) < ((np + 1 : Nat) : Int) := by omega
  have d3 : np < np + 1 := by omega
  have d4 : ¬ (np : Int) < 0 := by omega
  have HXX := veil hx
  have HYY := veil hy
  clear h hQ0 hA0 hw hx hy hl hroom
  go_enter Try.func26, Try.ntmps26
  go_wp2_with (first
    | (go_at_call 41; refine (HHAS.out).mono ?_; rintro e w1 ⟨rfl, hw1⟩; replace hw1 := hw1.symm; subst hw1)
    | (go_at_call 49; refine (HR.out _).mono ?_; rintro e w2 ⟨rfl, hb2⟩; have HB2 := veil (HA.out.trans (hb2.mono hz0)); obtain ⟨hQ2, ⟨k20, k21, k22⟩, hz2, _⟩ := HX.out _ HB2.out; have hl2 := hQ2.p.map.look id wfi; rw [HW.out] at hl2; simp only [Option.getD_none, Option.isSome_none] at hl2; obtain ⟨c20, c21, c22, c23, _⟩ := hQ2.p.view; have c24 := c23 p x HXX.out; clear hQ2 c23 hb2))
  go_region_held3 (fun w' => w'.cell? ⟨pb, 0, none⟩ = some (.slice (some ⟨g, 0, none⟩) (np + 1) cap) ∧ w'.cell? ⟨g, p, none⟩ = some (.pointer (some ⟨x.sb, 0, none⟩)) ∧ w'.cell? ⟨w.heap.size, 0, none⟩ = some (.bool k.e) ∧ w'.cell? ⟨w.heap.size, 1, none⟩ = some (.int .u64 k.d) ∧ w'.cell? ⟨w.heap.size, 2, none⟩ = some (.int .u8 k.l))
    (first
      | exact ⟨c30, c34, k30, k31, k32⟩
      | go_keep)
    (first
      | (go_at_call 50; refine (HFULL.out _ (by exact below_post HB2.out rfl rfl rfl rfl)).mono ?_; rintro e w3 ⟨rfl, hb3⟩; have HB3 := veil hb3; obtain ⟨hQ3, ⟨k30, k31, k32⟩, hz3, _⟩ := HX.out _ HB3.out; obtain ⟨c30, c31, c32, c33, _⟩ := hQ3.p.view; have c34 := c33 p x HXX.out; have c35 := c33 np y HYY.out; have C30 := veil c30; clear hQ3 c33 hb3))
  go_wp2_with (first
    | (go_at_call 51; refine (HSH.out _ (by exact C30.out)).mono ?_; rintro e w4 ⟨rfl, hw4⟩; replace hw4 := hw4.symm; subst hw4))
  go_region_held3 (fun w' => w'.cell? ⟨pb, 0, none⟩ = some (.slice (some ⟨g, 0, none⟩) (np + 1) cap) ∧ w'.cell? ⟨g, np, none⟩ = some (.pointer (some ⟨y.sb, 0, none⟩)) ∧ w'.cell? ⟨w.heap.size, 0, none⟩ = some (.bool k.e) ∧ w'.cell? ⟨w.heap.size, 1, none⟩ = some (.int .u64 k.d) ∧ w'.cell? ⟨w.heap.size, 2, none⟩ = some (.int .u8 k.l))
    (first
      | exact S5.out
      | exact ⟨c30, c35, k30, k31, k32⟩
      | go_keep)
    (first
      | (go_at_call 50; refine (HPUT.out _ (by exact below_post HB3.out rfl rfl rfl rfl)).mono ?_; rintro e w5 ⟨rfl, hs5, c51, hm5, hy5, hf5⟩; have S5 := veil hs5; have HM5 := veil hm5; have HY5 := veil hy5; have HF5 := veil hf5; clear hs5 hm5 hy5 hf5))
  go_wp2_with (first
    | (at_mapUpdate; refine wpList_store_m rfl _ _ _ rfl (by exact HM5.out) (by unfold maxLen; omega) (id : Int) (np : Int) wfi wfp rfl rfl rfl ?_; intro w6 hm6 hg6; have HD := veil (HDONE.out _ _ HY5.out HF5.out (by exact hg6) hm6); clear hm6 hg6))
  go_ret
  exact ⟨rfl, HD.out⟩
end
end Go.Proofs.Ytlfejgjhamcahaa
