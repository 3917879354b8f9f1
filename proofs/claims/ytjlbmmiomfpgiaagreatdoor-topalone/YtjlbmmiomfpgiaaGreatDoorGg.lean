/- YtjlbmmiomfpgiaaGreatDoorGg: of the texts Nb what is wanted. -/
import Derived.Test.YtjlbmmiomfpgiaaGreatDoorG0
import Derived.Test.YtjlbmmiomfpgiaaGreatDoorGf
import Derived.RangeFuncNested
import Derived.RangeFuncBound
import Derived.RangeFuncCalls
import Derived.RangeFuncLeaves
import Derived.RangeFuncBox
import Derived.Shelf.Abstract
import Derived.Shelf.RegionOpen
import Derived.WalkKit
import Derived.OwnWalkIn
import Derived.TacticsInMore
import Derived.LoopNIn
import Derived.LoopIn
import Derived.Scope
import Derived.ControlIn
namespace Go.Proofs.YtjlbmmiomfpgiaaGreatDoor
set_option maxRecDepth 100000
open Go.RowKit Go.Lib
set_option linter.unusedVariables false
attribute [local go_sem ↓] Go.wp_at_zero Go.wp_at_succ
theorem below_post {B : Nat} {w0 w w' : World} (h : Below B w0 w) (a : w'.heap = w.heap) (b : w'.os = w.os) (c : w'.tape = w.tape) (d : w'.output = w.output) : Below B w0 w' :=
 ⟨b.trans h.os, c.trans h.tape, d.trans h.output, by rw [a]; exact h.size, fun k hk => by rw [a]; exact h.block k hk⟩
theorem wf_nat {i : Nat} (h : i ≤ 2048) : (Lit.int .i64 (i : Int)).wf = true := by
 have h1 : IntKind.i64.min = -9223372036854775808 := by decide
 have h2 : IntKind.i64.max = 9223372036854775807 := by decide
 simp [Lit.wf, h1, h2]
 omega
section
variable {w w' wa wb : World} {base lo pb mb n np q T g cap : Nat} {v : Value} {H : List Hd}
theorem IsP.view (h : IsP w base lo pb mb n np q (.slice (some ⟨g, 0, none⟩) (np + 1) cap) H) : w.cell? ⟨pb, 0, none⟩ = some (.slice (some ⟨g, 0, none⟩) (np + 1) cap) ∧ w.cell? ⟨pb, 1, none⟩ = some (.map (some mb)) ∧ w.cell? ⟨pb, 2, none⟩ = some (.int .i64 (n : Int)) ∧ (∀ (i : Nat) (x : Hd), H[i]? = some x → w.cell? ⟨g, i, none⟩ = some (.pointer (some ⟨x.sb, 0, none⟩))) ∧ g < w.heap.size := by
 refine ⟨h.c0, h.c1, h.c2, ?_⟩
 obtain ⟨g', cap', e, _, h2, h3⟩ := h.rows
 simp at e
 obtain ⟨rfl, _⟩ := e
 exact ⟨h3, h2⟩
theorem boxP (h : IsQ w base lo pb mb n np q v T H) (k : Ke.K) : ∀ W, Below (w.heap.size + 1) (w.alloc (.cells #[.bool k.e, .int .u64 k.d, .int .u8 k.l] 67)) W → IsQ W base lo pb mb n np q v T H ∧ (W.cell? ⟨w.heap.size, 0, none⟩ = some (.bool k.e) ∧ W.cell? ⟨w.heap.size, 1, none⟩ = some (.int .u64 k.d) ∧ W.cell? ⟨w.heap.size, 2, none⟩ = some (.int .u8 k.l)) ∧ w.heap.size + 1 ≤ W.heap.size ∧ Below w.heap.size w W := fun W hW => by
 have hb : Below w.heap.size w W := ((Below.refl _ _).alloc (Nat.le_refl _) _).trans (hW.mono (by omega))
 refine ⟨h.below hb, ⟨?_, ?_, ?_⟩, by have := hW.size; simpa using this, hb⟩
 ·rw [hW.cell (p := ⟨w.heap.size, 0, none⟩) (by simp), Ph.cell_new]; rfl
 ·rw [hW.cell (p := ⟨w.heap.size, 1, none⟩) (by simp), Ph.cell_new]; rfl
 ·rw [hW.cell (p := ⟨w.heap.size, 2, none⟩) (by simp), Ph.cell_new]; rfl
theorem put_way (h : IsQ w base lo pb mb n np q (.slice (some ⟨g, 0, none⟩) (np + 1) cap) T H) (hT : T ≤ 1000000000) {i : Nat} {x : Hd} (hx : H[i]? = some x) (id : Nat) (hi : id < n) (k : Ke.K) (hr : Ke.rightK k = true) (hk : k.ok) (hno : keyOf x.M id = none) (hl : x.M.length < moP np n q i) :
  ∀ W, Below (w.heap.size + 1) (w.alloc (.cells #[.bool k.e, .int .u64 k.d, .int .u8 k.l] 67)) W →
  Calls Tryz.prog 140 #[.pointer (some ⟨x.sb, 0, none⟩), .int .i64 (id : Int), .agg #[.bool k.e, .int .u64 k.d, .int .u8 k.l]] W fun e w' => e = .returned (.int .i64 0) ∧
   (w'.cell? ⟨pb, 0, none⟩ = some (.slice (some ⟨g, 0, none⟩) (np + 1) cap) ∧ w'.cell? ⟨g, i, none⟩ = some (.pointer (some ⟨x.sb, 0, none⟩)) ∧ w'.cell? ⟨w.heap.size, 0, none⟩ = some (.bool k.e) ∧ w'.cell? ⟨w.heap.size, 1, none⟩ = some (.int .u64 k.d) ∧ w'.cell? ⟨w.heap.size, 2, none⟩ = some (.int .u8 k.l)) ∧
   w'.cell? ⟨pb, 1, none⟩ = some (.map (some mb)) ∧ IsM w' mb (whereF n H 0) (sumH H) ∧ (x.to (x.turn + 1) (put (id, k) x.M)).is w' n (moP np n q i) ∧ Fr x.own w w' := fun W hW => by
 obtain ⟨hQ, ⟨k0, k1, k2⟩, hz, hb⟩ := boxP h k W hW
 have hs := hQ.p.sets.it i x hx
 obtain ⟨c0, c1, _, c3, hgl⟩ := hQ.p.view
 have hsp := hQ.p.sep i x hx
 have hne := hQ.p.ne
 have hbl := (h.p.sets.it i x hx).blocks
 refine (put_new hs (by have := h.tn i x hx; omega) id k hi hr hk hno hl).mono ?_
 rintro e w1 ⟨rfl, h1, hf⟩
 have hf' : Fr x.own W w1 := hf
 have nb : ¬ x.own w.heap.size := fun q => by have := hbl _ q; omega
 have ng : ¬ x.own g := fun q => (hsp g q).1 rfl
 have npb : ¬ x.own pb := fun q => (hsp pb q).2.1 rfl
 have nm : ¬ x.own mb := fun q => (hsp mb q).2.2 rfl
 have hpl := hQ.p.pbl
 refine ⟨rfl, ⟨(hf'.cell (a := ⟨pb, 0, none⟩) hpl npb).trans c0, (hf'.cell (a := ⟨g, i, none⟩) hgl ng).trans (c3 i x hx), (hf'.cell (a := ⟨w.heap.size, 0, none⟩) (by show w.heap.size < _; omega) nb).trans k0, (hf'.cell (a := ⟨w.heap.size, 1, none⟩) (by show w.heap.size < _; omega) nb).trans k1, (hf'.cell (a := ⟨w.heap.size, 2, none⟩) (by show w.heap.size < _; omega) nb).trans k2⟩,
  (hf'.cell (a := ⟨pb, 1, none⟩) hpl npb).trans c1, hQ.p.map.block (hf'.block _ hQ.p.map.lt nm), h1, (Fr.of_below' hb).trans hf'⟩
theorem phasY (h : IsP w base lo pb mb n np q v H) (p : Nat) (hp : p < np) :
  Calls Tryz.prog 139 #[.pointer (some ⟨pb, 0, none⟩), .int .i64 (p : Int)] w fun e w' => e = .returned (.bool true) ∧ w' = w := by
 have := phas_ok h (p : Int)
 rw [decide_eq_true ⟨by omega, by omega⟩] at this
 exact this
def PutTo (w w' : World) (base lo pb mb n np q : Nat) (v : Value) (T : Nat) (H : List Hd) (i : Nat) (x : Hd) (M : List En) : Prop :=
 IsQ w' base lo pb mb n np q v (T + 1) (H.set i (x.to (x.turn + 1) M)) ∧ Fr (fun k => k = mb ∨ x.own k) w w'
theorem put_done (h : IsQ w base lo pb mb n np q v T H) {i : Nat} {x : Hd} (hx : H[i]? = some x) {id : Nat} (hi : id < n) {k : Ke.K} (hw : whereF n H 0 (id : Int) = none)
  (hy : (x.to (x.turn + 1) (put (id, k) x.M)).is wa n (moP np n q i)) (hf : Fr x.own w wa) (hg : wa.grownBy wb (some mb)) (hm : IsM wb mb (setF (whereF n H 0) (id : Int) (some (i : Int))) (if (whereF n H 0 (id : Int)).isSome then sumH H else sumH H + 1)) :
  PutTo w wb base lo pb mb n np q v T H i x (put (id, k) x.M) := by
 obtain ⟨u1, u2⟩ := where_put (y := x.to (x.turn + 1) (put (id, k) x.M)) h.un hx hi rfl hw
 refine h.turned hx (Nat.le_refl _) hf hy ⟨hg.os, hg.tape, hg.output, hg.size, fun j hj hn => hg.block j hj (fun e => hn (Option.some.inj e))⟩ u1 ?_
 rw [u2]
 have hs := sumH_set (y := x.to (x.turn + 1) (put (id, k) x.M)) hx
 have e : sumH (H.set i (x.to (x.turn + 1) (put (id, k) x.M))) = sumH H + 1 := by
  have : (x.to (x.turn + 1) (put (id, k) x.M)).M.length = x.M.length + 1 := len_put
  omega
 rw [e]
 rw [hw] at hm
 exact hm
set_option maxHeartbeats 4000000 in
set_option maxRecDepth 20000 in
theorem pput_here (h : IsQ w base lo pb mb n np q (.slice (some ⟨g, 0, none⟩) (np + 1) cap) T H) (hT : T ≤ 1000000000) (p : Nat) (hp : p < np) {x : Hd} (hx : H[p]? = some x) (id : Nat) (hi : id < n) (k : Ke.K) (hr : Ke.rightK k = true) (hk : k.ok) (hw : whereF n H 0 (id : Int) = none) (hl : x.M.length < moP np n q p) :
  Calls Tryz.prog 91 #[.pointer (some ⟨pb, 0, none⟩), .int .i64 (p : Int), .int .i64 (id : Int), .agg #[.bool k.e, .int .u64 k.d, .int .u8 k.l]] w fun e w' => e = .returned (.int .i64 0) ∧ PutTo w w' base lo pb mb n np q (.slice (some ⟨g, 0, none⟩) (np + 1) cap) T H p x (put (id, k) x.M) := by
 have hn1 := h.p.n1
 have hnp1 := h.p.np1
 have HX := veil (boxP h k)
 have HPUT := veil (put_way h hT hx id hi k hr hk (whereF_no hw hi hx) hl)
 have HDONE := veil (fun wa wb a b c d => put_done (wa := wa) (wb := wb) (k := k) h hx hi hw a b c d)
 have HR := veil (fun W => by have := Ke.right_ok W k; rw [hr] at this; exact this)
 have hsum := h.p.sum_le
 have HW := veil hw
 have wfi := wf_nat (i := id) (by omega)
 have wfp := wf_nat (i := p) (by omega)
 have hA0 : Below (w.heap.size + 1) (w.alloc (.cells #[.bool k.e, .int .u64 k.d, .int .u8 k.l] 67)) (w.alloc (.cells #[.bool k.e, .int .u64 k.d, .int .u8 k.l] 67)) := Below.refl _ _
 have HA := veil hA0
 obtain ⟨hQ0, ⟨k0, k1, k2⟩, hz0, _⟩ := boxP h k _ hA0
 have HHAS := veil (phasY hQ0.p p hp)
 obtain ⟨c0, c1, c2, _, _⟩ := hQ0.p.view
 have i0 : ¬ (id : Int) < 0 := by omega
 have i1 : ¬ (n : Int) ≤ (id : Int) := by omega
 have i2 : (id : Int) < (n : Int) := by omega
 have b1 : (p : Int) < (np : Int) + 1 := by omega
 have b2 : (p : Int) < ((np + 1 : Nat) : Int) := by omega
 have b3 : p < np + 1 := by omega
 have b4 : ¬ (p : Int) < 0 := by omega
 have HXX := veil hx
 clear h hQ0 hA0 hw hx
 go_enter Tryz.func91, Tryz.ntmps91
 go_wp2_with (first
  | (go_at_call 139; refine (HHAS.out).mono ?_; rintro e w1 ⟨rfl, hw1⟩; replace hw1 := hw1.symm; subst hw1)
  | (go_at_call 126; refine (HR.out _).mono ?_; rintro e w2 ⟨rfl, hb2⟩; have HB2 := veil (HA.out.trans (hb2.mono hz0)); obtain ⟨hQ2, ⟨k20, k21, k22⟩, hz2, _⟩ := HX.out _ HB2.out; have hl2 := hQ2.p.map.look id wfi; rw [HW.out] at hl2; simp only [Option.getD_none, Option.isSome_none] at hl2; obtain ⟨c20, c21, c22, c23, _⟩ := hQ2.p.view; have c24 := c23 p x HXX.out; clear hQ2 c23 hb2))
 go_region_held3 (fun w' => w'.cell? ⟨pb, 0, none⟩ = some (.slice (some ⟨g, 0, none⟩) (np + 1) cap) ∧ w'.cell? ⟨g, p, none⟩ = some (.pointer (some ⟨x.sb, 0, none⟩)) ∧ w'.cell? ⟨w.heap.size, 0, none⟩ = some (.bool k.e) ∧ w'.cell? ⟨w.heap.size, 1, none⟩ = some (.int .u64 k.d) ∧ w'.cell? ⟨w.heap.size, 2, none⟩ = some (.int .u8 k.l))
  (first
   | exact S3.out
   | go_keep)
  (first
   | (go_at_call 140; refine (HPUT.out _ (by exact below_post HB2.out rfl rfl rfl rfl)).mono ?_; rintro e w3 ⟨rfl, hs3, c31, hm3, hy3, hf3⟩; have S3 := veil hs3; have HM3 := veil hm3; have HY3 := veil hy3; have HF3 := veil hf3; clear hs3 hm3 hy3 hf3))
 go_wp2_with (first
  | (at_mapUpdate; refine wpList_store_m rfl _ _ _ rfl (by exact HM3.out) (by unfold maxLen; omega) (id : Int) (p : Int) wfi wfp rfl rfl rfl ?_; intro w4 hm4 hg4; have HD := veil (HDONE.out _ _ HY3.out HF3.out (by exact hg4) hm4); clear hm4 hg4))
 go_ret
 exact ⟨rfl, HD.out⟩
end
end Go.Proofs.YtjlbmmiomfpgiaaGreatDoor
namespace Go.Proofs.YtjlbmmiomfpgiaaGreatDoor
set_option maxRecDepth 100000
open Go.RowKit Go.Lib
set_option linter.unusedVariables false
attribute [local go_sem ↓] Go.wp_at_zero Go.wp_at_succ
section
variable {w w' wa wb : World} {base lo pb mb n np q T g cap : Nat} {v : Value} {H : List Hd}
set_option maxHeartbeats 4000000 in
set_option maxRecDepth 20000 in
theorem pput_over (h : IsQ w base lo pb mb n np q (.slice (some ⟨g, 0, none⟩) (np + 1) cap) T H) (hT : T ≤ 1000000000) (p : Nat) (hp : p < np) {x y : Hd} (hx : H[p]? = some x) (hy : H[np]? = some y) (id : Nat) (hi : id < n) (k : Ke.K) (hr : Ke.rightK k = true) (hk : k.ok) (hw : whereF n H 0 (id : Int) = none) (hl : x.M.length = moP np n q p) :
  Calls Tryz.prog 91 #[.pointer (some ⟨pb, 0, none⟩), .int .i64 (p : Int), .int .i64 (id : Int), .agg #[.bool k.e, .int .u64 k.d, .int .u8 k.l]] w fun e w' => e = .returned (.int .i64 0) ∧ PutTo w w' base lo pb mb n np q (.slice (some ⟨g, 0, none⟩) (np + 1) cap) T H np y (put (id, k) y.M) := by
 have hn1 := h.p.n1
 have hnp1 := h.p.np1
 have HX := veil (boxP h k)
 have hroom : y.M.length < moP np n q np := by
  have := IsS.roomy (h.p.sets.it np y hy) hi (whereF_no hw hi hy)
  unfold moP
  rw [if_neg (by omega)]
  exact this
 have HPUT := veil (put_way h hT hy id hi k hr hk (whereF_no hw hi hy) hroom)
 have HFULL : Hid (∀ W, Below (w.heap.size + 1) (w.alloc (.cells #[.bool k.e, .int .u64 k.d, .int .u8 k.l] 67)) W → Calls Tryz.prog 140 #[.pointer (some ⟨x.sb, 0, none⟩), .int .i64 (id : Int), .agg #[.bool k.e, .int .u64 k.d, .int .u8 k.l]] W fun e w' => e = .returned (.int .i64 4) ∧ Below (w.heap.size + 1) (w.alloc (.cells #[.bool k.e, .int .u64 k.d, .int .u8 k.l] 67)) w') := fun W hW => by
  obtain ⟨hQ, _, hz, _⟩ := boxP h k W hW
  refine (sPut_full (hQ.p.sets.it p x hx) id hi k hr (whereF_no hw hi hx) hl).mono ?_
  rintro e w1 ⟨rfl, hb⟩
  exact ⟨rfl, hW.trans (hb.mono hz)⟩
 have HDONE := veil (fun wa wb a b c d => put_done (wa := wa) (wb := wb) (k := k) h hy hi hw a b c d)
 have HR := veil (fun W => by have := Ke.right_ok W k; rw [hr] at this; exact this)
 have HSH := veil (fun W h0 => pshared_c W pb np (some ⟨g, 0, none⟩) cap hnp1.2 h0)
 have hsum := h.p.sum_le
 have HW := veil hw
 have wfi := wf_nat (i := id) (by omega)
 have wfp := wf_nat (i := np) (by omega)
 have hA0 : Below (w.heap.size + 1) (w.alloc (.cells #[.bool k.e, .int .u64 k.d, .int .u8 k.l] 67)) (w.alloc (.cells #[.bool k.e, .int .u64 k.d, .int .u8 k.l] 67)) := Below.refl _ _
 have HA := veil hA0
 obtain ⟨hQ0, ⟨k0, k1, k2⟩, hz0, _⟩ := boxP h k _ hA0
 have HHAS := veil (phasY hQ0.p p hp)
 obtain ⟨c0, c1, c2, _, _⟩ := hQ0.p.view
 have i0 : ¬ (id : Int) < 0 := by omega
 have i1 : ¬ (n : Int) ≤ (id : Int) := by omega
 have i2 : (id : Int) < (n : Int) := by omega
 have b1 : (p : Int) < (np : Int) + 1 := by omega
 have b2 : (p : Int) < ((np + 1 : Nat) : Int) := by omega
 have b3 : p < np + 1 := by omega
 have b4 : ¬ (p : Int) < 0 := by omega
 have d1 : (np : Int) < (np : Int) + 1 := by omega
 have d2 : (np : Int) < ((np + 1 : Nat) : Int) := by omega
 have d3 : np < np + 1 := by omega
 have d4 : ¬ (np : Int) < 0 := by omega
 have HXX := veil hx
 have HYY := veil hy
 clear h hQ0 hA0 hw hx hy hl hroom
 go_enter Tryz.func91, Tryz.ntmps91
 go_wp2_with (first
  | (go_at_call 139; refine (HHAS.out).mono ?_; rintro e w1 ⟨rfl, hw1⟩; replace hw1 := hw1.symm; subst hw1)
  | (go_at_call 126; refine (HR.out _).mono ?_; rintro e w2 ⟨rfl, hb2⟩; have HB2 := veil (HA.out.trans (hb2.mono hz0)); obtain ⟨hQ2, ⟨k20, k21, k22⟩, hz2, _⟩ := HX.out _ HB2.out; have hl2 := hQ2.p.map.look id wfi; rw [HW.out] at hl2; simp only [Option.getD_none, Option.isSome_none] at hl2; obtain ⟨c20, c21, c22, c23, _⟩ := hQ2.p.view; have c24 := c23 p x HXX.out; clear hQ2 c23 hb2))
 go_region_held3 (fun w' => w'.cell? ⟨pb, 0, none⟩ = some (.slice (some ⟨g, 0, none⟩) (np + 1) cap) ∧ w'.cell? ⟨g, p, none⟩ = some (.pointer (some ⟨x.sb, 0, none⟩)) ∧ w'.cell? ⟨w.heap.size, 0, none⟩ = some (.bool k.e) ∧ w'.cell? ⟨w.heap.size, 1, none⟩ = some (.int .u64 k.d) ∧ w'.cell? ⟨w.heap.size, 2, none⟩ = some (.int .u8 k.l))
  (first
   | exact ⟨c30, c34, k30, k31, k32⟩
   | go_keep)
  (first
   | (go_at_call 140; refine (HFULL.out _ (by exact below_post HB2.out rfl rfl rfl rfl)).mono ?_; rintro e w3 ⟨rfl, hb3⟩; have HB3 := veil hb3; obtain ⟨hQ3, ⟨k30, k31, k32⟩, hz3, _⟩ := HX.out _ HB3.out; obtain ⟨c30, c31, c32, c33, _⟩ := hQ3.p.view; have c34 := c33 p x HXX.out; have c35 := c33 np y HYY.out; have C30 := veil c30; clear hQ3 c33 hb3))
 go_wp2_with (first
  | (go_at_call 141; refine (HSH.out _ (by exact C30.out)).mono ?_; rintro e w4 ⟨rfl, hw4⟩; replace hw4 := hw4.symm; subst hw4))
 go_region_held3 (fun w' => w'.cell? ⟨pb, 0, none⟩ = some (.slice (some ⟨g, 0, none⟩) (np + 1) cap) ∧ w'.cell? ⟨g, np, none⟩ = some (.pointer (some ⟨y.sb, 0, none⟩)) ∧ w'.cell? ⟨w.heap.size, 0, none⟩ = some (.bool k.e) ∧ w'.cell? ⟨w.heap.size, 1, none⟩ = some (.int .u64 k.d) ∧ w'.cell? ⟨w.heap.size, 2, none⟩ = some (.int .u8 k.l))
  (first
   | exact S5.out
   | exact ⟨c30, c35, k30, k31, k32⟩
   | go_keep)
  (first
   | (go_at_call 140; refine (HPUT.out _ (by exact below_post HB3.out rfl rfl rfl rfl)).mono ?_; rintro e w5 ⟨rfl, hs5, c51, hm5, hy5, hf5⟩; have S5 := veil hs5; have HM5 := veil hm5; have HY5 := veil hy5; have HF5 := veil hf5; clear hs5 hm5 hy5 hf5))
 go_wp2_with (first
  | (at_mapUpdate; refine wpList_store_m rfl _ _ _ rfl (by exact HM5.out) (by unfold maxLen; omega) (id : Int) (np : Int) wfi wfp rfl rfl rfl ?_; intro w6 hm6 hg6; have HD := veil (HDONE.out _ _ HY5.out HF5.out (by exact hg6) hm6); clear hm6 hg6))
 go_ret
 exact ⟨rfl, HD.out⟩
end
end Go.Proofs.YtjlbmmiomfpgiaaGreatDoor
namespace Go.Proofs.YtjlbmmiomfpgiaaGreatDoor
set_option maxRecDepth 100000
open Go.RowKit Go.Shelf
set_option linter.unusedVariables false
attribute [local go_sem] Oper.semAt_some
abbrev Pl (np : Nat) := { x : Nat // x ≤ np }
def plOf (np p d i : Nat) : Nat := (p + 1 + d % np + i) % np
def ordsU (np p d i : Nat) : List Nat := p :: np :: ((List.range i).map (plOf np p d)).filter (· != p)
def ords (np p d : Nat) : List Nat := ordsU np p d np
theorem ordsU_yes {np p d i : Nat} (h : plOf np p d i ≠ p) : ordsU np p d (i + 1) = ordsU np p d i ++ [plOf np p d i] := by
 unfold ordsU
 rw [List.range_succ, List.map_append, List.filter_append]
 simp [h]
theorem ordsU_no {np p d i : Nat} (h : plOf np p d i = p) : ordsU np p d (i + 1) = ordsU np p d i := by
 unfold ordsU
 rw [List.range_succ, List.map_append, List.filter_append]
 simp [h]
theorem ordsU_len (np p d i : Nat) : (ordsU np p d i).length ≤ i + 2 := by
 unfold ordsU
 have := List.length_filter_le (· != p) ((List.range i).map (plOf np p d))
 simp at this ⊢
 omega
theorem ordsU_pre {np p d i : Nat} : ∀ {j : Nat}, i ≤ j → ordsU np p d i <+: ordsU np p d j
 | 0, h => by
  have : i = 0 := by omega
  rw [this]
  exact List.prefix_refl _
 | j + 1, h => by
  rcases Nat.eq_or_lt_of_le h with e | e
  ·rw [e]; exact List.prefix_refl _
  ·have := ordsU_pre (np := np) (p := p) (d := d) (i := i) (j := j) (by omega)
   by_cases q : plOf np p d j = p
   ·rw [ordsU_no q]; exact this
   ·rw [ordsU_yes q]; exact this.trans (List.prefix_append _ _)
structure RdP (W : World) (B1 B2 B3 pb np p d : Nat) (a : Option Addr) (cap : Nat) : Prop where
 l1 : B1 < W.heap.size
 l2 : B2 < W.heap.size
 l3 : B3 < W.heap.size
 l4 : pb < W.heap.size
 c1 : W.cell? ⟨B1, 0, none⟩ = some (.int .i64 (p : Int))
 c2 : W.cell? ⟨B2, 0, none⟩ = some (.pointer (some ⟨pb, 0, none⟩))
 c3 : W.cell? ⟨B3, 0, none⟩ = some (.int .u64 (d : Int))
 c0 : W.cell? ⟨pb, 0, none⟩ = some (.slice a (np + 1) cap)
theorem RdP.fr {W W' : World} {B1 B2 B3 pb np p d : Nat} {a : Option Addr} {cap : Nat} {S : Nat → Prop} (h : RdP W B1 B2 B3 pb np p d a cap) (hS : ¬ S B1 ∧ ¬ S B2 ∧ ¬ S B3 ∧ ¬ S pb) (hf : Fr S W W') : RdP W' B1 B2 B3 pb np p d a cap :=
 ⟨Nat.lt_of_lt_of_le h.l1 hf.size, Nat.lt_of_lt_of_le h.l2 hf.size, Nat.lt_of_lt_of_le h.l3 hf.size, Nat.lt_of_lt_of_le h.l4 hf.size, (hf.cell (a := ⟨B1, 0, none⟩) h.l1 hS.1).trans h.c1, (hf.cell (a := ⟨B2, 0, none⟩) h.l2 hS.2.1).trans h.c2, (hf.cell (a := ⟨B3, 0, none⟩) h.l3 hS.2.2.1).trans h.c3, (hf.cell (a := ⟨pb, 0, none⟩) h.l4 hS.2.2.2).trans h.c0⟩
set_option maxRecDepth 100000 in
set_option maxHeartbeats 4000000 in
theorem places_in (nn : Nat) (hn : 1 ≤ nn) (l B1 B2 B3 pb np p d : Nat) (a : Option Addr) (cap : Nat) (hp : p < np) (hnp : np ≤ 64) (hd : d < 18446744073709551616) (S : Nat → Prop) (hS : ¬ S B1 ∧ ¬ S B2 ∧ ¬ S B3 ∧ ¬ S pb) (J Jx : List (Pl np) → World → Prop)
  (hY : ∀ pre x W, J pre W → pre.length < np + 2 → YieldAt Fence.wide (nn - 1) Tryz.prog l #[.int .i64 (x.1 : Int)] W fun e W' =>
   (e = .returned (.bool true) ∧ J (pre ++ [x]) W' ∧ Fr S W W') ∨ (e = .returned (.bool false) ∧ Jx (pre ++ [x]) W'))
  (hD : ∀ pre W q, J pre W → J pre (World.drewN W q))
  (W : World) (hR : RdP W B1 B2 B3 pb np p d a cap) (h0 : J [] W) :
  CallsIn Fence.wide nn Tryz.prog 176 #[.func (.yield l) #[] #[], .pointer (some ⟨B1, 0, none⟩), .pointer (some ⟨B2, 0, none⟩), .pointer (some ⟨B3, 0, none⟩)] W fun e W' => (∃ v, e = .returned v) ∧
   ((∃ ys : List (Pl np), ys.map (·.1) = ords np p d ∧ J ys W') ∨ (∃ pre : List (Pl np), pre.map (·.1) <+: ords np p d ∧ Jx pre W')) := by
 have c1 := hR.c1
 have c2 := hR.c2
 have HR := veil hR
 have HY := veil hY
 have HD := veil hD
 have HS := veil hS
 have HSH := veil (fun W h0 => (callsIn_wide (n := nn - 1)).2 (pshared_c W pb np a cap hnp h0))
 obtain ⟨fn, tmps, assign, body, hy, hRd⟩ := hY [] ⟨p, by omega⟩ W h0 (by simp)
 dsimp only at hy
 have HRD := veil hRd
 clear hR hY hD hS h0 hRd
 refine callsIn_of_wp Tryz.func176 rfl trivial ?_ rfl
 simp only [Tryz.ntmps176, List.size_toArray, List.length_cons, List.length_nil, Nat.reduceAdd, Nat.reduceSub, Array.replicate_succ, Array.replicate_zero, List.push_toArray, List.append_toArray, List.nil_append, List.cons_append]
 gi_wp2
 refine HRD.out.mono ?_
 rintro e W1 (⟨rfl, hJ1, hk1⟩ | ⟨rfl, hJx1⟩)
 ·have HR1 := veil (HR.out.fr HS.out hk1)
  have HJ1 := veil hJ1
  have d2 := HR1.out.c2
  have D0 := veil HR1.out.c0
  clear hJ1 hk1 c1 c2 hy HRD
  gi_wp2_with (refine ⟨trivial, ?_⟩; gi_at_call 141; refine (HSH.out _ D0.out).mono ?_; rintro e w2 ⟨rfl, hw2⟩; replace hw2 := hw2.symm; subst hw2)
  obtain ⟨fn, tmps, assign, body, hy, hRd⟩ := HY.out [⟨p, by omega⟩] ⟨np, by omega⟩ W1 HJ1.out (by simp)
  dsimp only at hy
  rw [hy, Oper.uponIn_round]
  refine ⟨fun _ => hn, hRd.mono ?_⟩
  rintro e W2 (⟨rfl, hJ2, hk2⟩ | ⟨rfl, hJx2⟩)
  ·have HR2 := veil (HR1.out.fr HS.out hk2)
   have HJ2 := veil hJ2
   have e1 := HR2.out.c1
   have e2 := HR2.out.c2
   have e3 := HR2.out.c3
   have E0 := veil HR2.out.c0
   have z0 : ¬ (np : Int) = 0 := by omega
   clear hJ2 hk2 d2 D0 hy hRd
   gi_wp2_with (refine ⟨trivial, ?_⟩; gi_at_call 141; refine (HSH.out _ E0.out).mono ?_; rintro e w2 ⟨rfl, hw2⟩; replace hw2 := hw2.symm; subst hw2)
   gi_quiet (fail)
   gi_wp2
   have ew : wrap64 ((p : Int) + 1 + wrap64 ((d : Int) % (np : Int))) = ((p + 1 + d % np : Nat) : Int) := by
    have h1 : (d : Int) % (np : Int) = ((d % np : Nat) : Int) := by omega
    have h2 : d % np < np := Nat.mod_lt _ (by omega)
    rw [h1]
    unfold wrap64
    omega
   simp only [ew]
   have hf : p + 1 + d % np ≤ 128 := by
    have h2 : d % np < np := Nat.mod_lt _ (by omega)
    omega
   have HPL : Hid (∀ i, (p + 1 + d % np + i) % np = plOf np p d i) := fun i => rfl
   generalize p + 1 + d % np = f at *
   have HDR := veil (HD.out _ _ nq HJ2.out)
   have HRR := veil (show RdP (W2.drewN nq) B1 B2 B3 pb np p d a cap from ⟨HR2.out.l1, HR2.out.l2, HR2.out.l3, HR2.out.l4, HR2.out.c1, HR2.out.c2, HR2.out.c3, HR2.out.c0⟩)
   clear HJ2 HR2 e1 e2 e3 E0 ew
   gi_loopw [31] (fun v wr => ∃ i : Nat, i ≤ np ∧ v = .int .i64 (i : Int) ∧ RdP wr B1 B2 B3 pb np p d a cap ∧ ∃ ys : List (Pl np), ys.map (·.1) = ordsU np p d i ∧ J ys wr) (fun v _ => np - (intOf v).toNat)
   case atStart => exact ⟨0, Nat.zero_le _, rfl, HRR.out, _, rfl, HDR.out⟩
   case round =>
    obtain ⟨i, hi, rfl, hRi, ys, hys, hJi⟩ := hrel
    have g1 := hRi.c1
    have HRi := veil hRi
    have HJi := veil hJi
    have HYS := veil hys
    clear hRi hJi hys
    by_cases hil : i < np
    ·have hil' : (i : Int) < (np : Int) := by omega
     obtain ⟨x, hx⟩ : ∃ x, plOf np p d i = x := ⟨_, rfl⟩
     have em : ((f : Int) + (i : Int)) % (np : Int) = (x : Int) := by rw [← hx, ← HPL.out i]; push_cast; rfl
     by_cases hxp : x = p
     ·rw [hxp] at em
      have HNX := veil (show ys.map (·.1) = ordsU np p d (i + 1) by rw [ordsU_no (hx.trans hxp)]; exact HYS.out)
      clear hx hxp
      gi_wp2
      refine ⟨fun _ h => (by cases h), ?_⟩
      gi_wp2
      go_roundw
      case rel => exact ⟨i + 1, by omega, by go_num, HRi.out, ys, HNX.out, HJi.out⟩
      case measure => simp [intOf]; omega
     ·have hxn : x ≤ np := by rw [← hx]; exact Nat.le_of_lt (Nat.mod_lt _ (by omega))
      have en : ((x : Int) != (p : Int)) = true := by simp; omega
      have HNX := veil (show (ys ++ [(⟨x, hxn⟩ : Pl np)]).map (·.1) = ordsU np p d (i + 1) by rw [ordsU_yes (by rw [hx]; exact hxp), List.map_append, HYS.out, hx]; rfl)
      have hlen : ys.length < np + 2 := by
       have := ordsU_len np p d i
       rw [← HYS.out, List.length_map] at this
       omega
      obtain ⟨fn, tmps, assign, body, hy, hRd⟩ := HY.out ys ⟨x, hxn⟩ wr HJi.out hlen
      dsimp only at hy
      have HRD := veil hRd
      clear hx hlen hRd
      gi_wp2
      refine HRD.out.mono ?_
      rintro e W3 (⟨rfl, hJ3, hk3⟩ | ⟨rfl, hJx3⟩)
      ·have HR3 := veil (HRi.out.fr HS.out hk3)
       have HJ3 := veil hJ3
       clear hJ3 hk3 hy
       gi_wp2
       go_roundw
       case rel => exact ⟨i + 1, by omega, by go_num, HR3.out, _, HNX.out, HJ3.out⟩
       case measure => simp [intOf]; omega
      ·have HJx := veil hJx3
       clear hJx3 hy
       gi_wp2
       refine bodyPost_ret (results_none rfl _ _ _) rfl ?_
       refine ⟨⟨_, rfl⟩, .inr ⟨_, ?_, HJx.out⟩⟩
       rw [HNX.out]
       exact ordsU_pre (by omega)
    ·obtain rfl : i = np := by omega
     gi_wp2
     go_end0
     exact ⟨⟨_, rfl⟩, .inl ⟨ys, HYS.out, HJi.out⟩⟩
  ·have HJx := veil hJx2
   clear hJx2
   gi_wp2
   refine bodyPost_ret (results_none rfl _ _ _) rfl ?_
   refine ⟨⟨_, rfl⟩, .inr ⟨_, ?_, HJx.out⟩⟩
   exact ordsU_pre (i := 0) (Nat.zero_le _)
 ·have HJx := veil hJx1
  clear hJx1
  gi_wp2
  refine ⟨trivial, ?_⟩
  gi_wp2
  refine ⟨fun _ h => (by cases h), ?_⟩
  gi_wp2
  refine bodyPost_ret (results_none rfl _ _ _) rfl ?_
  refine ⟨⟨_, rfl⟩, .inr ⟨_, ?_, HJx.out⟩⟩
  exact (show [p] <+: [p, np] from ⟨[np], rfl⟩).trans (ordsU_pre (np := np) (p := p) (d := d) (i := 0) (Nat.zero_le np))
end Go.Proofs.YtjlbmmiomfpgiaaGreatDoor
namespace Go.Proofs.YtjlbmmiomfpgiaaGreatDoor
set_option maxRecDepth 100000
open Go.RowKit Go.Shelf
def MM (H : List Hd) (x : Nat) : List En := match H[x]? with
 | some h => h.M
 | none => []
def bstep (H : List Hd) (b : Option Nat) (x : Nat) : Option Nat := match MM H x with
 | [] => b
 | y :: _ => match b with
  | none => some x
  | some c => if Ke.up y.2 (tkK (MM H c)) then some x else some c
def bst (H : List Hd) (l : List Nat) : Option Nat := l.foldl (bstep H) none
def bI (H : List Hd) : Option Nat → Int
 | none => 0
 | some c => tkI (MM H c)
def bK (H : List Hd) : Option Nat → Ke.K
 | none => ⟨false, 0, 0⟩
 | some c => tkK (MM H c)
def bA : Option Nat → Int
 | none => 0
 | some c => (c : Int)
def sumOn (H : List Hd) (l : List Nat) : Nat := (l.map (fun x => (MM H x).length)).sum
def ahd (H : List Hd) (l : List Nat) : Int := (sumH H : Int) - (sumOn H l : Int)
theorem MM_at {H : List Hd} {x : Nat} {h : Hd} (e : H[x]? = some h) : MM H x = h.M := by unfold MM; rw [e]
theorem bst_snoc (H : List Hd) (l : List Nat) (x : Nat) : bst H (l ++ [x]) = bstep H (bst H l) x := by unfold bst; rw [List.foldl_append]; rfl
theorem ahd_snoc (H : List Hd) (l : List Nat) (x : Nat) : ahd H (l ++ [x]) = ahd H l - ((MM H x).length : Int) := by
 unfold ahd sumOn
 rw [List.map_append, List.sum_append]
 simp
 omega
theorem bst_rest (H : List Hd) : ∀ (l r : List Nat), (∀ x ∈ r, MM H x = []) → bst H (l ++ r) = bst H l
 | l, [], _ => by rw [List.append_nil]
 | l, x :: r, h => by
  have e : l ++ x :: r = (l ++ [x]) ++ r := by simp
  rw [e, bst_rest H (l ++ [x]) r (fun y hy => h y (by simp [hy])), bst_snoc]
  unfold bstep
  rw [h x (by simp)]
theorem sumOn_le : ∀ (l : List Nat) (H : List Hd), l.Nodup → sumOn H l ≤ sumH H
 | [], _, _ => by simp [sumOn]
 | x :: l, H, hn => by
  rw [List.nodup_cons] at hn
  cases hx : H[x]? with
  | none =>
   have := sumOn_le l H hn.2
   have e : MM H x = [] := by unfold MM; rw [hx]
   simp only [sumOn, List.map_cons, List.sum_cons, e, List.length_nil] at this ⊢
   omega
  | some h =>
   have ih := sumOn_le l (H.set x (h.to 0 [])) hn.2
   have hs := sumH_set (y := h.to 0 []) hx
   have e : sumOn (H.set x (h.to 0 [])) l = sumOn H l := by
    unfold sumOn
    congr 1
    refine List.map_congr_left (fun y hy => ?_)
    have hne : x ≠ y := fun q => hn.1 (by rw [q]; exact hy)
    unfold MM
    rw [List.getElem?_set_ne hne]
   have e1 : (h.to 0 []).M.length = 0 := rfl
   have e2 := MM_at hx
   simp only [sumOn, List.map_cons, List.sum_cons, e2] at *
   omega
theorem ords_nodup (np p d : Nat) (hp : p < np) : (ords np p d).Nodup := by
 have hlt : ∀ i, plOf np p d i < np := fun i => Nat.mod_lt _ (by omega)
 have hm : ((List.range np).map (plOf np p d)).Nodup := by
  rw [List.Nodup, List.pairwise_map]
  refine List.Pairwise.imp_of_mem ?_ (List.nodup_range (n := np))
  intro a b ha hb hne
  rw [List.mem_range] at ha hb
  unfold plOf
  intro e
  apply hne
  have h1 := Nat.div_add_mod (p + 1 + d % np + a) np
  have h2 := Nat.div_add_mod (p + 1 + d % np + b) np
  rw [e] at h1
  rcases Nat.lt_trichotomy ((p + 1 + d % np + a) / np) ((p + 1 + d % np + b) / np) with q | q | q
  ·have := Nat.mul_le_mul_left np (show (p + 1 + d % np + a) / np + 1 ≤ (p + 1 + d % np + b) / np from q)
   rw [Nat.mul_add] at this
   omega
  ·rw [q] at h1; omega
  ·have := Nat.mul_le_mul_left np (show (p + 1 + d % np + b) / np + 1 ≤ (p + 1 + d % np + a) / np from q)
   rw [Nat.mul_add] at this
   omega
 unfold ords ordsU
 rw [List.nodup_cons, List.nodup_cons]
 refine ⟨?_, ?_, hm.sublist List.filter_sublist⟩
 ·simp only [List.mem_cons, List.mem_filter]
  rintro (q | q)
  ·omega
  ·simp at q
 ·intro q
  obtain ⟨q1, _⟩ := List.mem_filter.1 q
  obtain ⟨i, _, e⟩ := List.mem_map.1 q1
  have := hlt i
  omega
theorem bst_ahead (H : List Hd) (np p d : Nat) (hp : p < np) (l : List Nat) (hl : l <+: ords np p d) (h0 : ahd H l = 0) : bst H (ords np p d) = bst H l := by
 obtain ⟨r, hr⟩ := hl
 have h1 := sumOn_le (ords np p d) H (ords_nodup np p d hp)
 rw [← hr] at h1 ⊢
 unfold ahd at h0
 have h2 : sumOn H (l ++ r) = sumOn H l + sumOn H r := by unfold sumOn; rw [List.map_append, List.sum_append]
 have h3 : sumOn H r = 0 := by omega
 refine bst_rest H l r (fun x hx => ?_)
 unfold sumOn at h3
 rw [List.sum_eq_zero_iff_forall_eq_nat] at h3
 have := h3 _ (List.mem_map.2 ⟨x, hx, rfl⟩)
 exact List.length_eq_zero_iff.1 this
end Go.Proofs.YtjlbmmiomfpgiaaGreatDoor
namespace Go.Proofs.YtjlbmmiomfpgiaaGreatDoor
set_option maxRecDepth 100000
open Go.RowKit Go.Shelf
set_option linter.unusedVariables false
attribute [local go_sem] Oper.semAt_some
def noDefer (ops : Array Oper) : Bool := ops.all fun o => match o.op with
 | .defer _ => false
 | _ => true
theorem noDefer_at {ops : Array Oper} (h : noDefer ops = true) {i : Nat} {o : Oper} (ho : ops[i]? = some o) : ∀ c, o.op ≠ .defer c := by
 intro c e
 unfold noDefer at h
 rw [Array.all_eq_true'] at h
 have := h o (Array.mem_of_getElem? ho)
 rw [e] at this
 exact absurd this (by simp)
theorem oper_round {P : Program} {o : Oper} {a : Act} {w : World} {K : Act → World → Prop} {Q : Exit → Act → World → Prop} {l n : Nat} (hd : ∀ c, o.op ≠ .defer c) (h : o.wp P a w K Q) : o.wpIn (Fence.wide.inRound l) n P a w K Q := by
 refine ⟨fun _ _ => trivial, ?_⟩
 rw [Oper.semAt_eq _ _ _ hd]
 unfold Oper.wp at h
 revert h
 generalize (execOp a.eval o).run P w = r
 intro h
 match r, h with
 | .ok (.value _) _, h => exact h
 | .ok .skip _, h => exact h
 | .ok (.defer _) _, h => exact h
 | .ok (.enter f args) w', h => exact ⟨fun q => absurd q (by simp [Fence.inRound, Fence.wide]), CallsIn.inRound l (callsIn_wide.2 h)⟩
 | .ok (.row row args) w', h =>
  refine ⟨fun q => absurd q (by simp [Fence.inRound, Fence.wide]), fun c cs _ => ?_⟩
  obtain ⟨v, w'', r1, s⟩ := h c cs
  exact ⟨v, w'', r1, stepsIn_wide.2 s⟩
 | .halt (.panic _) _, h => exact h
theorem any_round {P : Program} {md : Region.Mode} {ops : Array Oper} {Q : Exit → Act → World → Prop} {l n : Nat} (hd : noDefer ops = true) (hlo : ¬ LetsOut Q) : ∀ (fuel : Nat) (listed : Array Bool) (a : Act) (w : World), wpAny P md ops Q fuel listed a w → wpAnyIn (Fence.wide.inRound l) n P md ops Q fuel listed a w
 | 0, _, _, _, h => h
 | fuel + 1, _, a, w, h => ⟨h.1, fun i hi => by
  have h2 := h.2 i hi
  unfold wpOp at h2
  unfold wpOpIn
  cases ho : ops[i]? with
  | none => rw [ho] at h2; exact any_round hd hlo fuel _ _ _ h2
  | some o =>
   rw [ho] at h2
   dsimp only at h2 ⊢
   by_cases hw : Region.wanted o (yielded ops a.tmps) = true
   ·rw [if_pos hw] at h2 ⊢
    rcases h2 with h2 | h2
    ·exact oper_round (noDefer_at hd ho) (Oper.wp_mono (fun a w q => any_round hd hlo fuel _ a w q) h2)
    ·exact absurd h2.2 hlo
   ·rw [if_neg hw] at h2 ⊢
    exact ⟨fun _ _ => trivial, any_round hd hlo fuel _ _ _ h2⟩⟩
theorem region_round {P : Program} {id : Nat} {ops : Array Oper} {Q : Exit → Act → World → Prop} {l n : Nat} {a : Act} {w : World} (S : World → Prop) (hm : P.follows .mixedOrders = true) (hd : noDefer ops = true) (hlo : ¬ LetsOut Q) (hS : S w.drew)
  (h : S w.drew → wpAnyH P .any ops Q S ops.size (Array.replicate ops.size false) a w.drew) : (Code.region id ops true).wpIn (Fence.wide.inRound l) n P Q a w :=
 wpIn_region_any hm (any_round hd hlo _ _ _ _ (wpAny_of_held _ _ _ _ (h hS)))
structure BC (W : World) (n0 pb : Nat) (i : Int) (k : Ke.K) (a : Int) (o : Bool) (ah : Int) : Prop where
 b0 : Boxed W n0 88 (.pointer (some ⟨pb, 0, none⟩))
 b1 : Boxed W (n0 + 1) 3 (.int .i64 i)
 b2 : W.heap[n0 + 2]? = some (.cells #[.bool k.e, .int .u64 k.d, .int .u8 k.l] 67 (0, 0))
 b3 : Boxed W (n0 + 3) 3 (.int .i64 a)
 b4 : Boxed W (n0 + 4) 4 (.bool o)
 b5 : Boxed W (n0 + 5) 3 (.int .i64 ah)
abbrev BSt (W : World) (n0 pb : Nat) (H : List Hd) (b : Option Nat) (ah : Int) : Prop := BC W n0 pb (bI H b) (bK H b) (bA b) b.isSome ah
theorem places_mk (nn pb p d : Nat) (w : World) :
  CallsIn Fence.wide nn Tryz.prog 151 #[.pointer (some ⟨pb, 0, none⟩), .int .i64 (p : Int), .int .u64 (d : Int)] w fun e w' => e = .returned (.func (.func 176) #[] #[.pointer (some ⟨w.heap.size + 1, 0, none⟩), .pointer (some ⟨w.heap.size, 0, none⟩), .pointer (some ⟨w.heap.size + 2, 0, none⟩)]) ∧
   w' = ((w.alloc (.cells #[.pointer (some ⟨pb, 0, none⟩)] 88)).alloc (.cells #[.int .i64 (p : Int)] 3)).alloc (.cells #[.int .u64 (d : Int)] 25) := by
 refine callsIn_of_wp Tryz.func151 rfl trivial ?_ rfl
 simp only [Tryz.ntmps151, List.size_toArray, List.length_cons, List.length_nil, Nat.reduceAdd, Nat.reduceSub, Array.replicate_succ, Array.replicate_zero, List.push_toArray, List.append_toArray, List.nil_append, List.cons_append]
 gi_wp2
 go_ret
 exact ⟨by simp, rfl⟩
def vals {np : Nat} (l : List (Pl np)) : List Nat := l.map (·.1)
theorem vals_snoc {np : Nat} (l : List (Pl np)) (x : Pl np) : vals (l ++ [x]) = vals l ++ [x.1] := by unfold vals; rw [List.map_append]; rfl
theorem blk_kept {W W' : World} {B : Nat} {cs : Array Value} {t : TypeId} {c : Nat × Nat} {row : Option Nat} (h : W.heap[B]? = some (.cells cs t c)) (hg : W.grownBy W' row) (hr : ∀ r, row = some r → ∃ o : Obj, W.heap[r]? = some o ∧ o.isCells = false) : W'.heap[B]? = some (.cells cs t c) := by
 rw [hg.block B (Array.getElem?_eq_some_iff.1 h).1 (fun e => ?_)]
 ·exact h
 ·obtain ⟨o, ho, hc⟩ := hr B e.symm
  rw [h] at ho
  cases ho
  cases hc
theorem BC.kept {W W' : World} {n0 pb : Nat} {i : Int} {k : Ke.K} {a : Int} {o : Bool} {ah : Int} {row : Option Nat} (h : BC W n0 pb i k a o ah) (hg : W.grownBy W' row) (hr : ∀ r, row = some r → ∃ o : Obj, W.heap[r]? = some o ∧ o.isCells = false) : BC W' n0 pb i k a o ah :=
 ⟨blk_kept h.b0 hg hr, blk_kept h.b1 hg hr, blk_kept h.b2 hg hr, blk_kept h.b3 hg hr, blk_kept h.b4 hg hr, blk_kept h.b5 hg hr⟩
theorem BC.below {W W' : World} {n0 pb : Nat} {i : Int} {k : Ke.K} {a : Int} {o : Bool} {ah : Int} (h : BC W n0 pb i k a o ah) (hb : Below W.heap.size W W') : BC W' n0 pb i k a o ah :=
 h.kept (row := none) ⟨hb.os, hb.tape, hb.output, hb.size, fun k hk _ => hb.block k hk⟩ (fun r e => by cases e)
theorem drew_heap {W : World} {B : Nat} {o : Obj} (h : W.heap[B]? = some o) : W.drew.heap[B]? = some o := h
theorem BC.drew {W : World} {n0 pb : Nat} {i : Int} {k : Ke.K} {a : Int} {o : Bool} {ah : Int} (h : BC W n0 pb i k a o ah) : BC W.drew n0 pb i k a o ah := ⟨h.b0, h.b1, h.b2, h.b3, h.b4, h.b5⟩
theorem BC.lt {W : World} {n0 pb : Nat} {i : Int} {k : Ke.K} {a : Int} {o : Bool} {ah : Int} (h : BC W n0 pb i k a o ah) : n0 + 5 < W.heap.size := (Array.getElem?_eq_some_iff.1 h.b5).1
theorem set_other {W : World} {B B' off : Nat} {v : Value} {x : Obj} (h : W.heap[B']? = some x) (hne : B' ≠ B) : (W.setCell ⟨B, off, none⟩ v).heap[B']? = some x := by
 rw [((Fr.refl (fun k => k = B) W).setCell (a := ⟨B, off, none⟩) rfl v).block B' (Array.getElem?_eq_some_iff.1 h).1 hne]
 exact h
section
variable {W : World} {n0 pb : Nat} {i : Int} {k : Ke.K} {a : Int} {o : Bool} {ah : Int}
theorem BC.s1 (h : BC W n0 pb i k a o ah) (i' : Int) : BC (W.setCell ⟨n0 + 1, 0, none⟩ (.int .i64 i')) n0 pb i' k a o ah :=
 ⟨set_other h.b0 (by omega), Go.Joins.block_setCell h.b1 _, set_other h.b2 (by omega), set_other h.b3 (by omega), set_other h.b4 (by omega), set_other h.b5 (by omega)⟩
theorem BC.s2 (h : BC W n0 pb i k a o ah) (k' : Ke.K) : BC (((W.setCell ⟨n0 + 2, 0, none⟩ (.bool k'.e)).setCell ⟨n0 + 2, 1, none⟩ (.int .u64 k'.d)).setCell ⟨n0 + 2, 2, none⟩ (.int .u8 k'.l)) n0 pb i k' a o ah :=
 ⟨set_other (set_other (set_other h.b0 (by omega)) (by omega)) (by omega), set_other (set_other (set_other h.b1 (by omega)) (by omega)) (by omega), Go.Joins.block_setCell (Go.Joins.block_setCell (Go.Joins.block_setCell h.b2 _) _) _, set_other (set_other (set_other h.b3 (by omega)) (by omega)) (by omega), set_other (set_other (set_other h.b4 (by omega)) (by omega)) (by omega), set_other (set_other (set_other h.b5 (by omega)) (by omega)) (by omega)⟩
theorem BC.s3 (h : BC W n0 pb i k a o ah) (a' : Int) : BC (W.setCell ⟨n0 + 3, 0, none⟩ (.int .i64 a')) n0 pb i k a' o ah :=
 ⟨set_other h.b0 (by omega), set_other h.b1 (by omega), set_other h.b2 (by omega), Go.Joins.block_setCell h.b3 _, set_other h.b4 (by omega), set_other h.b5 (by omega)⟩
theorem BC.s4 (h : BC W n0 pb i k a o ah) (o' : Bool) : BC (W.setCell ⟨n0 + 4, 0, none⟩ (.bool o')) n0 pb i k a o' ah :=
 ⟨set_other h.b0 (by omega), set_other h.b1 (by omega), set_other h.b2 (by omega), set_other h.b3 (by omega), Go.Joins.block_setCell h.b4 _, set_other h.b5 (by omega)⟩
theorem BC.s5 (h : BC W n0 pb i k a o ah) (ah' : Int) : BC (W.setCell ⟨n0 + 5, 0, none⟩ (.int .i64 ah')) n0 pb i k a o ah' :=
 ⟨set_other h.b0 (by omega), set_other h.b1 (by omega), set_other h.b2 (by omega), set_other h.b3 (by omega), set_other h.b4 (by omega), Go.Joins.block_setCell h.b5 _⟩
theorem blk_cell {B : Nat} {cs : Array Value} {t : TypeId} (h : W.heap[B]? = some (.cells cs t (0, 0))) (j : Nat) : W.cell? ⟨B, j, none⟩ = cs[j]? ∧ W.frozen? ⟨B, j, none⟩ = false := by
 unfold World.cell? World.frozen?
 simp only [h]
 exact ⟨rfl, rfl⟩
theorem BC.cells (h : BC W n0 pb i k a o ah) : W.cell? ⟨n0, 0, none⟩ = some (.pointer (some ⟨pb, 0, none⟩)) ∧ W.cell? ⟨n0 + 1, 0, none⟩ = some (.int .i64 i) ∧ (W.cell? ⟨n0 + 2, 0, none⟩ = some (.bool k.e) ∧ W.cell? ⟨n0 + 2, 1, none⟩ = some (.int .u64 k.d) ∧ W.cell? ⟨n0 + 2, 2, none⟩ = some (.int .u8 k.l)) ∧ W.cell? ⟨n0 + 3, 0, none⟩ = some (.int .i64 a) ∧ W.cell? ⟨n0 + 4, 0, none⟩ = some (.bool o) ∧ W.cell? ⟨n0 + 5, 0, none⟩ = some (.int .i64 ah) :=
 ⟨(blk_cell h.b0 0).1, (blk_cell h.b1 0).1, ⟨(blk_cell h.b2 0).1, (blk_cell h.b2 1).1, (blk_cell h.b2 2).1⟩, (blk_cell h.b3 0).1, (blk_cell h.b4 0).1, (blk_cell h.b5 0).1⟩
theorem BC.free (h : BC W n0 pb i k a o ah) : W.frozen? ⟨n0 + 1, 0, none⟩ = false ∧ (W.frozen? ⟨n0 + 2, 0, none⟩ = false ∧ W.frozen? ⟨n0 + 2, 1, none⟩ = false ∧ W.frozen? ⟨n0 + 2, 2, none⟩ = false) ∧ W.frozen? ⟨n0 + 3, 0, none⟩ = false ∧ W.frozen? ⟨n0 + 4, 0, none⟩ = false ∧ W.frozen? ⟨n0 + 5, 0, none⟩ = false :=
 ⟨(blk_cell h.b1 0).2, ⟨(blk_cell h.b2 0).2, (blk_cell h.b2 1).2, (blk_cell h.b2 2).2⟩, (blk_cell h.b3 0).2, (blk_cell h.b4 0).2, (blk_cell h.b5 0).2⟩
end
def SB (n0 k : Nat) : Prop := (n0 + 1 ≤ k ∧ k ≤ n0 + 5) ∨ n0 + 9 ≤ k
theorem places_stops (nn : Nat) (hn : 1 ≤ nn) (B1 B2 B3 pb np p d : Nat) (a : Option Addr) (cap : Nat) (hp : p < np) (hnp : np ≤ 64) (hd : d < 18446744073709551616) (S : Nat → Prop) (hS : ¬ S B1 ∧ ¬ S B2 ∧ ¬ S B3 ∧ ¬ S pb) (w : World) (hR : RdP w B1 B2 B3 pb np p d a cap) :
  SeqStopsK Fence.wide nn Tryz.prog 176 #[.pointer (some ⟨B1, 0, none⟩), .pointer (some ⟨B2, 0, none⟩), .pointer (some ⟨B3, 0, none⟩)] (fun x : Pl np => #[Value.int .i64 (x.1 : Int)]) (Fr S) (fun ys => vals ys = ords np p d) (fun pre => vals pre <+: ords np p d) (np + 2) w := by
 intro l J Jx W hW hJ hJx hY h0
 refine places_in nn hn l B1 B2 B3 pb np p d a cap hp hnp hd S hS J Jx hY (fun pre W q hj => hJ pre W (W.drewN q) none hj ⟨rfl, rfl, rfl, Nat.le_refl _, fun _ _ _ => rfl⟩ (fun r e => by cases e)) W ?_ h0
 exact hR.fr (S := fun _ => False) ⟨id, id, id, id⟩ (Fr.of_below' hW)
theorem fr_put {S : Nat → Prop} {w : World} {B : Nat} (hS : ∀ k, B ≤ k → S k) (hB : B ≤ w.heap.size) (W : World) (l : Nat) (o o' : Obj) (hl : w.heap.size ≤ l) (ho : W.heap[l]? = some o) (hc : o.isCells = false) (hw : o.isWalk = false) : Fr S W (W.putObj l o') :=
 ⟨rfl, rfl, rfl, by simp, fun k _ hk => World.putObj_heap_other (fun e => hk (hS k (by omega)))⟩
theorem keeps_below' {W W' : World} (h : Below W.heap.size W W') : KeepsOthers W W' := ⟨h.size, fun k o hk _ => (h.block k (Array.getElem?_eq_some_iff.1 hk).1).trans hk⟩
theorem new_at (W : World) (o : Obj) (k : Nat) (hk : W.heap.size = k) : (W.alloc o).heap[k]? = some o := by subst hk; exact World.alloc_heap_new W o
theorem old_at {W : World} (o : Obj) {k : Nat} {x : Obj} (h : W.heap[k]? = some x) : (W.alloc o).heap[k]? = some x := (Below.heap_alloc _ _ _ (Array.getElem?_eq_some_iff.1 h).1).trans h
theorem sumOn_bd {H : List Hd} (h : ∀ x, (MM H x).length ≤ 1024) : ∀ l : List Nat, sumOn H l ≤ l.length * 1024
 | [] => by simp [sumOn]
 | x :: l => by
  have h1 := h x
  have := sumOn_bd h l
  simp only [sumOn, List.map_cons, List.sum_cons, List.length_cons, Nat.add_mul, Nat.one_mul] at this ⊢
  omega
theorem IsP.mm {w : World} {base lo pb mb n np q : Nat} {v : Value} {H : List Hd} (h : IsP w base lo pb mb n np q v H) (x : Nat) : (MM H x).length ≤ 1024 := by
 unfold MM
 cases hx : H[x]? with
 | none => simp
 | some y =>
  have h1 := (h.sets.it x y hx).fit
  have h2 := h.n1
  have : moP np n q x ≤ n := by unfold moP; split <;> omega
  show y.M.length ≤ 1024
  omega
structure RW (n0 : Nat) (W W' : World) : Prop where
 fr : Fr (SB n0) W W'
 ko : KeepsOthers W W'
 be : Below n0 W W'
 hz : n0 + 9 ≤ W'.heap.size
section
variable {n0 : Nat} {W W' W'' : World}
theorem RW.refl (h : n0 + 9 ≤ W.heap.size) : RW n0 W W := ⟨Fr.refl _ _, KeepsOthers.refl _, Below.refl _ _, h⟩
theorem RW.below (h : RW n0 W W') (hb : Below W'.heap.size W' W'') : RW n0 W W'' :=
 ⟨h.fr.trans (Fr.of_below' hb), h.ko.trans (keeps_below' hb), h.be.trans (hb.mono (by have := h.hz; omega)), Nat.le_trans h.hz hb.size⟩
theorem RW.set (h : RW n0 W W') {B off : Nat} (h1 : n0 + 1 ≤ B) (h2 : B ≤ n0 + 5) (v : Value) : RW n0 W (W'.setCell ⟨B, off, none⟩ v) :=
 ⟨h.fr.setCell (a := ⟨B, off, none⟩) (.inl ⟨h1, h2⟩) v, h.ko.trans (KeepsOthers.setCell _ _ _), h.be.setCell (p := ⟨B, off, none⟩) (by show n0 ≤ B; omega) v, Nat.le_trans h.hz ((Fr.refl (fun k => k = B) W').setCell (a := ⟨B, off, none⟩) rfl v).size⟩
theorem RW.drew (h : RW n0 W W') : RW n0 W W'.drew := ⟨⟨h.fr.os, h.fr.tape, h.fr.output, h.fr.size, h.fr.block⟩, ⟨h.ko.size, h.ko.same⟩, ⟨h.be.os, h.be.tape, h.be.output, h.be.size, h.be.block⟩, h.hz⟩
end
section
variable {w w' wa wb : World} {base lo pb mb n np q T g cap : Nat} {v : Value} {H : List Hd}
set_option maxRecDepth 100000 in
set_option maxHeartbeats 4000000 in
theorem pbest_in (h : IsP w base lo pb mb n np q (.slice (some ⟨g, 0, none⟩) (np + 1) cap) H) (p d : Nat) (hp : p < np) (hd : d < 18446744073709551616) :
  CallsIn Fence.wide 6 Tryz.prog 118 #[.pointer (some ⟨pb, 0, none⟩), .int .i64 (p : Int), .int .u64 (d : Int)] w fun e w' => e = .returned (.tuple #[.int .i64 (bI H (bst H (ords np p d))), .agg #[.bool (bK H (bst H (ords np p d))).e, .int .u64 (bK H (bst H (ords np p d))).d, .int .u8 (bK H (bst H (ords np p d))).l], .int .i64 (bA (bst H (ords np p d))), .bool (bst H (ords np p d)).isSome]) ∧ Below w.heap.size w w' := by
 have HP : Hid (∀ W, Below w.heap.size w W → IsP W base lo pb mb n np q (.slice (some ⟨g, 0, none⟩) (np + 1) cap) H) := fun W hW => h.below hW
 have HHAS := veil (fun W hW => (callsIn_wide (n := 5)).2 (phasY (HP.out W hW) p hp))
 have HLEN := veil (fun W hW => (callsIn_wide (n := 5)).2 (plen_ok (HP.out W hW)))
 have hnp := h.np1
 have hlen := h.len
 have hpl := h.pbl
 have hsum := h.sum_le
 refine callsIn_of_wp_marks Tryz.func118 rfl trivial ?_ rfl
 simp only [Tryz.ntmps118, List.size_toArray, List.length_cons, List.length_nil, Nat.reduceAdd, Nat.reduceSub, Array.replicate_succ, Array.replicate_zero, List.push_toArray, List.append_toArray, List.nil_append, List.cons_append]
 have hB5 : Below w.heap.size w (((((w.alloc (.cells #[.pointer (some ⟨pb, 0, none⟩)] 88)).alloc (.cells #[.int .i64 0] 3)).alloc (.cells #[.bool false, .int .u64 0, .int .u8 0] 67)).alloc (.cells #[.int .i64 0] 3)).alloc (.cells #[.bool false] 4)) := (((((Below.refl _ w).alloc (Nat.le_refl _) _).alloc (by simp) _).alloc (by simp; omega) _).alloc (by simp; omega) _).alloc (by simp; omega) _
 have HB5 := veil hB5
 have HB9 := veil ((((hB5.alloc (by simp; omega) (.cells #[.int .i64 (sumH H : Int)] 3)).alloc (by simp; omega) (.cells #[.pointer (some ⟨pb, 0, none⟩)] 88)).alloc (by simp; omega) (.cells #[.int .i64 (p : Int)] 3)).alloc (by simp; omega) (.cells #[.int .u64 (d : Int)] 25))
 clear hB5 h
 gi_wp2
 refine wpIn_wide.2 (wp_scope_straight ((wpIn_wide (n := 6)).1 ?_))
 gi_wp2_with (first
  | (refine ⟨trivial, ?_⟩; gi_at_call 139; refine (HHAS.out _ HB5.out).mono ?_; rintro e w1 ⟨rfl, hw1⟩; replace hw1 := hw1.symm; subst hw1)
  | (refine ⟨trivial, ?_⟩; gi_at_call 150; refine (HLEN.out _ HB5.out).mono ?_; rintro e w2 ⟨rfl, hw2⟩; replace hw2 := hw2.symm; subst hw2))
 refine wpIn_wide.2 (wp_label ?_)
 gi_wp2_with (refine ⟨trivial, ?_⟩; gi_at_call 151; refine (places_mk _ pb p d _).mono ?_; rintro e w3 ⟨rfl, hw3⟩; subst hw3)
 simp only [Nat.add_assoc, Nat.reduceAdd]
 obtain ⟨W0, hW0⟩ : ∃ W0, (((((((((w.alloc (.cells #[.pointer (some ⟨pb, 0, none⟩)] 88)).alloc (.cells #[.int .i64 0] 3)).alloc (.cells #[.bool false, .int .u64 0, .int .u8 0] 67)).alloc (.cells #[.int .i64 0] 3)).alloc (.cells #[.bool false] 4)).alloc (.cells #[.int .i64 (sumH H : Int)] 3)).alloc (.cells #[.pointer (some ⟨pb, 0, none⟩)] 88)).alloc (.cells #[.int .i64 (p : Int)] 3)).alloc (.cells #[.int .u64 (d : Int)] 25)) = W0 := ⟨_, rfl⟩
 rw [hW0] at HB9 ⊢
 have hz : W0.heap.size = w.heap.size + 9 := by rw [← hW0]; simp
 have hst : BSt W0 w.heap.size pb H none (sumH H : Int) := by
  rw [← hW0]
  refine ⟨?_, ?_, ?_, ?_, ?_, ?_⟩ <;> (try unfold Boxed) <;> (repeat (first | (refine new_at _ _ _ ?_; simp; done) | refine old_at _ ?_))
 have x6 : Boxed W0 (w.heap.size + 6) 88 (.pointer (some ⟨pb, 0, none⟩)) := by
  rw [← hW0]; unfold Boxed
  repeat (first | (refine new_at _ _ _ ?_; simp; done) | refine old_at _ ?_)
 have x7 : Boxed W0 (w.heap.size + 7) 3 (.int .i64 (p : Int)) := by
  rw [← hW0]; unfold Boxed
  repeat (first | (refine new_at _ _ _ ?_; simp; done) | refine old_at _ ?_)
 have x8 : Boxed W0 (w.heap.size + 8) 25 (.int .u64 (d : Int)) := by
  rw [← hW0]; unfold Boxed
  repeat (first | (refine new_at _ _ _ ?_; simp; done) | refine old_at _ ?_)
 have hrd : RdP W0 (w.heap.size + 7) (w.heap.size + 6) (w.heap.size + 8) pb np p d (some ⟨g, 0, none⟩) cap := ⟨by omega, by omega, by omega, by omega, x7.cell, x6.cell, x8.cell, (HP.out _ HB9.out).c0⟩
 have hS : ¬ SB w.heap.size (w.heap.size + 7) ∧ ¬ SB w.heap.size (w.heap.size + 6) ∧ ¬ SB w.heap.size (w.heap.size + 8) ∧ ¬ SB w.heap.size pb := by
  unfold SB; omega
 clear hW0
 refine wpIn_rangeFunc_ownF rfl (by decide) (gf := 176) (lb := #[.pointer (some ⟨w.heap.size + 7, 0, none⟩), .pointer (some ⟨w.heap.size + 6, 0, none⟩), .pointer (some ⟨w.heap.size + 8, 0, none⟩)]) rfl trivial (enters_of Tryz.func176 (by kernel_rfl) rfl)
  (places_stops 5 (by decide) (w.heap.size + 7) (w.heap.size + 6) (w.heap.size + 8) pb np p d (some ⟨g, 0, none⟩) cap hp hnp.2 hd (SB w.heap.size) hS W0 hrd) (fun a b => a.trans b) (fr_put (B := w.heap.size + 9) (fun k hk => .inr hk) (by omega)) (Below.refl _ _) (fun _ => rfl)
  (fun (pre : List (Pl np)) (W : World) => (BSt W w.heap.size pb H (bst H (vals pre)) (ahd H (vals pre)) ∧ W0.heap.size ≤ W.heap.size) ∧ Below w.heap.size w W)
  (fun (c : Code) (pre : List (Pl np)) (W : World) => c = .exit 0 ∧ (∃ (pre' : List (Pl np)) (x : Pl np), pre = pre' ++ [x] ∧ ahd H (vals pre') = 0 ∧ BSt W w.heap.size pb H (bst H (vals pre')) 0 ∧ W0.heap.size ≤ W.heap.size) ∧ Below w.heap.size w W)
  (fun s W W' row hs hg hr => ⟨⟨BC.kept hs.1.1 hg (fun r e => (hr r e).2), Nat.le_trans hs.1.2 hg.size⟩, hs.2.grown hg hs.2.size (fun k e => by have := (hr k e).1; omega)⟩)
  (fun c s W W' row hs hg hr => ⟨hs.1, hs.2.1.imp (fun pre' => Exists.imp (fun x q => ⟨q.1, q.2.1, BC.kept q.2.2.1 hg (fun r e => (hr r e).2), Nat.le_trans q.2.2.2 hg.size⟩)), hs.2.2.grown hg hs.2.2.size (fun k e => by have := (hr k e).1; omega)⟩)
  ⟨by have e1 : bst H (vals ([] : List (Pl np))) = none := rfl; have e2 : ahd H (vals ([] : List (Pl np))) = (sumH H : Int) := (by simp [ahd, sumOn, vals]); rw [e1, e2]; exact ⟨hst, Nat.le_refl _⟩, HB9.out⟩
  (fun x => { tmps := #[.pointer (some ⟨pb, 0, none⟩), .int .i64 (p : Int), .int .u64 (d : Int), .pointer (some ⟨w.heap.size, 0, none⟩), undef, undef, .pointer (some ⟨w.heap.size + 1, 0, none⟩), .pointer (some ⟨w.heap.size + 2, 0, none⟩), .pointer (some ⟨w.heap.size + 3, 0, none⟩), .pointer (some ⟨w.heap.size + 4, 0, none⟩), .pointer (some ⟨w.heap.size + 5, 0, none⟩), .int .i64 (x.1 : Int), undef, undef, undef, .pointer (some ⟨pb, 0, none⟩), .int .i64 (p : Int), .bool true, .bool false, undef, .pointer (some ⟨pb, 0, none⟩), .int .i64 (sumH H : Int), .pointer (some ⟨pb, 0, none⟩), .int .i64 (p : Int), .int .u64 (d : Int), .func (.func 176) #[] #[.pointer (some ⟨w.heap.size + 7, 0, none⟩), .pointer (some ⟨w.heap.size + 6, 0, none⟩), .pointer (some ⟨w.heap.size + 8, 0, none⟩)], .int .i64 (x.1 : Int), undef, undef, undef, undef, undef, undef, undef, undef, undef, undef, undef, undef, undef, undef, undef, undef, undef, undef, undef, undef, undef, undef, undef, undef, undef, undef, undef, undef, undef, undef, undef, undef, undef, undef, undef, undef, undef, undef, undef, undef, undef, undef, undef], defers := [] }) ?assign ?body ?done ?stop
 case assign =>
  intro l x W K hK
  gi_wp2
  exact hK
 case body =>
  rintro l pre ⟨x, hx⟩ W ⟨⟨hB, hWz⟩, hbel⟩ hlt
  have hxl : x < H.length := by omega
  obtain ⟨y, hy⟩ : ∃ y, H[x]? = some y := ⟨H[x], List.getElem?_eq_getElem hxl⟩
  have hM := MM_at hy
  have HBS := veil (show bst H (vals (pre ++ [(⟨x, hx⟩ : Pl np)])) = bstep H (bst H (vals pre)) x by rw [vals_snoc, bst_snoc])
  have HAS := veil (show ahd H (vals (pre ++ [(⟨x, hx⟩ : Pl np)])) = ahd H (vals pre) - (y.M.length : Int) by rw [vals_snoc, ahd_snoc, hM])
  dsimp only
  have hlen2 : (vals pre).length ≤ 65 := by unfold vals; rw [List.length_map]; omega
  obtain ⟨c0, _, _, c3, _⟩ := (HP.out _ hbel).view
  have c4 := c3 x y hy
  have HZ : Hid (w.heap.size + 9 ≤ W.heap.size) := by unfold Hid; rw [← hz]; exact hWz
  have a0 := hB.b0.cell
  have HTOP := veil (stop_all ((HP.out _ hbel).sets.it x y hy))
  have HB := veil hB
  have HBEL := veil hbel
  have HY := veil hy
  have hyl : y.M.length ≤ 1024 := by rw [← hM]; exact (HP.out _ hbel).mm x
  have ha1 : -70000 ≤ ahd H (vals pre) ∧ ahd H (vals pre) ≤ 70000 := by
   have h1 := sumOn_bd (HP.out _ hbel).mm (vals pre)
   have h2 : (vals pre).length * 1024 ≤ 65 * 1024 := Nat.mul_le_mul_right _ hlen2
   unfold ahd
   omega
  clear hB hbel c3 hy hM hxl hst hrd hS x6 x7 x8
  have hah : Hid (ahd H (vals pre) = ahd H (vals pre)) := rfl
  generalize hbb : bst H (vals pre) = b at *
  have b1 : (x : Int) < (np : Int) + 1 := by omega
  have b2 : (x : Int) < ((np + 1 : Nat) : Int) := by omega
  have b3 : x < np + 1 := by omega
  have b4 : ¬ (x : Int) < 0 := by omega
  by_cases h0 : ahd H (vals pre) = 0
  ·have HA0 := veil h0
   rw [h0] at HB
   clear h0
   gi_wp2_with (refine ⟨trivial, ?_⟩; gi_at_call 152; refine (CallsIn.inRound l (callsIn_wide.2 HTOP.out)).mono ?_; rintro e w1 ⟨rfl, hb1⟩; have HB1 := veil (BC.below HB.out hb1); have HBW := veil hb1; have a5 := HB1.out.b5.cell; have z1 := BC.lt HB1.out; clear hb1)
   have HRW := veil (((RW.refl HZ.out).below HBW.out).below ((Below.refl _ w1).alloc (Nat.le_refl _) (.cells #[.bool (tkK y.M).e, .int .u64 (tkK y.M).d, .int .u8 (tkK y.M).l] 67)))
   refine ⟨HRW.out.ko, rfl, ⟨pre, _, rfl, HA0.out, ?_, by have := HRW.out.hz; omega⟩, HBEL.out.trans HRW.out.be⟩
   rw [hbb]
   exact BC.below HB1.out ((Below.refl _ w1).alloc (Nat.le_refl _) _)
  ·have HNE := veil h0
   obtain ⟨ha1, ha2⟩ := ha1
   generalize ahd H (vals pre) = ah at *
   obtain ⟨ln, hln⟩ : ∃ ln, y.M.length = ln := ⟨_, rfl⟩
   rw [hln] at HAS hyl
   have HLN : Hid (∀ V, Below w.heap.size w V → Calls Tryz.prog 153 #[.pointer (some ⟨y.sb, 0, none⟩)] V fun e w' => e = .returned (.int .i64 (ln : Int)) ∧ Below V.heap.size V w') := fun V hV => by
    rw [← hln]
    exact slenS ((HP.out V hV).sets.it x y HY.out)
   have HMX := veil (MM_at HY.out)
   have ew : IntKind.i64.wrap (ah - (ln : Int)) = ah - (ln : Int) := by simp [IntKind.wrap, IntKind.bits, IntKind.signed]; omega
   clear hln
   cases hM : y.M with
   | nil =>
    rw [hM] at HTOP HMX
    simp only [tkI, tkK, tkO] at HTOP
    have HB2 : Hid (bstep H b x = b) := by unfold Hid bstep; rw [HMX.out]
    clear hM
    gi_wp2_with (refine ⟨trivial, ?_⟩; gi_at_call 152; refine (CallsIn.inRound l (callsIn_wide.2 HTOP.out)).mono ?_; rintro e w1 ⟨rfl, hb1⟩; have HB1 := veil (BC.below HB.out hb1); have HBW := veil hb1; obtain ⟨a10, a11, ⟨a12, a13, a14⟩, a15, a16, a17⟩ := BC.cells HB1.out; have z1 := BC.lt HB1.out; have z2 : w.heap.size < w1.heap.size := (by omega); have z3 : w.heap.size + 1 < w1.heap.size := (by omega); have z4 : w.heap.size + 2 < w1.heap.size := (by omega); have z5 : w.heap.size + 3 < w1.heap.size := (by omega); have z6 : w.heap.size + 4 < w1.heap.size := (by omega); clear hb1)
    all_goals first
     | (rename_i q1 q2; exact absurd q1 (by simp [undef]))
     | skip
    refine ⟨trivial, ?_⟩
    gi_wp2
    have HBC := veil (BC.below HB1.out ((Below.refl _ w1).alloc (Nat.le_refl _) (.cells #[.bool false, .int .u64 0, .int .u8 0] 67)))
    have HRW := veil (((RW.refl HZ.out).below HBW.out).below ((Below.refl _ w1).alloc (Nat.le_refl _) (.cells #[.bool false, .int .u64 0, .int .u8 0] 67)))
    generalize (w1.alloc (.cells #[.bool false, .int .u64 0, .int .u8 0] 67)) = Wc at *
    have HBELc := veil (HBEL.out.trans HRW.out.be)
    obtain ⟨d0, _, _, d3, _⟩ := (HP.out _ HBELc.out).view
    have d4 := d3 x y HY.out
    clear d3
    obtain ⟨e0, _, _, _, _, e5⟩ := BC.cells HBC.out
    refine region_round (fun w' => w'.cell? ⟨w.heap.size, 0, none⟩ = some (.pointer (some ⟨pb, 0, none⟩)) ∧ w'.cell? ⟨pb, 0, none⟩ = some (.slice (some ⟨g, 0, none⟩) (np + 1) cap) ∧ w'.cell? ⟨g, x, none⟩ = some (.pointer (some ⟨y.sb, 0, none⟩))) (by kernel_rfl) (by kernel_rfl) (by rintro ⟨a, w, h⟩; exact (show False from h)) ⟨e0, d0, d4⟩ (fun hHeld => ?_)
    refine tkX 1 (v := ?_) rfl ?v1 ?_
    case v1 => (intro w hSw; (try dsimp only at hSw); go_simp; try with_reducible rfl)
    try simp only [puX]
    refine tkX 2 (v := ?_) rfl ?v2 ?_
    case v2 => (intro w hSw; (try dsimp only at hSw); go_simp; try with_reducible rfl)
    try simp only [puX]
    refine tkX 3 (v := ?_) rfl ?v3 ?_
    case v3 => (intro w hSw; (try dsimp only at hSw); go_simp; try with_reducible rfl)
    try simp only [puX]
    refine tkX 4 (v := ?_) rfl ?v4 ?_
    case v4 => (intro w hSw; (try dsimp only at hSw); go_simp; try with_reducible rfl)
    try simp only [puX]
    refine tkX 5 (v := ?_) rfl ?v5 ?_
    case v5 => (intro w hSw; (try dsimp only at hSw); go_simp; try with_reducible rfl)
    try simp only [puX]
    refine tkX 6 (v := ?_) rfl ?v6 ?_
    case v6 => (intro w hSw; (try dsimp only at hSw); go_simp; try with_reducible rfl)
    try simp only [puX]
    refine tkX 7 (v := ?_) rfl ?v7 ?_
    case v7 => (intro w hSw; (try dsimp only at hSw); go_simp; try with_reducible rfl)
    try simp only [puX]
    refine wpAnyH_ready (rs := [0, 8]) (by kernel_rfl) (by simp) ?_
    refine AllReadyH.cons rfl (fun K hK => ?_) (AllReadyH.cons rfl (fun K hK => ?_) AllReadyH.nil)
    ·skip
     go_simp
     refine hK.out _ _ ?_ (fun hHeld => ?_)
     ·exact hHeld
     clear hK K
     try simp only [puX]
     refine wpAnyH_ready (rs := [8]) (by kernel_rfl) (by simp) ?_
     refine AllReadyH.cons rfl (fun K hK => ?_) AllReadyH.nil
     go_simp
     go_at_call 153
     refine (HLN.out _ (by exact below_post HBELc.out rfl rfl rfl rfl)).mono ?_
     rintro e w5 ⟨rfl, hb5⟩
     have HBW5 := veil (show Below Wc.heap.size Wc w5 from below_pre' hb5 rfl rfl rfl rfl)
     have HBC5 := veil (BC.below HBC.out HBW5.out)
     have HRW5 := veil (HRW.out.below HBW5.out)
     have HV5 := veil (HP.out _ (HBEL.out.trans HRW5.out.be)).view
     obtain ⟨e50, _, _, _, _, e55⟩ := BC.cells HBC5.out
     obtain ⟨_, _, _, _, f55⟩ := BC.free HBC5.out
     clear hb5
     refine hK.out _ _ ?_ (fun hHeld => ?_)
     ·exact ⟨e50, HV5.out.1, HV5.out.2.2.2.1 x y HY.out⟩
     clear hK K
     try simp only [puX]
     refine tkX 9 (v := ?_) rfl ?v9 ?_
     case v9 => (intro w hSw; (try dsimp only at hSw); go_simp; try with_reducible rfl)
     try simp only [puX]
     refine wpAnyH_ready (rs := [10]) (by kernel_rfl) (by simp) ?_
     refine AllReadyH.cons rfl (fun K hK => ?_) AllReadyH.nil
     go_simp
     have HBC6 := veil (BC.s5 HBC5.out (ah - (ln : Int)))
     have HRW6 := veil (HRW5.out.set (B := w.heap.size + 5) (off := 0) (by omega) (by omega) (.int .i64 (ah - (ln : Int))))
     have HV6 := veil (HP.out _ (HBEL.out.trans HRW6.out.be)).view
     refine hK.out _ _ ?_ (fun hHeld => ?_)
     ·exact ⟨(BC.cells HBC6.out).1, HV6.out.1, HV6.out.2.2.2.1 x y HY.out⟩
     clear hK K
     try simp only [puX]
     refine wpAnyH_done (by kernel_rfl) ?_ _
     gi_wp2
     refine ⟨HRW6.out.ko, HRW6.out.fr, ⟨?_, by have := HRW6.out.hz; omega⟩, HBEL.out.trans HRW6.out.be⟩
     rw [HBS.out, HAS.out, HB2.out]
     exact HBC6.out
    ·skip
     go_simp
     go_at_call 153
     refine (HLN.out _ (by exact below_post HBELc.out rfl rfl rfl rfl)).mono ?_
     rintro e w5 ⟨rfl, hb5⟩
     have HBW5 := veil (show Below Wc.heap.size Wc w5 from below_pre' hb5 rfl rfl rfl rfl)
     have HBC5 := veil (BC.below HBC.out HBW5.out)
     have HRW5 := veil (HRW.out.below HBW5.out)
     have HV5 := veil (HP.out _ (HBEL.out.trans HRW5.out.be)).view
     obtain ⟨e50, _, _, _, _, e55⟩ := BC.cells HBC5.out
     obtain ⟨_, _, _, _, f55⟩ := BC.free HBC5.out
     clear hb5
     refine hK.out _ _ ?_ (fun hHeld => ?_)
     ·exact ⟨e50, HV5.out.1, HV5.out.2.2.2.1 x y HY.out⟩
     clear hK K
     try simp only [puX]
     refine wpAnyH_ready (rs := [0]) (by kernel_rfl) (by simp) ?_
     refine AllReadyH.cons rfl (fun K hK => ?_) AllReadyH.nil
     go_simp
     refine hK.out _ _ ?_ (fun hHeld => ?_)
     ·exact hHeld
     clear hK K
     try simp only [puX]
     refine tkX 9 (v := ?_) rfl ?v9 ?_
     case v9 => (intro w hSw; (try dsimp only at hSw); go_simp; try with_reducible rfl)
     try simp only [puX]
     refine wpAnyH_ready (rs := [10]) (by kernel_rfl) (by simp) ?_
     refine AllReadyH.cons rfl (fun K hK => ?_) AllReadyH.nil
     go_simp
     have HBC6 := veil (BC.s5 HBC5.out (ah - (ln : Int)))
     have HRW6 := veil (HRW5.out.set (B := w.heap.size + 5) (off := 0) (by omega) (by omega) (.int .i64 (ah - (ln : Int))))
     have HV6 := veil (HP.out _ (HBEL.out.trans HRW6.out.be)).view
     refine hK.out _ _ ?_ (fun hHeld => ?_)
     ·exact ⟨(BC.cells HBC6.out).1, HV6.out.1, HV6.out.2.2.2.1 x y HY.out⟩
     clear hK K
     try simp only [puX]
     refine wpAnyH_done (by kernel_rfl) ?_ _
     gi_wp2
     refine ⟨HRW6.out.ko, HRW6.out.fr, ⟨?_, by have := HRW6.out.hz; omega⟩, HBEL.out.trans HRW6.out.be⟩
     rw [HBS.out, HAS.out, HB2.out]
     exact HBC6.out
   | cons z M' =>
    rw [hM] at HTOP HMX
    simp only [tkI, tkK, tkO] at HTOP
    clear hM
    cases b with
    | none =>
     replace HB : Hid (BC W w.heap.size pb 0 ⟨false, 0, 0⟩ 0 false ah) := HB
     have HB2 : Hid (bstep H none x = some x) := by unfold Hid bstep; rw [HMX.out]
     have HXI : Hid (tkI (MM H x) = (z.1 : Int) ∧ tkK (MM H x) = z.2) := by unfold Hid; rw [HMX.out]; exact ⟨rfl, rfl⟩
     gi_wp2_with (refine ⟨trivial, ?_⟩; gi_at_call 152; refine (CallsIn.inRound l (callsIn_wide.2 HTOP.out)).mono ?_; rintro e w1 ⟨rfl, hb1⟩; have HB1 := veil (BC.below HB.out hb1); have HBW := veil hb1; obtain ⟨a10, a11, ⟨a12, a13, a14⟩, a15, a16, a17⟩ := BC.cells HB1.out; have z1 := BC.lt HB1.out; have z2 : w.heap.size < w1.heap.size := (by omega); have z3 : w.heap.size + 1 < w1.heap.size := (by omega); have z4 : w.heap.size + 2 < w1.heap.size := (by omega); have z5 : w.heap.size + 3 < w1.heap.size := (by omega); have z6 : w.heap.size + 4 < w1.heap.size := (by omega); clear hb1)
     refine ⟨trivial, ?_⟩
     gi_wp2
     have HCw := veil (BC.below HB1.out ((Below.refl _ w1).alloc (Nat.le_refl _) (.cells #[.bool z.2.e, .int .u64 z.2.d, .int .u8 z.2.l] 67)))
     have HRw := veil (((RW.refl HZ.out).below HBW.out).below ((Below.refl _ w1).alloc (Nat.le_refl _) (.cells #[.bool z.2.e, .int .u64 z.2.d, .int .u8 z.2.l] 67)))
     have HKw := veil (show (w1.alloc (.cells #[.bool z.2.e, .int .u64 z.2.d, .int .u8 z.2.l] 67)).heap[w1.heap.size]? = some (.cells #[.bool z.2.e, .int .u64 z.2.d, .int .u8 z.2.l] 67) from World.alloc_heap_new w1 _)
     generalize (w1.alloc (.cells #[.bool z.2.e, .int .u64 z.2.d, .int .u8 z.2.l] 67)) = Wd at *
     obtain ⟨_, g1, ⟨g2, g3, g4⟩, g5, g6, _⟩ := BC.cells HCw.out
     obtain ⟨q1, ⟨q2, q3, q4⟩, q5, q6, _⟩ := BC.free HCw.out
     have hkb : w.heap.size + 9 ≤ w1.heap.size := Nat.le_trans HZ.out HBW.out.size
     refine region_round (fun w' => w'.cell? ⟨w1.heap.size, 0, none⟩ = some (.bool z.2.e) ∧ w'.cell? ⟨w1.heap.size, 1, none⟩ = some (.int .u64 z.2.d) ∧ w'.cell? ⟨w1.heap.size, 2, none⟩ = some (.int .u8 z.2.l)) (by kernel_rfl) (by kernel_rfl) (by rintro ⟨a, w, h⟩; exact (show False from h)) ⟨(blk_cell (drew_heap HKw.out) 0).1, (blk_cell (drew_heap HKw.out) 1).1, (blk_cell (drew_heap HKw.out) 2).1⟩ (fun hHeld => ?_)
     refine tkX 0 (v := ?_) rfl ?v0 ?_
     case v0 => (intro w hSw; (try dsimp only at hSw); go_simp; try with_reducible rfl)
     try simp only [puX]
     refine tkX 1 (v := ?_) rfl ?v1 ?_
     case v1 => (intro w hSw; (try dsimp only at hSw); go_simp; try with_reducible rfl)
     try simp only [puX]
     refine tkX 2 (v := ?_) rfl ?v2 ?_
     case v2 => (intro w hSw; (try dsimp only at hSw); go_simp; try with_reducible rfl)
     try simp only [puX]
     refine wpAnyH_ready (rs := [3]) (by kernel_rfl) (by simp) ?_
     refine AllReadyH.cons rfl (fun K hK => ?_) AllReadyH.nil
     go_simp
     have HC3 := veil (BC.s1 HCw.out (z.1 : Int))
     have HR3 := veil (HRw.out.set (B := w.heap.size + 1) (off := 0) (by omega) (by omega) (.int .i64 (z.1 : Int)))
     have HK3 := veil (set_other (B := w.heap.size + 1) (off := 0) (v := .int .i64 (z.1 : Int)) HKw.out (by omega))
     refine hK.out _ _ ?_ (fun hHeld => ?_)
     ·exact ⟨(blk_cell (drew_heap HK3.out) 0).1, (blk_cell (drew_heap HK3.out) 1).1, (blk_cell (drew_heap HK3.out) 2).1⟩
     clear hK K
     try simp only [puX]
     refine wpAnyH_ready (rs := [4]) (by kernel_rfl) (by simp) ?_
     refine AllReadyH.cons rfl (fun K hK => ?_) AllReadyH.nil
     go_simp
     have HC4 := veil (BC.s2 HC3.out z.2)
     have HR4 := veil (((HR3.out.set (B := w.heap.size + 2) (off := 0) (by omega) (by omega) (.bool z.2.e)).set (B := w.heap.size + 2) (off := 1) (by omega) (by omega) (.int .u64 z.2.d)).set (B := w.heap.size + 2) (off := 2) (by omega) (by omega) (.int .u8 z.2.l))
     have HK4 := veil (set_other (B := w.heap.size + 2) (off := 2) (v := .int .u8 z.2.l) (set_other (B := w.heap.size + 2) (off := 1) (v := .int .u64 z.2.d) (set_other (B := w.heap.size + 2) (off := 0) (v := .bool z.2.e) HK3.out (by omega)) (by omega)) (by omega))
     refine hK.out _ _ ?_ (fun hHeld => ?_)
     ·exact ⟨(blk_cell (drew_heap HK4.out) 0).1, (blk_cell (drew_heap HK4.out) 1).1, (blk_cell (drew_heap HK4.out) 2).1⟩
     clear hK K
     try simp only [puX]
     refine wpAnyH_ready (rs := [5]) (by kernel_rfl) (by simp) ?_
     refine AllReadyH.cons rfl (fun K hK => ?_) AllReadyH.nil
     go_simp
     have HC5 := veil (BC.s3 HC4.out (x : Int))
     have HR5 := veil (HR4.out.set (B := w.heap.size + 3) (off := 0) (by omega) (by omega) (.int .i64 (x : Int)))
     have HK5 := veil (set_other (B := w.heap.size + 3) (off := 0) (v := .int .i64 (x : Int)) HK4.out (by omega))
     refine hK.out _ _ ?_ (fun hHeld => ?_)
     ·exact ⟨(blk_cell (drew_heap HK5.out) 0).1, (blk_cell (drew_heap HK5.out) 1).1, (blk_cell (drew_heap HK5.out) 2).1⟩
     clear hK K
     try simp only [puX]
     refine wpAnyH_ready (rs := [6]) (by kernel_rfl) (by simp) ?_
     refine AllReadyH.cons rfl (fun K hK => ?_) AllReadyH.nil
     go_simp
     have HC6 := veil (BC.s4 HC5.out true)
     have HR6 := veil (HR5.out.set (B := w.heap.size + 4) (off := 0) (by omega) (by omega) (.bool true))
     have HK6 := veil (set_other (B := w.heap.size + 4) (off := 0) (v := .bool true) HK5.out (by omega))
     refine hK.out _ _ ?_ (fun hHeld => ?_)
     ·exact ⟨(blk_cell (drew_heap HK6.out) 0).1, (blk_cell (drew_heap HK6.out) 1).1, (blk_cell (drew_heap HK6.out) 2).1⟩
     clear hK K
     try simp only [puX]
     refine wpAnyH_done (by kernel_rfl) ?_ _
     skip
     have HBC := veil (BC.drew HC6.out)
     have HRW := veil HR6.out.drew
     clear g1 g2 g3 g4 g5 g6 q1 q2 q3 q4 q5 q6 HCw
     clear HC3 HC4 HC5 HC6 HR3 HR4 HR5 HR6 HK3 HK4 HK5 HK6 HRw HKw hHeld
     generalize ((((((Wd.setCell ⟨w.heap.size + 1, 0, none⟩ (.int .i64 (z.1 : Int))).setCell ⟨w.heap.size + 2, 0, none⟩ (.bool z.2.e)).setCell ⟨w.heap.size + 2, 1, none⟩ (.int .u64 z.2.d)).setCell ⟨w.heap.size + 2, 2, none⟩ (.int .u8 z.2.l)).setCell ⟨w.heap.size + 3, 0, none⟩ (.int .i64 (x : Int))).setCell ⟨w.heap.size + 4, 0, none⟩ (.bool true)).drew = Wc at *
     gi_wp2
     have HBELc := veil (HBEL.out.trans HRW.out.be)
     obtain ⟨d0, _, _, d3, _⟩ := (HP.out _ HBELc.out).view
     have d4 := d3 x y HY.out
     clear d3
     obtain ⟨e0, _, _, _, _, e5⟩ := BC.cells HBC.out
     refine region_round (fun w' => w'.cell? ⟨w.heap.size, 0, none⟩ = some (.pointer (some ⟨pb, 0, none⟩)) ∧ w'.cell? ⟨pb, 0, none⟩ = some (.slice (some ⟨g, 0, none⟩) (np + 1) cap) ∧ w'.cell? ⟨g, x, none⟩ = some (.pointer (some ⟨y.sb, 0, none⟩))) (by kernel_rfl) (by kernel_rfl) (by rintro ⟨a, w, h⟩; exact (show False from h)) ⟨e0, d0, d4⟩ (fun hHeld => ?_)
     refine tkX 1 (v := ?_) rfl ?v1 ?_
     case v1 => (intro w hSw; (try dsimp only at hSw); go_simp; try with_reducible rfl)
     try simp only [puX]
     refine tkX 2 (v := ?_) rfl ?v2 ?_
     case v2 => (intro w hSw; (try dsimp only at hSw); go_simp; try with_reducible rfl)
     try simp only [puX]
     refine tkX 3 (v := ?_) rfl ?v3 ?_
     case v3 => (intro w hSw; (try dsimp only at hSw); go_simp; try with_reducible rfl)
     try simp only [puX]
     refine tkX 4 (v := ?_) rfl ?v4 ?_
     case v4 => (intro w hSw; (try dsimp only at hSw); go_simp; try with_reducible rfl)
     try simp only [puX]
     refine tkX 5 (v := ?_) rfl ?v5 ?_
     case v5 => (intro w hSw; (try dsimp only at hSw); go_simp; try with_reducible rfl)
     try simp only [puX]
     refine tkX 6 (v := ?_) rfl ?v6 ?_
     case v6 => (intro w hSw; (try dsimp only at hSw); go_simp; try with_reducible rfl)
     try simp only [puX]
     refine tkX 7 (v := ?_) rfl ?v7 ?_
     case v7 => (intro w hSw; (try dsimp only at hSw); go_simp; try with_reducible rfl)
     try simp only [puX]
     refine wpAnyH_ready (rs := [0, 8]) (by kernel_rfl) (by simp) ?_
     refine AllReadyH.cons rfl (fun K hK => ?_) (AllReadyH.cons rfl (fun K hK => ?_) AllReadyH.nil)
     ·skip
      go_simp
      refine hK.out _ _ ?_ (fun hHeld => ?_)
      ·exact hHeld
      clear hK K
      try simp only [puX]
      refine wpAnyH_ready (rs := [8]) (by kernel_rfl) (by simp) ?_
      refine AllReadyH.cons rfl (fun K hK => ?_) AllReadyH.nil
      go_simp
      go_at_call 153
      refine (HLN.out _ (by exact below_post HBELc.out rfl rfl rfl rfl)).mono ?_
      rintro e w5 ⟨rfl, hb5⟩
      have HBW5 := veil (show Below Wc.heap.size Wc w5 from below_pre' hb5 rfl rfl rfl rfl)
      have HBC5 := veil (BC.below HBC.out HBW5.out)
      have HRW5 := veil (HRW.out.below HBW5.out)
      have HV5 := veil (HP.out _ (HBEL.out.trans HRW5.out.be)).view
      obtain ⟨e50, _, _, _, _, e55⟩ := BC.cells HBC5.out
      obtain ⟨_, _, _, _, f55⟩ := BC.free HBC5.out
      clear hb5
      refine hK.out _ _ ?_ (fun hHeld => ?_)
      ·exact ⟨e50, HV5.out.1, HV5.out.2.2.2.1 x y HY.out⟩
      clear hK K
      try simp only [puX]
      refine tkX 9 (v := ?_) rfl ?v9 ?_
      case v9 => (intro w hSw; (try dsimp only at hSw); go_simp; try with_reducible rfl)
      try simp only [puX]
      refine wpAnyH_ready (rs := [10]) (by kernel_rfl) (by simp) ?_
      refine AllReadyH.cons rfl (fun K hK => ?_) AllReadyH.nil
      go_simp
      have HBC6 := veil (BC.s5 HBC5.out (ah - (ln : Int)))
      have HRW6 := veil (HRW5.out.set (B := w.heap.size + 5) (off := 0) (by omega) (by omega) (.int .i64 (ah - (ln : Int))))
      have HV6 := veil (HP.out _ (HBEL.out.trans HRW6.out.be)).view
      refine hK.out _ _ ?_ (fun hHeld => ?_)
      ·exact ⟨(BC.cells HBC6.out).1, HV6.out.1, HV6.out.2.2.2.1 x y HY.out⟩
      clear hK K
      try simp only [puX]
      refine wpAnyH_done (by kernel_rfl) ?_ _
      gi_wp2
      refine ⟨HRW6.out.ko, HRW6.out.fr, ⟨?_, by have := HRW6.out.hz; omega⟩, HBEL.out.trans HRW6.out.be⟩
      rw [HBS.out, HAS.out, HB2.out]
      show BC _ _ _ (tkI (MM H x)) (tkK (MM H x)) (x : Int) true _
      rw [HXI.out.1, HXI.out.2]
      exact HBC6.out
     ·skip
      go_simp
      go_at_call 153
      refine (HLN.out _ (by exact below_post HBELc.out rfl rfl rfl rfl)).mono ?_
      rintro e w5 ⟨rfl, hb5⟩
      have HBW5 := veil (show Below Wc.heap.size Wc w5 from below_pre' hb5 rfl rfl rfl rfl)
      have HBC5 := veil (BC.below HBC.out HBW5.out)
      have HRW5 := veil (HRW.out.below HBW5.out)
      have HV5 := veil (HP.out _ (HBEL.out.trans HRW5.out.be)).view
      obtain ⟨e50, _, _, _, _, e55⟩ := BC.cells HBC5.out
      obtain ⟨_, _, _, _, f55⟩ := BC.free HBC5.out
      clear hb5
      refine hK.out _ _ ?_ (fun hHeld => ?_)
      ·exact ⟨e50, HV5.out.1, HV5.out.2.2.2.1 x y HY.out⟩
      clear hK K
      try simp only [puX]
      refine wpAnyH_ready (rs := [0]) (by kernel_rfl) (by simp) ?_
      refine AllReadyH.cons rfl (fun K hK => ?_) AllReadyH.nil
      go_simp
      refine hK.out _ _ ?_ (fun hHeld => ?_)
      ·exact hHeld
      clear hK K
      try simp only [puX]
      refine tkX 9 (v := ?_) rfl ?v9 ?_
      case v9 => (intro w hSw; (try dsimp only at hSw); go_simp; try with_reducible rfl)
      try simp only [puX]
      refine wpAnyH_ready (rs := [10]) (by kernel_rfl) (by simp) ?_
      refine AllReadyH.cons rfl (fun K hK => ?_) AllReadyH.nil
      go_simp
      have HBC6 := veil (BC.s5 HBC5.out (ah - (ln : Int)))
      have HRW6 := veil (HRW5.out.set (B := w.heap.size + 5) (off := 0) (by omega) (by omega) (.int .i64 (ah - (ln : Int))))
      have HV6 := veil (HP.out _ (HBEL.out.trans HRW6.out.be)).view
      refine hK.out _ _ ?_ (fun hHeld => ?_)
      ·exact ⟨(BC.cells HBC6.out).1, HV6.out.1, HV6.out.2.2.2.1 x y HY.out⟩
      clear hK K
      try simp only [puX]
      refine wpAnyH_done (by kernel_rfl) ?_ _
      gi_wp2
      refine ⟨HRW6.out.ko, HRW6.out.fr, ⟨?_, by have := HRW6.out.hz; omega⟩, HBEL.out.trans HRW6.out.be⟩
      rw [HBS.out, HAS.out, HB2.out]
      show BC _ _ _ (tkI (MM H x)) (tkK (MM H x)) (x : Int) true _
      rw [HXI.out.1, HXI.out.2]
      exact HBC6.out
    | some c =>
     replace HB : Hid (BC W w.heap.size pb (tkI (MM H c)) (tkK (MM H c)) (c : Int) true ah) := HB
     have HUP := veil (fun W => Ke.above_ok W z.2 (tkK (MM H c)))
     by_cases hup : Ke.up z.2 (tkK (MM H c)) = true
     ·rw [hup] at HUP
      have HB2 : Hid (bstep H (some c) x = some x) := by unfold Hid bstep; rw [HMX.out]; simp [hup]
      have HXI : Hid (tkI (MM H x) = (z.1 : Int) ∧ tkK (MM H x) = z.2) := by unfold Hid; rw [HMX.out]; exact ⟨rfl, rfl⟩
      clear hup
      gi_wp2_with (first | (refine ⟨trivial, ?_⟩; gi_at_call 152; refine (CallsIn.inRound l (callsIn_wide.2 HTOP.out)).mono ?_; rintro e w1 ⟨rfl, hb1⟩; have HB1 := veil (BC.below HB.out hb1); have HBW := veil hb1; obtain ⟨a10, a11, ⟨a12, a13, a14⟩, a15, a16, a17⟩ := BC.cells HB1.out; have z1 := BC.lt HB1.out; have z2 : w.heap.size < w1.heap.size := (by omega); have z3 : w.heap.size + 1 < w1.heap.size := (by omega); have z4 : w.heap.size + 2 < w1.heap.size := (by omega); have z5 : w.heap.size + 3 < w1.heap.size := (by omega); have z6 : w.heap.size + 4 < w1.heap.size := (by omega); clear hb1) | (refine ⟨trivial, ?_⟩; gi_at_call 119; refine (CallsIn.inRound l (callsIn_wide.2 (HUP.out _))).mono ?_; rintro e w2 ⟨rfl, hb2⟩; have HBW2 := veil hb2; clear hb2))
      have HCw := veil (BC.below (BC.below HB1.out ((Below.refl _ w1).alloc (Nat.le_refl _) (.cells #[.bool z.2.e, .int .u64 z.2.d, .int .u8 z.2.l] 67))) HBW2.out)
      have HRw := veil ((((RW.refl HZ.out).below HBW.out).below ((Below.refl _ w1).alloc (Nat.le_refl _) (.cells #[.bool z.2.e, .int .u64 z.2.d, .int .u8 z.2.l] 67))).below HBW2.out)
      have HKw := veil (show w2.heap[w1.heap.size]? = some (.cells #[.bool z.2.e, .int .u64 z.2.d, .int .u8 z.2.l] 67) from (HBW2.out.block _ (by simp)).trans (World.alloc_heap_new w1 _))
      obtain ⟨_, g1, ⟨g2, g3, g4⟩, g5, g6, _⟩ := BC.cells HCw.out
      obtain ⟨q1, ⟨q2, q3, q4⟩, q5, q6, _⟩ := BC.free HCw.out
      have hkb : w.heap.size + 9 ≤ w1.heap.size := Nat.le_trans HZ.out HBW.out.size
      refine region_round (fun w' => w'.cell? ⟨w1.heap.size, 0, none⟩ = some (.bool z.2.e) ∧ w'.cell? ⟨w1.heap.size, 1, none⟩ = some (.int .u64 z.2.d) ∧ w'.cell? ⟨w1.heap.size, 2, none⟩ = some (.int .u8 z.2.l)) (by kernel_rfl) (by kernel_rfl) (by rintro ⟨a, w, h⟩; exact (show False from h)) ⟨(blk_cell (drew_heap HKw.out) 0).1, (blk_cell (drew_heap HKw.out) 1).1, (blk_cell (drew_heap HKw.out) 2).1⟩ (fun hHeld => ?_)
      refine tkX 0 (v := ?_) rfl ?v0 ?_
      case v0 => (intro w hSw; (try dsimp only at hSw); go_simp; try with_reducible rfl)
      try simp only [puX]
      refine tkX 1 (v := ?_) rfl ?v1 ?_
      case v1 => (intro w hSw; (try dsimp only at hSw); go_simp; try with_reducible rfl)
      try simp only [puX]
      refine tkX 2 (v := ?_) rfl ?v2 ?_
      case v2 => (intro w hSw; (try dsimp only at hSw); go_simp; try with_reducible rfl)
      try simp only [puX]
      refine wpAnyH_ready (rs := [3]) (by kernel_rfl) (by simp) ?_
      refine AllReadyH.cons rfl (fun K hK => ?_) AllReadyH.nil
      go_simp
      have HC3 := veil (BC.s1 HCw.out (z.1 : Int))
      have HR3 := veil (HRw.out.set (B := w.heap.size + 1) (off := 0) (by omega) (by omega) (.int .i64 (z.1 : Int)))
      have HK3 := veil (set_other (B := w.heap.size + 1) (off := 0) (v := .int .i64 (z.1 : Int)) HKw.out (by omega))
      refine hK.out _ _ ?_ (fun hHeld => ?_)
      ·exact ⟨(blk_cell (drew_heap HK3.out) 0).1, (blk_cell (drew_heap HK3.out) 1).1, (blk_cell (drew_heap HK3.out) 2).1⟩
      clear hK K
      try simp only [puX]
      refine wpAnyH_ready (rs := [4]) (by kernel_rfl) (by simp) ?_
      refine AllReadyH.cons rfl (fun K hK => ?_) AllReadyH.nil
      go_simp
      have HC4 := veil (BC.s2 HC3.out z.2)
      have HR4 := veil (((HR3.out.set (B := w.heap.size + 2) (off := 0) (by omega) (by omega) (.bool z.2.e)).set (B := w.heap.size + 2) (off := 1) (by omega) (by omega) (.int .u64 z.2.d)).set (B := w.heap.size + 2) (off := 2) (by omega) (by omega) (.int .u8 z.2.l))
      have HK4 := veil (set_other (B := w.heap.size + 2) (off := 2) (v := .int .u8 z.2.l) (set_other (B := w.heap.size + 2) (off := 1) (v := .int .u64 z.2.d) (set_other (B := w.heap.size + 2) (off := 0) (v := .bool z.2.e) HK3.out (by omega)) (by omega)) (by omega))
      refine hK.out _ _ ?_ (fun hHeld => ?_)
      ·exact ⟨(blk_cell (drew_heap HK4.out) 0).1, (blk_cell (drew_heap HK4.out) 1).1, (blk_cell (drew_heap HK4.out) 2).1⟩
      clear hK K
      try simp only [puX]
      refine wpAnyH_ready (rs := [5]) (by kernel_rfl) (by simp) ?_
      refine AllReadyH.cons rfl (fun K hK => ?_) AllReadyH.nil
      go_simp
      have HC5 := veil (BC.s3 HC4.out (x : Int))
      have HR5 := veil (HR4.out.set (B := w.heap.size + 3) (off := 0) (by omega) (by omega) (.int .i64 (x : Int)))
      have HK5 := veil (set_other (B := w.heap.size + 3) (off := 0) (v := .int .i64 (x : Int)) HK4.out (by omega))
      refine hK.out _ _ ?_ (fun hHeld => ?_)
      ·exact ⟨(blk_cell (drew_heap HK5.out) 0).1, (blk_cell (drew_heap HK5.out) 1).1, (blk_cell (drew_heap HK5.out) 2).1⟩
      clear hK K
      try simp only [puX]
      refine wpAnyH_ready (rs := [6]) (by kernel_rfl) (by simp) ?_
      refine AllReadyH.cons rfl (fun K hK => ?_) AllReadyH.nil
      go_simp
      have HC6 := veil (BC.s4 HC5.out true)
      have HR6 := veil (HR5.out.set (B := w.heap.size + 4) (off := 0) (by omega) (by omega) (.bool true))
      have HK6 := veil (set_other (B := w.heap.size + 4) (off := 0) (v := .bool true) HK5.out (by omega))
      refine hK.out _ _ ?_ (fun hHeld => ?_)
      ·exact ⟨(blk_cell (drew_heap HK6.out) 0).1, (blk_cell (drew_heap HK6.out) 1).1, (blk_cell (drew_heap HK6.out) 2).1⟩
      clear hK K
      try simp only [puX]
      refine wpAnyH_done (by kernel_rfl) ?_ _
      skip
      have HBC := veil (BC.drew HC6.out)
      have HRW := veil HR6.out.drew
      clear g1 g2 g3 g4 g5 g6 q1 q2 q3 q4 q5 q6 HCw
      clear HC3 HC4 HC5 HC6 HR3 HR4 HR5 HR6 HK3 HK4 HK5 HK6 HRw HKw hHeld
      generalize ((((((w2.setCell ⟨w.heap.size + 1, 0, none⟩ (.int .i64 (z.1 : Int))).setCell ⟨w.heap.size + 2, 0, none⟩ (.bool z.2.e)).setCell ⟨w.heap.size + 2, 1, none⟩ (.int .u64 z.2.d)).setCell ⟨w.heap.size + 2, 2, none⟩ (.int .u8 z.2.l)).setCell ⟨w.heap.size + 3, 0, none⟩ (.int .i64 (x : Int))).setCell ⟨w.heap.size + 4, 0, none⟩ (.bool true)).drew = Wc at *
      gi_wp2
      have HBELc := veil (HBEL.out.trans HRW.out.be)
      obtain ⟨d0, _, _, d3, _⟩ := (HP.out _ HBELc.out).view
      have d4 := d3 x y HY.out
      clear d3
      obtain ⟨e0, _, _, _, _, e5⟩ := BC.cells HBC.out
      refine region_round (fun w' => w'.cell? ⟨w.heap.size, 0, none⟩ = some (.pointer (some ⟨pb, 0, none⟩)) ∧ w'.cell? ⟨pb, 0, none⟩ = some (.slice (some ⟨g, 0, none⟩) (np + 1) cap) ∧ w'.cell? ⟨g, x, none⟩ = some (.pointer (some ⟨y.sb, 0, none⟩))) (by kernel_rfl) (by kernel_rfl) (by rintro ⟨a, w, h⟩; exact (show False from h)) ⟨e0, d0, d4⟩ (fun hHeld => ?_)
      refine tkX 1 (v := ?_) rfl ?v1 ?_
      case v1 => (intro w hSw; (try dsimp only at hSw); go_simp; try with_reducible rfl)
      try simp only [puX]
      refine tkX 2 (v := ?_) rfl ?v2 ?_
      case v2 => (intro w hSw; (try dsimp only at hSw); go_simp; try with_reducible rfl)
      try simp only [puX]
      refine tkX 3 (v := ?_) rfl ?v3 ?_
      case v3 => (intro w hSw; (try dsimp only at hSw); go_simp; try with_reducible rfl)
      try simp only [puX]
      refine tkX 4 (v := ?_) rfl ?v4 ?_
      case v4 => (intro w hSw; (try dsimp only at hSw); go_simp; try with_reducible rfl)
      try simp only [puX]
      refine tkX 5 (v := ?_) rfl ?v5 ?_
      case v5 => (intro w hSw; (try dsimp only at hSw); go_simp; try with_reducible rfl)
      try simp only [puX]
      refine tkX 6 (v := ?_) rfl ?v6 ?_
      case v6 => (intro w hSw; (try dsimp only at hSw); go_simp; try with_reducible rfl)
      try simp only [puX]
      refine tkX 7 (v := ?_) rfl ?v7 ?_
      case v7 => (intro w hSw; (try dsimp only at hSw); go_simp; try with_reducible rfl)
      try simp only [puX]
      refine wpAnyH_ready (rs := [0, 8]) (by kernel_rfl) (by simp) ?_
      refine AllReadyH.cons rfl (fun K hK => ?_) (AllReadyH.cons rfl (fun K hK => ?_) AllReadyH.nil)
      ·skip
       go_simp
       refine hK.out _ _ ?_ (fun hHeld => ?_)
       ·exact hHeld
       clear hK K
       try simp only [puX]
       refine wpAnyH_ready (rs := [8]) (by kernel_rfl) (by simp) ?_
       refine AllReadyH.cons rfl (fun K hK => ?_) AllReadyH.nil
       go_simp
       go_at_call 153
       refine (HLN.out _ (by exact below_post HBELc.out rfl rfl rfl rfl)).mono ?_
       rintro e w5 ⟨rfl, hb5⟩
       have HBW5 := veil (show Below Wc.heap.size Wc w5 from below_pre' hb5 rfl rfl rfl rfl)
       have HBC5 := veil (BC.below HBC.out HBW5.out)
       have HRW5 := veil (HRW.out.below HBW5.out)
       have HV5 := veil (HP.out _ (HBEL.out.trans HRW5.out.be)).view
       obtain ⟨e50, _, _, _, _, e55⟩ := BC.cells HBC5.out
       obtain ⟨_, _, _, _, f55⟩ := BC.free HBC5.out
       clear hb5
       refine hK.out _ _ ?_ (fun hHeld => ?_)
       ·exact ⟨e50, HV5.out.1, HV5.out.2.2.2.1 x y HY.out⟩
       clear hK K
       try simp only [puX]
       refine tkX 9 (v := ?_) rfl ?v9 ?_
       case v9 => (intro w hSw; (try dsimp only at hSw); go_simp; try with_reducible rfl)
       try simp only [puX]
       refine wpAnyH_ready (rs := [10]) (by kernel_rfl) (by simp) ?_
       refine AllReadyH.cons rfl (fun K hK => ?_) AllReadyH.nil
       go_simp
       have HBC6 := veil (BC.s5 HBC5.out (ah - (ln : Int)))
       have HRW6 := veil (HRW5.out.set (B := w.heap.size + 5) (off := 0) (by omega) (by omega) (.int .i64 (ah - (ln : Int))))
       have HV6 := veil (HP.out _ (HBEL.out.trans HRW6.out.be)).view
       refine hK.out _ _ ?_ (fun hHeld => ?_)
       ·exact ⟨(BC.cells HBC6.out).1, HV6.out.1, HV6.out.2.2.2.1 x y HY.out⟩
       clear hK K
       try simp only [puX]
       refine wpAnyH_done (by kernel_rfl) ?_ _
       gi_wp2
       refine ⟨HRW6.out.ko, HRW6.out.fr, ⟨?_, by have := HRW6.out.hz; omega⟩, HBEL.out.trans HRW6.out.be⟩
       rw [HBS.out, HAS.out, HB2.out]
       show BC _ _ _ (tkI (MM H x)) (tkK (MM H x)) (x : Int) true _
       rw [HXI.out.1, HXI.out.2]
       exact HBC6.out
      ·skip
       go_simp
       go_at_call 153
       refine (HLN.out _ (by exact below_post HBELc.out rfl rfl rfl rfl)).mono ?_
       rintro e w5 ⟨rfl, hb5⟩
       have HBW5 := veil (show Below Wc.heap.size Wc w5 from below_pre' hb5 rfl rfl rfl rfl)
       have HBC5 := veil (BC.below HBC.out HBW5.out)
       have HRW5 := veil (HRW.out.below HBW5.out)
       have HV5 := veil (HP.out _ (HBEL.out.trans HRW5.out.be)).view
       obtain ⟨e50, _, _, _, _, e55⟩ := BC.cells HBC5.out
       obtain ⟨_, _, _, _, f55⟩ := BC.free HBC5.out
       clear hb5
       refine hK.out _ _ ?_ (fun hHeld => ?_)
       ·exact ⟨e50, HV5.out.1, HV5.out.2.2.2.1 x y HY.out⟩
       clear hK K
       try simp only [puX]
       refine wpAnyH_ready (rs := [0]) (by kernel_rfl) (by simp) ?_
       refine AllReadyH.cons rfl (fun K hK => ?_) AllReadyH.nil
       go_simp
       refine hK.out _ _ ?_ (fun hHeld => ?_)
       ·exact hHeld
       clear hK K
       try simp only [puX]
       refine tkX 9 (v := ?_) rfl ?v9 ?_
       case v9 => (intro w hSw; (try dsimp only at hSw); go_simp; try with_reducible rfl)
       try simp only [puX]
       refine wpAnyH_ready (rs := [10]) (by kernel_rfl) (by simp) ?_
       refine AllReadyH.cons rfl (fun K hK => ?_) AllReadyH.nil
       go_simp
       have HBC6 := veil (BC.s5 HBC5.out (ah - (ln : Int)))
       have HRW6 := veil (HRW5.out.set (B := w.heap.size + 5) (off := 0) (by omega) (by omega) (.int .i64 (ah - (ln : Int))))
       have HV6 := veil (HP.out _ (HBEL.out.trans HRW6.out.be)).view
       refine hK.out _ _ ?_ (fun hHeld => ?_)
       ·exact ⟨(BC.cells HBC6.out).1, HV6.out.1, HV6.out.2.2.2.1 x y HY.out⟩
       clear hK K
       try simp only [puX]
       refine wpAnyH_done (by kernel_rfl) ?_ _
       gi_wp2
       refine ⟨HRW6.out.ko, HRW6.out.fr, ⟨?_, by have := HRW6.out.hz; omega⟩, HBEL.out.trans HRW6.out.be⟩
       rw [HBS.out, HAS.out, HB2.out]
       show BC _ _ _ (tkI (MM H x)) (tkK (MM H x)) (x : Int) true _
       rw [HXI.out.1, HXI.out.2]
       exact HBC6.out
     ·have hup' : Ke.up z.2 (tkK (MM H c)) = false := by simpa using hup
      rw [hup'] at HUP
      have HB2 : Hid (bstep H (some c) x = some c) := by unfold Hid bstep; rw [HMX.out]; simp [hup']
      clear hup hup'
      gi_wp2_with (first | (refine ⟨trivial, ?_⟩; gi_at_call 152; refine (CallsIn.inRound l (callsIn_wide.2 HTOP.out)).mono ?_; rintro e w1 ⟨rfl, hb1⟩; have HB1 := veil (BC.below HB.out hb1); have HBW := veil hb1; obtain ⟨a10, a11, ⟨a12, a13, a14⟩, a15, a16, a17⟩ := BC.cells HB1.out; have z1 := BC.lt HB1.out; have z2 : w.heap.size < w1.heap.size := (by omega); have z3 : w.heap.size + 1 < w1.heap.size := (by omega); have z4 : w.heap.size + 2 < w1.heap.size := (by omega); have z5 : w.heap.size + 3 < w1.heap.size := (by omega); have z6 : w.heap.size + 4 < w1.heap.size := (by omega); clear hb1) | (refine ⟨trivial, ?_⟩; gi_at_call 119; refine (CallsIn.inRound l (callsIn_wide.2 (HUP.out _))).mono ?_; rintro e w2 ⟨rfl, hb2⟩; have HBW2 := veil hb2; clear hb2))
      have HBC := veil (BC.below (BC.below HB1.out ((Below.refl _ w1).alloc (Nat.le_refl _) (.cells #[.bool z.2.e, .int .u64 z.2.d, .int .u8 z.2.l] 67))) HBW2.out)
      have HRW := veil ((((RW.refl HZ.out).below HBW.out).below ((Below.refl _ w1).alloc (Nat.le_refl _) (.cells #[.bool z.2.e, .int .u64 z.2.d, .int .u8 z.2.l] 67))).below HBW2.out)
      clear HBW2
      generalize w2 = Wc at *
      have HBELc := veil (HBEL.out.trans HRW.out.be)
      obtain ⟨d0, _, _, d3, _⟩ := (HP.out _ HBELc.out).view
      have d4 := d3 x y HY.out
      clear d3
      obtain ⟨e0, _, _, _, _, e5⟩ := BC.cells HBC.out
      refine region_round (fun w' => w'.cell? ⟨w.heap.size, 0, none⟩ = some (.pointer (some ⟨pb, 0, none⟩)) ∧ w'.cell? ⟨pb, 0, none⟩ = some (.slice (some ⟨g, 0, none⟩) (np + 1) cap) ∧ w'.cell? ⟨g, x, none⟩ = some (.pointer (some ⟨y.sb, 0, none⟩))) (by kernel_rfl) (by kernel_rfl) (by rintro ⟨a, w, h⟩; exact (show False from h)) ⟨e0, d0, d4⟩ (fun hHeld => ?_)
      refine tkX 1 (v := ?_) rfl ?v1 ?_
      case v1 => (intro w hSw; (try dsimp only at hSw); go_simp; try with_reducible rfl)
      try simp only [puX]
      refine tkX 2 (v := ?_) rfl ?v2 ?_
      case v2 => (intro w hSw; (try dsimp only at hSw); go_simp; try with_reducible rfl)
      try simp only [puX]
      refine tkX 3 (v := ?_) rfl ?v3 ?_
      case v3 => (intro w hSw; (try dsimp only at hSw); go_simp; try with_reducible rfl)
      try simp only [puX]
      refine tkX 4 (v := ?_) rfl ?v4 ?_
      case v4 => (intro w hSw; (try dsimp only at hSw); go_simp; try with_reducible rfl)
      try simp only [puX]
      refine tkX 5 (v := ?_) rfl ?v5 ?_
      case v5 => (intro w hSw; (try dsimp only at hSw); go_simp; try with_reducible rfl)
      try simp only [puX]
      refine tkX 6 (v := ?_) rfl ?v6 ?_
      case v6 => (intro w hSw; (try dsimp only at hSw); go_simp; try with_reducible rfl)
      try simp only [puX]
      refine tkX 7 (v := ?_) rfl ?v7 ?_
      case v7 => (intro w hSw; (try dsimp only at hSw); go_simp; try with_reducible rfl)
      try simp only [puX]
      refine wpAnyH_ready (rs := [0, 8]) (by kernel_rfl) (by simp) ?_
      refine AllReadyH.cons rfl (fun K hK => ?_) (AllReadyH.cons rfl (fun K hK => ?_) AllReadyH.nil)
      ·skip
       go_simp
       refine hK.out _ _ ?_ (fun hHeld => ?_)
       ·exact hHeld
       clear hK K
       try simp only [puX]
       refine wpAnyH_ready (rs := [8]) (by kernel_rfl) (by simp) ?_
       refine AllReadyH.cons rfl (fun K hK => ?_) AllReadyH.nil
       go_simp
       go_at_call 153
       refine (HLN.out _ (by exact below_post HBELc.out rfl rfl rfl rfl)).mono ?_
       rintro e w5 ⟨rfl, hb5⟩
       have HBW5 := veil (show Below Wc.heap.size Wc w5 from below_pre' hb5 rfl rfl rfl rfl)
       have HBC5 := veil (BC.below HBC.out HBW5.out)
       have HRW5 := veil (HRW.out.below HBW5.out)
       have HV5 := veil (HP.out _ (HBEL.out.trans HRW5.out.be)).view
       obtain ⟨e50, _, _, _, _, e55⟩ := BC.cells HBC5.out
       obtain ⟨_, _, _, _, f55⟩ := BC.free HBC5.out
       clear hb5
       refine hK.out _ _ ?_ (fun hHeld => ?_)
       ·exact ⟨e50, HV5.out.1, HV5.out.2.2.2.1 x y HY.out⟩
       clear hK K
       try simp only [puX]
       refine tkX 9 (v := ?_) rfl ?v9 ?_
       case v9 => (intro w hSw; (try dsimp only at hSw); go_simp; try with_reducible rfl)
       try simp only [puX]
       refine wpAnyH_ready (rs := [10]) (by kernel_rfl) (by simp) ?_
       refine AllReadyH.cons rfl (fun K hK => ?_) AllReadyH.nil
       go_simp
       have HBC6 := veil (BC.s5 HBC5.out (ah - (ln : Int)))
       have HRW6 := veil (HRW5.out.set (B := w.heap.size + 5) (off := 0) (by omega) (by omega) (.int .i64 (ah - (ln : Int))))
       have HV6 := veil (HP.out _ (HBEL.out.trans HRW6.out.be)).view
       refine hK.out _ _ ?_ (fun hHeld => ?_)
       ·exact ⟨(BC.cells HBC6.out).1, HV6.out.1, HV6.out.2.2.2.1 x y HY.out⟩
       clear hK K
       try simp only [puX]
       refine wpAnyH_done (by kernel_rfl) ?_ _
       gi_wp2
       refine ⟨HRW6.out.ko, HRW6.out.fr, ⟨?_, by have := HRW6.out.hz; omega⟩, HBEL.out.trans HRW6.out.be⟩
       rw [HBS.out, HAS.out, HB2.out]
       exact HBC6.out
      ·skip
       go_simp
       go_at_call 153
       refine (HLN.out _ (by exact below_post HBELc.out rfl rfl rfl rfl)).mono ?_
       rintro e w5 ⟨rfl, hb5⟩
       have HBW5 := veil (show Below Wc.heap.size Wc w5 from below_pre' hb5 rfl rfl rfl rfl)
       have HBC5 := veil (BC.below HBC.out HBW5.out)
       have HRW5 := veil (HRW.out.below HBW5.out)
       have HV5 := veil (HP.out _ (HBEL.out.trans HRW5.out.be)).view
       obtain ⟨e50, _, _, _, _, e55⟩ := BC.cells HBC5.out
       obtain ⟨_, _, _, _, f55⟩ := BC.free HBC5.out
       clear hb5
       refine hK.out _ _ ?_ (fun hHeld => ?_)
       ·exact ⟨e50, HV5.out.1, HV5.out.2.2.2.1 x y HY.out⟩
       clear hK K
       try simp only [puX]
       refine wpAnyH_ready (rs := [0]) (by kernel_rfl) (by simp) ?_
       refine AllReadyH.cons rfl (fun K hK => ?_) AllReadyH.nil
       go_simp
       refine hK.out _ _ ?_ (fun hHeld => ?_)
       ·exact hHeld
       clear hK K
       try simp only [puX]
       refine tkX 9 (v := ?_) rfl ?v9 ?_
       case v9 => (intro w hSw; (try dsimp only at hSw); go_simp; try with_reducible rfl)
       try simp only [puX]
       refine wpAnyH_ready (rs := [10]) (by kernel_rfl) (by simp) ?_
       refine AllReadyH.cons rfl (fun K hK => ?_) AllReadyH.nil
       go_simp
       have HBC6 := veil (BC.s5 HBC5.out (ah - (ln : Int)))
       have HRW6 := veil (HRW5.out.set (B := w.heap.size + 5) (off := 0) (by omega) (by omega) (.int .i64 (ah - (ln : Int))))
       have HV6 := veil (HP.out _ (HBEL.out.trans HRW6.out.be)).view
       refine hK.out _ _ ?_ (fun hHeld => ?_)
       ·exact ⟨(BC.cells HBC6.out).1, HV6.out.1, HV6.out.2.2.2.1 x y HY.out⟩
       clear hK K
       try simp only [puX]
       refine wpAnyH_done (by kernel_rfl) ?_ _
       gi_wp2
       refine ⟨HRW6.out.ko, HRW6.out.fr, ⟨?_, by have := HRW6.out.hz; omega⟩, HBEL.out.trans HRW6.out.be⟩
       rw [HBS.out, HAS.out, HB2.out]
       exact HBC6.out
 case done =>
  rintro D ys W hD hys ⟨⟨hB, hWz⟩, hbel⟩ hK
  rw [hys] at hB
  generalize ahd H (ords np p d) = ah at *
  generalize hbe : bst H (ords np p d) = b at hB
  have HBE := veil hbe
  clear hbe
  gi_wp2
  refine wpIn_wide.2 ?_
  have HCw := veil hB
  have HRw := veil (RW.refl (n0 := w.heap.size) (W := W) (by omega))
  obtain ⟨_, g1, ⟨g2, g3, g4⟩, g5, g6, _⟩ := BC.cells hB
  obtain ⟨q1, ⟨q2, q3, q4⟩, q5, q6, _⟩ := BC.free hB
  have HK := veil hK
  have HBEL := veil hbel
  clear hB hK hbel hst hrd hS x6 x7 x8
  refine wp_region_noPanic ?_
  refine wp_region_held_drew (S := (fun w' => w'.cell? ⟨w.heap.size + 1, 0, none⟩ = some (.int .i64 (bI H b)) ∧ (w'.cell? ⟨w.heap.size + 2, 0, none⟩ = some (.bool (bK H b).e) ∧ w'.cell? ⟨w.heap.size + 2, 1, none⟩ = some (.int .u64 (bK H b).d) ∧ w'.cell? ⟨w.heap.size + 2, 2, none⟩ = some (.int .u8 (bK H b).l)) ∧ w'.cell? ⟨w.heap.size + 3, 0, none⟩ = some (.int .i64 (bA b)) ∧ w'.cell? ⟨w.heap.size + 4, 0, none⟩ = some (.bool b.isSome))) (by kernel_rfl) ?_ (fun hHeld => ?_)
  ·exact ⟨g1, ⟨g2, g3, g4⟩, g5, g6⟩
  refine tkX 0 (v := ?_) rfl ?v0 ?_
  case v0 => (intro w hSw; (try dsimp only at hSw); go_simp; try with_reducible rfl)
  try simp only [puX]
  refine tkX 1 (v := ?_) rfl ?v1 ?_
  case v1 => (intro w hSw; (try dsimp only at hSw); go_simp; try with_reducible rfl)
  try simp only [puX]
  refine tkX 2 (v := ?_) rfl ?v2 ?_
  case v2 => (intro w hSw; (try dsimp only at hSw); go_simp; try with_reducible rfl)
  try simp only [puX]
  refine tkX 3 (v := ?_) rfl ?v3 ?_
  case v3 => (intro w hSw; (try dsimp only at hSw); go_simp; try with_reducible rfl)
  try simp only [puX]
  refine wpAnyH_ready (rs := [4]) (by kernel_rfl) (by simp) ?_
  refine AllReadyH.cons rfl (fun K hK => ?_) AllReadyH.nil
  go_simp
  have HC4 := veil (BC.s1 HCw.out (bI H b))
  have HR4 := veil (HRw.out.set (B := w.heap.size + 1) (off := 0) (by omega) (by omega) (.int .i64 (bI H b)))
  refine hK.out _ _ ?_ (fun hHeld => ?_)
  ·exact ⟨(BC.cells (BC.drew HC4.out)).2.1, (BC.cells (BC.drew HC4.out)).2.2.1, (BC.cells (BC.drew HC4.out)).2.2.2.1, (BC.cells (BC.drew HC4.out)).2.2.2.2.1⟩
  clear hK K
  try simp only [puX]
  refine wpAnyH_ready (rs := [5]) (by kernel_rfl) (by simp) ?_
  refine AllReadyH.cons rfl (fun K hK => ?_) AllReadyH.nil
  go_simp
  have HC5 := veil (BC.s2 HC4.out (bK H b))
  have HR5 := veil (((HR4.out.set (B := w.heap.size + 2) (off := 0) (by omega) (by omega) (.bool (bK H b).e)).set (B := w.heap.size + 2) (off := 1) (by omega) (by omega) (.int .u64 (bK H b).d)).set (B := w.heap.size + 2) (off := 2) (by omega) (by omega) (.int .u8 (bK H b).l))
  refine hK.out _ _ ?_ (fun hHeld => ?_)
  ·exact ⟨(BC.cells (BC.drew HC5.out)).2.1, (BC.cells (BC.drew HC5.out)).2.2.1, (BC.cells (BC.drew HC5.out)).2.2.2.1, (BC.cells (BC.drew HC5.out)).2.2.2.2.1⟩
  clear hK K
  try simp only [puX]
  refine wpAnyH_ready (rs := [6]) (by kernel_rfl) (by simp) ?_
  refine AllReadyH.cons rfl (fun K hK => ?_) AllReadyH.nil
  go_simp
  have HC6 := veil (BC.s3 HC5.out (bA b))
  have HR6 := veil (HR5.out.set (B := w.heap.size + 3) (off := 0) (by omega) (by omega) (.int .i64 (bA b)))
  refine hK.out _ _ ?_ (fun hHeld => ?_)
  ·exact ⟨(BC.cells (BC.drew HC6.out)).2.1, (BC.cells (BC.drew HC6.out)).2.2.1, (BC.cells (BC.drew HC6.out)).2.2.2.1, (BC.cells (BC.drew HC6.out)).2.2.2.2.1⟩
  clear hK K
  try simp only [puX]
  refine wpAnyH_ready (rs := [7]) (by kernel_rfl) (by simp) ?_
  refine AllReadyH.cons rfl (fun K hK => ?_) AllReadyH.nil
  go_simp
  have HC7 := veil (BC.s4 HC6.out b.isSome)
  have HR7 := veil (HR6.out.set (B := w.heap.size + 4) (off := 0) (by omega) (by omega) (.bool b.isSome))
  refine hK.out _ _ ?_ (fun hHeld => ?_)
  ·exact ⟨(BC.cells (BC.drew HC7.out)).2.1, (BC.cells (BC.drew HC7.out)).2.2.1, (BC.cells (BC.drew HC7.out)).2.2.2.1, (BC.cells (BC.drew HC7.out)).2.2.2.2.1⟩
  clear hK K
  try simp only [puX]
  refine wpAnyH_done (by kernel_rfl) ?_ _
  skip
  have HBC := veil (BC.drew HC7.out)
  have HRW := veil HR7.out.drew
  have hK := HRW.out.ko.same D _ HK.out rfl
  clear g1 g2 g3 g4 g5 g6 q1 q2 q3 q4 q5 q6 HC4 HC5 HC6 HC7 HR4 HR5 HR6 HR7 HCw HRw hHeld HK
  generalize ((((((W.setCell ⟨w.heap.size + 1, 0, none⟩ (.int .i64 (bI H b))).setCell ⟨w.heap.size + 2, 0, none⟩ (.bool (bK H b).e)).setCell ⟨w.heap.size + 2, 1, none⟩ (.int .u64 (bK H b).d)).setCell ⟨w.heap.size + 2, 2, none⟩ (.int .u8 (bK H b).l)).setCell ⟨w.heap.size + 3, 0, none⟩ (.int .i64 (bA b))).setCell ⟨w.heap.size + 4, 0, none⟩ (.bool b.isSome)).drew = Wc at *
  have hDn : w.heap.size + 9 ≤ D := by omega
  have hP := BC.kept HBC.out (grownBy_putObj' Wc D (.deferred none)) (fun r e => by cases e; exact ⟨_, hK, rfl⟩)
  obtain ⟨_, g1, ⟨g2, g3, g4⟩, g5, g6, _⟩ := BC.cells hP
  simp only [NoPanic]
  go_wp2
  gi_wp2
  try simp only [Exit.noGoto]
  refine ⟨by simp, .inl ⟨_, _, rfl, run_takeDeferred hK, ?_⟩⟩
  refine ⟨_, ?_, rfl, ?_⟩
  ·simp [results, Tryz.f118, go_sem, g1, g2, g3, g4, g5, g6, HBE.out]
  ·exact (HBEL.out.trans HRW.out.be).trans (belowK_b (w := w) (Nat.le_refl _) Wc D _ _ (by omega) hK rfl rfl)
 case stop =>
  rintro D c pre W hD hpre ⟨rfl, ⟨pre', x, rfl, ha, hB, hWz⟩, hbel⟩ hK
  have e := bst_ahead H np p d hp (vals pre') ((show vals pre' <+: vals (pre' ++ [x]) by rw [vals_snoc]; exact List.prefix_append _ _).trans hpre) ha
  rw [← e] at hB
  clear e
  generalize hbe : bst H (ords np p d) = b at hB
  have HBE := veil hbe
  clear hbe
  gi_wp2
  refine wpIn_wide.2 ?_
  have HCw := veil hB
  have HRw := veil (RW.refl (n0 := w.heap.size) (W := W) (by omega))
  obtain ⟨_, g1, ⟨g2, g3, g4⟩, g5, g6, _⟩ := BC.cells hB
  obtain ⟨q1, ⟨q2, q3, q4⟩, q5, q6, _⟩ := BC.free hB
  have HK := veil hK
  have HBEL := veil hbel
  clear hB hK hbel hst hrd hS x6 x7 x8
  refine wp_region_noPanic ?_
  refine wp_region_held_drew (S := (fun w' => w'.cell? ⟨w.heap.size + 1, 0, none⟩ = some (.int .i64 (bI H b)) ∧ (w'.cell? ⟨w.heap.size + 2, 0, none⟩ = some (.bool (bK H b).e) ∧ w'.cell? ⟨w.heap.size + 2, 1, none⟩ = some (.int .u64 (bK H b).d) ∧ w'.cell? ⟨w.heap.size + 2, 2, none⟩ = some (.int .u8 (bK H b).l)) ∧ w'.cell? ⟨w.heap.size + 3, 0, none⟩ = some (.int .i64 (bA b)) ∧ w'.cell? ⟨w.heap.size + 4, 0, none⟩ = some (.bool b.isSome))) (by kernel_rfl) ?_ (fun hHeld => ?_)
  ·exact ⟨g1, ⟨g2, g3, g4⟩, g5, g6⟩
  refine tkX 0 (v := ?_) rfl ?v0 ?_
  case v0 => (intro w hSw; (try dsimp only at hSw); go_simp; try with_reducible rfl)
  try simp only [puX]
  refine tkX 1 (v := ?_) rfl ?v1 ?_
  case v1 => (intro w hSw; (try dsimp only at hSw); go_simp; try with_reducible rfl)
  try simp only [puX]
  refine tkX 2 (v := ?_) rfl ?v2 ?_
  case v2 => (intro w hSw; (try dsimp only at hSw); go_simp; try with_reducible rfl)
  try simp only [puX]
  refine tkX 3 (v := ?_) rfl ?v3 ?_
  case v3 => (intro w hSw; (try dsimp only at hSw); go_simp; try with_reducible rfl)
  try simp only [puX]
  refine wpAnyH_ready (rs := [4]) (by kernel_rfl) (by simp) ?_
  refine AllReadyH.cons rfl (fun K hK => ?_) AllReadyH.nil
  go_simp
  have HC4 := veil (BC.s1 HCw.out (bI H b))
  have HR4 := veil (HRw.out.set (B := w.heap.size + 1) (off := 0) (by omega) (by omega) (.int .i64 (bI H b)))
  refine hK.out _ _ ?_ (fun hHeld => ?_)
  ·exact ⟨(BC.cells (BC.drew HC4.out)).2.1, (BC.cells (BC.drew HC4.out)).2.2.1, (BC.cells (BC.drew HC4.out)).2.2.2.1, (BC.cells (BC.drew HC4.out)).2.2.2.2.1⟩
  clear hK K
  try simp only [puX]
  refine wpAnyH_ready (rs := [5]) (by kernel_rfl) (by simp) ?_
  refine AllReadyH.cons rfl (fun K hK => ?_) AllReadyH.nil
  go_simp
  have HC5 := veil (BC.s2 HC4.out (bK H b))
  have HR5 := veil (((HR4.out.set (B := w.heap.size + 2) (off := 0) (by omega) (by omega) (.bool (bK H b).e)).set (B := w.heap.size + 2) (off := 1) (by omega) (by omega) (.int .u64 (bK H b).d)).set (B := w.heap.size + 2) (off := 2) (by omega) (by omega) (.int .u8 (bK H b).l))
  refine hK.out _ _ ?_ (fun hHeld => ?_)
  ·exact ⟨(BC.cells (BC.drew HC5.out)).2.1, (BC.cells (BC.drew HC5.out)).2.2.1, (BC.cells (BC.drew HC5.out)).2.2.2.1, (BC.cells (BC.drew HC5.out)).2.2.2.2.1⟩
  clear hK K
  try simp only [puX]
  refine wpAnyH_ready (rs := [6]) (by kernel_rfl) (by simp) ?_
  refine AllReadyH.cons rfl (fun K hK => ?_) AllReadyH.nil
  go_simp
  have HC6 := veil (BC.s3 HC5.out (bA b))
  have HR6 := veil (HR5.out.set (B := w.heap.size + 3) (off := 0) (by omega) (by omega) (.int .i64 (bA b)))
  refine hK.out _ _ ?_ (fun hHeld => ?_)
  ·exact ⟨(BC.cells (BC.drew HC6.out)).2.1, (BC.cells (BC.drew HC6.out)).2.2.1, (BC.cells (BC.drew HC6.out)).2.2.2.1, (BC.cells (BC.drew HC6.out)).2.2.2.2.1⟩
  clear hK K
  try simp only [puX]
  refine wpAnyH_ready (rs := [7]) (by kernel_rfl) (by simp) ?_
  refine AllReadyH.cons rfl (fun K hK => ?_) AllReadyH.nil
  go_simp
  have HC7 := veil (BC.s4 HC6.out b.isSome)
  have HR7 := veil (HR6.out.set (B := w.heap.size + 4) (off := 0) (by omega) (by omega) (.bool b.isSome))
  refine hK.out _ _ ?_ (fun hHeld => ?_)
  ·exact ⟨(BC.cells (BC.drew HC7.out)).2.1, (BC.cells (BC.drew HC7.out)).2.2.1, (BC.cells (BC.drew HC7.out)).2.2.2.1, (BC.cells (BC.drew HC7.out)).2.2.2.2.1⟩
  clear hK K
  try simp only [puX]
  refine wpAnyH_done (by kernel_rfl) ?_ _
  skip
  have HBC := veil (BC.drew HC7.out)
  have HRW := veil HR7.out.drew
  have hK := HRW.out.ko.same D _ HK.out rfl
  clear g1 g2 g3 g4 g5 g6 q1 q2 q3 q4 q5 q6 HC4 HC5 HC6 HC7 HR4 HR5 HR6 HR7 HCw HRw hHeld HK
  generalize ((((((W.setCell ⟨w.heap.size + 1, 0, none⟩ (.int .i64 (bI H b))).setCell ⟨w.heap.size + 2, 0, none⟩ (.bool (bK H b).e)).setCell ⟨w.heap.size + 2, 1, none⟩ (.int .u64 (bK H b).d)).setCell ⟨w.heap.size + 2, 2, none⟩ (.int .u8 (bK H b).l)).setCell ⟨w.heap.size + 3, 0, none⟩ (.int .i64 (bA b))).setCell ⟨w.heap.size + 4, 0, none⟩ (.bool b.isSome)).drew = Wc at *
  have hDn : w.heap.size + 9 ≤ D := by omega
  have hP := BC.kept HBC.out (grownBy_putObj' Wc D (.deferred none)) (fun r e => by cases e; exact ⟨_, hK, rfl⟩)
  obtain ⟨_, g1, ⟨g2, g3, g4⟩, g5, g6, _⟩ := BC.cells hP
  simp only [NoPanic]
  go_wp2
  gi_wp2
  try simp only [Exit.noGoto]
  refine ⟨by simp, .inl ⟨_, _, rfl, run_takeDeferred hK, ?_⟩⟩
  refine ⟨_, ?_, rfl, ?_⟩
  ·simp [results, Tryz.f118, go_sem, g1, g2, g3, g4, g5, g6, HBE.out]
  ·exact (HBEL.out.trans HRW.out.be).trans (belowK_b (w := w) (Nat.le_refl _) Wc D _ _ (by omega) hK rfl rfl)
theorem pbest_ok (h : IsP w base lo pb mb n np q (.slice (some ⟨g, 0, none⟩) (np + 1) cap) H) (p d : Nat) (hp : p < np) (hd : d < 18446744073709551616) :
  Calls Tryz.prog 118 #[.pointer (some ⟨pb, 0, none⟩), .int .i64 (p : Int), .int .u64 (d : Int)] w fun e w' => e = .returned (.tuple #[.int .i64 (bI H (bst H (ords np p d))), .agg #[.bool (bK H (bst H (ords np p d))).e, .int .u64 (bK H (bst H (ords np p d))).d, .int .u8 (bK H (bst H (ords np p d))).l], .int .i64 (bA (bst H (ords np p d))), .bool (bst H (ords np p d)).isSome]) ∧ Below w.heap.size w w' :=
 callsIn_wide.1 (pbest_in h p d hp hd)
end
end Go.Proofs.YtjlbmmiomfpgiaaGreatDoor
namespace Go.Proofs.YtjlbmmiomfpgiaaGreatDoor
set_option maxRecDepth 100000
open Go.RowKit Go.Lib
set_option linter.unusedVariables false
attribute [local go_sem ↓] Go.wp_at_zero Go.wp_at_succ
theorem sumH_nil : ∀ {H : List Hd}, (∀ (i : Nat) (x : Hd), H[i]? = some x → x.M = []) → sumH H = 0
 | [], _ => rfl
 | h :: H, hh => by
  have h1 := hh 0 h rfl
  have := sumH_nil (H := H) (fun i x hx => hh (i + 1) x (by simpa using hx))
  simp only [sumH, List.map_cons, List.sum_cons, h1, List.length_nil] at this ⊢
  omega
theorem Bld.isQ {w0 w : World} {n np q : Nat} {v : Value} {H : List Hd} (h : Bld w0 w n (moP np n q) v H) (hl : H.length = np + 1) (h1 : 1 ≤ n ∧ n ≤ 1024) (h2 : 1 ≤ np ∧ np ≤ 64) (h3 : 1 ≤ q ∧ q ≤ 256) : IsQ w (w0.heap.size + 2) (w0.heap.size + 2) (w0.heap.size + 1) w0.heap.size n np q v 0 H := by
 have hM : ∀ (i : Nat) (x : Hd), H[i]? = some x → x.M = [] := fun i x hx => (h.fresh i x hx).1
 have hvb := Dc.own_ge h.row
 have hw : whereF n H 0 = fun _ => none := funext fun id => whereF_none n id H 0 (fun i x hx _ => by rw [hM i x hx]; rfl)
 refine ⟨⟨h1, h2, h3, h.blk, h.row, hl, h.sets, ?_, fun i x hx k hk => ⟨h.sep i x hx k hk, ?_, ?_⟩, ⟨by omega, fun e => ?_, fun e => ?_⟩⟩, fun i j x y id hx hy h5 h6 => ?_, fun i x hx => by rw [(h.fresh i x hx).2]; exact Nat.le_refl _⟩
 ·rw [hw, sumH_nil hM]; exact h.map
 ·have := h.sets.low i x hx k hk; omega
 ·have := h.sets.low i x hx k hk; omega
 ·have := (hvb _ e).1; omega
 ·have := (hvb _ e).1; omega
 ·rw [hM i x hx] at h5; cases h5
section
variable {w w' wa wb : World} {base lo pb mb n np q T g cap : Nat} {v : Value} {H : List Hd}
theorem rem_done (h : IsQ w base lo pb mb n np q v T H) {i : Nat} {x : Hd} (hx : H[i]? = some x) {id : Nat} (hk : (keyOf x.M id).isSome = true) (hw : whereF n H 0 (id : Int) = some (i : Int)) {t : Nat} (ht : t ≤ x.turn + 1)
  (hy : (x.to t (cut id x.M)).is wa n (moP np n q i)) (hf : Fr x.own w wa) (hg : wa.grownBy wb (some mb)) (hm : IsM wb mb (setF (whereF n H 0) (id : Int) none) (if (whereF n H 0 (id : Int)).isSome then sumH H - 1 else sumH H)) :
  IsQ wb base lo pb mb n np q v (T + 1) (H.set i (x.to t (cut id x.M))) ∧ Fr (fun k => k = mb ∨ x.own k) w wb := by
 obtain ⟨u1, u2⟩ := where_cut (n := n) (y := x.to t (cut id x.M)) h.un hx rfl hk
 refine h.turned hx ht hf hy ⟨hg.os, hg.tape, hg.output, hg.size, fun j hj hn => hg.block j hj (fun e => hn (Option.some.inj e))⟩ u1 ?_
 rw [u2]
 have hs := sumH_set (y := x.to t (cut id x.M)) hx
 obtain ⟨k, hkk⟩ := Option.isSome_iff_exists.1 hk
 have hc := len_cut (IsS.nd (h.p.sets.it i x hx)) ((keyOf_some (IsS.nd (h.p.sets.it i x hx))).1 hkk)
 have e : sumH (H.set i (x.to t (cut id x.M))) = sumH H - 1 := by
  have : (x.to t (cut id x.M)).M.length = (cut id x.M).length := rfl
  omega
 rw [e]
 rw [hw] at hm
 exact hm
set_option maxHeartbeats 4000000 in
set_option maxRecDepth 20000 in
theorem premove_at (h : IsQ w base lo pb mb n np q v T H) (id : Nat) (hi : id < n) {i : Nat} {x : Hd} (hx : H[i]? = some x) (hk : (keyOf x.M id).isSome = true) :
  Calls Tryz.prog 154 #[.pointer (some ⟨pb, 0, none⟩), .int .i64 (id : Int)] w fun e w' => e = .returned (.int .i64 0) ∧ ∃ t, IsQ w' base lo pb mb n np q v (T + 1) (H.set i (x.to t (cut id x.M))) ∧ Fr (fun k => k = mb ∨ x.own k) w w' := by
 have hn1 := h.p.n1
 have hw := whereF_some n H h.un i x hx id hi hk
 have wfi := wf_nat (i := id) (by omega)
 have HSET := veil (pset_at h.p (id : Int) wfi i x hx hw)
 have HDONE := veil (fun t ht wa wb a b c d => rem_done (wa := wa) (wb := wb) (t := t) h hx hk hw ht a b c d)
 have hrc : remC n x.M (id : Int) = 0 := by unfold remC; rw [if_neg (by omega), if_pos (by simpa using hk)]
 have hrl : remL n x.M (id : Int) = cut id x.M := by unfold remL; rw [if_pos hrc]; rfl
 have hsep := h.p.sep i x hx
 have HREM : Hid (Calls Tryz.prog 166 #[.pointer (some ⟨x.sb, 0, none⟩), .int .i64 (id : Int)] w fun e w' => e = .returned (.int .i64 0) ∧ (∃ t, t ≤ x.turn + 1 ∧ (x.to t (cut id x.M)).is w' n (moP np n q i)) ∧ Fr x.own w w' ∧ w'.cell? ⟨pb, 1, none⟩ = some (.map (some mb)) ∧ IsM w' mb (whereF n H 0) (sumH H)) := by
  refine (sremove_all (h.p.sets.it i x hx) (id : Int)).mono ?_
  rintro e w1 ⟨rfl, ⟨t, ht, hs⟩, hf⟩
  rw [hrl] at hs
  have hf' : Fr x.own w w1 := hf
  exact ⟨by rw [hrc], ⟨t, ht, hs⟩, hf', (hf'.cell (a := ⟨pb, 1, none⟩) h.p.pbl (fun q => (hsep pb q).2.1 rfl)).trans h.p.c1, h.p.map.block (hf'.block _ h.p.map.lt (fun q => (hsep mb q).2.2 rfl))⟩
 clear h hw hx hk hrc hrl hsep
 go_enter Tryz.func154, Tryz.ntmps154
 go_wp2_with (first
  | (go_at_call 129; refine (HSET.out).mono ?_; rintro e w1 ⟨rfl, hw1⟩; replace hw1 := hw1.symm; subst hw1)
  | (go_at_call 166; refine (HREM.out).mono ?_; rintro e w2 ⟨rfl, ⟨t, ht, hy2⟩, hf2, c21, hm2⟩; have HY2 := veil hy2; have HF2 := veil hf2; have HM2 := veil hm2; have HT := veil ht; clear hy2 hf2 hm2 ht)
  | (at_delete; refine wpList_delete_m rfl _ _ rfl (by exact HM2.out) (id : Int) wfi rfl rfl ?_; intro w3 hm3 hg3; have HD := veil (HDONE.out t HT.out _ _ HY2.out HF2.out (by exact hg3) hm3); clear hm3 hg3))
 go_ret
 exact ⟨rfl, t, HD.out⟩
end
end Go.Proofs.YtjlbmmiomfpgiaaGreatDoor
namespace Go.Proofs.YtjlbmmiomfpgiaaGreatDoor
set_option maxRecDepth 100000
open Go.RowKit Go.Lib
set_option linter.unusedVariables false
attribute [local go_sem ↓] Go.wp_at_zero Go.wp_at_succ
section
variable {w w' wa wb : World} {base lo pb mb n np q T g cap : Nat} {v : Value} {H : List Hd}
theorem IsQ.frame {S : Nat → Prop} (h : IsQ w base lo pb mb n np q v T H) (hf : Fr S w w') (hn : ∀ k, OwnP pb mb v H k → ¬ S k) : IsQ w' base lo pb mb n np q v T H := ⟨h.p.frame hf hn, h.un, h.tn⟩
def key3 (W : World) (B : Nat) (k : Ke.K) : World := ((W.setCell ⟨B, 0, none⟩ (.bool k.e)).setCell ⟨B, 1, none⟩ (.int .u64 k.d)).setCell ⟨B, 2, none⟩ (.int .u8 k.l)
theorem fr_key3 (W : World) (B : Nat) (k : Ke.K) : Fr (fun j => j = B) W (key3 W B k) := (((Fr.refl (fun j => j = B) W).setCell (a := ⟨B, 0, none⟩) rfl _).setCell (a := ⟨B, 1, none⟩) rfl _).setCell (a := ⟨B, 2, none⟩) rfl _
theorem blk_key3 {W : World} {B : Nat} {k0 k1 : Ke.K} (h : W.heap[B]? = some (.cells #[.bool k0.e, .int .u64 k0.d, .int .u8 k0.l] 67 (0, 0))) : (key3 W B k1).heap[B]? = some (.cells #[.bool k1.e, .int .u64 k1.d, .int .u8 k1.l] 67 (0, 0)) :=
 Go.Joins.block_setCell (Go.Joins.block_setCell (Go.Joins.block_setCell h _) _) _
theorem own_set {i : Nat} {x : Hd} (hx : H[i]? = some x) (t : Nat) (M : List En) (k : Nat) (h : OwnP pb mb v (H.set i (x.to t M)) k) : OwnP pb mb v H k := by
 have hil : i < H.length := (List.getElem?_eq_some_iff.1 hx).1
 rcases h with e | e | e | ⟨j, z, hz, hk⟩
 ·exact .inl e
 ·exact .inr (.inl e)
 ·exact .inr (.inr (.inl e))
 ·rcases set_key hil hz with ⟨rfl, rfl⟩ | ⟨_, r⟩
  ·exact .inr (.inr (.inr ⟨j, x, hx, hk⟩))
  ·exact .inr (.inr (.inr ⟨j, z, r, hk⟩))
set_option maxHeartbeats 4000000 in
set_option maxRecDepth 20000 in
theorem ptake_at (h : IsQ w base lo pb mb n np q (.slice (some ⟨g, 0, none⟩) (np + 1) cap) T H) (p d : Nat) (hp : p < np) (hd : d < 18446744073709551616) {c : Nat} {x : Hd} {z : En} {M' : List En} (hb : bst H (ords np p d) = some c) (hx : H[c]? = some x) (hM : x.M = z :: M') :
  Calls Tryz.prog 122 #[.pointer (some ⟨pb, 0, none⟩), .int .i64 (p : Int), .int .u64 (d : Int)] w fun e w' => e = .returned (.tuple #[.int .i64 (z.1 : Int), .agg #[.bool z.2.e, .int .u64 z.2.d, .int .u8 z.2.l], .int .i64 (c : Int), .bool true]) ∧ ∃ t, IsQ w' base lo pb mb n np q (.slice (some ⟨g, 0, none⟩) (np + 1) cap) (T + 1) (H.set c (x.to t M')) ∧ Fr (fun k => k = mb ∨ x.own k) w w' := by
 have hbl := h.p.blocks
 have hbB : Below w.heap.size w (w.alloc (.cells #[.bool false, .int .u64 0, .int .u8 0] 67)) := (Below.refl _ _).alloc (Nat.le_refl _) _
 have hcut : cut z.1 x.M = M' := by rw [hM]; exact cut_head (by rw [← hM]; exact IsS.nd (h.p.sets.it c x hx))
 have hzk : (keyOf x.M z.1).isSome = true := by rw [has_iff]; exact ⟨z, by rw [hM]; simp, rfl⟩
 have hzn : z.1 < n := by
  obtain ⟨R, L, hS, hI⟩ := id_S (h.p.sets.it c x hx)
  exact hI.rng hS z (by rw [hM]; simp)
 have HBEST := veil (pbest_ok (h.p.below hbB) p d hp hd)
 rw [hb] at HBEST
 have e1 : bI H (some c) = (z.1 : Int) := by show tkI (MM H c) = _; rw [MM_at hx, hM]; rfl
 have e2 : bK H (some c) = z.2 := by show tkK (MM H c) = _; rw [MM_at hx, hM]; rfl
 have e3 : bA (some c) = (c : Int) := rfl
 rw [e1, e2, e3] at HBEST
 simp only [Option.isSome_some] at HBEST
 have HK : Hid (∀ W, Below (w.alloc (.cells #[.bool false, .int .u64 0, .int .u8 0] 67)).heap.size (w.alloc (.cells #[.bool false, .int .u64 0, .int .u8 0] 67)) W →
   (∀ j, W.frozen? ⟨w.heap.size, j, none⟩ = false) ∧ W.cell? ⟨w.heap.size, 0, none⟩ = some (.bool false) ∧ W.cell? ⟨w.heap.size, 1, none⟩ = some (.int .u64 0) ∧ W.cell? ⟨w.heap.size, 2, none⟩ = some (.int .u8 0) ∧ (key3 W w.heap.size z.2).heap[w.heap.size]? = some (.cells #[.bool z.2.e, .int .u64 z.2.d, .int .u8 z.2.l] 67 (0, 0)) ∧
   IsQ (key3 W w.heap.size z.2) base lo pb mb n np q (.slice (some ⟨g, 0, none⟩) (np + 1) cap) T H ∧ Below w.heap.size w (key3 W w.heap.size z.2)) := fun W hW => by
  have hblk : W.heap[w.heap.size]? = some (.cells #[.bool false, .int .u64 0, .int .u8 0] 67 (0, 0)) := (hW.block _ (by simp)).trans (World.alloc_heap_new w _)
  have hbw : Below w.heap.size w W := hbB.trans (hW.mono hbB.size)
  have hfk := fr_key3 W w.heap.size z.2
  refine ⟨fun j => (blk_cell hblk j).2, (blk_cell hblk 0).1, (blk_cell hblk 1).1, (blk_cell hblk 2).1, blk_key3 (k0 := ⟨false, 0, 0⟩) hblk, (h.below hbw).frame hfk (fun k hk e => ?_), hbw.trans (hfk.below hbw.size (fun k e => by omega))⟩
  have := hbl k hk
  omega
 have HREM : Hid (∀ W, IsQ W base lo pb mb n np q (.slice (some ⟨g, 0, none⟩) (np + 1) cap) T H → Calls Tryz.prog 154 #[.pointer (some ⟨pb, 0, none⟩), .int .i64 (z.1 : Int)] W fun e w' => e = .returned (.int .i64 0) ∧ ∃ t, IsQ w' base lo pb mb n np q (.slice (some ⟨g, 0, none⟩) (np + 1) cap) (T + 1) (H.set c (x.to t M')) ∧ Fr (fun k => k = mb ∨ x.own k) W w') := fun W hW => by
  have := premove_at hW z.1 hzn hx hzk
  rw [hcut] at this
  exact this
 have HOWN : Hid (∀ t k, OwnP pb mb (.slice (some ⟨g, 0, none⟩) (np + 1) cap) (H.set c (x.to t M')) k → k < w.heap.size) := fun t k hk => hbl k (own_set hx t M' k hk)
 have HNB : Hid (¬ (w.heap.size = mb ∨ x.own w.heap.size)) := by
  rintro (e | e)
  ·have := h.p.map.lt; omega
  ·have := (h.p.sets.it c x hx).blocks _ e; omega
 clear h hbl hbB hcut hzk hzn hb e1 e2 e3 hM hx
 go_enter Tryz.func122, Tryz.ntmps122
 go_wp2_with (first
  | (go_at_call 118; refine (HBEST.out).mono ?_; rintro e w1 ⟨rfl, hb1⟩; obtain ⟨f1, k0, k1, k2, hblk, hQ1, hB1⟩ := HK.out w1 hb1; have f10 := f1 0; have f11 := f1 1; have f12 := f1 2; have HBLK := veil hblk; have HQ1 := veil hQ1; have HB1 := veil hB1; clear f1 hblk hQ1 hB1 hb1)
  | (go_at_call 154; refine (HREM.out _ (by exact HQ1.out)).mono ?_; rintro e w2 ⟨rfl, t, hQ2, hF2⟩; have HBLK2 := veil ((hF2.block _ (Array.getElem?_eq_some_iff.1 HBLK.out).1 HNB.out).trans HBLK.out); have HQ2 := veil hQ2; have HF2 := veil hF2; have k20 := (blk_cell HBLK2.out 0).1; have k21 := (blk_cell HBLK2.out 1).1; have k22 := (blk_cell HBLK2.out 2).1; have f20 := (blk_cell HBLK2.out 0).2; have f21 := (blk_cell HBLK2.out 1).2; have f22 := (blk_cell HBLK2.out 2).2; clear hQ2 hF2))
 have HB3 := veil (blk_key3 (k1 := z.2) HBLK2.out)
 simp only [List.getElem?_toArray, List.getElem?_cons_zero, List.getElem?_cons_succ] at k20 k21 k22
 refine wp_region_noPanic ?_
 refine wp_region_held_drew (S := (fun w' => w'.cell? ⟨w.heap.size, 0, none⟩ = some (.bool z.2.e) ∧ w'.cell? ⟨w.heap.size, 1, none⟩ = some (.int .u64 z.2.d) ∧ w'.cell? ⟨w.heap.size, 2, none⟩ = some (.int .u8 z.2.l))) (by kernel_rfl) ?_ (fun hHeld => ?_)
 ·exact ⟨k20, k21, k22⟩
 refine tkX 0 (v := ?_) rfl ?v0 ?_
 case v0 => (intro w hSw; (try dsimp only at hSw); go_simp; try with_reducible rfl)
 try simp only [puX]
 refine tkX 1 (v := ?_) rfl ?v1 ?_
 case v1 => (intro w hSw; (try dsimp only at hSw); go_simp; try with_reducible rfl)
 try simp only [puX]
 refine tkX 2 (v := ?_) rfl ?v2 ?_
 case v2 => (intro w hSw; (try dsimp only at hSw); go_simp; try with_reducible rfl)
 try simp only [puX]
 refine tkX 3 (v := ?_) rfl ?v3 ?_
 case v3 => (intro w hSw; (try dsimp only at hSw); go_simp; try with_reducible rfl)
 try simp only [puX]
 refine tkX 4 (v := ?_) rfl ?v4 ?_
 case v4 => (intro w hSw; (try dsimp only at hSw); go_simp; try with_reducible rfl)
 try simp only [puX]
 refine wpAnyH_ready (rs := [5]) (by kernel_rfl) (by simp) ?_
 refine AllReadyH.cons rfl (fun K hK => ?_) AllReadyH.nil
 go_simp
 refine hK.out _ _ ?_ (fun hHeld => ?_)
 ·exact ⟨(blk_cell (drew_heap HB3.out) 0).1, (blk_cell (drew_heap HB3.out) 1).1, (blk_cell (drew_heap HB3.out) 2).1⟩
 clear hK K
 try simp only [puX]
 refine tkX 6 (v := ?_) rfl ?v6 ?_
 case v6 => (intro w hSw; (try dsimp only at hSw); go_simp; try with_reducible rfl)
 try simp only [puX]
 refine tkX 7 (v := ?_) rfl ?v7 ?_
 case v7 => (intro w hSw; (try dsimp only at hSw); go_simp; try with_reducible rfl)
 try simp only [puX]
 refine wpAnyH_done (by kernel_rfl) ?_ _
 simp only [NoPanic]
 have HW3 := veil (fr_key3 w2 w.heap.size z.2)
 have HB4 := veil (drew_heap HB3.out)
 have HF4 : Hid (Fr (fun j => j = w.heap.size) w2 (key3 w2 w.heap.size z.2).drew) := ⟨HW3.out.os, HW3.out.tape, HW3.out.output, HW3.out.size, HW3.out.block⟩
 clear HB3 HW3 k20 k21 k22 f20 f21 f22 hHeld
 have hkk : (((w2.setCell ⟨w.heap.size, 0, none⟩ (.bool z.2.e)).setCell ⟨w.heap.size, 1, none⟩ (.int .u64 z.2.d)).setCell ⟨w.heap.size, 2, none⟩ (.int .u8 z.2.l)).drew = (key3 w2 w.heap.size z.2).drew := rfl
 rw [hkk]
 generalize (key3 w2 w.heap.size z.2).drew = W4 at *
 have g0 := (blk_cell HB4.out 0).1
 have g1 := (blk_cell HB4.out 1).1
 have g2 := (blk_cell HB4.out 2).1
 simp at g0 g1 g2
 go_wp2
 refine bodyPost_ret (v := .tuple #[.int .i64 (z.1 : Int), .agg #[.bool z.2.e, .int .u64 z.2.d, .int .u8 z.2.l], .int .i64 (c : Int), .bool true]) ?_ rfl ?_
 ·simp [results, Tryz.f122, go_sem, g0, g1, g2]
 refine ⟨rfl, t, HQ2.out.frame HF4.out (fun k hk e => ?_), ?_⟩
 ·have := HOWN.out t k hk; omega
 ·have hA : Fr (fun k => k = mb ∨ x.own k) w w2 := (Fr.of_below' HB1.out).trans HF2.out
  exact ⟨HF4.out.os.trans hA.os, HF4.out.tape.trans hA.tape, HF4.out.output.trans hA.output, Nat.le_trans hA.size HF4.out.size, fun k hk hn => (HF4.out.block k (Nat.lt_of_lt_of_le hk hA.size) (fun e => by omega)).trans (hA.block k hk hn)⟩
end
end Go.Proofs.YtjlbmmiomfpgiaaGreatDoor
