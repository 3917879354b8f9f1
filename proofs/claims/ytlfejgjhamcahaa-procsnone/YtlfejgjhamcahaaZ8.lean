/-
  Put: an id that stood nowhere.
-/
import Derived.Test.YtlfejgjhamcahaaZ7
namespace Go.Proofs.Ytlfejgjhamcahaa
open Go.RowKit Go.Lib
set_option linter.unusedVariables false
attribute [local go_sem ↓] Go.wp_at_zero Go.wp_at_succ

theorem below_post {B : Nat} {w0 w w' : World} (h : Below B w0 w) (a : w'.heap = w.heap) (b : w'.os = w.os) (c : w'.tape = w.tape) (d : w'.output = w.output) : Below B w0 w' :=
  ⟨b.trans h.os, c.trans h.tape, d.trans h.output, by rw [a]; exact h.size, fun k hk => by rw [a]; exact h.block k hk⟩
theorem wf_nat {i : Nat} (h : i ≤ 2048) : (Lit.int .i64 (i : Int)).wf = true := by
  have h1 : IntKind.i64.min = -9223372036854775808 := by decide
  have h2 : IntKind.i64.max = 9223372036854775807 := by decide
  simp [Lit.wf, h1, h2]
  omega
section
variable {w w' wa wb : World} {base lo pb mb n np q T g cap : Nat} {v : Value} {H : List Hd}
theorem IsP.view (h : IsP w base lo pb mb n np q (.slice (some ⟨g, 0, none⟩) (np + 1) cap) H) : w.cell? ⟨pb, 0, none⟩ = some (.slice (some ⟨g, 0, none⟩) (np + 1) cap) ∧ w.cell? ⟨pb, 1, none⟩ = some (.map (some mb)) ∧ w.cell? ⟨pb, 2, none⟩ = some (.int .i64 (n : Int)) ∧ (∀ (i : Nat) (x : Hd), H[i]? = some x → w.cell? ⟨g, i, none⟩ = some (.pointer (some ⟨x.sb, 0, none⟩))) ∧ g < w.heap.size := by
  refine ⟨h.c0, h.c1, h.c2, ?_⟩
  obtain ⟨g', cap', e, _, h2, h3⟩ := h.rows
  simp at e
  obtain ⟨rfl, _⟩ := e
  exact ⟨h3, h2⟩
theorem boxP (h : IsQ w base lo pb mb n np q v T H) (k : Ke.K) : ∀ W, Below (w.heap.size + 1) (w.alloc (.cells #[.bool k.e, .int .u64 k.d, .int .u8 k.l] 25)) W → IsQ W base lo pb mb n np q v T H ∧ (W.cell? ⟨w.heap.size, 0, none⟩ = some (.bool k.e) ∧ W.cell? ⟨w.heap.size, 1, none⟩ = some (.int .u64 k.d) ∧ W.cell? ⟨w.heap.size, 2, none⟩ = some (.int .u8 k.l)) ∧ w.heap.size + 1 ≤ W.heap.size ∧ Below w.heap.size w W := fun W hW => by
  have hb : Below w.heap.size w W := ((Below.refl _ _).alloc (Nat.le_refl _) _).trans (hW.mono (by omega))
  refine ⟨h.below hb, ⟨?_, ?_, ?_⟩, by have := hW.size; simpa using this, hb⟩
  · rw [hW.cell (p := ⟨w.heap.size, 0, none⟩) (by simp), Ph.cell_new]; rfl
  · rw [hW.cell (p := ⟨w.heap.size, 1, none⟩) (by simp), Ph.cell_new]; rfl
  · rw [hW.cell (p := ⟨w.heap.size, 2, none⟩) (by simp), Ph.cell_new]; rfl
/-- A place's set is put to, by Put: all that is wanted behind it. -/
theorem put_way (h : IsQ w base lo pb mb n np q (.slice (some ⟨g, 0, none⟩) (np + 1) cap) T H) (hT : T ≤ 1000) {i : Nat} {x : Hd} (hx : H[i]? = some x) (id : Nat) (hi : id < n) (k : Ke.K) (hr : Ke.rightK k = true) (hk : k.ok) (hno : keyOf x.M id = none) (hl : x.M.length < moP np n q i) :
    ∀ W, Below (w.heap.size + 1) (w.alloc (.cells #[.bool k.e, .int .u64 k.d, .int .u8 k.l] 25)) W →
    Calls Try.prog 50 #[.pointer (some ⟨x.sb, 0, none⟩), .int .i64 (id : Int), .agg #[.bool k.e, .int .u64 k.d, .int .u8 k.l]] W fun e w' => e = .returned (.int .i64 0) ∧
      (w'.cell? ⟨pb, 0, none⟩ = some (.slice (some ⟨g, 0, none⟩) (np + 1) cap) ∧ w'.cell? ⟨g, i, none⟩ = some (.pointer (some ⟨x.sb, 0, none⟩)) ∧ w'.cell? ⟨w.heap.size, 0, none⟩ = some (.bool k.e) ∧ w'.cell? ⟨w.heap.size, 1, none⟩ = some (.int .u64 k.d) ∧ w'.cell? ⟨w.heap.size, 2, none⟩ = some (.int .u8 k.l)) ∧
      w'.cell? ⟨pb, 1, none⟩ = some (.map (some mb)) ∧ IsM w' mb (whereF n H 0) (sumH H) ∧ (x.to (x.turn + 1) (put (id, k) x.M)).is w' n (moP np n q i) ∧ Fr x.own w w' := fun W hW => by
  obtain ⟨hQ, ⟨k0, k1, k2⟩, hz, hb⟩ := boxP h k W hW
  have hs := hQ.p.sets.it i x hx
  obtain ⟨c0, c1, _, c3, hgl⟩ := hQ.p.view
  have hsp := hQ.p.sep i x hx
  have hne := hQ.p.ne
  have hbl := (h.p.sets.it i x hx).blocks
  refine (put_new hs (by have := h.tn i x hx; omega) id k hi hr hk hno hl).mono ?_
  rintro e w1 ⟨rfl, h1, hf⟩
  have hf' : Fr x.own W w1 := hf
  have nb : ¬ x.own w.heap.size := fun q => by have := hbl _ q; omega
  have ng : ¬ x.own g := fun q => (hsp g q).1 rfl
  have npb : ¬ x.own pb := fun q => (hsp pb q).2.1 rfl
  have nm : ¬ x.own mb := fun q => (hsp mb q).2.2 rfl
  have hpl := hQ.p.pbl
  refine ⟨rfl, ⟨(hf'.cell (a := ⟨pb, 0, none⟩) hpl npb).trans c0, (hf'.cell (a := ⟨g, i, none⟩) hgl ng).trans (c3 i x hx), (hf'.cell (a := ⟨w.heap.size, 0, none⟩) (by show w.heap.size < _; omega) nb).trans k0, (hf'.cell (a := ⟨w.heap.size, 1, none⟩) (by show w.heap.size < _; omega) nb).trans k1, (hf'.cell (a := ⟨w.heap.size, 2, none⟩) (by show w.heap.size < _; omega) nb).trans k2⟩,
    (hf'.cell (a := ⟨pb, 1, none⟩) hpl npb).trans c1, hQ.p.map.block (hf'.block _ hQ.p.map.lt nm), h1, (Fr.of_below' hb).trans hf'⟩
theorem phasY (h : IsP w base lo pb mb n np q v H) (p : Nat) (hp : p < np) :
    Calls Try.prog 41 #[.pointer (some ⟨pb, 0, none⟩), .int .i64 (p : Int)] w fun e w' => e = .returned (.bool true) ∧ w' = w := by
  have := phas_ok h (p : Int)
  rw [decide_eq_true ⟨by omega, by omega⟩] at this
  exact this
/-- What Put leaves. -/
def PutTo (w w' : World) (base lo pb mb n np q : Nat) (v : Value) (T : Nat) (H : List Hd) (i : Nat) (x : Hd) (M : List En) : Prop :=
  IsQ w' base lo pb mb n np q v (T + 1) (H.set i (x.to (x.turn + 1) M)) ∧ Fr (fun k => k = mb ∨ x.own k) w w'
theorem put_done (h : IsQ w base lo pb mb n np q v T H) {i : Nat} {x : Hd} (hx : H[i]? = some x) {id : Nat} (hi : id < n) {k : Ke.K} (hw : whereF n H 0 (id : Int) = none)
    (hy : (x.to (x.turn + 1) (put (id, k) x.M)).is wa n (moP np n q i)) (hf : Fr x.own w wa) (hg : wa.grownBy wb (some mb)) (hm : IsM wb mb (setF (whereF n H 0) (id : Int) (some (i : Int))) (if (whereF n H 0 (id : Int)).isSome then sumH H else sumH H + 1)) :
    PutTo w wb base lo pb mb n np q v T H i x (put (id, k) x.M) := by
  obtain ⟨u1, u2⟩ := where_put (y := x.to (x.turn + 1) (put (id, k) x.M)) h.un hx hi rfl hw
  refine h.turned hx (Nat.le_refl _) hf hy ⟨hg.os, hg.tape, hg.output, hg.size, fun j hj hn => hg.block j hj (fun e => hn (Option.some.inj e))⟩ u1 ?_
  rw [u2]
  have hs := sumH_set (y := x.to (x.turn + 1) (put (id, k) x.M)) hx
  have e : sumH (H.set i (x.to (x.turn + 1) (put (id, k) x.M))) = sumH H + 1 := by
    have : (x.to (x.turn + 1) (put (id, k) x.M)).M.length = x.M.length + 1 := len_put
    omega
  rw [e]
  rw [hw] at hm
  exact hm
set_option maxHeartbeats 4000000 in
set_option maxRecDepth 20000 in
theorem pput_here (h : IsQ w base lo pb mb n np q (.slice (some ⟨g, 0, none⟩) (np + 1) cap) T H) (hT : T ≤ 1000) (p : Nat) (hp : p < np) {x : Hd} (hx : H[p]? = some x) (id : Nat) (hi : id < n) (k : Ke.K) (hr : Ke.rightK k = true) (hk : k.ok) (hw : whereF n H 0 (id : Int) = none) (hl : x.M.length < moP np n q p) :
    Calls Try.prog 26 #[.pointer (some ⟨pb, 0, none⟩), .int .i64 (p : Int), .int .i64 (id : Int), .agg #[.bool k.e, .int .u64 k.d, .int .u8 k.l]] w fun e w' => e = .returned (.int .i64 0) ∧ PutTo w w' base lo pb mb n np q (.slice (some ⟨g, 0, none⟩) (np + 1) cap) T H p x (put (id, k) x.M) := by
  have hn1 := h.p.n1
  have hnp1 := h.p.np1
  have HX := veil (boxP h k)
  have HPUT := veil (put_way h hT hx id hi k hr hk (whereF_no hw hi hx) hl)
  have HDONE := veil (fun wa wb a b c d => put_done (wa := wa) (wb := wb) (k := k) h hx hi hw a b c d)
  have HR := veil (fun W => by have := Ke.right_ok W k; rw [hr] at this; exact this)
  have hsum := h.p.sum_le
  have HW := veil hw
  have wfi := wf_nat (i := id) (by omega)
  have wfp := wf_nat (i := p) (by omega)
  have hA0 : Below (w.heap.size + 1) (w.alloc (.cells #[.bool k.e, .int .u64 k.d, .int .u8 k.l] 25)) (w.alloc (.cells #[.bool k.e, .int .u64 k.d, .int .u8 k.l] 25)) := Below.refl _ _
  have HA := veil hA0
  obtain ⟨hQ0, ⟨k0, k1, k2⟩, hz0, _⟩ := boxP h k _ hA0
  have HHAS := veil (phasY hQ0.p p hp)
  obtain ⟨c0, c1, c2, _, _⟩ := hQ0.p.view
  have i0 : ¬ (id : Int) < 0 := by omega
  have i1 : ¬ (n : Int) ≤ (id : Int) := by omega
  have i2 : (id : Int) < (n : Int) := by omega
  have b1 : (p : Int) < (np : Int) + 1 := by omega
  have b2 : (p : Int) < ((np + 1 : Nat) : Int) := by omega
  have b3 : p < np + 1 := by omega
  have b4 : ¬ (p : Int) < 0 := by omega
  have HXX := veil hx
  clear h hQ0 hA0 hw hx
  go_enter Try.func26, Try.ntmps26
  go_wp2_with (first
    | (go_at_call 41; refine (HHAS.out).mono ?_; rintro e w1 ⟨rfl, hw1⟩; replace hw1 := hw1.symm; subst hw1)
    | (go_at_call 49; refine (HR.out _).mono ?_; rintro e w2 ⟨rfl, hb2⟩; have HB2 := veil (HA.out.trans (hb2.mono hz0)); obtain ⟨hQ2, ⟨k20, k21, k22⟩, hz2, _⟩ := HX.out _ HB2.out; have hl2 := hQ2.p.map.look id wfi; rw [HW.out] at hl2; simp only [Option.getD_none, Option.isSome_none] at hl2; obtain ⟨c20, c21, c22, c23, _⟩ := hQ2.p.view; have c24 := c23 p x HXX.out; clear hQ2 c23 hb2))
  go_region_held3 (fun w' => w'.cell? ⟨pb, 0, none⟩ = some (.slice (some ⟨g, 0, none⟩) (np + 1) cap) ∧ w'.cell? ⟨g, p, none⟩ = some (.pointer (some ⟨x.sb, 0, none⟩)) ∧ w'.cell? ⟨w.heap.size, 0, none⟩ = some (.bool k.e) ∧ w'.cell? ⟨w.heap.size, 1, none⟩ = some (.int .u64 k.d) ∧ w'.cell? ⟨w.heap.size, 2, none⟩ = some (.int .u8 k.l))
    (first
      | exact S3.out
      | go_keep)
    (first
      | (go_at_call 50; refine (HPUT.out _ (by exact below_post HB2.out rfl rfl rfl rfl)).mono ?_; rintro e w3 ⟨rfl, hs3, c31, hm3, hy3, hf3⟩; have S3 := veil hs3; have HM3 := veil hm3; have HY3 := veil hy3; have HF3 := veil hf3; clear hs3 hm3 hy3 hf3))
  go_wp2_with (first
    | (at_mapUpdate; refine wpList_store_m rfl _ _ _ rfl (by exact HM3.out) (by unfold maxLen; omega) (id : Int) (p : Int) wfi wfp rfl rfl rfl ?_; intro w4 hm4 hg4; have HD := veil (HDONE.out _ _ HY3.out HF3.out (by exact hg4) hm4); clear hm4 hg4))
  go_ret
  exact ⟨rfl, HD.out⟩
end
end Go.Proofs.Ytlfejgjhamcahaa
