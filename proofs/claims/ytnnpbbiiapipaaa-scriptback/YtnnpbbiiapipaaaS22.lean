/-
  ScriptSame walked.
-/
import Derived.Test.YtnnpbbiiapipaaaS16
import Derived.Test.YtnnpbbiiapipaaaS3r
import Derived.OrdersHeld
namespace Go.Proofs.Ytnnpbbiiapipaaa
open Go.RowKit Go.Lib
set_option linter.unusedVariables false
/-- Ten cells of a block. -/
def Ten (W : World) (k : Nat) (v0 v1 v2 v3 v4 v5 v6 v7 v8 v9 : Value) : Prop := W.cell? ⟨k, 0, none⟩ = some (v0) ∧ W.cell? ⟨k, 1, none⟩ = some (v1) ∧ W.cell? ⟨k, 2, none⟩ = some (v2) ∧ W.cell? ⟨k, 3, none⟩ = some (v3) ∧ W.cell? ⟨k, 4, none⟩ = some (v4) ∧ W.cell? ⟨k, 5, none⟩ = some (v5) ∧ W.cell? ⟨k, 6, none⟩ = some (v6) ∧ W.cell? ⟨k, 7, none⟩ = some (v7) ∧ W.cell? ⟨k, 8, none⟩ = some (v8) ∧ W.cell? ⟨k, 9, none⟩ = some (v9)
theorem ten_below {W W1 : World} {k : Nat} {v0 v1 v2 v3 v4 v5 v6 v7 v8 v9 : Value} (hb : Below W.heap.size W W1) (h : W.cell? ⟨k, 0, none⟩ = some (v0) ∧ W.cell? ⟨k, 1, none⟩ = some (v1) ∧ W.cell? ⟨k, 2, none⟩ = some (v2) ∧ W.cell? ⟨k, 3, none⟩ = some (v3) ∧ W.cell? ⟨k, 4, none⟩ = some (v4) ∧ W.cell? ⟨k, 5, none⟩ = some (v5) ∧ W.cell? ⟨k, 6, none⟩ = some (v6) ∧ W.cell? ⟨k, 7, none⟩ = some (v7) ∧ W.cell? ⟨k, 8, none⟩ = some (v8) ∧ W.cell? ⟨k, 9, none⟩ = some (v9)) : W1.cell? ⟨k, 0, none⟩ = some (v0) ∧ W1.cell? ⟨k, 1, none⟩ = some (v1) ∧ W1.cell? ⟨k, 2, none⟩ = some (v2) ∧ W1.cell? ⟨k, 3, none⟩ = some (v3) ∧ W1.cell? ⟨k, 4, none⟩ = some (v4) ∧ W1.cell? ⟨k, 5, none⟩ = some (v5) ∧ W1.cell? ⟨k, 6, none⟩ = some (v6) ∧ W1.cell? ⟨k, 7, none⟩ = some (v7) ∧ W1.cell? ⟨k, 8, none⟩ = some (v8) ∧ W1.cell? ⟨k, 9, none⟩ = some (v9) := by
  obtain ⟨h0, h1, h2, h3, h4, h5, h6, h7, h8, h9⟩ := h
  have hk := World.block_lt_of_cell? W _ h0
  exact ⟨(hb.cell (p := ⟨k, 0, none⟩) hk).trans h0, (hb.cell (p := ⟨k, 1, none⟩) hk).trans h1, (hb.cell (p := ⟨k, 2, none⟩) hk).trans h2, (hb.cell (p := ⟨k, 3, none⟩) hk).trans h3, (hb.cell (p := ⟨k, 4, none⟩) hk).trans h4, (hb.cell (p := ⟨k, 5, none⟩) hk).trans h5, (hb.cell (p := ⟨k, 6, none⟩) hk).trans h6, (hb.cell (p := ⟨k, 7, none⟩) hk).trans h7, (hb.cell (p := ⟨k, 8, none⟩) hk).trans h8, (hb.cell (p := ⟨k, 9, none⟩) hk).trans h9⟩
theorem kp20 {w W W1 : World} {k l : Nat} {v0 v1 v2 v3 v4 v5 v6 v7 v8 v9 u0 u1 u2 u3 u4 u5 u6 u7 u8 u9 : Value} (hb : Below W.heap.size W W1) (h : (W.cell? ⟨k, 0, none⟩ = some (v0) ∧ W.cell? ⟨k, 1, none⟩ = some (v1) ∧ W.cell? ⟨k, 2, none⟩ = some (v2) ∧ W.cell? ⟨k, 3, none⟩ = some (v3) ∧ W.cell? ⟨k, 4, none⟩ = some (v4) ∧ W.cell? ⟨k, 5, none⟩ = some (v5) ∧ W.cell? ⟨k, 6, none⟩ = some (v6) ∧ W.cell? ⟨k, 7, none⟩ = some (v7) ∧ W.cell? ⟨k, 8, none⟩ = some (v8) ∧ W.cell? ⟨k, 9, none⟩ = some (v9)) ∧ (W.cell? ⟨l, 0, none⟩ = some (u0) ∧ W.cell? ⟨l, 1, none⟩ = some (u1) ∧ W.cell? ⟨l, 2, none⟩ = some (u2) ∧ W.cell? ⟨l, 3, none⟩ = some (u3) ∧ W.cell? ⟨l, 4, none⟩ = some (u4) ∧ W.cell? ⟨l, 5, none⟩ = some (u5) ∧ W.cell? ⟨l, 6, none⟩ = some (u6) ∧ W.cell? ⟨l, 7, none⟩ = some (u7) ∧ W.cell? ⟨l, 8, none⟩ = some (u8) ∧ W.cell? ⟨l, 9, none⟩ = some (u9)) ∧ Below w.heap.size w W) : (W1.cell? ⟨k, 0, none⟩ = some (v0) ∧ W1.cell? ⟨k, 1, none⟩ = some (v1) ∧ W1.cell? ⟨k, 2, none⟩ = some (v2) ∧ W1.cell? ⟨k, 3, none⟩ = some (v3) ∧ W1.cell? ⟨k, 4, none⟩ = some (v4) ∧ W1.cell? ⟨k, 5, none⟩ = some (v5) ∧ W1.cell? ⟨k, 6, none⟩ = some (v6) ∧ W1.cell? ⟨k, 7, none⟩ = some (v7) ∧ W1.cell? ⟨k, 8, none⟩ = some (v8) ∧ W1.cell? ⟨k, 9, none⟩ = some (v9)) ∧ (W1.cell? ⟨l, 0, none⟩ = some (u0) ∧ W1.cell? ⟨l, 1, none⟩ = some (u1) ∧ W1.cell? ⟨l, 2, none⟩ = some (u2) ∧ W1.cell? ⟨l, 3, none⟩ = some (u3) ∧ W1.cell? ⟨l, 4, none⟩ = some (u4) ∧ W1.cell? ⟨l, 5, none⟩ = some (u5) ∧ W1.cell? ⟨l, 6, none⟩ = some (u6) ∧ W1.cell? ⟨l, 7, none⟩ = some (u7) ∧ W1.cell? ⟨l, 8, none⟩ = some (u8) ∧ W1.cell? ⟨l, 9, none⟩ = some (u9)) ∧ Below w.heap.size w W1 :=
  ⟨ten_below hb h.1, ten_below hb h.2.1, h.2.2.trans (hb.mono h.2.2.size)⟩
theorem kp20d {w W : World} {k l : Nat} {v0 v1 v2 v3 v4 v5 v6 v7 v8 v9 u0 u1 u2 u3 u4 u5 u6 u7 u8 u9 : Value} (h : (W.cell? ⟨k, 0, none⟩ = some (v0) ∧ W.cell? ⟨k, 1, none⟩ = some (v1) ∧ W.cell? ⟨k, 2, none⟩ = some (v2) ∧ W.cell? ⟨k, 3, none⟩ = some (v3) ∧ W.cell? ⟨k, 4, none⟩ = some (v4) ∧ W.cell? ⟨k, 5, none⟩ = some (v5) ∧ W.cell? ⟨k, 6, none⟩ = some (v6) ∧ W.cell? ⟨k, 7, none⟩ = some (v7) ∧ W.cell? ⟨k, 8, none⟩ = some (v8) ∧ W.cell? ⟨k, 9, none⟩ = some (v9)) ∧ (W.cell? ⟨l, 0, none⟩ = some (u0) ∧ W.cell? ⟨l, 1, none⟩ = some (u1) ∧ W.cell? ⟨l, 2, none⟩ = some (u2) ∧ W.cell? ⟨l, 3, none⟩ = some (u3) ∧ W.cell? ⟨l, 4, none⟩ = some (u4) ∧ W.cell? ⟨l, 5, none⟩ = some (u5) ∧ W.cell? ⟨l, 6, none⟩ = some (u6) ∧ W.cell? ⟨l, 7, none⟩ = some (u7) ∧ W.cell? ⟨l, 8, none⟩ = some (u8) ∧ W.cell? ⟨l, 9, none⟩ = some (u9)) ∧ Below w.heap.size w W) : (W.drew.cell? ⟨k, 0, none⟩ = some (v0) ∧ W.drew.cell? ⟨k, 1, none⟩ = some (v1) ∧ W.drew.cell? ⟨k, 2, none⟩ = some (v2) ∧ W.drew.cell? ⟨k, 3, none⟩ = some (v3) ∧ W.drew.cell? ⟨k, 4, none⟩ = some (v4) ∧ W.drew.cell? ⟨k, 5, none⟩ = some (v5) ∧ W.drew.cell? ⟨k, 6, none⟩ = some (v6) ∧ W.drew.cell? ⟨k, 7, none⟩ = some (v7) ∧ W.drew.cell? ⟨k, 8, none⟩ = some (v8) ∧ W.drew.cell? ⟨k, 9, none⟩ = some (v9)) ∧ (W.drew.cell? ⟨l, 0, none⟩ = some (u0) ∧ W.drew.cell? ⟨l, 1, none⟩ = some (u1) ∧ W.drew.cell? ⟨l, 2, none⟩ = some (u2) ∧ W.drew.cell? ⟨l, 3, none⟩ = some (u3) ∧ W.drew.cell? ⟨l, 4, none⟩ = some (u4) ∧ W.drew.cell? ⟨l, 5, none⟩ = some (u5) ∧ W.drew.cell? ⟨l, 6, none⟩ = some (u6) ∧ W.drew.cell? ⟨l, 7, none⟩ = some (u7) ∧ W.drew.cell? ⟨l, 8, none⟩ = some (u8) ∧ W.drew.cell? ⟨l, 9, none⟩ = some (u9)) ∧ Below w.heap.size w W.drew := ⟨h.1, h.2.1, below_drew h.2.2⟩
noncomputable def eqB (p q : En) : Bool := @decide (p = q) (Classical.propDecidable _)
theorem eqB_comm (p q : En) : eqB q p = eqB p q := by
  unfold eqB
  by_cases h : p = q
  · subst h; rfl
  · have h' : ¬ q = p := fun e => h e.symm
    simp [h, h']
theorem eqB_self (p : En) : eqB p p = true := by unfold eqB; simp
theorem same_b (W : World) (p q : En) (a b : Option Addr) (ca cb : Nat) (hp : Cod W a p.code) (hq : Cod W b q.code) (hl : p.code.length < 9223372036854775808) :
    Calls Try.prog 21 #[.agg #[.int .i64 p.d, .int .i64 p.p, .int .u64 (p.dr : Int), .int .i64 p.n, .slice a p.code.length ca, .int .u64 (p.bu : Int), .int .u64 (p.pe : Int), .int .i64 p.pr, .int .u8 (p.lv : Int), .int .i64 p.sv], .agg #[.int .i64 q.d, .int .i64 q.p, .int .u64 (q.dr : Int), .int .i64 q.n, .slice b q.code.length cb, .int .u64 (q.bu : Int), .int .u64 (q.pe : Int), .int .i64 q.pr, .int .u8 (q.lv : Int), .int .i64 q.sv]] W fun e w' => e = .returned (.bool (eqB p q)) ∧ Below W.heap.size W w' := (same_ok W p q a b ca cb hp hq hl).mono fun e w' ⟨B, he, hB, hb⟩ => ⟨by
    rw [he]
    congr 2
    unfold eqB
    cases B
    · have h : ¬ p = q := fun q => by have := hB.2 q; cases this
      simp [h]
    · have h : p = q := hB.1 rfl
      simp [h], hb⟩
theorem rsame_b (W : World) (p q : En) (a b : Option Addr) (ca cb : Nat) (hp : Cod W a p.code) (hq : Cod W b q.code) (hl : p.code.length < 9223372036854775808) :
    Calls Try.prog 20 #[.agg #[.int .i64 p.d, .int .i64 p.p, .int .u64 (p.dr : Int), .int .i64 p.n, .slice a p.code.length ca, .int .u64 (p.bu : Int), .int .u64 (p.pe : Int), .int .i64 p.pr, .int .u8 (p.lv : Int), .int .i64 p.sv], .agg #[.int .i64 q.d, .int .i64 q.p, .int .u64 (q.dr : Int), .int .i64 q.n, .slice b q.code.length cb, .int .u64 (q.bu : Int), .int .u64 (q.pe : Int), .int .i64 q.pr, .int .u8 (q.lv : Int), .int .i64 q.sv]] W fun e w' => e = .returned (.bool (eqB p q)) ∧ Below W.heap.size W w' := (rsame_ok W p q a b ca cb hp hq hl).mono fun e w' ⟨B, he, hB, hb⟩ => ⟨by
    rw [he]
    congr 2
    unfold eqB
    cases B
    · have h : ¬ p = q := fun q => by have := hB.2 q; cases this
      simp [h]
    · have h : p = q := hB.1 rfl
      simp [h], hb⟩
theorem box_two (w : World) (c c' : Array Value) (t t' : TypeId) : (∀ i u, c[i]? = some u → ((w.alloc (.cells c t)).alloc (.cells c' t')).cell? ⟨w.heap.size, i, none⟩ = some u) ∧ (∀ i u, c'[i]? = some u → ((w.alloc (.cells c t)).alloc (.cells c' t')).cell? ⟨w.heap.size + 1, i, none⟩ = some u) := by
  refine ⟨fun i u hu => ((bx_new w c t).alloc _).cell i u hu, fun i u hu => ?_⟩
  have b := bx_new (w.alloc (.cells c t)) c' t'
  rw [show (w.alloc (.cells c t)).heap.size = w.heap.size + 1 by simp] at b
  exact b.cell i u hu
set_option maxHeartbeats 8000000 in
theorem same_walk' (w : World) (x y : En) (a b : Option Addr) (ca cb : Nat) (hx : Cod w a x.code) (hy : Cod w b y.code) (lx : x.code.length < 9223372036854775808) (ly : y.code.length < 9223372036854775808) (dx : (Lit.int .i64 x.d).wf = true) (dy : (Lit.int .i64 y.d).wf = true) :
    Calls Try.prog 8 #[.agg #[.int .i64 x.d, .int .i64 x.p, .int .u64 (x.dr : Int), .int .i64 x.n, .slice a x.code.length ca, .int .u64 (x.bu : Int), .int .u64 (x.pe : Int), .int .i64 x.pr, .int .u8 (x.lv : Int), .int .i64 x.sv], .agg #[.int .i64 y.d, .int .i64 y.p, .int .u64 (y.dr : Int), .int .i64 y.n, .slice b y.code.length cb, .int .u64 (y.bu : Int), .int .u64 (y.pe : Int), .int .i64 y.pr, .int .u8 (y.lv : Int), .int .i64 y.sv]] w fun e w' => e = .returned (.bool true) ∧ Below w.heap.size w w' := by
  have HV := veil live_ok'
  have HW2 : Hid (∀ (c c' : Array Value) (t t' : TypeId), Below w.heap.size w ((w.alloc (.cells c t)).alloc (.cells c' t'))) := fun c c' t t' => below_two w c c' t t'
  by_cases h70 : 70 < x.code.length
  · have h70' : 70 < (x.code.length : Int) := by omega
    clear hx hy dx dy
    go_enter Try.func8, Try.ntmps8
    go_wp2_with (go_at_call 17; refine (HV.out _).mono ?_; rintro e w1 ⟨rfl, hb1⟩; have HB1 := veil ((HW2.out _ _ _ _).trans (hb1.mono (by simp; omega))); clear hb1)
    go_ret
    exact ⟨rfl, HB1.out⟩
  have h70' : ¬ 70 < (x.code.length : Int) := by omega
  by_cases k70 : 70 < y.code.length
  · have k70' : 70 < (y.code.length : Int) := by omega
    clear hx hy dx dy
    go_enter Try.func8, Try.ntmps8
    go_wp2_with (go_at_call 17; refine (HV.out _).mono ?_; rintro e w1 ⟨rfl, hb1⟩; have HB1 := veil ((HW2.out _ _ _ _).trans (hb1.mono (by simp; omega))); clear hb1)
    go_ret
    exact ⟨rfl, HB1.out⟩
  have k70' : ¬ 70 < (y.code.length : Int) := by omega
  have HXY : Hid (∀ W, Below w.heap.size w W → Calls Try.prog 21 #[.agg #[.int .i64 x.d, .int .i64 x.p, .int .u64 (x.dr : Int), .int .i64 x.n, .slice a x.code.length ca, .int .u64 (x.bu : Int), .int .u64 (x.pe : Int), .int .i64 x.pr, .int .u8 (x.lv : Int), .int .i64 x.sv], .agg #[.int .i64 y.d, .int .i64 y.p, .int .u64 (y.dr : Int), .int .i64 y.n, .slice b y.code.length cb, .int .u64 (y.bu : Int), .int .u64 (y.pe : Int), .int .i64 y.pr, .int .u8 (y.lv : Int), .int .i64 y.sv]] W fun e w' => e = .returned (.bool (eqB x y)) ∧ Below W.heap.size W w') := fun W hb => same_b W x y a b ca cb (hx.below hb) (hy.below hb) lx
  have HYX : Hid (∀ W, Below w.heap.size w W → Calls Try.prog 21 #[.agg #[.int .i64 y.d, .int .i64 y.p, .int .u64 (y.dr : Int), .int .i64 y.n, .slice b y.code.length cb, .int .u64 (y.bu : Int), .int .u64 (y.pe : Int), .int .i64 y.pr, .int .u8 (y.lv : Int), .int .i64 y.sv], .agg #[.int .i64 x.d, .int .i64 x.p, .int .u64 (x.dr : Int), .int .i64 x.n, .slice a x.code.length ca, .int .u64 (x.bu : Int), .int .u64 (x.pe : Int), .int .i64 x.pr, .int .u8 (x.lv : Int), .int .i64 x.sv]] W fun e w' => e = .returned (.bool (eqB x y)) ∧ Below W.heap.size W w') := fun W hb => by rw [← eqB_comm]; exact same_b W y x b a cb ca (hy.below hb) (hx.below hb) ly
  have HXX : Hid (∀ W, Below w.heap.size w W → Calls Try.prog 21 #[.agg #[.int .i64 x.d, .int .i64 x.p, .int .u64 (x.dr : Int), .int .i64 x.n, .slice a x.code.length ca, .int .u64 (x.bu : Int), .int .u64 (x.pe : Int), .int .i64 x.pr, .int .u8 (x.lv : Int), .int .i64 x.sv], .agg #[.int .i64 x.d, .int .i64 x.p, .int .u64 (x.dr : Int), .int .i64 x.n, .slice a x.code.length ca, .int .u64 (x.bu : Int), .int .u64 (x.pe : Int), .int .i64 x.pr, .int .u8 (x.lv : Int), .int .i64 x.sv]] W fun e w' => e = .returned (.bool true) ∧ Below W.heap.size W w') := fun W hb => by rw [← eqB_self x]; exact same_b W x x a a ca ca (hx.below hb) (hx.below hb) lx
  have HR : Hid (∀ W, Below w.heap.size w W → Calls Try.prog 20 #[.agg #[.int .i64 x.d, .int .i64 x.p, .int .u64 (x.dr : Int), .int .i64 x.n, .slice a x.code.length ca, .int .u64 (x.bu : Int), .int .u64 (x.pe : Int), .int .i64 x.pr, .int .u8 (x.lv : Int), .int .i64 x.sv], .agg #[.int .i64 y.d, .int .i64 y.p, .int .u64 (y.dr : Int), .int .i64 y.n, .slice b y.code.length cb, .int .u64 (y.bu : Int), .int .u64 (y.pe : Int), .int .i64 y.pr, .int .u8 (y.lv : Int), .int .i64 y.sv]] W fun e w' => e = .returned (.bool (eqB x y)) ∧ Below W.heap.size W w') := fun W hb => rsame_b W x y a b ca cb (hx.below hb) (hy.below hb) lx
  have HRX := veil (fun W => ref_ok W x a ca dx)
  have HRY := veil (fun W => ref_ok W y b cb dy)
  clear hx hy dx dy lx ly h70 k70
  generalize eqB x y = B at *
  obtain ⟨W0, hW0⟩ : ∃ W, W = (w.alloc (.cells #[.int .i64 x.d, .int .i64 x.p, .int .u64 (x.dr : Int), .int .i64 x.n, .slice a x.code.length ca, .int .u64 (x.bu : Int), .int .u64 (x.pe : Int), .int .i64 x.pr, .int .u8 (x.lv : Int), .int .i64 x.sv] 36)).alloc (.cells #[.int .i64 y.d, .int .i64 y.p, .int .u64 (y.dr : Int), .int .i64 y.n, .slice b y.code.length cb, .int .u64 (y.bu : Int), .int .u64 (y.pe : Int), .int .i64 y.pr, .int .u8 (y.lv : Int), .int .i64 y.sv] 36) := ⟨_, rfl⟩
  have HS0 : Hid ((W0.cell? ⟨w.heap.size, 0, none⟩ = some (.int .i64 x.d) ∧ W0.cell? ⟨w.heap.size, 1, none⟩ = some (.int .i64 x.p) ∧ W0.cell? ⟨w.heap.size, 2, none⟩ = some (.int .u64 (x.dr : Int)) ∧ W0.cell? ⟨w.heap.size, 3, none⟩ = some (.int .i64 x.n) ∧ W0.cell? ⟨w.heap.size, 4, none⟩ = some (.slice a x.code.length ca) ∧ W0.cell? ⟨w.heap.size, 5, none⟩ = some (.int .u64 (x.bu : Int)) ∧ W0.cell? ⟨w.heap.size, 6, none⟩ = some (.int .u64 (x.pe : Int)) ∧ W0.cell? ⟨w.heap.size, 7, none⟩ = some (.int .i64 x.pr) ∧ W0.cell? ⟨w.heap.size, 8, none⟩ = some (.int .u8 (x.lv : Int)) ∧ W0.cell? ⟨w.heap.size, 9, none⟩ = some (.int .i64 x.sv)) ∧ (W0.cell? ⟨w.heap.size + 1, 0, none⟩ = some (.int .i64 y.d) ∧ W0.cell? ⟨w.heap.size + 1, 1, none⟩ = some (.int .i64 y.p) ∧ W0.cell? ⟨w.heap.size + 1, 2, none⟩ = some (.int .u64 (y.dr : Int)) ∧ W0.cell? ⟨w.heap.size + 1, 3, none⟩ = some (.int .i64 y.n) ∧ W0.cell? ⟨w.heap.size + 1, 4, none⟩ = some (.slice b y.code.length cb) ∧ W0.cell? ⟨w.heap.size + 1, 5, none⟩ = some (.int .u64 (y.bu : Int)) ∧ W0.cell? ⟨w.heap.size + 1, 6, none⟩ = some (.int .u64 (y.pe : Int)) ∧ W0.cell? ⟨w.heap.size + 1, 7, none⟩ = some (.int .i64 y.pr) ∧ W0.cell? ⟨w.heap.size + 1, 8, none⟩ = some (.int .u8 (y.lv : Int)) ∧ W0.cell? ⟨w.heap.size + 1, 9, none⟩ = some (.int .i64 y.sv)) ∧ Below w.heap.size w W0) := by
    rw [hW0]
    obtain ⟨k1, k2⟩ := box_two w #[.int .i64 x.d, .int .i64 x.p, .int .u64 (x.dr : Int), .int .i64 x.n, .slice a x.code.length ca, .int .u64 (x.bu : Int), .int .u64 (x.pe : Int), .int .i64 x.pr, .int .u8 (x.lv : Int), .int .i64 x.sv] #[.int .i64 y.d, .int .i64 y.p, .int .u64 (y.dr : Int), .int .i64 y.n, .slice b y.code.length cb, .int .u64 (y.bu : Int), .int .u64 (y.pe : Int), .int .i64 y.pr, .int .u8 (y.lv : Int), .int .i64 y.sv] 36 36
    exact ⟨⟨k1 0 _ rfl, k1 1 _ rfl, k1 2 _ rfl, k1 3 _ rfl, k1 4 _ rfl, k1 5 _ rfl, k1 6 _ rfl, k1 7 _ rfl, k1 8 _ rfl, k1 9 _ rfl⟩, ⟨k2 0 _ rfl, k2 1 _ rfl, k2 2 _ rfl, k2 3 _ rfl, k2 4 _ rfl, k2 5 _ rfl, k2 6 _ rfl, k2 7 _ rfl, k2 8 _ rfl, k2 9 _ rfl⟩, HW2.out _ _ _ _⟩
  have HW0 := veil hW0
  clear hW0
  go_enter Try.func8, Try.ntmps8
  go_wp2_with fail
  rw [← HW0.out]
  clear HW0 HW2
  refine wp_region_held_drew (S := (fun W => (W.cell? ⟨w.heap.size, 0, none⟩ = some (.int .i64 x.d) ∧ W.cell? ⟨w.heap.size, 1, none⟩ = some (.int .i64 x.p) ∧ W.cell? ⟨w.heap.size, 2, none⟩ = some (.int .u64 (x.dr : Int)) ∧ W.cell? ⟨w.heap.size, 3, none⟩ = some (.int .i64 x.n) ∧ W.cell? ⟨w.heap.size, 4, none⟩ = some (.slice a x.code.length ca) ∧ W.cell? ⟨w.heap.size, 5, none⟩ = some (.int .u64 (x.bu : Int)) ∧ W.cell? ⟨w.heap.size, 6, none⟩ = some (.int .u64 (x.pe : Int)) ∧ W.cell? ⟨w.heap.size, 7, none⟩ = some (.int .i64 x.pr) ∧ W.cell? ⟨w.heap.size, 8, none⟩ = some (.int .u8 (x.lv : Int)) ∧ W.cell? ⟨w.heap.size, 9, none⟩ = some (.int .i64 x.sv)) ∧ (W.cell? ⟨w.heap.size + 1, 0, none⟩ = some (.int .i64 y.d) ∧ W.cell? ⟨w.heap.size + 1, 1, none⟩ = some (.int .i64 y.p) ∧ W.cell? ⟨w.heap.size + 1, 2, none⟩ = some (.int .u64 (y.dr : Int)) ∧ W.cell? ⟨w.heap.size + 1, 3, none⟩ = some (.int .i64 y.n) ∧ W.cell? ⟨w.heap.size + 1, 4, none⟩ = some (.slice b y.code.length cb) ∧ W.cell? ⟨w.heap.size + 1, 5, none⟩ = some (.int .u64 (y.bu : Int)) ∧ W.cell? ⟨w.heap.size + 1, 6, none⟩ = some (.int .u64 (y.pe : Int)) ∧ W.cell? ⟨w.heap.size + 1, 7, none⟩ = some (.int .i64 y.pr) ∧ W.cell? ⟨w.heap.size + 1, 8, none⟩ = some (.int .u8 (y.lv : Int)) ∧ W.cell? ⟨w.heap.size + 1, 9, none⟩ = some (.int .i64 y.sv)) ∧ Below w.heap.size w W)) (by kernel_rfl) (kp20d HS0.out) (fun hHeld => ?_)
  refine wpAnyH_ready (rs := [0]) (by kernel_rfl) (by simp) ?_
  refine AllReadyH.cons rfl (fun K hK => ?_) AllReadyH.nil
  go_simp
  have hS := hHeld
  clear hHeld
  refine (HV.out _).mono ?_
  rintro e w1 ⟨rfl, hb1⟩
  have hHeld := kp20 hb1 hS
  clear hS hb1
  dsimp only
  refine hK.out _ _ ?_ (fun hHeld => ?_)
  · exact hHeld
  clear hK K
  try simp only [Act.put, List.setIfInBounds_toArray, List.set_cons_zero, List.set_cons_succ, List.getElem_toArray, List.getElem_cons_succ, List.getElem_cons_zero]
  refine wpAnyH_take (i := 1) (v := ?_) rfl (by kernel_rfl) (by kernel_rfl) (by kernel_rfl) (fun _ _ _ h => h) (Or.inl ⟨by rfl, ?v1⟩) (by assumption) ?_
  case v1 => (intro w hSw; (try dsimp only at hSw); go_simp; try with_reducible rfl)
  try simp only [Act.put, List.setIfInBounds_toArray, List.set_cons_zero, List.set_cons_succ, List.getElem_toArray, List.getElem_cons_succ, List.getElem_cons_zero]
  refine wpAnyH_take (i := 2) (v := ?_) rfl (by kernel_rfl) (by kernel_rfl) (by kernel_rfl) (fun _ _ _ h => h) (Or.inl ⟨by rfl, ?v2⟩) (by assumption) ?_
  case v2 => (intro w hSw; (try dsimp only at hSw); go_simp; try with_reducible rfl)
  try simp only [Act.put, List.setIfInBounds_toArray, List.set_cons_zero, List.set_cons_succ, List.getElem_toArray, List.getElem_cons_succ, List.getElem_cons_zero]
  refine wpAnyH_take (i := 3) (v := ?_) rfl (by kernel_rfl) (by kernel_rfl) (by kernel_rfl) (fun _ _ _ h => h) (Or.inl ⟨by rfl, ?v3⟩) (by assumption) ?_
  case v3 => (intro w hSw; (try dsimp only at hSw); go_simp; try with_reducible rfl)
  try simp only [Act.put, List.setIfInBounds_toArray, List.set_cons_zero, List.set_cons_succ, List.getElem_toArray, List.getElem_cons_succ, List.getElem_cons_zero]
  refine wpAnyH_take (i := 5) (v := ?_) rfl (by kernel_rfl) (by kernel_rfl) (by kernel_rfl) (fun _ _ _ h => h) (Or.inl ⟨by rfl, ?v5⟩) (by assumption) ?_
  case v5 => (intro w hSw; (try dsimp only at hSw); go_simp; try with_reducible rfl)
  try simp only [Act.put, List.setIfInBounds_toArray, List.set_cons_zero, List.set_cons_succ, List.getElem_toArray, List.getElem_cons_succ, List.getElem_cons_zero]
  refine wpAnyH_take (i := 7) (v := ?_) rfl (by kernel_rfl) (by kernel_rfl) (by kernel_rfl) (fun _ _ _ h => h) (Or.inl ⟨by rfl, ?v7⟩) (by assumption) ?_
  case v7 => (intro w hSw; (try dsimp only at hSw); go_simp; try with_reducible rfl)
  try simp only [Act.put, List.setIfInBounds_toArray, List.set_cons_zero, List.set_cons_succ, List.getElem_toArray, List.getElem_cons_succ, List.getElem_cons_zero]
  refine wpAnyH_ready (rs := [4]) (by kernel_rfl) (by simp) ?_
  refine AllReadyH.cons rfl (fun K hK => ?_) AllReadyH.nil
  go_simp
  have hS := hHeld
  clear hHeld
  refine (HXY.out _ hS.2.2).mono ?_
  rintro e w1 ⟨rfl, hb1⟩
  have hHeld := kp20 hb1 hS
  clear hS hb1
  dsimp only
  refine hK.out _ _ ?_ (fun hHeld => ?_)
  · exact hHeld
  clear hK K
  try simp only [Act.put, List.setIfInBounds_toArray, List.set_cons_zero, List.set_cons_succ, List.getElem_toArray, List.getElem_cons_succ, List.getElem_cons_zero]
  refine wpAnyH_ready (rs := [6]) (by kernel_rfl) (by simp) ?_
  refine AllReadyH.cons rfl (fun K hK => ?_) AllReadyH.nil
  go_simp
  have hS := hHeld
  clear hHeld
  refine (HRX.out _).mono ?_
  rintro e w1 ⟨rfl, hb1⟩
  have hHeld := kp20 hb1 hS
  clear hS hb1
  dsimp only
  refine hK.out _ _ ?_ (fun hHeld => ?_)
  · exact hHeld
  clear hK K
  try simp only [Act.put, List.setIfInBounds_toArray, List.set_cons_zero, List.set_cons_succ, List.getElem_toArray, List.getElem_cons_succ, List.getElem_cons_zero]
  refine wpAnyH_ready (rs := [8]) (by kernel_rfl) (by simp) ?_
  refine AllReadyH.cons rfl (fun K hK => ?_) AllReadyH.nil
  go_simp
  have hS := hHeld
  clear hHeld
  refine (HRY.out _).mono ?_
  rintro e w1 ⟨rfl, hb1⟩
  have hHeld := kp20 hb1 hS
  clear hS hb1
  dsimp only
  refine hK.out _ _ ?_ (fun hHeld => ?_)
  · exact hHeld
  clear hK K
  try simp only [Act.put, List.setIfInBounds_toArray, List.set_cons_zero, List.set_cons_succ, List.getElem_toArray, List.getElem_cons_succ, List.getElem_cons_zero]
  refine wpAnyH_ready (rs := [9]) (by kernel_rfl) (by simp) ?_
  refine AllReadyH.cons rfl (fun K hK => ?_) AllReadyH.nil
  go_simp
  have hS := hHeld
  clear hHeld
  refine (HR.out _ hS.2.2).mono ?_
  rintro e w1 ⟨rfl, hb1⟩
  have hHeld := kp20 hb1 hS
  clear hS hb1
  dsimp only
  refine hK.out _ _ ?_ (fun hHeld => ?_)
  · exact hHeld
  clear hK K
  try simp only [Act.put, List.setIfInBounds_toArray, List.set_cons_zero, List.set_cons_succ, List.getElem_toArray, List.getElem_cons_succ, List.getElem_cons_zero]
  refine wpAnyH_take (i := 10) (v := ?_) rfl (by kernel_rfl) (by kernel_rfl) (by kernel_rfl) (fun _ _ _ h => h) (Or.inl ⟨by rfl, ?v10⟩) (by assumption) ?_
  case v10 => (intro w hSw; (try dsimp only at hSw); go_simp; try with_reducible rfl)
  try simp only [Act.put, List.setIfInBounds_toArray, List.set_cons_zero, List.set_cons_succ, List.getElem_toArray, List.getElem_cons_succ, List.getElem_cons_zero]
  refine wpAnyH_take (i := 11) (v := ?_) rfl (by kernel_rfl) (by kernel_rfl) (by kernel_rfl) (fun _ _ _ h => h) (Or.inl ⟨by rfl, ?v11⟩) (by assumption) ?_
  case v11 => (intro w hSw; (try dsimp only at hSw); go_simp; try with_reducible rfl)
  try simp only [Act.put, List.setIfInBounds_toArray, List.set_cons_zero, List.set_cons_succ, List.getElem_toArray, List.getElem_cons_succ, List.getElem_cons_zero]
  refine wpAnyH_take (i := 12) (v := ?_) rfl (by kernel_rfl) (by kernel_rfl) (by kernel_rfl) (fun _ _ _ h => h) (Or.inl ⟨by rfl, ?v12⟩) (by assumption) ?_
  case v12 => (intro w hSw; (try dsimp only at hSw); go_simp; try with_reducible rfl)
  try simp only [Act.put, List.setIfInBounds_toArray, List.set_cons_zero, List.set_cons_succ, List.getElem_toArray, List.getElem_cons_succ, List.getElem_cons_zero]
  refine wpAnyH_take (i := 13) (v := ?_) rfl (by kernel_rfl) (by kernel_rfl) (by kernel_rfl) (fun _ _ _ h => h) (Or.inl ⟨by rfl, ?v13⟩) (by assumption) ?_
  case v13 => (intro w hSw; (try dsimp only at hSw); go_simp; try with_reducible rfl)
  try simp only [Act.put, List.setIfInBounds_toArray, List.set_cons_zero, List.set_cons_succ, List.getElem_toArray, List.getElem_cons_succ, List.getElem_cons_zero]
  refine wpAnyH_take (i := 14) (v := ?_) rfl (by kernel_rfl) (by kernel_rfl) (by kernel_rfl) (fun _ _ _ h => h) (Or.inl ⟨by rfl, ?v14⟩) (by assumption) ?_
  case v14 => (intro w hSw; (try dsimp only at hSw); go_simp; try with_reducible rfl)
  try simp only [Act.put, List.setIfInBounds_toArray, List.set_cons_zero, List.set_cons_succ, List.getElem_toArray, List.getElem_cons_succ, List.getElem_cons_zero]
  refine wpAnyH_take (i := 16) (v := ?_) rfl (by kernel_rfl) (by kernel_rfl) (by kernel_rfl) (fun _ _ _ h => h) (Or.inl ⟨by rfl, ?v16⟩) (by assumption) ?_
  case v16 => (intro w hSw; (try dsimp only at hSw); go_simp; try with_reducible rfl)
  try simp only [Act.put, List.setIfInBounds_toArray, List.set_cons_zero, List.set_cons_succ, List.getElem_toArray, List.getElem_cons_succ, List.getElem_cons_zero]
  refine wpAnyH_take (i := 17) (v := ?_) rfl (by kernel_rfl) (by kernel_rfl) (by kernel_rfl) (fun _ _ _ h => h) (Or.inl ⟨by rfl, ?v17⟩) (by assumption) ?_
  case v17 => (intro w hSw; (try dsimp only at hSw); go_simp; try with_reducible rfl)
  try simp only [Act.put, List.setIfInBounds_toArray, List.set_cons_zero, List.set_cons_succ, List.getElem_toArray, List.getElem_cons_succ, List.getElem_cons_zero]
  refine wpAnyH_ready (rs := [15]) (by kernel_rfl) (by simp) ?_
  refine AllReadyH.cons rfl (fun K hK => ?_) AllReadyH.nil
  go_simp
  have hS := hHeld
  clear hHeld
  refine (HXY.out _ hS.2.2).mono ?_
  rintro e w1 ⟨rfl, hb1⟩
  have hHeld := kp20 hb1 hS
  clear hS hb1
  dsimp only
  refine hK.out _ _ ?_ (fun hHeld => ?_)
  · exact hHeld
  clear hK K
  try simp only [Act.put, List.setIfInBounds_toArray, List.set_cons_zero, List.set_cons_succ, List.getElem_toArray, List.getElem_cons_succ, List.getElem_cons_zero]
  refine wpAnyH_ready (rs := [18]) (by kernel_rfl) (by simp) ?_
  refine AllReadyH.cons rfl (fun K hK => ?_) AllReadyH.nil
  go_simp
  have hS := hHeld
  clear hHeld
  refine (HYX.out _ hS.2.2).mono ?_
  rintro e w1 ⟨rfl, hb1⟩
  have hHeld := kp20 hb1 hS
  clear hS hb1
  dsimp only
  refine hK.out _ _ ?_ (fun hHeld => ?_)
  · exact hHeld
  clear hK K
  try simp only [Act.put, List.setIfInBounds_toArray, List.set_cons_zero, List.set_cons_succ, List.getElem_toArray, List.getElem_cons_succ, List.getElem_cons_zero]
  refine wpAnyH_take (i := 19) (v := ?_) rfl (by kernel_rfl) (by kernel_rfl) (by kernel_rfl) (fun _ _ _ h => h) (Or.inl ⟨by rfl, ?v19⟩) (by assumption) ?_
  case v19 => (intro w hSw; (try dsimp only at hSw); go_simp; try with_reducible rfl)
  try simp only [Act.put, List.setIfInBounds_toArray, List.set_cons_zero, List.set_cons_succ, List.getElem_toArray, List.getElem_cons_succ, List.getElem_cons_zero]
  refine wpAnyH_take (i := 20) (v := ?_) rfl (by kernel_rfl) (by kernel_rfl) (by kernel_rfl) (fun _ _ _ h => h) (Or.inl ⟨by rfl, ?v20⟩) (by assumption) ?_
  case v20 => (intro w hSw; (try dsimp only at hSw); go_simp; try with_reducible rfl)
  try simp only [Act.put, List.setIfInBounds_toArray, List.set_cons_zero, List.set_cons_succ, List.getElem_toArray, List.getElem_cons_succ, List.getElem_cons_zero]
  refine wpAnyH_take (i := 21) (v := ?_) rfl (by kernel_rfl) (by kernel_rfl) (by kernel_rfl) (fun _ _ _ h => h) (Or.inl ⟨by rfl, ?v21⟩) (by assumption) ?_
  case v21 => (intro w hSw; (try dsimp only at hSw); go_simp; try with_reducible rfl)
  try simp only [Act.put, List.setIfInBounds_toArray, List.set_cons_zero, List.set_cons_succ, List.getElem_toArray, List.getElem_cons_succ, List.getElem_cons_zero]
  refine wpAnyH_take (i := 22) (v := ?_) rfl (by kernel_rfl) (by kernel_rfl) (by kernel_rfl) (fun _ _ _ h => h) (Or.inl ⟨by rfl, ?v22⟩) (by assumption) ?_
  case v22 => (intro w hSw; (try dsimp only at hSw); go_simp; try with_reducible rfl)
  try simp only [Act.put, List.setIfInBounds_toArray, List.set_cons_zero, List.set_cons_succ, List.getElem_toArray, List.getElem_cons_succ, List.getElem_cons_zero]
  refine wpAnyH_take (i := 23) (v := ?_) rfl (by kernel_rfl) (by kernel_rfl) (by kernel_rfl) (fun _ _ _ h => h) (Or.inl ⟨by rfl, ?v23⟩) (by assumption) ?_
  case v23 => (intro w hSw; (try dsimp only at hSw); go_simp; try with_reducible rfl)
  try simp only [Act.put, List.setIfInBounds_toArray, List.set_cons_zero, List.set_cons_succ, List.getElem_toArray, List.getElem_cons_succ, List.getElem_cons_zero]
  refine wpAnyH_ready (rs := [24]) (by kernel_rfl) (by simp) ?_
  refine AllReadyH.cons rfl (fun K hK => ?_) AllReadyH.nil
  go_simp
  have hS := hHeld
  clear hHeld
  refine (HXX.out _ hS.2.2).mono ?_
  rintro e w1 ⟨rfl, hb1⟩
  have hHeld := kp20 hb1 hS
  clear hS hb1
  dsimp only
  refine hK.out _ _ ?_ (fun hHeld => ?_)
  · exact hHeld
  clear hK K
  try simp only [Act.put, List.setIfInBounds_toArray, List.set_cons_zero, List.set_cons_succ, List.getElem_toArray, List.getElem_cons_succ, List.getElem_cons_zero]
  refine wpAnyH_take (i := 25) (v := ?_) rfl (by kernel_rfl) (by kernel_rfl) (by kernel_rfl) (fun _ _ _ h => h) (Or.inl ⟨by rfl, ?v25⟩) (by assumption) ?_
  case v25 => (intro w hSw; (try dsimp only at hSw); go_simp; try with_reducible rfl)
  try simp only [Act.put, List.setIfInBounds_toArray, List.set_cons_zero, List.set_cons_succ, List.getElem_toArray, List.getElem_cons_succ, List.getElem_cons_zero]
  refine wpAnyH_take (i := 26) (v := ?_) rfl (by kernel_rfl) (by kernel_rfl) (by kernel_rfl) (fun _ _ _ h => h) (Or.inl ⟨by rfl, ?v26⟩) (by assumption) ?_
  case v26 => (intro w hSw; (try dsimp only at hSw); go_simp; try with_reducible rfl)
  try simp only [Act.put, List.setIfInBounds_toArray, List.set_cons_zero, List.set_cons_succ, List.getElem_toArray, List.getElem_cons_succ, List.getElem_cons_zero]
  refine wpAnyH_done (by kernel_rfl) ?_ _
  skip
  go_wp2
  go_ret
  exact ⟨by simp, hHeld.2.2⟩
end Go.Proofs.Ytnnpbbiiapipaaa
