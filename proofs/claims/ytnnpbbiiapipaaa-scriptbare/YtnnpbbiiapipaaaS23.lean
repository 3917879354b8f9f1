/-
  ScriptBare walked.
-/
import Derived.Test.YtnnpbbiiapipaaaS16
import Derived.OrdersHeld
import Derived.Deep.DeepCutAuto
namespace Go.Proofs.Ytnnpbbiiapipaaa
open Go.RowKit Go.Lib
set_option linter.unusedVariables false
theorem ten_below' {W W1 : World} {k : Nat} {v0 v1 v2 v3 v4 v5 v6 v7 v8 v9 : Value} (hb : Below W.heap.size W W1) (h : W.cell? ⟨k, 0, none⟩ = some (v0) ∧ W.cell? ⟨k, 1, none⟩ = some (v1) ∧ W.cell? ⟨k, 2, none⟩ = some (v2) ∧ W.cell? ⟨k, 3, none⟩ = some (v3) ∧ W.cell? ⟨k, 4, none⟩ = some (v4) ∧ W.cell? ⟨k, 5, none⟩ = some (v5) ∧ W.cell? ⟨k, 6, none⟩ = some (v6) ∧ W.cell? ⟨k, 7, none⟩ = some (v7) ∧ W.cell? ⟨k, 8, none⟩ = some (v8) ∧ W.cell? ⟨k, 9, none⟩ = some (v9)) : W1.cell? ⟨k, 0, none⟩ = some (v0) ∧ W1.cell? ⟨k, 1, none⟩ = some (v1) ∧ W1.cell? ⟨k, 2, none⟩ = some (v2) ∧ W1.cell? ⟨k, 3, none⟩ = some (v3) ∧ W1.cell? ⟨k, 4, none⟩ = some (v4) ∧ W1.cell? ⟨k, 5, none⟩ = some (v5) ∧ W1.cell? ⟨k, 6, none⟩ = some (v6) ∧ W1.cell? ⟨k, 7, none⟩ = some (v7) ∧ W1.cell? ⟨k, 8, none⟩ = some (v8) ∧ W1.cell? ⟨k, 9, none⟩ = some (v9) := by
  obtain ⟨h0, h1, h2, h3, h4, h5, h6, h7, h8, h9⟩ := h
  have hk := World.block_lt_of_cell? W _ h0
  exact ⟨(hb.cell (p := ⟨k, 0, none⟩) hk).trans h0, (hb.cell (p := ⟨k, 1, none⟩) hk).trans h1, (hb.cell (p := ⟨k, 2, none⟩) hk).trans h2, (hb.cell (p := ⟨k, 3, none⟩) hk).trans h3, (hb.cell (p := ⟨k, 4, none⟩) hk).trans h4, (hb.cell (p := ⟨k, 5, none⟩) hk).trans h5, (hb.cell (p := ⟨k, 6, none⟩) hk).trans h6, (hb.cell (p := ⟨k, 7, none⟩) hk).trans h7, (hb.cell (p := ⟨k, 8, none⟩) hk).trans h8, (hb.cell (p := ⟨k, 9, none⟩) hk).trans h9⟩
theorem kp30 {w W W1 : World} {k l m : Nat} {v0 v1 v2 v3 v4 v5 v6 v7 v8 v9 u0 u1 u2 u3 u4 u5 u6 u7 u8 u9 t0 t1 t2 t3 t4 t5 t6 t7 t8 t9 : Value} (hb : Below W.heap.size W W1) (h : (W.cell? ⟨k, 0, none⟩ = some (v0) ∧ W.cell? ⟨k, 1, none⟩ = some (v1) ∧ W.cell? ⟨k, 2, none⟩ = some (v2) ∧ W.cell? ⟨k, 3, none⟩ = some (v3) ∧ W.cell? ⟨k, 4, none⟩ = some (v4) ∧ W.cell? ⟨k, 5, none⟩ = some (v5) ∧ W.cell? ⟨k, 6, none⟩ = some (v6) ∧ W.cell? ⟨k, 7, none⟩ = some (v7) ∧ W.cell? ⟨k, 8, none⟩ = some (v8) ∧ W.cell? ⟨k, 9, none⟩ = some (v9)) ∧ (W.cell? ⟨l, 0, none⟩ = some (u0) ∧ W.cell? ⟨l, 1, none⟩ = some (u1) ∧ W.cell? ⟨l, 2, none⟩ = some (u2) ∧ W.cell? ⟨l, 3, none⟩ = some (u3) ∧ W.cell? ⟨l, 4, none⟩ = some (u4) ∧ W.cell? ⟨l, 5, none⟩ = some (u5) ∧ W.cell? ⟨l, 6, none⟩ = some (u6) ∧ W.cell? ⟨l, 7, none⟩ = some (u7) ∧ W.cell? ⟨l, 8, none⟩ = some (u8) ∧ W.cell? ⟨l, 9, none⟩ = some (u9)) ∧ (W.cell? ⟨m, 0, none⟩ = some (t0) ∧ W.cell? ⟨m, 1, none⟩ = some (t1) ∧ W.cell? ⟨m, 2, none⟩ = some (t2) ∧ W.cell? ⟨m, 3, none⟩ = some (t3) ∧ W.cell? ⟨m, 4, none⟩ = some (t4) ∧ W.cell? ⟨m, 5, none⟩ = some (t5) ∧ W.cell? ⟨m, 6, none⟩ = some (t6) ∧ W.cell? ⟨m, 7, none⟩ = some (t7) ∧ W.cell? ⟨m, 8, none⟩ = some (t8) ∧ W.cell? ⟨m, 9, none⟩ = some (t9)) ∧ Below w.heap.size w W) : (W1.cell? ⟨k, 0, none⟩ = some (v0) ∧ W1.cell? ⟨k, 1, none⟩ = some (v1) ∧ W1.cell? ⟨k, 2, none⟩ = some (v2) ∧ W1.cell? ⟨k, 3, none⟩ = some (v3) ∧ W1.cell? ⟨k, 4, none⟩ = some (v4) ∧ W1.cell? ⟨k, 5, none⟩ = some (v5) ∧ W1.cell? ⟨k, 6, none⟩ = some (v6) ∧ W1.cell? ⟨k, 7, none⟩ = some (v7) ∧ W1.cell? ⟨k, 8, none⟩ = some (v8) ∧ W1.cell? ⟨k, 9, none⟩ = some (v9)) ∧ (W1.cell? ⟨l, 0, none⟩ = some (u0) ∧ W1.cell? ⟨l, 1, none⟩ = some (u1) ∧ W1.cell? ⟨l, 2, none⟩ = some (u2) ∧ W1.cell? ⟨l, 3, none⟩ = some (u3) ∧ W1.cell? ⟨l, 4, none⟩ = some (u4) ∧ W1.cell? ⟨l, 5, none⟩ = some (u5) ∧ W1.cell? ⟨l, 6, none⟩ = some (u6) ∧ W1.cell? ⟨l, 7, none⟩ = some (u7) ∧ W1.cell? ⟨l, 8, none⟩ = some (u8) ∧ W1.cell? ⟨l, 9, none⟩ = some (u9)) ∧ (W1.cell? ⟨m, 0, none⟩ = some (t0) ∧ W1.cell? ⟨m, 1, none⟩ = some (t1) ∧ W1.cell? ⟨m, 2, none⟩ = some (t2) ∧ W1.cell? ⟨m, 3, none⟩ = some (t3) ∧ W1.cell? ⟨m, 4, none⟩ = some (t4) ∧ W1.cell? ⟨m, 5, none⟩ = some (t5) ∧ W1.cell? ⟨m, 6, none⟩ = some (t6) ∧ W1.cell? ⟨m, 7, none⟩ = some (t7) ∧ W1.cell? ⟨m, 8, none⟩ = some (t8) ∧ W1.cell? ⟨m, 9, none⟩ = some (t9)) ∧ Below w.heap.size w W1 :=
  ⟨ten_below' hb h.1, ten_below' hb h.2.1, ten_below' hb h.2.2.1, h.2.2.2.trans (hb.mono h.2.2.2.size)⟩
theorem kp30d {w W : World} {k l m : Nat} {v0 v1 v2 v3 v4 v5 v6 v7 v8 v9 u0 u1 u2 u3 u4 u5 u6 u7 u8 u9 t0 t1 t2 t3 t4 t5 t6 t7 t8 t9 : Value} (h : (W.cell? ⟨k, 0, none⟩ = some (v0) ∧ W.cell? ⟨k, 1, none⟩ = some (v1) ∧ W.cell? ⟨k, 2, none⟩ = some (v2) ∧ W.cell? ⟨k, 3, none⟩ = some (v3) ∧ W.cell? ⟨k, 4, none⟩ = some (v4) ∧ W.cell? ⟨k, 5, none⟩ = some (v5) ∧ W.cell? ⟨k, 6, none⟩ = some (v6) ∧ W.cell? ⟨k, 7, none⟩ = some (v7) ∧ W.cell? ⟨k, 8, none⟩ = some (v8) ∧ W.cell? ⟨k, 9, none⟩ = some (v9)) ∧ (W.cell? ⟨l, 0, none⟩ = some (u0) ∧ W.cell? ⟨l, 1, none⟩ = some (u1) ∧ W.cell? ⟨l, 2, none⟩ = some (u2) ∧ W.cell? ⟨l, 3, none⟩ = some (u3) ∧ W.cell? ⟨l, 4, none⟩ = some (u4) ∧ W.cell? ⟨l, 5, none⟩ = some (u5) ∧ W.cell? ⟨l, 6, none⟩ = some (u6) ∧ W.cell? ⟨l, 7, none⟩ = some (u7) ∧ W.cell? ⟨l, 8, none⟩ = some (u8) ∧ W.cell? ⟨l, 9, none⟩ = some (u9)) ∧ (W.cell? ⟨m, 0, none⟩ = some (t0) ∧ W.cell? ⟨m, 1, none⟩ = some (t1) ∧ W.cell? ⟨m, 2, none⟩ = some (t2) ∧ W.cell? ⟨m, 3, none⟩ = some (t3) ∧ W.cell? ⟨m, 4, none⟩ = some (t4) ∧ W.cell? ⟨m, 5, none⟩ = some (t5) ∧ W.cell? ⟨m, 6, none⟩ = some (t6) ∧ W.cell? ⟨m, 7, none⟩ = some (t7) ∧ W.cell? ⟨m, 8, none⟩ = some (t8) ∧ W.cell? ⟨m, 9, none⟩ = some (t9)) ∧ Below w.heap.size w W) : (W.drew.cell? ⟨k, 0, none⟩ = some (v0) ∧ W.drew.cell? ⟨k, 1, none⟩ = some (v1) ∧ W.drew.cell? ⟨k, 2, none⟩ = some (v2) ∧ W.drew.cell? ⟨k, 3, none⟩ = some (v3) ∧ W.drew.cell? ⟨k, 4, none⟩ = some (v4) ∧ W.drew.cell? ⟨k, 5, none⟩ = some (v5) ∧ W.drew.cell? ⟨k, 6, none⟩ = some (v6) ∧ W.drew.cell? ⟨k, 7, none⟩ = some (v7) ∧ W.drew.cell? ⟨k, 8, none⟩ = some (v8) ∧ W.drew.cell? ⟨k, 9, none⟩ = some (v9)) ∧ (W.drew.cell? ⟨l, 0, none⟩ = some (u0) ∧ W.drew.cell? ⟨l, 1, none⟩ = some (u1) ∧ W.drew.cell? ⟨l, 2, none⟩ = some (u2) ∧ W.drew.cell? ⟨l, 3, none⟩ = some (u3) ∧ W.drew.cell? ⟨l, 4, none⟩ = some (u4) ∧ W.drew.cell? ⟨l, 5, none⟩ = some (u5) ∧ W.drew.cell? ⟨l, 6, none⟩ = some (u6) ∧ W.drew.cell? ⟨l, 7, none⟩ = some (u7) ∧ W.drew.cell? ⟨l, 8, none⟩ = some (u8) ∧ W.drew.cell? ⟨l, 9, none⟩ = some (u9)) ∧ (W.drew.cell? ⟨m, 0, none⟩ = some (t0) ∧ W.drew.cell? ⟨m, 1, none⟩ = some (t1) ∧ W.drew.cell? ⟨m, 2, none⟩ = some (t2) ∧ W.drew.cell? ⟨m, 3, none⟩ = some (t3) ∧ W.drew.cell? ⟨m, 4, none⟩ = some (t4) ∧ W.drew.cell? ⟨m, 5, none⟩ = some (t5) ∧ W.drew.cell? ⟨m, 6, none⟩ = some (t6) ∧ W.drew.cell? ⟨m, 7, none⟩ = some (t7) ∧ W.drew.cell? ⟨m, 8, none⟩ = some (t8) ∧ W.drew.cell? ⟨m, 9, none⟩ = some (t9)) ∧ Below w.heap.size w W.drew := ⟨h.1, h.2.1, h.2.2.1, below_drew h.2.2.2⟩
noncomputable def rtB (p : En) : Bool := @decide (RightE p) (Classical.propDecidable _)
theorem right_b (W : World) (p : En) (a : Option Addr) (ca : Nat) (hp : Cod W a p.code) (hl : p.code.length < 9223372036854775808) :
    Calls Try.prog 14 #[.agg #[.int .i64 p.d, .int .i64 p.p, .int .u64 (p.dr : Int), .int .i64 p.n, .slice a p.code.length ca, .int .u64 (p.bu : Int), .int .u64 (p.pe : Int), .int .i64 p.pr, .int .u8 (p.lv : Int), .int .i64 p.sv]] W fun e w' => e = .returned (.bool (rtB p)) ∧ Below W.heap.size W w' := (right_ok' W p a ca hp hl).mono fun e w' ⟨B, he, hB, hb⟩ => ⟨by
    rw [he]
    congr 2
    unfold rtB
    cases B
    · have h : ¬ RightE p := fun q => by have := hB.2 q; cases this
      simp [h]
    · have h : RightE p := hB.1 rfl
      simp [h], hb⟩
theorem rright_b (W : World) (p : En) (a : Option Addr) (ca : Nat) (hp : Cod W a p.code) (hl : p.code.length < 9223372036854775808) :
    Calls Try.prog 15 #[.agg #[.int .i64 p.d, .int .i64 p.p, .int .u64 (p.dr : Int), .int .i64 p.n, .slice a p.code.length ca, .int .u64 (p.bu : Int), .int .u64 (p.pe : Int), .int .i64 p.pr, .int .u8 (p.lv : Int), .int .i64 p.sv]] W fun e w' => e = .returned (.bool (rtB p)) ∧ Below W.heap.size W w' := (rright_ok' W p a ca hp hl).mono fun e w' ⟨B, he, hB, hb⟩ => ⟨by
    rw [he]
    congr 2
    unfold rtB
    cases B
    · have h : ¬ RightE p := fun q => by have := hB.2 q; cases this
      simp [h]
    · have h : RightE p := hB.1 rfl
      simp [h], hb⟩
/-- A right entry whose N is 7, whose Draw is 9. -/
theorem bare_n {x : En} (h : RightE x) : (RightE { x with n := 7 } ↔ x.d = 2) ∧ (RightE { x with dr := 9 } ↔ x.d = 1) := by
  rcases h with ⟨e, h1, h2⟩ | ⟨e, h1, h2⟩ | ⟨e, h1⟩ | e | ⟨e, h1, h2, h3, h4⟩
  · have hd : x.d = 1 := congrArg En.d e
    refine ⟨⟨fun q => ?_, fun q => absurd (hd.symm.trans q) (by decide)⟩, ⟨fun _ => hd, fun _ => ?_⟩⟩
    · have q' := ((right_d1 (x := { x with n := 7 }) hd).1 q).1
      have := congrArg En.n q'
      simp [mkStep] at this
    · refine .inl ⟨?_, h1, h2⟩
      rw [e]
      rfl
  · have hd : x.d = 2 := congrArg En.d e
    refine ⟨⟨fun _ => hd, fun _ => ?_⟩, ⟨fun q => ?_, fun q => absurd (hd.symm.trans q) (by decide)⟩⟩
    · refine .inr (.inl ⟨?_, show (1 : Int) ≤ 7 by decide, show (7 : Int) ≤ 65535 by decide⟩)
      rw [e]
      rfl
    · have q' := ((right_d2 (x := { x with dr := 9 }) hd).1 q).1
      have := congrArg En.dr q'
      simp [mkTick] at this
  · have hd : x.d = 3 := congrArg En.d e
    refine ⟨⟨fun q => ?_, fun q => absurd (hd.symm.trans q) (by decide)⟩, ⟨fun q => ?_, fun q => absurd (hd.symm.trans q) (by decide)⟩⟩
    · have q' := ((right_d3 (x := { x with n := 7 }) hd).1 q).1
      have := congrArg En.n q'
      simp [mkLoad] at this
    · have q' := ((right_d3 (x := { x with dr := 9 }) hd).1 q).1
      have := congrArg En.dr q'
      simp [mkLoad] at this
  · have hd : x.d = 4 := congrArg En.d e
    refine ⟨⟨fun q => ?_, fun q => absurd (hd.symm.trans q) (by decide)⟩, ⟨fun q => ?_, fun q => absurd (hd.symm.trans q) (by decide)⟩⟩
    · have q' := ((right_d4 (x := { x with n := 7 }) hd).1 q)
      have := congrArg En.n q'
      simp [mkAdmit] at this
    · have q' := ((right_d4 (x := { x with dr := 9 }) hd).1 q)
      have := congrArg En.dr q'
      simp [mkAdmit] at this
  · have hd : x.d = 5 := congrArg En.d e
    refine ⟨⟨fun q => ?_, fun q => absurd (hd.symm.trans q) (by decide)⟩, ⟨fun q => ?_, fun q => absurd (hd.symm.trans q) (by decide)⟩⟩
    · have q' := ((right_d5 (x := { x with n := 7 }) hd).1 q).1
      have := congrArg En.n q'
      simp [mkStart] at this
    · have q' := ((right_d5 (x := { x with dr := 9 }) hd).1 q).1
      have := congrArg En.dr q'
      simp [mkStart] at this
theorem rtB_eq {p : En} {b : Bool} (h : RightE p ↔ b = true) : rtB p = b := by
  unfold rtB
  cases b
  · have : ¬ RightE p := fun q => by have := h.1 q; cases this
    simp [this]
  · have : RightE p := h.2 rfl
    simp [this]
set_option maxHeartbeats 8000000 in
theorem bare_walk (w : World) (x : En) (a : Option Addr) (ca : Nat) (hx : Cod w a x.code) (lx : x.code.length < 9223372036854775808) (dx : (Lit.int .i64 x.d).wf = true) :
    Calls Try.prog 9 #[.agg #[.int .i64 x.d, .int .i64 x.p, .int .u64 (x.dr : Int), .int .i64 x.n, .slice a x.code.length ca, .int .u64 (x.bu : Int), .int .u64 (x.pe : Int), .int .i64 x.pr, .int .u8 (x.lv : Int), .int .i64 x.sv]] w fun e w' => e = .returned (.bool true) ∧ Below w.heap.size w w' := by
  have HV := veil live_ok'
  have HR := veil (fun W (hb : Below w.heap.size w W) => right_b W x a ca (hx.below hb) lx)
  by_cases h70 : 70 < x.code.length
  · have h70' : 70 < (x.code.length : Int) := by omega
    clear hx dx
    go_enter Try.func9, Try.ntmps9
    go_wp2_with (go_at_call 17; refine (HV.out _).mono ?_; rintro e w1 ⟨rfl, hb1⟩; have HB1 := veil (((Below.refl w.heap.size w).alloc (Nat.le_refl _) _).trans (hb1.mono (by simp))); clear hb1)
    go_ret
    exact ⟨rfl, HB1.out⟩
  have h70' : ¬ 70 < (x.code.length : Int) := by omega
  obtain ⟨W0, hW0⟩ : ∃ W, W = ((w.alloc (.cells #[.int .i64 x.d, .int .i64 x.p, .int .u64 (x.dr : Int), .int .i64 x.n, .slice a x.code.length ca, .int .u64 (x.bu : Int), .int .u64 (x.pe : Int), .int .i64 x.pr, .int .u8 (x.lv : Int), .int .i64 x.sv] 36)).alloc (.cells #[.int .i64 x.d, .int .i64 x.p, .int .u64 (x.dr : Int), .int .i64 7, .slice a x.code.length ca, .int .u64 (x.bu : Int), .int .u64 (x.pe : Int), .int .i64 x.pr, .int .u8 (x.lv : Int), .int .i64 x.sv] 36)).alloc (.cells #[.int .i64 x.d, .int .i64 x.p, .int .u64 9, .int .i64 x.n, .slice a x.code.length ca, .int .u64 (x.bu : Int), .int .u64 (x.pe : Int), .int .i64 x.pr, .int .u8 (x.lv : Int), .int .i64 x.sv] 36) := ⟨_, rfl⟩
  have HS0 : Hid ((W0.cell? ⟨w.heap.size, 0, none⟩ = some (.int .i64 x.d) ∧ W0.cell? ⟨w.heap.size, 1, none⟩ = some (.int .i64 x.p) ∧ W0.cell? ⟨w.heap.size, 2, none⟩ = some (.int .u64 (x.dr : Int)) ∧ W0.cell? ⟨w.heap.size, 3, none⟩ = some (.int .i64 x.n) ∧ W0.cell? ⟨w.heap.size, 4, none⟩ = some (.slice a x.code.length ca) ∧ W0.cell? ⟨w.heap.size, 5, none⟩ = some (.int .u64 (x.bu : Int)) ∧ W0.cell? ⟨w.heap.size, 6, none⟩ = some (.int .u64 (x.pe : Int)) ∧ W0.cell? ⟨w.heap.size, 7, none⟩ = some (.int .i64 x.pr) ∧ W0.cell? ⟨w.heap.size, 8, none⟩ = some (.int .u8 (x.lv : Int)) ∧ W0.cell? ⟨w.heap.size, 9, none⟩ = some (.int .i64 x.sv)) ∧ (W0.cell? ⟨w.heap.size + 1, 0, none⟩ = some (.int .i64 x.d) ∧ W0.cell? ⟨w.heap.size + 1, 1, none⟩ = some (.int .i64 x.p) ∧ W0.cell? ⟨w.heap.size + 1, 2, none⟩ = some (.int .u64 (x.dr : Int)) ∧ W0.cell? ⟨w.heap.size + 1, 3, none⟩ = some (.int .i64 7) ∧ W0.cell? ⟨w.heap.size + 1, 4, none⟩ = some (.slice a x.code.length ca) ∧ W0.cell? ⟨w.heap.size + 1, 5, none⟩ = some (.int .u64 (x.bu : Int)) ∧ W0.cell? ⟨w.heap.size + 1, 6, none⟩ = some (.int .u64 (x.pe : Int)) ∧ W0.cell? ⟨w.heap.size + 1, 7, none⟩ = some (.int .i64 x.pr) ∧ W0.cell? ⟨w.heap.size + 1, 8, none⟩ = some (.int .u8 (x.lv : Int)) ∧ W0.cell? ⟨w.heap.size + 1, 9, none⟩ = some (.int .i64 x.sv)) ∧ (W0.cell? ⟨w.heap.size + 2, 0, none⟩ = some (.int .i64 x.d) ∧ W0.cell? ⟨w.heap.size + 2, 1, none⟩ = some (.int .i64 x.p) ∧ W0.cell? ⟨w.heap.size + 2, 2, none⟩ = some (.int .u64 9) ∧ W0.cell? ⟨w.heap.size + 2, 3, none⟩ = some (.int .i64 x.n) ∧ W0.cell? ⟨w.heap.size + 2, 4, none⟩ = some (.slice a x.code.length ca) ∧ W0.cell? ⟨w.heap.size + 2, 5, none⟩ = some (.int .u64 (x.bu : Int)) ∧ W0.cell? ⟨w.heap.size + 2, 6, none⟩ = some (.int .u64 (x.pe : Int)) ∧ W0.cell? ⟨w.heap.size + 2, 7, none⟩ = some (.int .i64 x.pr) ∧ W0.cell? ⟨w.heap.size + 2, 8, none⟩ = some (.int .u8 (x.lv : Int)) ∧ W0.cell? ⟨w.heap.size + 2, 9, none⟩ = some (.int .i64 x.sv)) ∧ Below w.heap.size w W0) := by
    rw [hW0]
    have k1 := ((bx_new w #[.int .i64 x.d, .int .i64 x.p, .int .u64 (x.dr : Int), .int .i64 x.n, .slice a x.code.length ca, .int .u64 (x.bu : Int), .int .u64 (x.pe : Int), .int .i64 x.pr, .int .u8 (x.lv : Int), .int .i64 x.sv] 36).alloc (.cells #[.int .i64 x.d, .int .i64 x.p, .int .u64 (x.dr : Int), .int .i64 7, .slice a x.code.length ca, .int .u64 (x.bu : Int), .int .u64 (x.pe : Int), .int .i64 x.pr, .int .u8 (x.lv : Int), .int .i64 x.sv] 36)).alloc (.cells #[.int .i64 x.d, .int .i64 x.p, .int .u64 9, .int .i64 x.n, .slice a x.code.length ca, .int .u64 (x.bu : Int), .int .u64 (x.pe : Int), .int .i64 x.pr, .int .u8 (x.lv : Int), .int .i64 x.sv] 36)
    have k2 := (bx_new (w.alloc (.cells #[.int .i64 x.d, .int .i64 x.p, .int .u64 (x.dr : Int), .int .i64 x.n, .slice a x.code.length ca, .int .u64 (x.bu : Int), .int .u64 (x.pe : Int), .int .i64 x.pr, .int .u8 (x.lv : Int), .int .i64 x.sv] 36)) #[.int .i64 x.d, .int .i64 x.p, .int .u64 (x.dr : Int), .int .i64 7, .slice a x.code.length ca, .int .u64 (x.bu : Int), .int .u64 (x.pe : Int), .int .i64 x.pr, .int .u8 (x.lv : Int), .int .i64 x.sv] 36).alloc (.cells #[.int .i64 x.d, .int .i64 x.p, .int .u64 9, .int .i64 x.n, .slice a x.code.length ca, .int .u64 (x.bu : Int), .int .u64 (x.pe : Int), .int .i64 x.pr, .int .u8 (x.lv : Int), .int .i64 x.sv] 36)
    have k3 := bx_new ((w.alloc (.cells #[.int .i64 x.d, .int .i64 x.p, .int .u64 (x.dr : Int), .int .i64 x.n, .slice a x.code.length ca, .int .u64 (x.bu : Int), .int .u64 (x.pe : Int), .int .i64 x.pr, .int .u8 (x.lv : Int), .int .i64 x.sv] 36)).alloc (.cells #[.int .i64 x.d, .int .i64 x.p, .int .u64 (x.dr : Int), .int .i64 7, .slice a x.code.length ca, .int .u64 (x.bu : Int), .int .u64 (x.pe : Int), .int .i64 x.pr, .int .u8 (x.lv : Int), .int .i64 x.sv] 36)) #[.int .i64 x.d, .int .i64 x.p, .int .u64 9, .int .i64 x.n, .slice a x.code.length ca, .int .u64 (x.bu : Int), .int .u64 (x.pe : Int), .int .i64 x.pr, .int .u8 (x.lv : Int), .int .i64 x.sv] 36
    rw [show (w.alloc (.cells #[.int .i64 x.d, .int .i64 x.p, .int .u64 (x.dr : Int), .int .i64 x.n, .slice a x.code.length ca, .int .u64 (x.bu : Int), .int .u64 (x.pe : Int), .int .i64 x.pr, .int .u8 (x.lv : Int), .int .i64 x.sv] 36)).heap.size = w.heap.size + 1 by simp] at k2
    rw [show ((w.alloc (.cells #[.int .i64 x.d, .int .i64 x.p, .int .u64 (x.dr : Int), .int .i64 x.n, .slice a x.code.length ca, .int .u64 (x.bu : Int), .int .u64 (x.pe : Int), .int .i64 x.pr, .int .u8 (x.lv : Int), .int .i64 x.sv] 36)).alloc (.cells #[.int .i64 x.d, .int .i64 x.p, .int .u64 (x.dr : Int), .int .i64 7, .slice a x.code.length ca, .int .u64 (x.bu : Int), .int .u64 (x.pe : Int), .int .i64 x.pr, .int .u8 (x.lv : Int), .int .i64 x.sv] 36)).heap.size = w.heap.size + 2 by simp] at k3
    exact ⟨⟨k1.cell 0 _ rfl, k1.cell 1 _ rfl, k1.cell 2 _ rfl, k1.cell 3 _ rfl, k1.cell 4 _ rfl, k1.cell 5 _ rfl, k1.cell 6 _ rfl, k1.cell 7 _ rfl, k1.cell 8 _ rfl, k1.cell 9 _ rfl⟩, ⟨k2.cell 0 _ rfl, k2.cell 1 _ rfl, k2.cell 2 _ rfl, k2.cell 3 _ rfl, k2.cell 4 _ rfl, k2.cell 5 _ rfl, k2.cell 6 _ rfl, k2.cell 7 _ rfl, k2.cell 8 _ rfl, k2.cell 9 _ rfl⟩, ⟨k3.cell 0 _ rfl, k3.cell 1 _ rfl, k3.cell 2 _ rfl, k3.cell 3 _ rfl, k3.cell 4 _ rfl, k3.cell 5 _ rfl, k3.cell 6 _ rfl, k3.cell 7 _ rfl, k3.cell 8 _ rfl, k3.cell 9 _ rfl⟩, ((((Below.refl w.heap.size w).alloc (Nat.le_refl _) _).alloc (by simp) _).alloc (by simp; omega) _)⟩
  have HW0 := veil hW0
  clear hW0
  by_cases hr : RightE x
  · have e1 : rtB x = true := rtB_eq ⟨fun _ => rfl, fun _ => hr⟩
    obtain ⟨q1, q2⟩ := bare_n hr
    have e2 : rtB { x with n := 7 } = (x.d == 2) := rtB_eq (by rw [q1]; simp)
    have e3 : rtB { x with dr := 9 } = (x.d == 1) := rtB_eq (by rw [q2]; simp)
    have HN : Hid (∀ W, Below w.heap.size w W → Calls Try.prog 14 #[.agg #[.int .i64 x.d, .int .i64 x.p, .int .u64 (x.dr : Int), .int .i64 7, .slice a x.code.length ca, .int .u64 (x.bu : Int), .int .u64 (x.pe : Int), .int .i64 x.pr, .int .u8 (x.lv : Int), .int .i64 x.sv]] W fun e w' => e = .returned (.bool (x.d == 2)) ∧ Below W.heap.size W w') := fun W hb => by
      rw [← e2]
      exact right_b W { x with n := 7 } a ca (hx.below hb) lx
    have HD : Hid (∀ W, Below w.heap.size w W → Calls Try.prog 14 #[.agg #[.int .i64 x.d, .int .i64 x.p, .int .u64 9, .int .i64 x.n, .slice a x.code.length ca, .int .u64 (x.bu : Int), .int .u64 (x.pe : Int), .int .i64 x.pr, .int .u8 (x.lv : Int), .int .i64 x.sv]] W fun e w' => e = .returned (.bool (x.d == 1)) ∧ Below W.heap.size W w') := fun W hb => by
      rw [← e3]
      exact right_b W { x with dr := 9 } a ca (hx.below hb) lx
    rw [e1] at HR
    clear e1 e2 e3 q1 q2 hr hx dx
    go_enter Try.func9, Try.ntmps9
    go_upto_region 7 with fail
    rw [← HW0.out]
    have hS0 := HS0.out
    obtain ⟨⟨p0, p1, p2, p3, p4, p5, p6, p7, p8, p9⟩, _, _, hb0⟩ := hS0
    go_upto_region 9 with (go_at_call 14; refine (HR.out _ hb0).mono ?_; rintro e w1 ⟨rfl, hb1⟩; have HS1 := veil (kp30 hb1 HS0.out); clear hb1)
    refine wp_region_held_drew (S := (fun W => (W.cell? ⟨w.heap.size, 0, none⟩ = some (.int .i64 x.d) ∧ W.cell? ⟨w.heap.size, 1, none⟩ = some (.int .i64 x.p) ∧ W.cell? ⟨w.heap.size, 2, none⟩ = some (.int .u64 (x.dr : Int)) ∧ W.cell? ⟨w.heap.size, 3, none⟩ = some (.int .i64 x.n) ∧ W.cell? ⟨w.heap.size, 4, none⟩ = some (.slice a x.code.length ca) ∧ W.cell? ⟨w.heap.size, 5, none⟩ = some (.int .u64 (x.bu : Int)) ∧ W.cell? ⟨w.heap.size, 6, none⟩ = some (.int .u64 (x.pe : Int)) ∧ W.cell? ⟨w.heap.size, 7, none⟩ = some (.int .i64 x.pr) ∧ W.cell? ⟨w.heap.size, 8, none⟩ = some (.int .u8 (x.lv : Int)) ∧ W.cell? ⟨w.heap.size, 9, none⟩ = some (.int .i64 x.sv)) ∧ (W.cell? ⟨w.heap.size + 1, 0, none⟩ = some (.int .i64 x.d) ∧ W.cell? ⟨w.heap.size + 1, 1, none⟩ = some (.int .i64 x.p) ∧ W.cell? ⟨w.heap.size + 1, 2, none⟩ = some (.int .u64 (x.dr : Int)) ∧ W.cell? ⟨w.heap.size + 1, 3, none⟩ = some (.int .i64 7) ∧ W.cell? ⟨w.heap.size + 1, 4, none⟩ = some (.slice a x.code.length ca) ∧ W.cell? ⟨w.heap.size + 1, 5, none⟩ = some (.int .u64 (x.bu : Int)) ∧ W.cell? ⟨w.heap.size + 1, 6, none⟩ = some (.int .u64 (x.pe : Int)) ∧ W.cell? ⟨w.heap.size + 1, 7, none⟩ = some (.int .i64 x.pr) ∧ W.cell? ⟨w.heap.size + 1, 8, none⟩ = some (.int .u8 (x.lv : Int)) ∧ W.cell? ⟨w.heap.size + 1, 9, none⟩ = some (.int .i64 x.sv)) ∧ (W.cell? ⟨w.heap.size + 2, 0, none⟩ = some (.int .i64 x.d) ∧ W.cell? ⟨w.heap.size + 2, 1, none⟩ = some (.int .i64 x.p) ∧ W.cell? ⟨w.heap.size + 2, 2, none⟩ = some (.int .u64 9) ∧ W.cell? ⟨w.heap.size + 2, 3, none⟩ = some (.int .i64 x.n) ∧ W.cell? ⟨w.heap.size + 2, 4, none⟩ = some (.slice a x.code.length ca) ∧ W.cell? ⟨w.heap.size + 2, 5, none⟩ = some (.int .u64 (x.bu : Int)) ∧ W.cell? ⟨w.heap.size + 2, 6, none⟩ = some (.int .u64 (x.pe : Int)) ∧ W.cell? ⟨w.heap.size + 2, 7, none⟩ = some (.int .i64 x.pr) ∧ W.cell? ⟨w.heap.size + 2, 8, none⟩ = some (.int .u8 (x.lv : Int)) ∧ W.cell? ⟨w.heap.size + 2, 9, none⟩ = some (.int .i64 x.sv)) ∧ Below w.heap.size w W)) (by kernel_rfl) (kp30d HS1.out) (fun hHeld => ?_)
    refine wpAnyH_ready (rs := [0]) (by kernel_rfl) (by simp) ?_
    refine AllReadyH.cons rfl (fun K hK => ?_) AllReadyH.nil
    go_simp
    have hS := hHeld
    clear hHeld
    refine (HV.out _).mono ?_
    rintro e w1 ⟨rfl, hb1⟩
    have hHeld := kp30 hb1 hS
    clear hS hb1
    dsimp only
    refine hK.out _ _ ?_ (fun hHeld => ?_)
    · exact hHeld
    clear hK K
    try simp only [Act.put, List.setIfInBounds_toArray, List.set_cons_zero, List.set_cons_succ, List.getElem_toArray, List.getElem_cons_succ, List.getElem_cons_zero]
    refine wpAnyH_take (i := 1) (v := ?_) rfl (by kernel_rfl) (by kernel_rfl) (by kernel_rfl) (fun _ _ _ h => h) (Or.inl ⟨by rfl, ?v1⟩) (by assumption) ?_
    case v1 => (intro w hSw; (try dsimp only at hSw); go_simp; try with_reducible rfl)
    try simp only [Act.put, List.setIfInBounds_toArray, List.set_cons_zero, List.set_cons_succ, List.getElem_toArray, List.getElem_cons_succ, List.getElem_cons_zero]
    refine wpAnyH_take (i := 2) (v := ?_) rfl (by kernel_rfl) (by kernel_rfl) (by kernel_rfl) (fun _ _ _ h => h) (Or.inl ⟨by rfl, ?v2⟩) (by assumption) ?_
    case v2 => (intro w hSw; (try dsimp only at hSw); go_simp; try with_reducible rfl)
    try simp only [Act.put, List.setIfInBounds_toArray, List.set_cons_zero, List.set_cons_succ, List.getElem_toArray, List.getElem_cons_succ, List.getElem_cons_zero]
    refine wpAnyH_take (i := 4) (v := ?_) rfl (by kernel_rfl) (by kernel_rfl) (by kernel_rfl) (fun _ _ _ h => h) (Or.inl ⟨by rfl, ?v4⟩) (by assumption) ?_
    case v4 => (intro w hSw; (try dsimp only at hSw); go_simp; try with_reducible rfl)
    try simp only [Act.put, List.setIfInBounds_toArray, List.set_cons_zero, List.set_cons_succ, List.getElem_toArray, List.getElem_cons_succ, List.getElem_cons_zero]
    refine wpAnyH_take (i := 5) (v := ?_) rfl (by kernel_rfl) (by kernel_rfl) (by kernel_rfl) (fun _ _ _ h => h) (Or.inl ⟨by rfl, ?v5⟩) (by assumption) ?_
    case v5 => (intro w hSw; (try dsimp only at hSw); go_simp; try with_reducible rfl)
    try simp only [Act.put, List.setIfInBounds_toArray, List.set_cons_zero, List.set_cons_succ, List.getElem_toArray, List.getElem_cons_succ, List.getElem_cons_zero]
    refine wpAnyH_take (i := 6) (v := ?_) rfl (by kernel_rfl) (by kernel_rfl) (by kernel_rfl) (fun _ _ _ h => h) (Or.inl ⟨by rfl, ?v6⟩) (by assumption) ?_
    case v6 => (intro w hSw; (try dsimp only at hSw); go_simp; try with_reducible rfl)
    try simp only [Act.put, List.setIfInBounds_toArray, List.set_cons_zero, List.set_cons_succ, List.getElem_toArray, List.getElem_cons_succ, List.getElem_cons_zero]
    refine wpAnyH_ready (rs := [3]) (by kernel_rfl) (by simp) ?_
    refine AllReadyH.cons rfl (fun K hK => ?_) AllReadyH.nil
    go_simp
    have hS := hHeld
    clear hHeld
    refine (HN.out _ hS.2.2.2).mono ?_
    rintro e w1 ⟨rfl, hb1⟩
    have hHeld := kp30 hb1 hS
    clear hS hb1
    dsimp only
    refine hK.out _ _ ?_ (fun hHeld => ?_)
    · exact hHeld
    clear hK K
    try simp only [Act.put, List.setIfInBounds_toArray, List.set_cons_zero, List.set_cons_succ, List.getElem_toArray, List.getElem_cons_succ, List.getElem_cons_zero]
    refine wpAnyH_take (i := 7) (v := ?_) rfl (by kernel_rfl) (by kernel_rfl) (by kernel_rfl) (fun _ _ _ h => h) (Or.inl ⟨by rfl, ?v7⟩) (by assumption) ?_
    case v7 => (intro w hSw; (try dsimp only at hSw); go_simp; try with_reducible rfl)
    try simp only [Act.put, List.setIfInBounds_toArray, List.set_cons_zero, List.set_cons_succ, List.getElem_toArray, List.getElem_cons_succ, List.getElem_cons_zero]
    refine wpAnyH_take (i := 8) (v := ?_) rfl (by kernel_rfl) (by kernel_rfl) (by kernel_rfl) (fun _ _ _ h => h) (Or.inl ⟨by rfl, ?v8⟩) (by assumption) ?_
    case v8 => (intro w hSw; (try dsimp only at hSw); go_simp; try with_reducible rfl)
    try simp only [Act.put, List.setIfInBounds_toArray, List.set_cons_zero, List.set_cons_succ, List.getElem_toArray, List.getElem_cons_succ, List.getElem_cons_zero]
    refine wpAnyH_take (i := 9) (v := ?_) rfl (by kernel_rfl) (by kernel_rfl) (by kernel_rfl) (fun _ _ _ h => h) (Or.inl ⟨by rfl, ?v9⟩) (by assumption) ?_
    case v9 => (intro w hSw; (try dsimp only at hSw); go_simp; try with_reducible rfl)
    try simp only [Act.put, List.setIfInBounds_toArray, List.set_cons_zero, List.set_cons_succ, List.getElem_toArray, List.getElem_cons_succ, List.getElem_cons_zero]
    refine wpAnyH_take (i := 10) (v := ?_) rfl (by kernel_rfl) (by kernel_rfl) (by kernel_rfl) (fun _ _ _ h => h) (Or.inl ⟨by rfl, ?v10⟩) (by assumption) ?_
    case v10 => (intro w hSw; (try dsimp only at hSw); go_simp; try with_reducible rfl)
    try simp only [Act.put, List.setIfInBounds_toArray, List.set_cons_zero, List.set_cons_succ, List.getElem_toArray, List.getElem_cons_succ, List.getElem_cons_zero]
    refine wpAnyH_take (i := 12) (v := ?_) rfl (by kernel_rfl) (by kernel_rfl) (by kernel_rfl) (fun _ _ _ h => h) (Or.inl ⟨by rfl, ?v12⟩) (by assumption) ?_
    case v12 => (intro w hSw; (try dsimp only at hSw); go_simp; try with_reducible rfl)
    try simp only [Act.put, List.setIfInBounds_toArray, List.set_cons_zero, List.set_cons_succ, List.getElem_toArray, List.getElem_cons_succ, List.getElem_cons_zero]
    refine wpAnyH_take (i := 13) (v := ?_) rfl (by kernel_rfl) (by kernel_rfl) (by kernel_rfl) (fun _ _ _ h => h) (Or.inl ⟨by rfl, ?v13⟩) (by assumption) ?_
    case v13 => (intro w hSw; (try dsimp only at hSw); go_simp; try with_reducible rfl)
    try simp only [Act.put, List.setIfInBounds_toArray, List.set_cons_zero, List.set_cons_succ, List.getElem_toArray, List.getElem_cons_succ, List.getElem_cons_zero]
    refine wpAnyH_take (i := 14) (v := ?_) rfl (by kernel_rfl) (by kernel_rfl) (by kernel_rfl) (fun _ _ _ h => h) (Or.inl ⟨by rfl, ?v14⟩) (by assumption) ?_
    case v14 => (intro w hSw; (try dsimp only at hSw); go_simp; try with_reducible rfl)
    try simp only [Act.put, List.setIfInBounds_toArray, List.set_cons_zero, List.set_cons_succ, List.getElem_toArray, List.getElem_cons_succ, List.getElem_cons_zero]
    refine wpAnyH_ready (rs := [11]) (by kernel_rfl) (by simp) ?_
    refine AllReadyH.cons rfl (fun K hK => ?_) AllReadyH.nil
    go_simp
    have hS := hHeld
    clear hHeld
    refine (HD.out _ hS.2.2.2).mono ?_
    rintro e w1 ⟨rfl, hb1⟩
    have hHeld := kp30 hb1 hS
    clear hS hb1
    dsimp only
    refine hK.out _ _ ?_ (fun hHeld => ?_)
    · exact hHeld
    clear hK K
    try simp only [Act.put, List.setIfInBounds_toArray, List.set_cons_zero, List.set_cons_succ, List.getElem_toArray, List.getElem_cons_succ, List.getElem_cons_zero]
    refine wpAnyH_take (i := 15) (v := ?_) rfl (by kernel_rfl) (by kernel_rfl) (by kernel_rfl) (fun _ _ _ h => h) (Or.inl ⟨by rfl, ?v15⟩) (by assumption) ?_
    case v15 => (intro w hSw; (try dsimp only at hSw); go_simp; try with_reducible rfl)
    try simp only [Act.put, List.setIfInBounds_toArray, List.set_cons_zero, List.set_cons_succ, List.getElem_toArray, List.getElem_cons_succ, List.getElem_cons_zero]
    refine wpAnyH_take (i := 16) (v := ?_) rfl (by kernel_rfl) (by kernel_rfl) (by kernel_rfl) (fun _ _ _ h => h) (Or.inl ⟨by rfl, ?v16⟩) (by assumption) ?_
    case v16 => (intro w hSw; (try dsimp only at hSw); go_simp; try with_reducible rfl)
    try simp only [Act.put, List.setIfInBounds_toArray, List.set_cons_zero, List.set_cons_succ, List.getElem_toArray, List.getElem_cons_succ, List.getElem_cons_zero]
    refine wpAnyH_take (i := 17) (v := ?_) rfl (by kernel_rfl) (by kernel_rfl) (by kernel_rfl) (fun _ _ _ h => h) (Or.inl ⟨by rfl, ?v17⟩) (by assumption) ?_
    case v17 => (intro w hSw; (try dsimp only at hSw); go_simp; try with_reducible rfl)
    try simp only [Act.put, List.setIfInBounds_toArray, List.set_cons_zero, List.set_cons_succ, List.getElem_toArray, List.getElem_cons_succ, List.getElem_cons_zero]
    refine wpAnyH_done (by kernel_rfl) ?_ _
    skip
    go_wp2
    go_ret
    exact ⟨by simp, hHeld.2.2.2⟩
  · have e1 : rtB x = false := rtB_eq ⟨fun q => absurd q hr, fun q => by cases q⟩
    have HRR := veil (fun W (hb : Below w.heap.size w W) => rright_b W x a ca (hx.below hb) lx)
    have HRF := veil (fun W => ref_ok W x a ca dx)
    rw [e1] at HR HRR
    clear e1 hr hx dx
    go_enter Try.func9, Try.ntmps9
    go_upto_region 7 with fail
    rw [← HW0.out]
    have hS0 := HS0.out
    obtain ⟨⟨p0, p1, p2, p3, p4, p5, p6, p7, p8, p9⟩, _, _, hb0⟩ := hS0
    go_wp2_with (first
      | (go_at_call 15; refine (HRR.out _ HB3.out).mono ?_; rintro e w4 ⟨rfl, hb4⟩; have HB4 := veil (HB3.out.trans (hb4.mono HB3.out.size)); clear hb4)
      | (go_at_call 16; refine (HRF.out _).mono ?_; rintro e w3 ⟨rfl, hb3⟩; have HB3 := veil (HS2.out.2.2.2.trans (hb3.mono HS2.out.2.2.2.size)); clear hb3)
      | (go_at_call 17; refine (HV.out _).mono ?_; rintro e w2 ⟨rfl, hb2⟩; have HS2 := veil (kp30 hb2 HS1.out); obtain ⟨⟨r0, r1, r2, r3, r4, r5, r6, r7, r8, r9⟩, _, _, _⟩ := HS2.out; clear hb2)
      | (go_at_call 14; refine (HR.out _ hb0).mono ?_; rintro e w1 ⟨rfl, hb1⟩; have HS1 := veil (kp30 hb1 HS0.out); obtain ⟨⟨q0, q1, q2, q3, q4, q5, q6, q7, q8, q9⟩, _, _, _⟩ := HS1.out; clear hb1))
    go_ret
    exact ⟨rfl, HB4.out⟩
end Go.Proofs.Ytnnpbbiiapipaaa
