/-
  TopAges: one processor, two threads.
-/
import Derived.Test.YtlfejgjhamcahaaZ14
import Derived.Test.YtlfejgjhamcahaaA1
namespace Go.Proofs.Ytlfejgjhamcahaa
open Go.RowKit Go.Lib
set_option linter.unusedVariables false
attribute [local go_sem ↓] Go.wp_at_zero Go.wp_at_succ

/-- One processor with four threads: what its place holds, in order. -/
def AgS (w W : World) (T : Nat) (L : List En) : Prop := ∃ (g cap : Nat) (x0 x1 : Hd), IsQ W (w.heap.size + 2) (w.heap.size + 2) (w.heap.size + 1) w.heap.size 4 1 4 (.slice (some ⟨g, 0, none⟩) (1 + 1) cap) T [x0, x1] ∧ x0.M = L ∧ x1.M = [] ∧ Below w.heap.size w W
section
variable {w W W' : World} {T : Nat} {L : List En}
theorem ag_new (w : World) : Calls Try.prog 31 #[.int .i64 1, .int .i64 4, .int .i64 4] w fun e w' => e = .returned (.pointer (some ⟨w.heap.size + 1, 0, none⟩)) ∧ AgS w w' 0 [] := by
  refine (pnew_ok 1 4 4 w (by omega) (by omega) (by omega) (by omega) (by omega) (by omega)).mono ?_
  rintro e w1 ⟨v, H, rfl, hl, hB⟩
  refine ⟨rfl, ?_⟩
  have hQ := hB.isQ hl (by omega) (by omega) (by omega)
  obtain ⟨g, cap, rfl, _⟩ := hQ.p.rows
  match H, hl, hQ, hB with
  | [x0, x1], _, hQ, hB => exact ⟨g, cap, x0, x1, hQ, (hB.fresh 0 x0 rfl).1, (hB.fresh 1 x1 rfl).1, hB.bel⟩
theorem AgS.below (h : AgS w W T L) (hb : Below W.heap.size W W') : AgS w W' T L := by
  obtain ⟨g, cap, x0, x1, hQ, h0, h1, hB⟩ := h
  exact ⟨g, cap, x0, x1, hQ.below hb, h0, h1, hB.trans (hb.mono hB.size)⟩
theorem ag_fr {x : Hd} {g cap : Nat} {x0 x1 : Hd} {i : Nat} (hQ : IsQ W (w.heap.size + 2) (w.heap.size + 2) (w.heap.size + 1) w.heap.size 4 1 4 (.slice (some ⟨g, 0, none⟩) (1 + 1) cap) T [x0, x1]) (hx : [x0, x1][i]? = some x) (hB : Below w.heap.size w W) (hf : Fr (fun k => k = w.heap.size ∨ x.own k) W W') : Below w.heap.size w W' :=
  hB.trans (hf.below hB.size (fun k hk => by
    rcases hk with e | e
    · omega
    · have := hQ.p.sets.low i x hx k e; omega))
theorem ag_put (h : AgS w W T L) (hT : T ≤ 1000) (hl : L.length < 4) (id : Nat) (hi : id < 4) (hno : ∀ y ∈ L, y.1 ≠ id) (k : Ke.K) (hr : Ke.rightK k = true) (hk : k.ok) :
    Calls Try.prog 26 #[.pointer (some ⟨w.heap.size + 1, 0, none⟩), .int .i64 0, .int .i64 (id : Int), .agg #[.bool k.e, .int .u64 k.d, .int .u8 k.l]] W fun e w' => e = .returned (.int .i64 0) ∧ AgS w w' (T + 1) (put (id, k) L) := by
  obtain ⟨g, cap, x0, x1, hQ, h0, h1, hB⟩ := h
  have hw : whereF 4 [x0, x1] 0 (id : Int) = none := whereF_none 4 _ _ 0 (fun i x hx _ => by
    match i, hx with
    | 0, hx => cases hx; rw [h0]; exact keyOf_none.2 (by simpa using hno)
    | 1, hx => cases hx; rw [h1]; rfl)
  refine (pput_here hQ hT 0 (by omega) (x := x0) rfl id hi k hr hk hw (by rw [h0]; show L.length < 4; exact hl)).mono ?_
  rintro e w1 ⟨rfl, hQ1, hf⟩
  refine ⟨rfl, g, cap, _, x1, hQ1, ?_, h1, ag_fr (i := 0) hQ rfl hB hf⟩
  show put (id, k) x0.M = _
  rw [h0]
theorem ag_take {z : En} {M' : List En} (h : AgS w W T (z :: M')) :
    Calls Try.prog 25 #[.pointer (some ⟨w.heap.size + 1, 0, none⟩), .int .i64 0, .int .u64 0] W fun e w' => e = .returned (.tuple #[.int .i64 (z.1 : Int), .agg #[.bool z.2.e, .int .u64 z.2.d, .int .u8 z.2.l], .int .i64 0, .bool true]) ∧ AgS w w' (T + 1) M' := by
  obtain ⟨g, cap, x0, x1, hQ, h0, h1, hB⟩ := h
  have hb : bst [x0, x1] (ords 1 0 0) = some 0 := by
    have e : ords 1 0 0 = [0, 1] := rfl
    have m0 : MM [x0, x1] 0 = z :: M' := h0
    have m1 : MM [x0, x1] 1 = [] := h1
    rw [e]
    show bstep [x0, x1] (bstep [x0, x1] none 0) 1 = some 0
    unfold bstep
    rw [m1, m0]
  refine (ptake_at hQ 0 0 (by omega) (by omega) hb (x := x0) rfl h0).mono ?_
  rintro e w1 ⟨rfl, t, hQ1, hf⟩
  exact ⟨rfl, g, cap, _, x1, hQ1, rfl, h1, ag_fr (i := 0) hQ rfl hB hf⟩
end
set_option maxHeartbeats 4000000 in
set_option maxRecDepth 20000 in
theorem ages_walk (w : World) (lv per : Nat) (hl : lv < 256) (hp : per < 65536) :
    Calls Try.prog 12 #[.int .u8 (lv : Int), .int .u16 (per : Int)] w fun e w' => e = .returned (.bool true) ∧ Below w.heap.size w w' := by
  have hold : ∀ W, Calls Try.prog 32 #[.int .u8 0, .int .u64 0, .int .u64 (256 * ((per : Int) + 1)), .int .u64 ((per : Int) + 1)] W fun e w' => e = .returned (.int .u8 255) ∧ w' = W := fun W => by
    have := Ag.level_ok 0 0 (256 * ((per : Int) + 1)) ((per : Int) + 1) W ⟨by omega, by omega⟩ ⟨by omega, by omega⟩ ⟨by omega, by omega⟩ ⟨by omega, by omega⟩
    have e : Ag.levN 0 0 (256 * ((per : Int) + 1)) ((per : Int) + 1) = 255 := by
      unfold Ag.levN
      have h1 : Ag.subN (256 * ((per : Int) + 1)) 0 = 256 * ((per : Int) + 1) := by unfold Ag.subN; split <;> omega
      rw [if_neg (by omega), h1, Int.mul_ediv_cancel _ (by omega), if_neg (by omega)]
    rw [e] at this
    exact this
  have hfre : ∀ W, Calls Try.prog 32 #[.int .u8 (lv : Int), .int .u64 (256 * ((per : Int) + 1)), .int .u64 (256 * ((per : Int) + 1)), .int .u64 ((per : Int) + 1)] W fun e w' => e = .returned (.int .u8 (lv : Int)) ∧ w' = W := fun W => by
    have := Ag.level_ok (lv : Int) (256 * ((per : Int) + 1)) (256 * ((per : Int) + 1)) ((per : Int) + 1) W ⟨by omega, by omega⟩ ⟨by omega, by omega⟩ ⟨by omega, by omega⟩ ⟨by omega, by omega⟩
    have e : Ag.levN (lv : Int) (256 * ((per : Int) + 1)) (256 * ((per : Int) + 1)) ((per : Int) + 1) = (lv : Int) := by
      unfold Ag.levN
      have h1 : Ag.subN (256 * ((per : Int) + 1)) (256 * ((per : Int) + 1)) = 0 := by unfold Ag.subN; split <;> omega
      rw [if_neg (by omega), h1, Int.zero_ediv]
      split <;> omega
    rw [e] at this
    exact this
  have HOLD := veil hold
  have HFRE := veil hfre
  have HFIX := veil (fun W l => Ke.fixed_ok W l)
  have HNEW := veil (ag_new w)
  have HPUT1 : Hid (∀ W, AgS w W 0 [] → Calls Try.prog 26 #[.pointer (some ⟨w.heap.size + 1, 0, none⟩), .int .i64 0, .int .i64 1, .agg #[.bool (Ke.fixK 255).e, .int .u64 (Ke.fixK 255).d, .int .u8 (Ke.fixK 255).l]] W fun e w' => e = .returned (.int .i64 0) ∧ AgS w w' 1 [(1, Ke.fixK 255)]) := fun W h => ag_put h (by omega) (by simp) 1 (by omega) (by simp) (Ke.fixK 255) rfl ⟨⟨by simp [Ke.fixK], by simp [Ke.fixK]⟩, by simp [Ke.fixK], by simp [Ke.fixK]⟩
  have HPUT2 : Hid (∀ W, AgS w W 1 [(1, Ke.fixK 255)] → Calls Try.prog 26 #[.pointer (some ⟨w.heap.size + 1, 0, none⟩), .int .i64 0, .int .i64 2, .agg #[.bool (Ke.fixK (lv : Int)).e, .int .u64 (Ke.fixK (lv : Int)).d, .int .u8 (Ke.fixK (lv : Int)).l]] W fun e w' => e = .returned (.int .i64 0) ∧ AgS w w' 2 [(1, Ke.fixK 255), (2, Ke.fixK (lv : Int))]) := fun W h => by
    have hp2 : put (2, Ke.fixK (lv : Int)) [(1, Ke.fixK 255)] = [(1, Ke.fixK 255), (2, Ke.fixK (lv : Int))] := by
      have : Ke.up (Ke.fixK (lv : Int)) (Ke.fixK 255) = false := by
        show decide ((255 : Int) < (lv : Int)) = false
        exact decide_eq_false (by omega)
      simp [put, this]
    have := ag_put h (by omega) (by simp) 2 (by omega) (by simp) (Ke.fixK (lv : Int)) rfl ⟨⟨by simp [Ke.fixK], by simp [Ke.fixK]⟩, by simp [Ke.fixK], by show (lv : Int) < 256; omega⟩
    rw [hp2] at this
    exact this
  have HTAKE : Hid (∀ W, AgS w W 2 [(1, Ke.fixK 255), (2, Ke.fixK (lv : Int))] → Calls Try.prog 25 #[.pointer (some ⟨w.heap.size + 1, 0, none⟩), .int .i64 0, .int .u64 0] W fun e w' => e = .returned (.tuple #[.int .i64 1, .agg #[.bool (Ke.fixK 255).e, .int .u64 (Ke.fixK 255).d, .int .u8 (Ke.fixK 255).l], .int .i64 0, .bool true]) ∧ Below w.heap.size w w') := fun W h => by
    refine (ag_take h).mono ?_
    rintro e w1 ⟨rfl, g, cap, x0, x1, _, _, _, hB⟩
    exact ⟨rfl, hB⟩
  have hsm : Ke.same (Ke.fixK 255) (Ke.fixK 255) = true := by decide
  clear hold hfre
  go_enter Try.func12, Try.ntmps12
  go_wp2_with (first
    | (go_at_call 31; refine (HNEW.out).mono ?_; rintro e w1 ⟨rfl, hA1⟩; have HA := veil hA1; clear hA1)
    | (go_at_call 32; refine (HOLD.out _).mono ?_; clear HOLD; rintro e w2 ⟨rfl, hw2⟩; replace hw2 := hw2.symm; subst hw2)
    | (go_at_call 32; refine (HFRE.out _).mono ?_; rintro e w2 ⟨rfl, hw2⟩; replace hw2 := hw2.symm; subst hw2)
    | (go_at_call 33; refine (HFIX.out _ _).mono ?_; rintro e w3 ⟨rfl, hb3⟩; replace HA := veil (AgS.below HA.out hb3); clear hb3)
    | (go_at_call 26; refine (HPUT1.out _ HA.out).mono ?_; clear HPUT1; rintro e w4 ⟨rfl, hA4⟩; replace HA := veil hA4; clear hA4)
    | (go_at_call 26; refine (HPUT2.out _ HA.out).mono ?_; clear HPUT2; rintro e w4 ⟨rfl, hA4⟩; replace HA := veil hA4; clear hA4)
    | (go_at_call 25; refine (HTAKE.out _ HA.out).mono ?_; rintro e w5 ⟨rfl, hb5⟩; have HB5 := veil hb5; clear hb5))
  have q0 : (w5.alloc (.cells #[.bool (Ke.fixK 255).e, .int .u64 (Ke.fixK 255).d, .int .u8 (Ke.fixK 255).l] 25)).cell? ⟨w5.heap.size, 0, none⟩ = some (.bool (Ke.fixK 255).e) := by rw [Ph.cell_new]; rfl
  have q1 : (w5.alloc (.cells #[.bool (Ke.fixK 255).e, .int .u64 (Ke.fixK 255).d, .int .u8 (Ke.fixK 255).l] 25)).cell? ⟨w5.heap.size, 1, none⟩ = some (.int .u64 (Ke.fixK 255).d) := by rw [Ph.cell_new]; rfl
  have q2 : (w5.alloc (.cells #[.bool (Ke.fixK 255).e, .int .u64 (Ke.fixK 255).d, .int .u8 (Ke.fixK 255).l] 25)).cell? ⟨w5.heap.size, 2, none⟩ = some (.int .u8 (Ke.fixK 255).l) := by rw [Ph.cell_new]; rfl
  have HB6 := veil (HB5.out.alloc HB5.out.size (.cells #[.bool (Ke.fixK 255).e, .int .u64 (Ke.fixK 255).d, .int .u8 (Ke.fixK 255).l] 25))
  have hk6 : w5.heap.size < (w5.alloc (.cells #[.bool (Ke.fixK 255).e, .int .u64 (Ke.fixK 255).d, .int .u8 (Ke.fixK 255).l] 25)).heap.size := by simp
  generalize w5.heap.size = kb at *
  generalize (w5.alloc (.cells #[.bool (Ke.fixK 255).e, .int .u64 (Ke.fixK 255).d, .int .u8 (Ke.fixK 255).l] 25)) = W6 at *
  have HLB := veil hk6
  clear hk6 HB5
  go_region_held3 (fun w' => w'.cell? ⟨kb, 0, none⟩ = some (.bool (Ke.fixK 255).e) ∧ w'.cell? ⟨kb, 1, none⟩ = some (.int .u64 (Ke.fixK 255).d) ∧ w'.cell? ⟨kb, 2, none⟩ = some (.int .u8 (Ke.fixK 255).l))
    (first
      | exact ⟨r0, r1, r2⟩
      | exact ⟨q0, q1, q2⟩
      | go_keep)
    (first
      | (go_at_call 33; refine (HFIX.out _ _).mono ?_; rintro e w7 ⟨rfl, hb7⟩; have HB7 := veil (below_pre' (w0 := W6) hb7 rfl rfl rfl rfl); have r0 := (HB7.out.cell (p := ⟨kb, 0, none⟩) HLB.out).trans q0; have r1 := (HB7.out.cell (p := ⟨kb, 1, none⟩) HLB.out).trans q1; have r2 := (HB7.out.cell (p := ⟨kb, 2, none⟩) HLB.out).trans q2; clear hb7))
  go_wp2
  go_ret
  exact ⟨by first | rfl | simp [hsm], HB6.out.trans (HB7.out.mono HB6.out.size)⟩
end Go.Proofs.Ytlfejgjhamcahaa
