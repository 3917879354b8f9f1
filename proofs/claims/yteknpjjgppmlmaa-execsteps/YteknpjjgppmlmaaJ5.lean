/-
  exec: Run walked.
-/
import Derived.Test.YteknpjjgppmlmaaJ4
namespace Go.Proofs.Yteknpjjgppmlmaa
open Go.RowKit Go.Lib
set_option linter.unusedVariables false

/-- A struct of two, and that it may be written. -/
def Two (W : World) (b : Nat) (x y : Value) : Prop := W.cell? ⟨b, 0, none⟩ = some x ∧ W.cell? ⟨b, 1, none⟩ = some y ∧ W.frozen? ⟨b, 0, none⟩ = false ∧ W.frozen? ⟨b, 1, none⟩ = false
theorem Two.same {W W' : World} {b : Nat} {x y : Value} (h : Two W b x y) (hb : W'.heap[b]? = W.heap[b]?) : Two W' b x y :=
  ⟨(World.cell?_of_block (a := ⟨b, 0, none⟩) hb).trans h.1, (World.cell?_of_block (a := ⟨b, 1, none⟩) hb).trans h.2.1, (World.frozen?_of_block (a := ⟨b, 0, none⟩) hb).trans h.2.2.1, (World.frozen?_of_block (a := ⟨b, 1, none⟩) hb).trans h.2.2.2⟩
theorem Two.lt {W : World} {b : Nat} {x y : Value} (h : Two W b x y) : b < W.heap.size := World.block_lt_of_cell? W _ h.1
theorem Two.set {W : World} {b : Nat} {x y : Value} (h : Two W b x y) (x' y' : Value) : Two ((W.setCell ⟨b, 0, none⟩ x').setCell ⟨b, 1, none⟩ y') b x' y' := by
  obtain ⟨h1, h2, h3, h4⟩ := h
  refine ⟨?_, ?_, ?_, ?_⟩ <;> simp [go_sem, h1, h2, h3, h4]
theorem Two.new (W : World) (x y : Value) (t : TypeId) : Two (W.alloc (.cells #[x, y] t)) W.heap.size x y := two_cells (MapKept.heap_alloc W _).1
theorem row_belowE {w w' : World} {base : Nat} {e : TypeId} {size : Nat} {v : Value} {n : Nat} {xs : List Value} (h : w.ownsRow base e size v n xs) (hb : Below w.heap.size w w') : w'.ownsRow base e size v n xs := by
  refine ⟨h.1, ?_⟩
  rcases h.2 with h1 | ⟨g, cap, cur, h1, h2, h3, h4⟩
  · exact .inl h1
  · exact .inr ⟨g, cap, cur, h1, h2, (hb.block g (Array.getElem?_eq_some_iff.1 h3).1).trans h3, h4⟩
theorem cell_two_at (w : World) (x y : Value) (t : TypeId) (b : Nat) (hb : w.heap.size = b) : ∀ j u, [x, y][j]? = some u → (w.alloc (.cells #[x, y] t)).cell? ((⟨b, 0, none⟩ : Addr).add j) = some u := by
  intro j u hu
  subst hb
  have hadd : (⟨w.heap.size, 0, none⟩ : Addr).add j = ⟨w.heap.size, j, none⟩ := by unfold Addr.add; split <;> simp_all
  rw [hadd]
  unfold World.cell?
  simp only [(MapKept.heap_alloc w _).1]
  simpa using hu
/-- What an append leaves of three blocks that are not the row's. -/
theorem kept3 {w wr w2 w3 : World} {l : Value} {n : Nat} {xs : List Value} {e : TypeId} {x0 x1 y0 y1 z0 z1 : Value} {T1 T2 : TypeId} {Z : Obj}
    (ho : wr.ownsRow (w.heap.size + 1) e 2 l n xs) (hf : Two wr w.heap.size x0 x1) (hb : Below wr.heap.size wr w2)
    (hg : (((w2.alloc (.cells #[y0, y1] T1)).alloc (.cells #[z0, z1] T2)).alloc Z).grownBy w3 l.ownBlock) :
    Two w3 w.heap.size x0 x1 ∧ Two w3 w2.heap.size y0 y1 ∧ Two w3 (w2.heap.size + 1) z0 z1 := by
  have hlt := hf.lt
  have hs := hb.size
  have hr := ho.lt
  have k : ∀ b, b < w2.heap.size + 2 → (b = w.heap.size ∨ w2.heap.size ≤ b) → w3.heap[b]? = ((w2.alloc (.cells #[y0, y1] T1)).alloc (.cells #[z0, z1] T2)).heap[b]? := by
    intro b h1 h2
    rw [hg.block b (by simp; omega) (fun q => by have := hr b q.symm; omega), Below.heap_alloc _ _ _ (by simp; omega)]
  refine ⟨?_, ?_, ?_⟩
  · refine (hf.same (hb.block _ hlt)).same ?_
    rw [k _ (by omega) (.inl rfl), Below.heap_alloc _ _ _ (by simp; omega), Below.heap_alloc _ _ _ (by omega)]
  · refine (Two.new w2 y0 y1 T1).same ?_
    rw [k _ (by omega) (.inr (by omega)), Below.heap_alloc _ _ _ (by simp)]
  · have := Two.new (w2.alloc (.cells #[y0, y1] T1)) z0 z1 T2
    rw [World.size_alloc] at this
    exact this.same (k _ (by omega) (.inr (by omega)))

set_option maxHeartbeats 4000000 in
theorem run_ok (w : World) (a : Option Addr) (len cap : Nat) (hlen : len < 9223372036854775808) (O R : Nat → Int) (hp : Prg w a len O R) (r : Bool) (hr : r = true ↔ Rt len O R) (m : Nat) (hm : m ≤ 10000) :
    Calls Try.prog 17 #[.slice a len cap, .int .i64 (m : Int)] w fun e w' => ∃ v, e = .returned v ∧ w'.ownsRow w.heap.size 28 2 v (rlen (ro r len O R) m) (pcells (ro r len O R) (ra r len O R) (rlen (ro r len O R) m)) ∧ Below w.heap.size w w' := by
  have HS := veil (fun w1 (hb : Below w.heap.size w w1) p => step_any w1 a len cap hlen O R (hp.below hb) r hr p 0 (by decide))
  clear hp hr hlen
  have hm' : (m : Int) ≤ 10000 := by omega
  obtain ⟨i0, hi, hz0, hz1, hz2⟩ := info_parts info_instr
  go_enter Try.func17, Try.ntmps17
  go_wp2
  go_loopw [5, 12] (fun l i wr => ∃ k : Nat, k ≤ m ∧ i = .int .i64 (k : Int) ∧ spd (ro r len O R) k = false ∧ wr.ownsRow (w.heap.size + 1) 28 2 l k (pcells (ro r len O R) (ra r len O R) k) ∧ Two wr w.heap.size (.int .i64 (plc r len O R k)) (.int .i64 0) ∧ Below w.heap.size w wr) (fun _ i _ => m - (intOf i).toNat)
  case atStart => exact ⟨0, by omega, rfl, rfl, World.ownsRow_nil _ _ _ _, Two.new _ _ _ _, (Below.refl _ _).alloc (Nat.le_refl _) _⟩
  case round =>
    obtain ⟨k, hk, rfl, hsp, ho, ht, hb⟩ := hrel
    have HSP := veil hsp
    have HO := veil ho
    have HT := veil ht
    have HB := veil hb
    obtain ⟨c0, c1, f0, f1⟩ := ht
    have hfs := HT.out.lt
    clear hsp ho hb
    by_cases hkm : k < m
    · have hkm' : (k : Int) < (m : Int) := by omega
      have hkt : (k : Int) < 10000 := by omega
      obtain ⟨p, hpe⟩ : ∃ p, p = plc r len O R k := ⟨_, rfl⟩
      obtain ⟨o, hoe⟩ : ∃ o, o = stO r len O p := ⟨_, rfl⟩
      obtain ⟨q, hqe⟩ : ∃ q, q = stR r len R p := ⟨_, rfl⟩
      obtain ⟨nx, hne⟩ : ∃ nx, nx = stN r len O R p := ⟨_, rfl⟩
      obtain ⟨lf, hle⟩ : ∃ lf, lf = stL r len O R p 0 := ⟨_, rfl⟩
      have HS2 := veil (HS.out wr HB.out p)
      rw [← hpe] at c0
      have HT2 : Hid (Two wr w.heap.size (.int .i64 p) (.int .i64 0)) := by rw [hpe]; exact HT.out
      have HPC : Hid (pcells (ro r len O R) (ra r len O R) (k + 1) = pcells (ro r len O R) (ra r len O R) k ++ [.int .i64 o, .int .i64 q]) := by
        unfold Hid
        simp only [pcells]
        rw [show ro r len O R k = o from by unfold ro; rw [hoe, hpe], show ra r len O R k = q from by unfold ra; rw [hqe, hpe]]
      have HRO : Hid (ro r len O R k = o) := by unfold Hid ro; rw [hoe, hpe]
      have HNX : Hid (plc r len O R (k + 1) = nx) := by unfold Hid; rw [hne, hpe]; rfl
      rw [← hoe, ← hqe, ← hne, ← hle] at HS2
      clear hpe hoe hqe hne hle HT
      cases ho9 : (o == 9) with
      | true =>
        go_wp2_with (first
          | (go_at_call 11; refine (HS2.out).mono ?_; rintro e w2 ⟨rfl, hb2⟩; have HB2 := veil hb2; have HO2 := veil (row_belowE HO.out hb2); have hs2 := hb2.size; clear hb2)
          | (at_builtin; refine wpList_append_own _ rfl _ _ 22 rfl (w.heap.size + 1) 28 i0 (.agg #[.int .i64 0, .int .i64 0]) 2 16 Try.underlying22 hi hz0 hz1 hz2 rfl (by omega) _ _ _ rfl (((HO2.out.alloc _).alloc _).alloc _) ⟨w2.heap.size + 1 + 1, 0, none⟩ 1 1 [.int .i64 o, .int .i64 q] rfl rfl (cell_two_at _ _ _ _ _ (by simp)) (by simp [Value.oneCell']) (by unfold maxLen; omega) (by omega) (by simp; omega) ?_; intro v' w3 ho3 hg3 _; have hk3 := kept3 HO.out HT2.out HB2.out hg3; have HK3 := veil hk3; obtain ⟨t1, t2, t3⟩ := hk3; obtain ⟨g0, g1, z0, z1⟩ := t1; obtain ⟨g2, g3, z2, z3⟩ := t2; obtain ⟨g4, g5, z4, z5⟩ := t3; have HO3 := veil ho3; have HB3 := veil (((((HB.out.trans (HB2.out.mono HB.out.size)).alloc (by have := HB.out.size; omega) _).alloc (by have := HB.out.size; simp; omega) _).alloc (by have := HB.out.size; simp; omega) _).grown hg3 (by have := HB.out.size; simp; omega) (fun k hk => by have := (HO.out.lt k hk).1; omega)); clear ho3 hg3))
        go_ret
        have hl : rlen (ro r len O R) m = k + 1 := by
          have := rlen_stop HSP.out (HRO.out.trans (by simpa using ho9)) (m - (k + 1))
          rwa [show k + 1 + (m - (k + 1)) = m by omega] at this
        refine ⟨_, rfl, ?_, HB3.out⟩
        rw [hl, HPC.out]
        exact row_lowE HO3.out (by omega)
      | false =>
        go_wp2_with (first
          | (go_at_call 11; refine (HS2.out).mono ?_; rintro e w2 ⟨rfl, hb2⟩; have HB2 := veil hb2; have HO2 := veil (row_belowE HO.out hb2); have hs2 := hb2.size; clear hb2)
          | (at_builtin; refine wpList_append_own _ rfl _ _ 22 rfl (w.heap.size + 1) 28 i0 (.agg #[.int .i64 0, .int .i64 0]) 2 16 Try.underlying22 hi hz0 hz1 hz2 rfl (by omega) _ _ _ rfl (((HO2.out.alloc _).alloc _).alloc _) ⟨w2.heap.size + 1 + 1, 0, none⟩ 1 1 [.int .i64 o, .int .i64 q] rfl rfl (cell_two_at _ _ _ _ _ (by simp)) (by simp [Value.oneCell']) (by unfold maxLen; omega) (by omega) (by simp; omega) ?_; intro v' w3 ho3 hg3 _; have hk3 := kept3 HO.out HT2.out HB2.out hg3; have HK3 := veil hk3; obtain ⟨t1, t2, t3⟩ := hk3; obtain ⟨g0, g1, z0, z1⟩ := t1; obtain ⟨g2, g3, z2, z3⟩ := t2; obtain ⟨g4, g5, z4, z5⟩ := t3; have HO3 := veil ho3; have HB3 := veil (((((HB.out.trans (HB2.out.mono HB.out.size)).alloc (by have := HB.out.size; omega) _).alloc (by have := HB.out.size; simp; omega) _).alloc (by have := HB.out.size; simp; omega) _).grown hg3 (by have := HB.out.size; simp; omega) (fun k hk => by have := (HO.out.lt k hk).1; omega)); clear ho3 hg3))
        go_roundw
        case rel =>
          refine ⟨k + 1, by omega, by go_num, ?_, ?_, ?_, ?_⟩
          · simp only [spd, HSP.out, HRO.out, ho9, Bool.or_self]
          · rw [HPC.out]
            exact ownsRow_setCell_below (ownsRow_setCell_below HO3.out (by simp) _) (by simp) _
          · rw [HNX.out]
            exact HK3.out.1.set _ _
          · exact (HB3.out.setCell (p := ⟨w.heap.size, 0, none⟩) (Nat.le_refl _) _).setCell (p := ⟨w.heap.size, 1, none⟩) (Nat.le_refl _) _
        case measure => simp [intOf]; omega
    · have hkm' : ¬ (k : Int) < (m : Int) := by omega
      obtain rfl : k = m := by omega
      go_wp2
      go_ret
      refine ⟨_, rfl, ?_, HB.out⟩
      rw [rlen_go HSP.out]
      exact row_lowE HO.out (by omega)
theorem run_neg (w : World) (a : Option Addr) (len cap : Nat) (n : Int) (hn : n ≤ 0) :
    Calls Try.prog 17 #[.slice a len cap, .int .i64 n] w fun e w' => e = .returned (.slice none 0 0) ∧ Below w.heap.size w w' := by
  have h1 : n ≤ 10000 := by omega
  have h2 : ¬ 0 < n := by omega
  have h3 : decide (0 < n) = false := decide_eq_false h2
  go_enter Try.func17, Try.ntmps17
  go_wp2
  go_loopw [5, 12] (fun l i wr => l = .slice none 0 0 ∧ i = .int .i64 0 ∧ wr = w.alloc (.cells #[.int .i64 0, .int .i64 0] 24)) (fun _ i _ => 0)
  case atStart => exact ⟨rfl, rfl, rfl⟩
  case round =>
    obtain ⟨rfl, rfl, rfl⟩ := hrel
    go_wp2
    go_ret
    exact ⟨rfl, (Below.refl _ _).alloc (Nat.le_refl _) _⟩
end Go.Proofs.Yteknpjjgppmlmaa
