/-
  The walks of the document's table: Alloc, Live, Len, Same.
-/
import Derived.Test.YtfhnepoegdhjmaaDoorT8
namespace Go.Proofs.YtfhnepoegdhjmaaDoor
open Go.RowKit Go.Lib
set_option linter.unusedVariables false
attribute [local go_sem ↓] Go.wp_at_zero Go.wp_at_succ

section
variable {w : World} {rb sb gb n : Nat} {G S : Nat → Nat}
theorem RefR.far {o k : Nat} {v : Value} (h : RefR w rb sb gb n G S) (h1 : rb ≠ k) (h2 : sb ≠ k) (h3 : gb ≠ k) : RefR (w.setCell ⟨k, o, none⟩ v) rb sb gb n G S :=
  h.kept (Below.heap_setCell _ _ _ _ (by simpa using h1)) (Below.heap_setCell _ _ _ _ (by simpa using h2)) (Below.heap_setCell _ _ _ _ (by simpa using h3))
/-- The cell of an answer that is not there yet. -/
structure Blank (w wr : World) : Prop where
  b : Below w.heap.size w wr
  c0 : wr.cell? ⟨w.heap.size, 0, none⟩ = some (.int .i64 0)
  c1 : wr.cell? ⟨w.heap.size, 1, none⟩ = some (.int .u32 0)
  f : ∀ o, wr.frozen? ⟨w.heap.size, o, none⟩ = false
theorem Blank.new (w : World) : Blank w (w.alloc (.cells #[.int .i64 0, .int .u32 0] 25)) :=
  ⟨(Below.refl _ _).alloc (Nat.le_refl _) _, by rw [cell_new]; rfl, by rw [cell_new]; rfl, fun _ => frozen_new _ _ _ _⟩
theorem Blank.drewN {wr : World} (h : Blank w wr) (q : Nat) : Blank w (wr.drewN q) := ⟨below_drewN h.b q, h.c0, h.c1, h.f⟩
set_option maxHeartbeats 4000000 in
theorem ralloc_full (h : RefR w rb sb gb n G S) (hf : ∀ j, j < n → S j ≠ 0) :
    Calls Tryd.prog 35 #[.pointer (some ⟨rb, 0, none⟩)] w fun e w' => e = .returned (.tuple #[.agg #[.int .i64 0, .int .u32 0], .int .i64 4]) ∧ Below w.heap.size w w' := by
  have hn2 := h.n2
  have HR := veil h
  have HF := veil hf
  have HB0 := veil (Blank.new w)
  clear h hf
  go_enter Tryd.func35, Tryd.ntmps35
  go_wp2
  go_loopw [4] (fun i wr => ∃ j : Nat, j ≤ n ∧ i = .int .i64 j ∧ Blank w wr) (fun i _ => n - (intOf i).toNat)
  case atStart => exact ⟨0, by omega, rfl, HB0.out⟩
  case round =>
    obtain ⟨j, hj, rfl, hB⟩ := hrel
    have hR := HR.out.below hB.b
    obtain ⟨cp, e0⟩ := hR.c0
    obtain ⟨cq, e1⟩ := hR.c1
    have c0 := hB.c0
    have c1 := hB.c1
    have c2 := hB.f
    by_cases hjn : j < n
    · have e2 := hR.st j hjn
      have hz : ¬ (S j : Int) = 0 := by have := HF.out j hjn; omega
      have hz2 : ((S j : Int) == 0) = false := by simpa using hz
      have hjd : decide ((j : Int) < (n : Int)) = true := decide_eq_true (by omega)
      have HB := veil hB
      clear hB hR
      go_wp2
      go_roundw
      case rel => exact ⟨j + 1, by omega, by go_num, by first | exact HB.out | exact HB.out.drewN _⟩
      case measure => simp [intOf]; omega
    · have hjd : decide ((j : Int) < (n : Int)) = false := decide_eq_false (by omega)
      have HB := veil hB
      clear hB hR
      go_wp2
      refine bodyPost_ret (v := .tuple #[.agg #[.int .i64 0, .int .u32 0], .int .i64 4]) ?_ rfl ?_
      · simp [results, Tryd.f35, go_sem, c0, c1]
      · exact ⟨rfl, (HB.out.b.setCell (p := ⟨w.heap.size, 0, none⟩) (Nat.le_refl _) _).setCell (p := ⟨w.heap.size, 1, none⟩) (Nat.le_refl _) _⟩

set_option maxHeartbeats 8000000 in
theorem ralloc_some (h : RefR w rb sb gb n G S) (x : Nat) (hx : x < n) (hs : S x = 0) (hf : ∀ j, j < x → S j ≠ 0) (hG : G x + 1 < 4294967296) :
    Calls Tryd.prog 35 #[.pointer (some ⟨rb, 0, none⟩)] w fun e w' => e = .returned (.tuple #[.agg #[.int .i64 (x : Int), .int .u32 ((G x + 1 : Nat) : Int)], .int .i64 0]) ∧ RefR w' rb sb gb n (upd G x (G x + 1)) (upd S x 1) ∧ Fr (fun k => k = sb ∨ k = gb) w w' := by
  have hn2 := h.n2
  have HR := veil h
  have HF := veil hf
  have HB0 := veil (Blank.new w)
  have q1 := h.lt_r
  have q2 := h.lt_s
  have q3 := h.lt_g
  have hd1 := h.d1
  have hd2 := h.d2
  have hd3 := h.d3
  have z1 : ¬ sb = rb := fun e => hd1 e.symm
  have z2 : ¬ gb = rb := fun e => hd2 e.symm
  have z3 : ¬ gb = sb := fun e => hd3 e.symm
  have y1 : ¬ rb = w.heap.size := by omega
  have y2 : ¬ sb = w.heap.size := by omega
  have y3 : ¬ gb = w.heap.size := by omega
  clear h hf
  go_enter Tryd.func35, Tryd.ntmps35
  go_wp2
  go_loopw [4] (fun i wr => ∃ j : Nat, j ≤ x ∧ i = .int .i64 j ∧ Blank w wr) (fun i _ => n - (intOf i).toNat)
  case atStart => exact ⟨0, by omega, rfl, HB0.out⟩
  case round =>
    obtain ⟨j, hj, rfl, hB⟩ := hrel
    have hR := HR.out.below hB.b
    obtain ⟨cp, e0⟩ := hR.c0
    obtain ⟨cq, e1⟩ := hR.c1
    have c0 := hB.c0
    have c1 := hB.c1
    have c2 := hB.f
    have hjn : j < n := by omega
    have e2 := hR.st j hjn
    have hjd : decide ((j : Int) < (n : Int)) = true := decide_eq_true (by omega)
    by_cases hjx : j < x
    · have hz : ¬ (S j : Int) = 0 := by have := HF.out j hjx; omega
      have hz2 : ((S j : Int) == 0) = false := by simpa using hz
      have HB := veil hB
      clear hB hR
      go_wp2
      go_roundw
      case rel => exact ⟨j + 1, by omega, by go_num, by first | exact HB.out | exact HB.out.drewN _⟩
      case measure => simp [intOf]; omega
    · have hjx' : j = x := by omega
      subst hjx'
      have e3 := hR.gn j hjn
      have f1 := hR.fs
      have f2 := hR.fg
      rw [hs] at e2
      have HB := veil hB
      have HRR := veil hR
      clear hB hR
      go_wp2
      have e : ((G j : Int) + 1) = ((G j + 1 : Nat) : Int) := by omega
      rw [e]
      refine bodyPost_ret (v := .tuple #[.agg #[.int .i64 (j : Int), .int .u32 ((G j + 1 : Nat) : Int)], .int .i64 0]) ?_ rfl ⟨rfl, ?_, ?_⟩
      · simp [results, Tryd.f35, go_sem, c0, c1]
      · exact ((((HRR.out.setS j hjn 1).setG j hjn (G j + 1)).far y1 y2 y3).far y1 y2 y3)
      · exact (((((Fr.of_below' (S := fun k => k = sb ∨ k = gb) HB.out.b).setCell (a := ⟨sb, j, none⟩) (Or.inl rfl) _).setCell (a := ⟨gb, j, none⟩) (Or.inr rfl) _).setNew (a := ⟨w.heap.size, 0, none⟩) (Nat.le_refl _) _).setNew (a := ⟨w.heap.size, 1, none⟩) (Nat.le_refl _) _)

set_option maxHeartbeats 4000000 in
theorem rlive_ok (h : RefR w rb sb gb n G S) :
    Calls Tryd.prog 30 #[.pointer (some ⟨rb, 0, none⟩)] w fun e w' => ∃ v, e = .returned v ∧ w'.ownsRow w.heap.size 25 2 v (pl S false n n).length (idCells G (pl S false n n)) ∧ Below w.heap.size w w' := by
  obtain ⟨i0, hi, hz0, hz1, hz2⟩ := info_parts infoId
  have hn2 := h.n2
  have HR := veil h
  have HU := veil Tryd.underlying35
  clear h
  go_enter Tryd.func30, Tryd.ntmps30
  go_wp2
  go_loopw [3, 4] (fun v i wr => ∃ j : Nat, j ≤ n ∧ i = .int .i64 j ∧ wr.ownsRow w.heap.size 25 2 v (pl S false n j).length (idCells G (pl S false n j)) ∧ Below w.heap.size w wr) (fun _ i _ => n - (intOf i).toNat)
  case atStart => exact ⟨0, by omega, rfl, World.ownsRow_nil _ _ _ _, Below.refl _ _⟩
  case round =>
    obtain ⟨j, hj, rfl, hrow, hB⟩ := hrel
    have hR := HR.out.below hB
    obtain ⟨cp, e0⟩ := hR.c0
    obtain ⟨cq, e1⟩ := hR.c1
    by_cases hjn : j < n
    · have e2 := hR.st j hjn
      have e3 := hR.gn j hjn
      have hjd : decide ((j : Int) < (n : Int)) = true := decide_eq_true (by omega)
      by_cases hz : (S j : Int) = 0
      · have hno : ¬ (S j == 0) = false := by have : S j = 0 := by omega
                                              simp [this]
        rw [hz] at e2
        rw [← pl_no (n := n) hno] at hrow
        have HRow := veil hrow
        have HB := veil hB
        clear hrow hB hR
        go_wp2
        go_roundw
        case rel => exact ⟨j + 1, by omega, by go_num, by first | exact HRow.out | exact ⟨HRow.out.1, HRow.out.2⟩, by first | exact HB.out | exact below_drewN HB.out _⟩
        case measure => simp [intOf]; omega
      · have hzz : ((S j : Int) != 0) = true := by simpa using hz
        have hyes : (S j == 0) = false := by simp; omega
        have hlen := pl_len S false n j
        obtain ⟨a0, c0, rfl⟩ := owns_slice hrow
        have HN : Hid (∀ jj u, [Value.int .i64 (j : Int), .int .u32 (G j : Int)][jj]? = some u → (wr.alloc (.cells #[.int .i64 (j : Int), .int .u32 (G j : Int)] 25)).cell? ((⟨wr.heap.size, 0, none⟩ : Addr).add jj) = some u) := by
          intro jj u hu
          have hadd : (⟨wr.heap.size, 0, none⟩ : Addr).add jj = ⟨wr.heap.size, jj, none⟩ := by unfold Addr.add; split <;> simp_all
          rw [hadd, cell_new]
          simpa using hu
        have hL := hrow.alloc (.cells #[.int .i64 (j : Int), .int .u32 (G j : Int)] 25)
        have HK : Hid (∀ w1 v', w1.ownsRow w.heap.size 25 2 v' ((pl S false n j).length + 1) (idCells G (pl S false n j) ++ [.int .i64 (j : Int), .int .u32 (G j : Int)]) → (wr.alloc (.cells #[.int .i64 (j : Int), .int .u32 (G j : Int)] 25)).grownBy w1 (Value.ownBlock (.slice a0 (pl S false n j).length c0)) →
            w1.cell? ⟨rb, 1, none⟩ = some (.slice (some ⟨gb, 0, none⟩) n cq) ∧ w1.cell? ⟨gb, j, none⟩ = some (.int .u32 (G j : Int)) ∧ w1.ownsRow w.heap.size 25 2 v' (pl S false n (j + 1)).length (idCells G (pl S false n (j + 1))) ∧ Below w.heap.size w w1) := by
          intro w1 v' ho hg
          have hb : Below w.heap.size w w1 := (hB.alloc hB.size _).grown hg (Nat.le_trans hB.size (by simp)) (fun k hk => (hrow.lt k hk).1)
          have hR1 := HR.out.below hb
          refine ⟨(hb.cell (p := ⟨rb, 1, none⟩) HR.out.lt_r).trans ((hB.cell (p := ⟨rb, 1, none⟩) HR.out.lt_r).symm.trans e1), hR1.gn j hjn, ?_, hb⟩
          rw [pl_yes hjn hyes, idCells_snoc]
          simpa using ho
        have HL := veil hL
        have hsz := hB.size
        have hlt1 := HR.out.lt_r
        have hlt2 := HR.out.lt_g
        have y1 : ¬ rb = wr.heap.size := by omega
        have y3 : ¬ gb = wr.heap.size := by omega
        clear hrow hB hR hL
        go_wp2_with (at_builtin; refine wpList_append_own _ rfl _ _ 35 rfl w.heap.size 25 i0 (.agg #[.int .i64 0, .int .u32 0]) 2 16 HU.out hi hz0 hz1 hz2 rfl (by omega) _ _ _ rfl (by exact HL.out) ⟨wr.heap.size, 0, none⟩ 1 1 [.int .i64 (j : Int), .int .u32 (G j : Int)] rfl rfl (by exact HN.out) (by simp [Value.oneCell']) (by unfold maxLen; omega) (by omega) (by simp; omega) ?_; intro v1 w1 ho1 hg1 _)
        have HX := veil (HK.out _ _ ho1 hg1)
        clear ho1 hg1
        go_wp2
        go_roundw
        case rel => exact ⟨j + 1, by omega, by go_num, HX.out.2.2.1, HX.out.2.2.2⟩
        case measure => simp [intOf]; omega
    · have hjd : decide ((j : Int) < (n : Int)) = false := decide_eq_false (by omega)
      have hj' : j = n := by omega
      subst hj'
      have HRow := veil hrow
      have HB := veil hB
      clear hrow hB hR
      go_wp2
      go_ret
      exact ⟨_, rfl, HRow.out, HB.out⟩
end
end Go.Proofs.YtfhnepoegdhjmaaDoor
