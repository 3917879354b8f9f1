/-
  exec: ExecMoves.
-/
import Derived.Test.YteknpjjgppmlmaaJ8
namespace Go.Proofs.Yteknpjjgppmlmaa
open Go.RowKit Go.Lib
set_option linter.unusedVariables false

set_option maxHeartbeats 4000000 in
theorem moves_walk (w : World) (a : Option Addr) (len cap : Nat) (hl : len < 9223372036854775808) (hc : len ≤ cap) (O R : Nat → Int) (hp : Prg w a len O R) (A : Nat) (hA : A < 256) :
    Calls Try.prog 9 #[.slice a len cap, .int .u8 (A : Int)] w fun e w' => e = .returned (.bool true) ∧ Below w.heap.size w w' := by
  have HF := veil (fun w1 (hb : Below w.heap.size w w1) => few_ok w1 a len cap hl hc O R (hp.below hb))
  have hpm := hp.cut (m := min len 100) (by omega)
  have hm : min len 100 < 9223372036854775808 := by omega
  have HL := veil live_ok
  clear hp
  generalize (min len 100) = m at HF hpm hm
  obtain ⟨ce, cy, hxy⟩ := chk_total m O R
  have HC := veil (fun w1 (hb : Below w.heap.size w w1) => rcheck_known w1 a m cap hm O R (hpm.below hb) ce cy hxy)
  by_cases hx : ce = 0
  · subst hx
    have hr : Rt m O R := ⟨cy, hxy⟩
    have h64 := hr.at
    have h1 := hxy.zero.1
    obtain ⟨j, hj, hjl⟩ : ∃ j, j = A % m ∧ j < m := ⟨_, rfl, Nat.mod_lt _ (by omega)⟩
    have hmod : Int.tmod (A : Int) (m : Int) = (j : Int) := by rw [hj]; rfl
    have hm0 : ¬ (m : Int) = 0 := by omega
    have HS := veil (fun w1 (hb : Below w.heap.size w w1) => step_yes w1 a m cap O R (hpm.below hb) j 0 (by decide) hr hjl)
    have HP : Hid (∀ w1, Below w.heap.size w w1 → ∃ lb off, a = some ⟨lb, off, none⟩ ∧ w1.cell? ⟨lb, off + j * 2, none⟩ = some (.int .i64 (O j)) ∧ w1.cell? ⟨lb, off + j * 2 + 1, none⟩ = some (.int .i64 (R j))) := by
      intro w1 hb
      rcases hpm with h0 | ⟨lb, off, rfl, hlb, hc⟩
      · omega
      · exact ⟨lb, off, rfl, (hb.cell (p := ⟨lb, off + j * 2, none⟩) hlb).trans (hc j hjl).1, (hb.cell (p := ⟨lb, off + j * 2 + 1, none⟩) hlb).trans (hc j hjl).2⟩
    generalize O j = o at HS HP
    generalize R j = q at HS HP
    clear hpm hxy hr hj
    have hcs : o = 9 ∨ o = 8 ∨ o = 1 ∨ ((o == 9) = false ∧ (o == 8) = false ∧ (o == 1) = false) := by
      by_cases h9 : o = 9
      · exact .inl h9
      · by_cases h8 : o = 8
        · exact .inr (.inl h8)
        · by_cases h1 : o = 1
          · exact .inr (.inr (.inl h1))
          · exact .inr (.inr (.inr ⟨by simpa using h9, by simpa using h8, by simpa using h1⟩))
    rcases hcs with rfl | rfl | rfl | ⟨h9, h8, h1'⟩
    case' inl => have e1 : nxI 9 q j = j := rfl; have e2 : lfI 9 q 0 = 0 := rfl
    case' inr.inl => have e1 : nxI 8 q j = q := rfl; have e2 : lfI 8 q 0 = 0 := rfl
    case' inr.inr.inl => have e1 : nxI 1 q j = j + 1 := rfl; have e2 : lfI 1 q 0 = q := rfl
    case' inr.inr.inr => have e1 : nxI o q j = j + 1 := (by simp at h9 h8; simp [nxI, h9, h8]); have e2 : lfI o q 0 = 0 := (by simp at h1'; simp [lfI, h1'])
    all_goals
      rw [e1, e2] at HS
      clear e1 e2
      go_enter Try.func9, Try.ntmps9
      go_wp2_with (first
        | (go_at_call 10; refine (HF.out _ (Below.refl _ _)).mono ?_; rintro e w0 ⟨rfl, hw⟩; replace hw := hw.symm; subst hw)
        | (go_at_call 19; refine (HC.out _ (Below.refl _ _)).mono ?_; rintro e w1 ⟨rfl, hb⟩; have HB1 := veil hb; clear hb)
        | (go_at_call 11; refine (HS.out _ (by exact HB1.out.alloc HB1.out.size _)).mono ?_; rintro e w2 ⟨rfl, hb⟩; have tF := (Two.new w1 _ _ _).below hb; have HF2 := veil tF; have HB2 := veil ((HB1.out.alloc HB1.out.size _).trans (hb.mono (by have := HB1.out.size; simp; omega))); obtain ⟨cf0, cf1, _, _⟩ := tF; have l1 := HF2.out.lt; have n1 : ¬ w1.heap.size = w2.heap.size := (by omega); have n2 : ¬ w1.heap.size = w2.heap.size + 1 := (by omega); have cg0 := (((HF2.out.alloc (.cells #[.int .i64 9, .int .i64 q] 28)).alloc (.cells #[.int .i64 (j : Int), .int .i64 0] 24)).alloc (.cells #[.int .i64 ((j : Int) + 1), .int .i64 0] 24)).1; clear hb))
    · have tF := ((HF2.out.alloc (.cells #[.int .i64 o, .int .i64 q] 28)).alloc (.cells #[.int .i64 ((j : Int) + 1), .int .i64 0] 24)).alloc (.cells #[.int .i64 ((j : Int) + 1), .int .i64 0] 24)
      have tI := ((Two.new w2 (.int .i64 o) (.int .i64 q) 28).alloc (.cells #[.int .i64 ((j : Int) + 1), .int .i64 0] 24)).alloc (.cells #[.int .i64 ((j : Int) + 1), .int .i64 0] 24)
      have tG := (Two.new1 w2 (.cells #[.int .i64 o, .int .i64 q] 28) (.int .i64 ((j : Int) + 1)) (.int .i64 0) 24).alloc (.cells #[.int .i64 ((j : Int) + 1), .int .i64 0] 24)
      have tW := Two.new2 w2 (.cells #[.int .i64 o, .int .i64 q] 28) (.cells #[.int .i64 ((j : Int) + 1), .int .i64 0] 24) (.int .i64 ((j : Int) + 1)) (.int .i64 0) 24
      have HBW := veil (((HB2.out.alloc HB2.out.size (.cells #[.int .i64 o, .int .i64 q] 28)).alloc (by have := HB2.out.size; simp; omega) (.cells #[.int .i64 ((j : Int) + 1), .int .i64 0] 24)).alloc (by have := HB2.out.size; simp; omega) (.cells #[.int .i64 ((j : Int) + 1), .int .i64 0] 24))
      clear cf0 cf1 n1 n2 cg0
      generalize ((w2.alloc (.cells #[.int .i64 o, .int .i64 q] 28)).alloc (.cells #[.int .i64 ((j : Int) + 1), .int .i64 0] 24)).alloc (.cells #[.int .i64 ((j : Int) + 1), .int .i64 0] 24) = W at tF tI tG tW HBW ⊢
      have HTF := veil tF
      have HTI := veil tI
      have HTG := veil tG
      have HTW := veil tW
      obtain ⟨f0, f1, _, _⟩ := tF
      obtain ⟨i0, i1, _, _⟩ := tI
      obtain ⟨g0, g1, _, _⟩ := tG
      obtain ⟨x0, x1, _, _⟩ := tW
      obtain ⟨lb, off, rfl, p0, p1⟩ := HP.out _ HBW.out
      go_region_held3 (fun w' => w'.cell? ⟨w1.heap.size, 0, none⟩ = some (.int .i64 (j : Int)) ∧ w'.cell? ⟨w2.heap.size, 0, none⟩ = some (.int .i64 o) ∧ w'.cell? ⟨w2.heap.size, 1, none⟩ = some (.int .i64 q) ∧ w'.cell? ⟨w2.heap.size + 1, 0, none⟩ = some (.int .i64 ((j : Int) + 1)) ∧ w'.cell? ⟨w2.heap.size + 1, 1, none⟩ = some (.int .i64 0) ∧ w'.cell? ⟨w2.heap.size + 1 + 1, 0, none⟩ = some (.int .i64 ((j : Int) + 1)) ∧ w'.cell? ⟨w2.heap.size + 1 + 1, 1, none⟩ = some (.int .i64 0) ∧ w'.cell? ⟨lb, off + j * 2, none⟩ = some (.int .i64 o) ∧ w'.cell? ⟨lb, off + j * 2 + 1, none⟩ = some (.int .i64 q))
        (first | with_reducible exact ⟨f0, i0, i1, g0, g1, x0, x1, p0, p1⟩ | with_reducible exact ⟨ef0, ei0, ei1, eg0, eg1, ex0, ex1, p2, p3⟩ | go_keep)
        (first | (go_at_call 15; refine (HL.out _).mono ?_; rintro e w3 ⟨rfl, hb0⟩; have hb : Below W.heap.size W w3 := ((Below.refl _ W).drew).trans hb0; have tF := HTF.out.below hb; have tI := HTI.out.below hb; have tG := HTG.out.below hb; have tW := HTW.out.below hb; have HB3 := veil (HBW.out.trans (hb.mono HBW.out.size)); obtain ⟨ef0, ef1, _, _⟩ := tF; obtain ⟨ei0, ei1, _, _⟩ := tI; obtain ⟨eg0, eg1, _, _⟩ := tG; obtain ⟨ex0, ex1, _, _⟩ := tW; obtain ⟨lb2, off2, he, p2, p3⟩ := HP.out _ HB3.out; cases he; clear hb hb0))
      go_wp2
      go_ret
      exact ⟨rfl, HB3.out⟩
    · have tF := ((HF2.out.alloc (.cells #[.int .i64 1, .int .i64 q] 28)).alloc (.cells #[.int .i64 ((j : Int) + 1), .int .i64 q] 24)).alloc (.cells #[.int .i64 ((j : Int) + 1), .int .i64 q] 24)
      have tI := ((Two.new w2 (.int .i64 1) (.int .i64 q) 28).alloc (.cells #[.int .i64 ((j : Int) + 1), .int .i64 q] 24)).alloc (.cells #[.int .i64 ((j : Int) + 1), .int .i64 q] 24)
      have tG := (Two.new1 w2 (.cells #[.int .i64 1, .int .i64 q] 28) (.int .i64 ((j : Int) + 1)) (.int .i64 q) 24).alloc (.cells #[.int .i64 ((j : Int) + 1), .int .i64 q] 24)
      have tW := Two.new2 w2 (.cells #[.int .i64 1, .int .i64 q] 28) (.cells #[.int .i64 ((j : Int) + 1), .int .i64 q] 24) (.int .i64 ((j : Int) + 1)) (.int .i64 q) 24
      have HBW := veil (((HB2.out.alloc HB2.out.size (.cells #[.int .i64 1, .int .i64 q] 28)).alloc (by have := HB2.out.size; simp; omega) (.cells #[.int .i64 ((j : Int) + 1), .int .i64 q] 24)).alloc (by have := HB2.out.size; simp; omega) (.cells #[.int .i64 ((j : Int) + 1), .int .i64 q] 24))
      clear cf0 cf1 n1 n2 cg0
      generalize ((w2.alloc (.cells #[.int .i64 1, .int .i64 q] 28)).alloc (.cells #[.int .i64 ((j : Int) + 1), .int .i64 q] 24)).alloc (.cells #[.int .i64 ((j : Int) + 1), .int .i64 q] 24) = W at tF tI tG tW HBW ⊢
      have HTF := veil tF
      have HTI := veil tI
      have HTG := veil tG
      have HTW := veil tW
      obtain ⟨f0, f1, _, _⟩ := tF
      obtain ⟨i0, i1, _, _⟩ := tI
      obtain ⟨g0, g1, _, _⟩ := tG
      obtain ⟨x0, x1, _, _⟩ := tW
      obtain ⟨lb, off, rfl, p0, p1⟩ := HP.out _ HBW.out
      go_region_held3 (fun w' => w'.cell? ⟨w1.heap.size, 0, none⟩ = some (.int .i64 (j : Int)) ∧ w'.cell? ⟨w2.heap.size, 0, none⟩ = some (.int .i64 1) ∧ w'.cell? ⟨w2.heap.size, 1, none⟩ = some (.int .i64 q) ∧ w'.cell? ⟨w2.heap.size + 1, 0, none⟩ = some (.int .i64 ((j : Int) + 1)) ∧ w'.cell? ⟨w2.heap.size + 1, 1, none⟩ = some (.int .i64 q) ∧ w'.cell? ⟨w2.heap.size + 1 + 1, 0, none⟩ = some (.int .i64 ((j : Int) + 1)) ∧ w'.cell? ⟨w2.heap.size + 1 + 1, 1, none⟩ = some (.int .i64 q) ∧ w'.cell? ⟨lb, off + j * 2, none⟩ = some (.int .i64 1) ∧ w'.cell? ⟨lb, off + j * 2 + 1, none⟩ = some (.int .i64 q))
        (first | with_reducible exact ⟨f0, i0, i1, g0, g1, x0, x1, p0, p1⟩ | with_reducible exact ⟨ef0, ei0, ei1, eg0, eg1, ex0, ex1, p2, p3⟩ | go_keep)
        (first | (go_at_call 15; refine (HL.out _).mono ?_; rintro e w3 ⟨rfl, hb0⟩; have hb : Below W.heap.size W w3 := ((Below.refl _ W).drew).trans hb0; have tF := HTF.out.below hb; have tI := HTI.out.below hb; have tG := HTG.out.below hb; have tW := HTW.out.below hb; have HB3 := veil (HBW.out.trans (hb.mono HBW.out.size)); obtain ⟨ef0, ef1, _, _⟩ := tF; obtain ⟨ei0, ei1, _, _⟩ := tI; obtain ⟨eg0, eg1, _, _⟩ := tG; obtain ⟨ex0, ex1, _, _⟩ := tW; obtain ⟨lb2, off2, he, p2, p3⟩ := HP.out _ HB3.out; cases he; clear hb hb0))
      go_wp2
      go_ret
      exact ⟨rfl, HB3.out⟩
    · have tF := ((HF2.out.alloc (.cells #[.int .i64 8, .int .i64 q] 28)).alloc (.cells #[.int .i64 q, .int .i64 0] 24)).alloc (.cells #[.int .i64 q, .int .i64 0] 24)
      have tI := ((Two.new w2 (.int .i64 8) (.int .i64 q) 28).alloc (.cells #[.int .i64 q, .int .i64 0] 24)).alloc (.cells #[.int .i64 q, .int .i64 0] 24)
      have tG := (Two.new1 w2 (.cells #[.int .i64 8, .int .i64 q] 28) (.int .i64 q) (.int .i64 0) 24).alloc (.cells #[.int .i64 q, .int .i64 0] 24)
      have tW := Two.new2 w2 (.cells #[.int .i64 8, .int .i64 q] 28) (.cells #[.int .i64 q, .int .i64 0] 24) (.int .i64 q) (.int .i64 0) 24
      have HBW := veil (((HB2.out.alloc HB2.out.size (.cells #[.int .i64 8, .int .i64 q] 28)).alloc (by have := HB2.out.size; simp; omega) (.cells #[.int .i64 q, .int .i64 0] 24)).alloc (by have := HB2.out.size; simp; omega) (.cells #[.int .i64 q, .int .i64 0] 24))
      clear cf0 cf1 n1 n2 cg0
      generalize ((w2.alloc (.cells #[.int .i64 8, .int .i64 q] 28)).alloc (.cells #[.int .i64 q, .int .i64 0] 24)).alloc (.cells #[.int .i64 q, .int .i64 0] 24) = W at tF tI tG tW HBW ⊢
      have HTF := veil tF
      have HTI := veil tI
      have HTG := veil tG
      have HTW := veil tW
      obtain ⟨f0, f1, _, _⟩ := tF
      obtain ⟨i0, i1, _, _⟩ := tI
      obtain ⟨g0, g1, _, _⟩ := tG
      obtain ⟨x0, x1, _, _⟩ := tW
      obtain ⟨lb, off, rfl, p0, p1⟩ := HP.out _ HBW.out
      go_region_held3 (fun w' => w'.cell? ⟨w1.heap.size, 0, none⟩ = some (.int .i64 (j : Int)) ∧ w'.cell? ⟨w2.heap.size, 0, none⟩ = some (.int .i64 8) ∧ w'.cell? ⟨w2.heap.size, 1, none⟩ = some (.int .i64 q) ∧ w'.cell? ⟨w2.heap.size + 1, 0, none⟩ = some (.int .i64 q) ∧ w'.cell? ⟨w2.heap.size + 1, 1, none⟩ = some (.int .i64 0) ∧ w'.cell? ⟨w2.heap.size + 1 + 1, 0, none⟩ = some (.int .i64 q) ∧ w'.cell? ⟨w2.heap.size + 1 + 1, 1, none⟩ = some (.int .i64 0) ∧ w'.cell? ⟨lb, off + j * 2, none⟩ = some (.int .i64 8) ∧ w'.cell? ⟨lb, off + j * 2 + 1, none⟩ = some (.int .i64 q))
        (first | with_reducible exact ⟨f0, i0, i1, g0, g1, x0, x1, p0, p1⟩ | with_reducible exact ⟨ef0, ei0, ei1, eg0, eg1, ex0, ex1, p2, p3⟩ | go_keep)
        (first | (go_at_call 15; refine (HL.out _).mono ?_; rintro e w3 ⟨rfl, hb0⟩; have hb : Below W.heap.size W w3 := ((Below.refl _ W).drew).trans hb0; have tF := HTF.out.below hb; have tI := HTI.out.below hb; have tG := HTG.out.below hb; have tW := HTW.out.below hb; have HB3 := veil (HBW.out.trans (hb.mono HBW.out.size)); obtain ⟨ef0, ef1, _, _⟩ := tF; obtain ⟨ei0, ei1, _, _⟩ := tI; obtain ⟨eg0, eg1, _, _⟩ := tG; obtain ⟨ex0, ex1, _, _⟩ := tW; obtain ⟨lb2, off2, he, p2, p3⟩ := HP.out _ HB3.out; cases he; clear hb hb0))
      go_wp2
      go_ret
      exact ⟨rfl, HB3.out⟩
    · have tF := ((HF2.out.alloc (.cells #[.int .i64 9, .int .i64 q] 28)).alloc (.cells #[.int .i64 (j : Int), .int .i64 0] 24)).alloc (.cells #[.int .i64 (j : Int), .int .i64 0] 24)
      have tI := ((Two.new w2 (.int .i64 9) (.int .i64 q) 28).alloc (.cells #[.int .i64 (j : Int), .int .i64 0] 24)).alloc (.cells #[.int .i64 (j : Int), .int .i64 0] 24)
      have tG := (Two.new1 w2 (.cells #[.int .i64 9, .int .i64 q] 28) (.int .i64 (j : Int)) (.int .i64 0) 24).alloc (.cells #[.int .i64 (j : Int), .int .i64 0] 24)
      have tW := Two.new2 w2 (.cells #[.int .i64 9, .int .i64 q] 28) (.cells #[.int .i64 (j : Int), .int .i64 0] 24) (.int .i64 (j : Int)) (.int .i64 0) 24
      have HBW := veil (((HB2.out.alloc HB2.out.size (.cells #[.int .i64 9, .int .i64 q] 28)).alloc (by have := HB2.out.size; simp; omega) (.cells #[.int .i64 (j : Int), .int .i64 0] 24)).alloc (by have := HB2.out.size; simp; omega) (.cells #[.int .i64 (j : Int), .int .i64 0] 24))
      clear cf0 cf1 n1 n2 cg0
      generalize ((w2.alloc (.cells #[.int .i64 9, .int .i64 q] 28)).alloc (.cells #[.int .i64 (j : Int), .int .i64 0] 24)).alloc (.cells #[.int .i64 (j : Int), .int .i64 0] 24) = W at tF tI tG tW HBW ⊢
      have HTF := veil tF
      have HTI := veil tI
      have HTG := veil tG
      have HTW := veil tW
      obtain ⟨f0, f1, _, _⟩ := tF
      obtain ⟨i0, i1, _, _⟩ := tI
      obtain ⟨g0, g1, _, _⟩ := tG
      obtain ⟨x0, x1, _, _⟩ := tW
      obtain ⟨lb, off, rfl, p0, p1⟩ := HP.out _ HBW.out
      go_region_held3 (fun w' => w'.cell? ⟨w1.heap.size, 0, none⟩ = some (.int .i64 (j : Int)) ∧ w'.cell? ⟨w2.heap.size, 0, none⟩ = some (.int .i64 9) ∧ w'.cell? ⟨w2.heap.size, 1, none⟩ = some (.int .i64 q) ∧ w'.cell? ⟨w2.heap.size + 1, 0, none⟩ = some (.int .i64 (j : Int)) ∧ w'.cell? ⟨w2.heap.size + 1, 1, none⟩ = some (.int .i64 0) ∧ w'.cell? ⟨w2.heap.size + 1 + 1, 0, none⟩ = some (.int .i64 (j : Int)) ∧ w'.cell? ⟨w2.heap.size + 1 + 1, 1, none⟩ = some (.int .i64 0) ∧ w'.cell? ⟨lb, off + j * 2, none⟩ = some (.int .i64 9) ∧ w'.cell? ⟨lb, off + j * 2 + 1, none⟩ = some (.int .i64 q))
        (first | with_reducible exact ⟨f0, i0, i1, g0, g1, x0, x1, p0, p1⟩ | with_reducible exact ⟨ef0, ei0, ei1, eg0, eg1, ex0, ex1, p2, p3⟩ | go_keep)
        (first | (go_at_call 15; refine (HL.out _).mono ?_; rintro e w3 ⟨rfl, hb0⟩; have hb : Below W.heap.size W w3 := ((Below.refl _ W).drew).trans hb0; have tF := HTF.out.below hb; have tI := HTI.out.below hb; have tG := HTG.out.below hb; have tW := HTW.out.below hb; have HB3 := veil (HBW.out.trans (hb.mono HBW.out.size)); obtain ⟨ef0, ef1, _, _⟩ := tF; obtain ⟨ei0, ei1, _, _⟩ := tI; obtain ⟨eg0, eg1, _, _⟩ := tG; obtain ⟨ex0, ex1, _, _⟩ := tW; obtain ⟨lb2, off2, he, p2, p3⟩ := HP.out _ HB3.out; cases he; clear hb hb0))
      go_wp2
      go_ret
      exact ⟨rfl, HB3.out⟩
  · have hx' : (ce != 0) = true := by simpa using hx
    clear hpm hxy
    go_enter Try.func9, Try.ntmps9
    go_wp2_with (first
      | (go_at_call 10; refine (HF.out _ (Below.refl _ _)).mono ?_; rintro e w0 ⟨rfl, hw⟩; replace hw := hw.symm; subst hw)
      | (go_at_call 19; refine (HC.out _ (Below.refl _ _)).mono ?_; rintro e w1 ⟨rfl, hb⟩; have HB1 := veil hb; clear hb)
      | (go_at_call 15; refine (HL.out _).mono ?_; rintro e w2 ⟨rfl, hb⟩; have HB2 := veil (HB1.out.trans (hb.mono HB1.out.size)); clear hb))
    go_ret
    exact ⟨rfl, HB2.out⟩
end Go.Proofs.Yteknpjjgppmlmaa
