/-
  The document's servers: Admit.
-/
import Derived.Test.YtblickncecpajaaC23
namespace Go.Proofs.Ytblickncecpajaa
open Go.RowKit Go.Lib
set_option linter.unusedVariables false
theorem infoRServer : (Try.prog.info? 82).map (fun i => (i.zero, i.size, i.bytes)) = some (some (.agg #[.int .u64 0, .int .u64 0, .int .u64 0, .int .u64 0, .bool false]), 5, 40) := by kernel_rfl
section
variable {w : World} {base s P : Nat} {v : Value} {L : List Srv}
theorem radmit_range (h : Rep w base s P v L) (b p : Nat) (hr : rightB b p = false) : Calls Try.prog 43 #[.pointer (some ⟨s, 0, none⟩), .int .u64 (b : Int), .int .u64 (p : Int)] w fun e w' => e = .returned (.tuple #[.int .i64 0, .int .i64 2]) ∧ Below w.heap.size w w' := by
  clear h
  by_cases h1 : b < 1
  · have h1' : (b : Int) < 1 := by omega
    go_enter Try.func43, Try.ntmps43
    go_wp2
    go_ret2
    exact ⟨rfl, Below.refl _ _⟩
  · have h1' : ¬ (b : Int) < 1 := by omega
    by_cases h2 : p < b
    · have h2' : (p : Int) < (b : Int) := by omega
      go_enter Try.func43, Try.ntmps43
      go_wp2
      go_ret2
      exact ⟨rfl, Below.refl _ _⟩
    · have h2' : ¬ (p : Int) < (b : Int) := by omega
      have h3 : ¬ 232792560 % p = 0 := fun q => by simp [rightB, q] at hr; omega
      have hp0 : ¬ (p : Int) = 0 := by omega
      have h3c : ¬ (232792560 : Int) % (p : Int) = 0 := by
        have e : (232792560 : Int) % (p : Int) = ((232792560 % p : Nat) : Int) := rfl
        rw [e]
        generalize 232792560 % p = r at h3
        omega
      have h3d : ((232792560 : Int) % (p : Int) != 0) = true := by simpa using h3c
      go_enter Try.func43, Try.ntmps43
      go_wp2
      go_ret2
      exact ⟨rfl, Below.refl _ _⟩
theorem right_parts {b p : Nat} (hr : rightB b p = true) : ¬ (b : Int) < 1 ∧ ¬ (p : Int) < (b : Int) ∧ ¬ (p : Int) = 0 ∧ (232792560 : Int) % (p : Int) = 0 := by
  simp [rightB] at hr
  obtain ⟨h1, h2, h3⟩ := hr
  have e : (232792560 : Int) % (p : Int) = ((232792560 % p : Nat) : Int) := rfl
  refine ⟨by omega, by omega, by omega, ?_⟩
  rw [e, h3]
  rfl
theorem radmit_full (h : Rep w base s P v L) (b p : Nat) (hr : rightB b p = true) (hl : L.length = 32) : Calls Try.prog 43 #[.pointer (some ⟨s, 0, none⟩), .int .u64 (b : Int), .int .u64 (p : Int)] w fun e w' => e = .returned (.tuple #[.int .i64 0, .int .i64 4]) ∧ Below w.heap.size w w' := by
  obtain ⟨h1, h2, h3, h4⟩ := right_parts hr
  obtain ⟨a, cap, rfl, _, _⟩ := h.form
  have c1 := h.c1
  rw [hl] at c1
  clear h hr
  go_enter Try.func43, Try.ntmps43
  go_wp2
  go_ret2
  exact ⟨rfl, Below.refl _ _⟩
set_option maxHeartbeats 1000000 in
theorem radmit_load (h : Rep w base s P v L) (b p : Nat) (hr : rightB b p = true) (hl : L.length < 32) (hq : P * 232792560 < sumOf L + asks ⟨b, p, 0, 0⟩) : Calls Try.prog 43 #[.pointer (some ⟨s, 0, none⟩), .int .u64 (b : Int), .int .u64 (p : Int)] w fun e w' => e = .returned (.tuple #[.int .i64 0, .int .i64 10]) ∧ Below w.heap.size w w' := by
  obtain ⟨h1, h2, h3, h4⟩ := right_parts hr
  have hok := (right_iff b p).1 hr
  have HS : Hid (∀ w1, Below w.heap.size w w1 → Calls Try.prog 34 #[.pointer (some ⟨s, 0, none⟩)] w1 fun e w' => e = .returned (.int .u64 (sumOf L : Int)) ∧ Below w1.heap.size w1 w') := fun w1 hb => rsum_ok (h.below hb)
  have HC : Hid (∀ w1, Below w.heap.size w w1 → w1.cell? ⟨s, 0, none⟩ = some (.int .i64 (P : Int)) ∧ w1.cell? ⟨s, 1, none⟩ = some v) := fun w1 hb => ⟨(h.below hb).c0, (h.below hb).c1⟩
  have HPP := veil h
  obtain ⟨a, cap, rfl, _, _⟩ := h.form
  have c1 := h.c1
  have c0 := h.c0
  have n1 : ¬ (32 : Int) ≤ (L.length : Int) := by omega
  have q1 := sum_le h.f.all
  have q2 := asks_le hok
  have q3 := h.f.p2
  have q4 := h.f.len
  have g5 : ¬ p = 0 := by omega
  have g4 : IntKind.u64.wrap ((b : Int) * IntKind.u64.wrap (Int.tdiv 232792560 (p : Int))) = (asks ⟨b, p, 0, 0⟩ : Int) := by
    have e1 : Int.tdiv 232792560 (p : Int) = ((232792560 / p : Nat) : Int) := by rw [Int.tdiv_eq_ediv_of_nonneg (by decide)]; simp
    have e2 : 232792560 / p ≤ 232792560 := Nat.div_le_self _ _
    have e3 : IntKind.u64.wrap ((232792560 / p : Nat) : Int) = ((232792560 / p : Nat) : Int) := by
      generalize 232792560 / p = q at e2
      exact wrapU _ (by omega) (by omega)
    have e : (asks ⟨b, p, 0, 0⟩ : Int) = (b : Int) * ((232792560 / p : Nat) : Int) := by unfold asks; simp
    rw [e1, e3, ← e]
    exact wrapU _ (by omega) (by omega)
  generalize asks ⟨b, p, 0, 0⟩ = q at g4 hq q2
  generalize sumOf L = z at HS hq q1
  have e1 : IntKind.u64.wrap ((z : Int) + (q : Int)) = ((z + q : Nat) : Int) := by rw [wrapU _ (by omega) (by omega)]; simp
  have e2 : IntKind.u64.wrap ((P : Int) * 232792560) = ((P * 232792560 : Nat) : Int) := by rw [wrapU _ (by omega) (by omega)]; simp
  have e0 : IntKind.u64.wrap (P : Int) = (P : Int) := wrapU _ (by omega) (by omega)
  have e3 : ((P * 232792560 : Nat) : Int) < ((z + q : Nat) : Int) := by omega
  clear h hr hq q1 q2 q3
  go_enter Try.func43, Try.ntmps43
  go_wp2
  go_region_held3 (fun w' => w'.cell? ⟨s, 0, none⟩ = some (.int .i64 (P : Int)) ∧ w'.cell? ⟨s, 1, none⟩ = some (.slice a L.length cap))
    (first | with_reducible exact ⟨c0, c1⟩ | with_reducible exact hcc | go_keep)
    (first | (go_at_call 34; refine (HS.out _ (Below.refl _ w).drew).mono ?_; rintro e w1 ⟨rfl, hb0⟩; have hb : Below w.heap.size w w1 := ((Below.refl _ w).drew).trans hb0; have hcc := HC.out _ hb; have HB := veil hb; clear hb hb0))
  go_wp2
  go_ret2
  exact ⟨rfl, HB.out⟩
theorem Rep.more (h : Rep w base s P v L) (x : Srv) (hx : x.ok) (hl : L.length < 32) {w1 : World} (hb : Below w.heap.size w w1) {o : Obj}
    {w2 : World} {v1 : Value} (hg : (w1.alloc o).grownBy w2 v.ownBlock) (ho : w2.ownsRow base 82 5 v1 (L.length + 1) (rcells L ++ rone x)) :
    Rep (w2.setCell ⟨s, 1, none⟩ v1) base s P v1 (L ++ [x]) ∧ Fr (fun k => k = s ∨ some k = v.ownBlock) w (w2.setCell ⟨s, 1, none⟩ v1) := by
  have hbW := hb.alloc hb.size o
  have hpW := h.below hbW
  have hb2 := (hg.block s hpW.lt (fun q => hpW.ne q.symm)).trans hpW.blk
  refine ⟨?_, ?_⟩
  · refine Rep.stored hb2 (by rw [rcells_append, List.length_append]; simpa [rcells] using ho) (Nat.le_trans hpW.bs hg.size) ⟨h.f.p1, h.f.p2, ?_, by simp; omega⟩
    intro y hy
    rcases List.mem_append.1 hy with q | q
    · exact h.f.all y q
    · simp at q; rw [q]; exact hx
  · have f1 : Fr (fun k => k = s ∨ some k = v.ownBlock) (w1.alloc o) w2 := (Fr.of_grown hg).wide (fun k _ q => .inr q)
    exact ((Fr.of_below' hbW).trans f1).setCell (a := ⟨s, 1, none⟩) (.inl rfl) _
set_option maxHeartbeats 1000000 in
theorem radmit_ok (h : Rep w base s P v L) (b p : Nat) (hr : rightB b p = true) (hl : L.length < 32) (hq : ¬ P * 232792560 < sumOf L + asks ⟨b, p, 0, 0⟩) : Calls Try.prog 43 #[.pointer (some ⟨s, 0, none⟩), .int .u64 (b : Int), .int .u64 (p : Int)] w fun e w' => e = .returned (.tuple #[.int .i64 (L.length : Int), .int .i64 0]) ∧ (∃ v', Rep w' base s P v' (L ++ [⟨b, p, 0, 0⟩])) ∧ Fr (fun k => k = s ∨ some k = v.ownBlock) w w' := by
  obtain ⟨h1, h2, h3, h4⟩ := right_parts hr
  have hok := (right_iff b p).1 hr
  have HS : Hid (∀ w1, Below w.heap.size w w1 → Calls Try.prog 34 #[.pointer (some ⟨s, 0, none⟩)] w1 fun e w' => e = .returned (.int .u64 (sumOf L : Int)) ∧ Below w1.heap.size w1 w') := fun w1 hb => rsum_ok (h.below hb)
  have HC : Hid (∀ w1, Below w.heap.size w w1 → w1.cell? ⟨s, 0, none⟩ = some (.int .i64 (P : Int)) ∧ w1.cell? ⟨s, 1, none⟩ = some v) := fun w1 hb => ⟨(h.below hb).c0, (h.below hb).c1⟩
  have HPP := veil h
  obtain ⟨a, cap, rfl, _, _⟩ := h.form
  have c1 := h.c1
  have c0 := h.c0
  have n1 : ¬ (32 : Int) ≤ (L.length : Int) := by omega
  have q1 := sum_le h.f.all
  have q2 := asks_le hok
  have q3 := h.f.p2
  have q4 := h.f.len
  have g5 : ¬ p = 0 := by omega
  have g4 : IntKind.u64.wrap ((b : Int) * IntKind.u64.wrap (Int.tdiv 232792560 (p : Int))) = (asks ⟨b, p, 0, 0⟩ : Int) := by
    have e1 : Int.tdiv 232792560 (p : Int) = ((232792560 / p : Nat) : Int) := by rw [Int.tdiv_eq_ediv_of_nonneg (by decide)]; simp
    have e2 : 232792560 / p ≤ 232792560 := Nat.div_le_self _ _
    have e3 : IntKind.u64.wrap ((232792560 / p : Nat) : Int) = ((232792560 / p : Nat) : Int) := by
      generalize 232792560 / p = q at e2
      exact wrapU _ (by omega) (by omega)
    have e : (asks ⟨b, p, 0, 0⟩ : Int) = (b : Int) * ((232792560 / p : Nat) : Int) := by unfold asks; simp
    rw [e1, e3, ← e]
    exact wrapU _ (by omega) (by omega)
  generalize asks ⟨b, p, 0, 0⟩ = q at g4 hq q2
  generalize sumOf L = z at HS hq q1
  have e1 : IntKind.u64.wrap ((z : Int) + (q : Int)) = ((z + q : Nat) : Int) := by rw [wrapU _ (by omega) (by omega)]; simp
  have e2 : IntKind.u64.wrap ((P : Int) * 232792560) = ((P * 232792560 : Nat) : Int) := by rw [wrapU _ (by omega) (by omega)]; simp
  have e0 : IntKind.u64.wrap (P : Int) = (P : Int) := wrapU _ (by omega) (by omega)
  have e3 : ¬ ((P * 232792560 : Nat) : Int) < ((z + q : Nat) : Int) := by omega
  clear h hr hq q1 q2 q3
  go_enter Try.func43, Try.ntmps43
  go_wp2
  go_region_held3 (fun w' => w'.cell? ⟨s, 0, none⟩ = some (.int .i64 (P : Int)) ∧ w'.cell? ⟨s, 1, none⟩ = some (.slice a L.length cap))
    (first | with_reducible exact ⟨c0, c1⟩ | with_reducible exact hcc | go_keep)
    (first | (go_at_call 34; refine (HS.out _ (Below.refl _ w).drew).mono ?_; rintro e w1 ⟨rfl, hb0⟩; have hb : Below w.heap.size w w1 := ((Below.refl _ w).drew).trans hb0; have hcc := HC.out _ hb; have HB := veil hb; clear hb hb0))
  have HR1 := veil (HPP.out.below HB.out)
  have hsz1 := HB.out.size
  have hbs := HR1.out.bs
  obtain ⟨i0, hi, hz0, hz1, hz2⟩ := info_parts infoRServer
  have NLEN : [Value.int .u64 (b : Int), .int .u64 (p : Int), .int .u64 0, .int .u64 0, .bool true].length = 1 * 5 := rfl
  go_wp2_with (at_builtin; refine wpList_append_own _ rfl _ _ 77 rfl base 82 i0 (.agg #[.int .u64 0, .int .u64 0, .int .u64 0, .int .u64 0, .bool false]) 5 40 Try.underlying77 hi hz0 hz1 hz2 rfl (by omega) _ _ _ rfl (HR1.out.own.alloc _) ⟨w1.heap.size, 0, none⟩ 1 1 [.int .u64 (b : Int), .int .u64 (p : Int), .int .u64 0, .int .u64 0, .bool true] rfl rfl (news_of (c := [.int .u64 (b : Int), .int .u64 (p : Int), .int .u64 0, .int .u64 0, .bool true]) rfl) (by intro u hu; simp at hu; rcases hu with rfl | rfl | rfl | rfl | rfl <;> rfl) (by unfold maxLen; omega) (by omega) (by simp; omega) ?_; intro v' w3 hown hgrow _; obtain ⟨g9, cap9, rfl⟩ := ownsRow_succ hown; have hblk : w3.heap[s]? = some (.cells #[.int .i64 (P : Int), .slice a L.length cap] 79 (0, 0)) := (hgrow.block s (by have := HR1.out.lt; simp; omega) (fun q => HR1.out.ne q.symm)).trans ((Below.heap_alloc _ _ _ HR1.out.lt).trans HR1.out.blk); have k1 : w3.cell? ⟨s, 1, none⟩ = some (.slice a L.length cap) := (by unfold World.cell?; simp [hblk]); have k2 : w3.frozen? ⟨s, 1, none⟩ = false := (by unfold World.frozen?; simp [hblk]); have HBK := veil hblk; have HOW := veil hown; have HGR := veil (hgrow : World.grownBy _ _ (Value.slice a L.length cap).ownBlock); clear hown hgrow hblk)
  go_ret2
  obtain ⟨r1, r2⟩ := HPP.out.more ⟨b, p, 0, 0⟩ hok hl HB.out HGR.out HOW.out
  exact ⟨rfl, ⟨_, r1⟩, r2⟩
end
end Go.Proofs.Ytblickncecpajaa
