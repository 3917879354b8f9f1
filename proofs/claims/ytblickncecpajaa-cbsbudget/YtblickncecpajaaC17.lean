/-
  cbs: one server alone, call by call.
-/
import Derived.Test.YtblickncecpajaaC16
namespace Go.Proofs.Ytblickncecpajaa
open Go.RowKit Go.Lib
set_option linter.unusedVariables false

/-- One server, of one processor, that was made behind w. -/
def On (w W : World) (s : Nat) (x : Srv) : Prop := (∃ v, Pep W w.heap.size s 1 v [x]) ∧ Below w.heap.size w W ∧ w.heap.size ≤ s
theorem On.below {w W W' : World} {s : Nat} {x : Srv} (h : On w W s x) (hb : Below W.heap.size W W') : On w W' s x := by
  obtain ⟨⟨v, hv⟩, h1, h2⟩ := h
  exact ⟨⟨v, hv.below hb⟩, h1.trans (hb.mono h1.size), h2⟩
theorem On.ok {w W : World} {s : Nat} {x : Srv} (h : On w W s x) : x.ok := by
  obtain ⟨⟨v, hv⟩, _⟩ := h
  exact hv.f.all x (by simp)
theorem below_one {w : World} {c : Array Value} {t : TypeId} : Below w.heap.size w (w.alloc (.cells c t)) := (Below.refl _ _).alloc (Nat.le_refl _) _
theorem at_one (x : Srv) : atL [x] 0 = x := rfl
section
variable {w W : World} {s : Nat} {x : Srv}
theorem on_left (h : On w W s x) : Calls Try.prog 18 #[.pointer (some ⟨s, 0, none⟩), .int .i64 0] W fun e W' => e = .returned (.int .u64 (x.l : Int)) ∧ On w W' s x := by
  obtain ⟨v, hv⟩ := h.1
  refine (left_ok hv 0).mono ?_
  rintro e W' ⟨rfl, c, rfl⟩
  exact ⟨by rw [at_one], h.below below_one⟩
theorem on_deadline (h : On w W s x) : Calls Try.prog 19 #[.pointer (some ⟨s, 0, none⟩), .int .i64 0] W fun e W' => e = .returned (.int .u64 (x.d : Int)) ∧ On w W' s x := by
  obtain ⟨v, hv⟩ := h.1
  refine (deadline_ok hv 0).mono ?_
  rintro e W' ⟨rfl, c, rfl⟩
  exact ⟨by rw [at_one], h.below below_one⟩
theorem on_active (h : On w W s x) : Calls Try.prog 21 #[.pointer (some ⟨s, 0, none⟩), .int .i64 0] W fun e W' => e = .returned (.bool (decide (0 < x.l))) ∧ On w W' s x := by
  obtain ⟨v, hv⟩ := h.1
  refine (active_ok hv 0).mono ?_
  rintro e W' ⟨rfl, c, rfl⟩
  exact ⟨by rw [at_one], h.below below_one⟩
theorem on_fr {S : Nat → Prop} {W' : World} {v : Value} {y : Srv} (h : On w W s x) (hf : Fr S W W') (hS : ∀ k, S k → w.heap.size ≤ k) (hp : Pep W' w.heap.size s 1 v [y]) : On w W' s y :=
  ⟨⟨v, hp⟩, h.2.1.trans (hf.below h.2.1.size hS), h.2.2⟩
theorem on_charge (h : On w W s x) (hl : 1 ≤ x.l) : Calls Try.prog 17 #[.pointer (some ⟨s, 0, none⟩), .int .i64 0] W fun e W' => e = .returned (.tuple #[.bool (x.l - 1 == 0), .int .i64 0]) ∧ On w W' s (tickS x) := by
  obtain ⟨v, hv⟩ := h.1
  refine (charge_ok hv 0 x rfl hl).mono ?_
  rintro e W' ⟨rfl, hp, hf⟩
  exact ⟨rfl, on_fr h hf (fun k hk => (ownsRow_blk hv.own hk.symm).1) hp⟩
theorem on_charge_none (h : On w W s x) (hl : x.l = 0) : Calls Try.prog 17 #[.pointer (some ⟨s, 0, none⟩), .int .i64 0] W fun e W' => e = .returned (.tuple #[.bool false, .int .i64 6]) ∧ On w W' s x := by
  obtain ⟨v, hv⟩ := h.1
  refine (charge_none hv 0 x rfl hl).mono ?_
  rintro e W' ⟨rfl, rfl⟩
  exact ⟨rfl, h⟩
theorem on_wake (h : On w W s x) (now : Nat) (hn : now < 18446744073709551616) : Calls Try.prog 15 #[.pointer (some ⟨s, 0, none⟩), .int .i64 0, .int .u64 (now : Int)] W fun e W' => e = .returned (.int .i64 0) ∧ On w W' s (if x.d ≤ now then fillS x now else x) := by
  obtain ⟨v, hv⟩ := h.1
  by_cases hd : x.d ≤ now
  · rw [if_pos hd]
    refine (wake_yes hv 0 now x rfl hd hn).mono ?_
    rintro e W' ⟨rfl, hp, hf⟩
    exact ⟨rfl, on_fr h hf (fun k hk => (ownsRow_blk hv.own hk.symm).1) hp⟩
  · rw [if_neg hd]
    refine (wake_not hv 0 now x rfl hd).mono ?_
    rintro e W' ⟨rfl, hb⟩
    exact ⟨rfl, h.below hb⟩
theorem on_refill (h : On w W s x) (now : Nat) (hn : now < 18446744073709551616) : Calls Try.prog 16 #[.pointer (some ⟨s, 0, none⟩), .int .u64 (now : Int)] W fun e W' => (∃ a cap, e = .returned (.slice a (if dueB now x then 1 else 0) cap)) ∧ On w W' s (refS now x) := by
  obtain ⟨v, hv⟩ := h.1
  refine (refill_ok hv now hn).mono ?_
  rintro e W' ⟨lv, rfl, ho, hp, hf⟩
  refine ⟨?_, on_fr h hf (fun k hk => (ownsRow_blk hv.own hk.symm).1) hp⟩
  have hl : (dueN [x] now [x].length).length = if dueB now x then 1 else 0 := by
    simp only [List.length_cons, List.length_nil, Nat.zero_add, dueN, List.nil_append]
    cases hd : dueB now x <;> simp [hd]
  rw [hl] at ho
  obtain ⟨a, cap, rfl⟩ := owns_slice ho
  exact ⟨a, cap, rfl⟩
theorem on_new (w W : World) (hb : Below w.heap.size w W) (b p : Nat) (hr : rightB b p = true) (hq : asks ⟨b, p, 0, 0⟩ ≤ 232792560) :
    Calls Try.prog 14 #[.pointer (some ⟨W.heap.size, 0, none⟩), .int .u64 (b : Int), .int .u64 (p : Int)] (W.alloc (.cells #[.int .u64 1, .slice none 0 0] 65)) fun e W' => e = .returned (.tuple #[.int .i64 0, .int .i64 0]) ∧ On w W' W.heap.size ⟨b, p, 0, 0⟩ := by
  have hp := Pep.new W 1 (by omega) (by omega) w.heap.size hb.size
  have hc : admC 1 [] b p = 0 := by simp [admC, hr, sumOf]; omega
  refine (admit_all hp b p).mono ?_
  rintro e W' ⟨rfl, ⟨v', hv'⟩, hf⟩
  refine ⟨by simp [admN, hc], ⟨v', by simpa [admL, hc] using hv'⟩, ?_, hb.size⟩
  refine (hb.alloc hb.size _).trans (hf.below ?_ ?_)
  · have := hb.size; simp; omega
  · intro k hk
    rcases hk with rfl | hk
    · exact hb.size
    · simp [Value.ownBlock] at hk
end
/-- The same, with a block of another's that stays. -/
def On2 (w W : World) (s : Nat) (x : Srv) (kb : Nat) (o : Obj) : Prop := ∃ v, Pep W w.heap.size s 1 v [x] ∧ v.ownBlock ≠ some kb ∧ W.heap[kb]? = some o ∧ Below w.heap.size w W ∧ w.heap.size ≤ s
section
variable {w W : World} {s : Nat} {x : Srv} {kb : Nat} {o : Obj}
theorem On2.one (h : On2 w W s x kb o) : On w W s x := by
  obtain ⟨v, h1, _, _, h4, h5⟩ := h
  exact ⟨⟨v, h1⟩, h4, h5⟩
theorem On2.below {W' : World} (h : On2 w W s x kb o) (hb : Below W.heap.size W W') : On2 w W' s x kb o := by
  obtain ⟨v, h1, h2, h3, h4, h5⟩ := h
  exact ⟨v, h1.below hb, h2, (hb.block kb (Array.getElem?_eq_some_iff.1 h3).1).trans h3, h4.trans (hb.mono h4.size), h5⟩
theorem On.new (h : On w W s x) (o : Obj) : On2 w (W.alloc o) s x W.heap.size o := by
  obtain ⟨⟨v, h1⟩, h4, h5⟩ := h
  refine ⟨v, h1.below ((Below.refl _ _).alloc (Nat.le_refl _) _), fun q => ?_, (MapKept.heap_alloc W o).1, h4.alloc h4.size _, h5⟩
  have := (ownsRow_blk h1.own q).2.1
  omega
theorem on2_fr {W' : World} {v : Value} {y : Srv} (h1 : Pep W w.heap.size s 1 v [x]) (h2 : v.ownBlock ≠ some kb) (h3 : W.heap[kb]? = some o) (h4 : Below w.heap.size w W) (h5 : w.heap.size ≤ s) (hf : Fr (fun k => some k = v.ownBlock) W W') (hp : Pep W' w.heap.size s 1 v [y]) : On2 w W' s y kb o :=
  ⟨v, hp, h2, (hf.block kb (Array.getElem?_eq_some_iff.1 h3).1 (fun q => h2 q.symm)).trans h3, h4.trans (hf.below h4.size (fun k hk => (ownsRow_blk h1.own hk.symm).1)), h5⟩
theorem on2_left (h : On2 w W s x kb o) : Calls Try.prog 18 #[.pointer (some ⟨s, 0, none⟩), .int .i64 0] W fun e W' => e = .returned (.int .u64 (x.l : Int)) ∧ On2 w W' s x kb o := by
  obtain ⟨v, hv, _⟩ := id h
  refine (left_ok hv 0).mono ?_
  rintro e W' ⟨rfl, c, rfl⟩
  exact ⟨by rw [at_one], h.below below_one⟩
theorem on2_deadline (h : On2 w W s x kb o) : Calls Try.prog 19 #[.pointer (some ⟨s, 0, none⟩), .int .i64 0] W fun e W' => e = .returned (.int .u64 (x.d : Int)) ∧ On2 w W' s x kb o := by
  obtain ⟨v, hv, _⟩ := id h
  refine (deadline_ok hv 0).mono ?_
  rintro e W' ⟨rfl, c, rfl⟩
  exact ⟨by rw [at_one], h.below below_one⟩
theorem on2_active (h : On2 w W s x kb o) : Calls Try.prog 21 #[.pointer (some ⟨s, 0, none⟩), .int .i64 0] W fun e W' => e = .returned (.bool (decide (0 < x.l))) ∧ On2 w W' s x kb o := by
  obtain ⟨v, hv, _⟩ := id h
  refine (active_ok hv 0).mono ?_
  rintro e W' ⟨rfl, c, rfl⟩
  exact ⟨by rw [at_one], h.below below_one⟩
theorem on2_charge (h : On2 w W s x kb o) (hl : 1 ≤ x.l) : Calls Try.prog 17 #[.pointer (some ⟨s, 0, none⟩), .int .i64 0] W fun e W' => e = .returned (.tuple #[.bool (x.l - 1 == 0), .int .i64 0]) ∧ On2 w W' s (tickS x) kb o := by
  obtain ⟨v, h1, h2, h3, h4, h5⟩ := h
  refine (charge_ok h1 0 x rfl hl).mono ?_
  rintro e W' ⟨rfl, hp, hf⟩
  exact ⟨rfl, on2_fr h1 h2 h3 h4 h5 hf hp⟩
theorem on2_refill (h : On2 w W s x kb o) (now : Nat) (hn : now < 18446744073709551616) : Calls Try.prog 16 #[.pointer (some ⟨s, 0, none⟩), .int .u64 (now : Int)] W fun e W' => (∃ a cap, e = .returned (.slice a (if dueB now x then 1 else 0) cap)) ∧ On2 w W' s (refS now x) kb o := by
  obtain ⟨v, h1, h2, h3, h4, h5⟩ := h
  refine (refill_ok h1 now hn).mono ?_
  rintro e W' ⟨lv, rfl, ho, hp, hf⟩
  refine ⟨?_, on2_fr h1 h2 h3 h4 h5 hf hp⟩
  have hl : (dueN [x] now [x].length).length = if dueB now x then 1 else 0 := by
    simp only [List.length_cons, List.length_nil, Nat.zero_add, dueN, List.nil_append]
    cases hd : dueB now x <;> simp [hd]
  rw [hl] at ho
  obtain ⟨a, cap, rfl⟩ := owns_slice ho
  exact ⟨a, cap, rfl⟩
end
end Go.Proofs.Ytblickncecpajaa
