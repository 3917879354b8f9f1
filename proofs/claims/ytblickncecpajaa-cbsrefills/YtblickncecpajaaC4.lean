/- The program's walks: Left, Deadline, Active, Sum. -/
import Derived.Test.YtblickncecpajaaC3
namespace Go.Proofs.Ytblickncecpajaa
open Go.RowKit Go.Lib
@[go_sem] theorem field_left (a b c d : Int) (w : World) : (Instr.field 69 (.agg #[.int .u64 a, .int .u64 b, .int .u64 c, .int .u64 d]) 1).run Try.prog w = .ok (.int .u64 c) w := by kernel_rfl
@[go_sem] theorem field_dead (a b c d : Int) (w : World) : (Instr.field 69 (.agg #[.int .u64 a, .int .u64 b, .int .u64 c, .int .u64 d]) 2).run Try.prog w = .ok (.int .u64 d) w := by kernel_rfl
section
variable {w : World} {base s P : Nat} {v : Value} {L : List Srv}
theorem left_ok (h : Pep w base s P v L) (i : Int) : Calls Try.prog 18 #[.pointer (some ⟨s, 0, none⟩), .int .i64 i] w fun e w' => e = .returned (.int .u64 ((atL L i).l : Int)) ∧ ∃ c, w' = w.alloc (.cells c 69) := by
  have HA := veil (at_ok h i)
  clear h
  go_enter Try.func18, Try.ntmps18
  go_wp2_with (go_at_call 41; refine (HA.out).mono ?_; rintro e w1 ⟨rfl, c, rfl⟩)
  go_ret
  exact ⟨rfl, _, rfl⟩
theorem deadline_ok (h : Pep w base s P v L) (i : Int) : Calls Try.prog 19 #[.pointer (some ⟨s, 0, none⟩), .int .i64 i] w fun e w' => e = .returned (.int .u64 ((atL L i).d : Int)) ∧ ∃ c, w' = w.alloc (.cells c 69) := by
  have HA := veil (at_ok h i)
  clear h
  go_enter Try.func19, Try.ntmps19
  go_wp2_with (go_at_call 41; refine (HA.out).mono ?_; rintro e w1 ⟨rfl, c, rfl⟩)
  go_ret
  exact ⟨rfl, _, rfl⟩
theorem active_ok (h : Pep w base s P v L) (i : Int) : Calls Try.prog 21 #[.pointer (some ⟨s, 0, none⟩), .int .i64 i] w fun e w' => e = .returned (.bool (decide (0 < (atL L i).l))) ∧ ∃ c, w' = w.alloc (.cells c 69) := by
  have HA := veil (at_ok h i)
  clear h
  go_enter Try.func21, Try.ntmps21
  go_wp2_with (go_at_call 41; refine (HA.out).mono ?_; rintro e w1 ⟨rfl, c, rfl⟩)
  go_ret
  exact ⟨by simp, _, rfl⟩
theorem sum_take (L : List Srv) (j : Nat) (x : Srv) (h : L[j]? = some x) : sumOf (L.take (j + 1)) = sumOf (L.take j) + asks x := by
  unfold sumOf
  rw [List.take_add_one, h]
  simp
theorem sum_ok (h : Pep w base s P v L) : Calls Try.prog 33 #[.pointer (some ⟨s, 0, none⟩)] w fun e w' => e = .returned (.int .u64 (sumOf L : Int)) ∧ Below w.heap.size w w' := by
  have HP := veil h
  obtain ⟨a, cap, rfl, _, _⟩ := h.form
  have c1 := h.c1
  have hlen := h.f.len
  clear h
  go_enter Try.func33, Try.ntmps33
  go_wp2
  go_loopw [3, 13] (fun sm i wr => ∃ (j : Nat), j ≤ L.length ∧ i = .int .i64 j ∧ sm = .int .u64 (sumOf (L.take j) : Int) ∧ Below w.heap.size w wr) (fun _ i _ => L.length - (intOf i).toNat)
  case atStart => exact ⟨0, by omega, rfl, rfl, Below.refl _ _⟩
  case round =>
    obtain ⟨j, hj, rfl, rfl, hbel⟩ := hrel
    by_cases hjl : j < L.length
    · have hjl' : (j : Int) < (L.length : Int) := by omega
      obtain ⟨x, hx⟩ : ∃ x, L[j]? = some x := ⟨_, List.getElem?_eq_getElem hjl⟩
      obtain ⟨g, cap', e, _, _, hg, _, _, hc⟩ := (HP.out.below hbel).cells (by omega)
      simp at e
      obtain ⟨rfl, rfl⟩ := e
      obtain ⟨y0, y1, y2, y3⟩ := hc j x hx
      have hok := HP.out.f.all x (List.mem_of_getElem? hx)
      have HA := veil (fun w => asks_ok w x hok)
      have hs := sum_take L j x hx
      have hle : sumOf (L.take (j + 1)) ≤ 32 * 232792560 := by
        refine Nat.le_trans (sum_le (fun y hy => HP.out.f.all y (List.mem_of_mem_take hy))) ?_
        have : (L.take (j + 1)).length ≤ L.length := List.length_take_le' _ _
        omega
      have hw : IntKind.u64.wrap ((sumOf (L.take j) : Int) + (asks x : Int)) = (sumOf (L.take (j + 1)) : Int) := by
        rw [hs] at hle ⊢
        rw [wrapU _ (by omega) (by omega)]
        simp
      have HW := veil hw
      have hw' : ((sumOf (L.take j) : Int) + (asks x : Int)) % 18446744073709551616 = (sumOf (L.take (j + 1)) : Int) := by
        rw [hs] at hle ⊢
        push_cast
        omega
      have HB := veil hbel
      clear hc hbel hs hle hok hw
      go_wp2_with (go_at_call 36; refine (HA.out _).mono ?_; rintro e w2 ⟨rfl, c, rfl⟩)
      go_roundw
      case rel => exact ⟨j + 1, by omega, by go_num, by first | rfl | simp [HW.out], ((HB.out.alloc HB.out.size _).alloc (by have := HB.out.size; simp; omega) _).drew⟩
      case measure => simp [intOf]; omega
    · have hjl' : ¬ (j : Int) < (L.length : Int) := by omega
      obtain rfl : j = L.length := by omega
      have HB := veil hbel
      clear hbel
      go_wp2
      go_ret
      exact ⟨by simp, HB.out⟩
/-- A server anew at its place. -/
theorem Pep.put (h : Pep w base s P v L) {g cap k : Nat} (hv : v = .slice (some ⟨g, 0, none⟩) L.length cap) (hk : k < L.length) (x : Srv) (hx : x.ok) :
    Pep ((((w.setCell ⟨g, k * 4, none⟩ (.int .u64 (x.b : Int))).setCell ⟨g, k * 4 + 1, none⟩ (.int .u64 (x.p : Int))).setCell ⟨g, k * 4 + 2, none⟩ (.int .u64 (x.l : Int))).setCell ⟨g, k * 4 + 3, none⟩ (.int .u64 (x.d : Int))) base s P v (L.set k x) := by
  have hne := h.ne
  subst hv
  have hgs : ¬ s = g := fun q => hne (by rw [q]; rfl)
  have h1 := ownsRow_set (ownsRow_set (ownsRow_set (ownsRow_set h.own (k * 4) (by omega) (.int .u64 (x.b : Int))) (k * 4 + 1) (by omega) (.int .u64 (x.p : Int))) (k * 4 + 2) (by omega) (.int .u64 (x.l : Int))) (k * 4 + 3) (by omega) (.int .u64 (x.d : Int))
  rw [← pcells_set L k x hk] at h1
  refine ⟨?_, by simpa using h1, by simpa using h.bs, ⟨h.f.p1, h.f.p2, ?_, by simpa using h.f.len⟩⟩
  · rw [Below.heap_setCell _ _ _ _ hgs, Below.heap_setCell _ _ _ _ hgs, Below.heap_setCell _ _ _ _ hgs, Below.heap_setCell _ _ _ _ hgs]
    exact h.blk
  · intro y hy
    rcases List.mem_or_eq_of_mem_set hy with q | q
    · exact h.f.all y q
    · rw [q]; exact hx
end
end Go.Proofs.Ytblickncecpajaa
