/-
  The program's Fork.
-/
import Derived.Test.YtblickncecpajaaC28
import Derived.Deep.AppendLies
namespace Go.Proofs.Ytblickncecpajaa
open Go.RowKit Go.Lib
set_option linter.unusedVariables false
theorem eq_nil_no (w : World) (g n cp : Nat) : (binOp BinOp.eql 63 (.slice (some ⟨g, 0, none⟩) n cp) (.slice none 0 0)).run Try.prog w = .ok (.bool false) w := by kernel_rfl
set_option maxHeartbeats 2000000 in
theorem clone_some (w : World) (g n cp : Nat) (xs : List Value) (hn : n ≤ 32) (hl : xs.length = n * 4) (hc : ∀ j u, xs[j]? = some u → w.cell? ((⟨g, 0, none⟩ : Addr).add j) = some u) (h1 : ∀ u ∈ xs, u.oneCell' = true) (hg : g < w.heap.size) :
    Calls Try.prog 42 #[.slice (some ⟨g, 0, none⟩) n cp] w fun e w' => ∃ v', e = .returned v' ∧ w'.ownsRow w.heap.size 69 4 v' n xs ∧ Below w.heap.size w w' := by
  obtain ⟨i0, hi, hz0, hz1, hz2⟩ := info_parts infoServer
  have HC : Hid (∀ j u, xs[j]? = some u → (w.alloc (.cells #[] 69)).cell? ((⟨g, 0, none⟩ : Addr).add j) = some u) := by
    intro j u hu
    have hadd : (⟨g, 0, none⟩ : Addr).add j = ⟨g, j, none⟩ := by unfold Addr.add; split <;> simp_all
    have := hc j u hu
    rw [hadd] at this ⊢
    rw [World.cell?_alloc_lt _ _ _ (by simpa using hg)]
    exact this
  have HL : Hid ((w.alloc (.cells #[] 69)).ownsRow w.heap.size 69 4 (.slice (some ⟨w.heap.size, 0, none⟩) 0 0) 0 []) := by
    have := World.ownsRow_lit (base := w.heap.size) (e := 69) (size := 4) w #[] 0 (Nat.le_refl _) (by simp [maxLen]) rfl
    exact this
  have H1 := veil h1
  have hnil := fun w => eq_nil_no w g n cp
  clear hc h1
  go_enter Try.func42, Try.ntmps42
  go_wp2_with (at_builtin; refine wpList_append_own _ rfl _ _ 63 rfl w.heap.size 69 i0 (.agg #[.int .u64 0, .int .u64 0, .int .u64 0, .int .u64 0]) 4 32 Try.underlying63 hi hz0 hz1 hz2 rfl (by omega) _ 0 [] (by rfl) HL.out ⟨g, 0, none⟩ n cp xs (by rfl) hl HC.out H1.out (by unfold maxLen; omega) (by omega) (by simp) ?_; intro v' w1 hown hgrow _; have HO := veil hown; have HG := veil (hgrow : World.grownBy _ _ (Value.slice (some ⟨w.heap.size, 0, none⟩) 0 0).ownBlock); clear hown hgrow)
  go_ret
  refine ⟨v', rfl, by simpa using HO.out, ?_⟩
  exact ((Below.refl _ _).alloc (Nat.le_refl _) _).grown HG.out (by simp) (fun k hk => by simp [Value.ownBlock] at hk; omega)
theorem eq_nil_yes (w : World) : (binOp BinOp.eql 63 (.slice none 0 0) (.slice none 0 0)).run Try.prog w = .ok (.bool true) w := by kernel_rfl
theorem clone_none (w : World) : Calls Try.prog 42 #[.slice none 0 0] w fun e w' => e = .returned (.slice none 0 0) ∧ w' = w := by
  have hnil := eq_nil_yes
  go_enter Try.func42, Try.ntmps42
  go_wp2
  go_ret
  exact ⟨rfl, rfl⟩
section
variable {w : World} {base s P : Nat} {v : Value} {L : List Srv}
theorem clone_row (h : Pep w base s P v L) : Calls Try.prog 42 #[v] w fun e w' => ∃ v', e = .returned v' ∧ w'.ownsRow w.heap.size 69 4 v' L.length (pcells L) ∧ Below w.heap.size w w' := by
  have hlen := h.f.len
  have hown := h.own
  rcases h.own.2 with ⟨e, e0⟩ | ⟨g, cap, cur, e, h0, hg, h1, h2, _⟩
  · subst e
    refine (clone_none w).mono ?_
    rintro e w' ⟨rfl, rfl⟩
    have hL : L = [] := List.length_eq_zero_iff.1 e0
    subst hL
    exact ⟨_, rfl, World.ownsRow_nil _ _ _ _, Below.refl _ _⟩
  · subst e
    refine clone_some w g L.length cap (pcells L) hlen (pcells_length L) ?_ (pcells_oneCell L) (Array.getElem?_eq_some_iff.1 hg).1
    intro j u hu
    have hadd : (⟨g, 0, none⟩ : Addr).add j = ⟨g, j, none⟩ := by unfold Addr.add; split <;> simp_all
    rw [hadd, hown.cellAt j (by have := (List.getElem?_eq_some_iff.1 hu).1; rw [pcells_length] at this; exact this)]
    exact hu
set_option maxHeartbeats 2000000 in
theorem fork_ok (h : Pep w base s P v L) : Calls Try.prog 22 #[.pointer (some ⟨s, 0, none⟩)] w fun e w' => ∃ f v', e = .returned (.pointer (some ⟨f, 0, none⟩)) ∧ w.heap.size ≤ f ∧ Pep w' w.heap.size f P v' L ∧ Below w.heap.size w w' := by
  have c0 := h.c0
  have c1 := h.c1
  have HC : Hid (∀ W, Below w.heap.size w W → Calls Try.prog 42 #[v] W fun e w' => ∃ v', e = .returned v' ∧ w'.ownsRow W.heap.size 69 4 v' L.length (pcells L) ∧ Below W.heap.size W w') := fun W hb => clone_row (h.below hb)
  have HP := veil h
  clear h
  go_enter Try.func22, Try.ntmps22
  go_wp2
  go_region_held3 (fun w' => w'.cell? ⟨s, 0, none⟩ = some (.int .u64 (P : Int)) ∧ w'.cell? ⟨s, 1, none⟩ = some v)
    (first | with_reducible exact ⟨c0, c1⟩ | with_reducible exact hcc | with_reducible exact hcd.out _ | go_keep)
    (first | (go_at_call 42; refine (HC.out _ (Below.refl _ w).drew).mono ?_; rintro e w1 ⟨v1, rfl, ho, hb0⟩; have hb : Below w.heap.size w w1 := ((Below.refl _ w).drew).trans hb0; obtain ⟨a1, d1, rfl⟩ := owns_slice ho; have hcc : w1.cell? ⟨s, 0, none⟩ = some (.int .u64 (P : Int)) ∧ w1.cell? ⟨s, 1, none⟩ = some v := ⟨(HP.out.below hb).c0, (HP.out.below hb).c1⟩; have hcd : Hid (∀ o, (w1.alloc o).cell? ⟨s, 0, none⟩ = some (.int .u64 (P : Int)) ∧ (w1.alloc o).cell? ⟨s, 1, none⟩ = some v) := (fun o => ⟨(HP.out.below (hb.alloc hb.size o)).c0, (HP.out.below (hb.alloc hb.size o)).c1⟩); have HB := veil hb; have HO := veil (ho : w1.ownsRow w.heap.size 69 4 (.slice a1 L.length d1) L.length (pcells L)); clear hb hb0 ho))
  go_wp2
  go_ret
  have hb2 := HB.out.alloc HB.out.size (.cells #[.int .u64 (P : Int), .slice a1 L.length d1] 65)
  exact ⟨_, _, rfl, HB.out.size, ⟨(MapKept.heap_alloc w1 _).1, HO.out.alloc _, by have := HB.out.size; simp; omega, HP.out.f⟩, hb2⟩
end
end Go.Proofs.Ytblickncecpajaa
