/-
  The document's Fork.
-/
import Derived.Test.YtblickncecpajaaC31
namespace Go.Proofs.Ytblickncecpajaa
open Go.RowKit Go.Lib
set_option linter.unusedVariables false
theorem heap_alloc_at (w : World) (o : Obj) : (w.alloc o).heap[w.heap.size]? = some o := (MapKept.heap_alloc w o).1
theorem step_append_nil {P : Program} (w : World) {ops : Array Oper} {o : Oper} {a : Act} {K : Act → World → Prop} {Q : Exit → Act → World → Prop} {E : Prop} (hgd : o.guard = none) (s x : Operand) (t : TypeId)
    (ho : o.op = .call { callee := .builtin .append, args := #[s, x], argTypes := #[t, t] })
    (base : Nat) (e : TypeId) (i : TypeInfo) (size : Nat) (ht : P.underlying t = some (.slice e)) (hi : P.info? e = some i)
    (v : Value) (n : Nat) (xs : List Value) (hs : a.eval s = v) (hown : w.ownsRow base e size v n xs) (hx : a.eval x = .slice none 0 0)
    (h : K (a.put o.dst v) w) :
    if Region.wanted o (yielded ops a.tmps) = true then Oper.wp P o a w K Q else E := by
  have hw : Region.wanted o (yielded ops a.tmps) = true := by simp [Region.wanted, hgd]
  rw [if_pos hw]
  have hr := run_append_owned_none (P := P) w base t o.type e i size ht hi v n xs hown
  unfold Oper.wp execOp
  simp only [ho, resolve, invoke, builtin, Sem.run_bind, Sem.run_pure, Result.andThen_ok, List.map_toArray, List.map_cons, List.map_nil, hs, hx, hr]
  exact h
set_option maxHeartbeats 4000000 in
set_option maxRecDepth 100000 in
theorem rfork_some {w : World} {base rb n : Nat} {g len cap : Nat} {R : List Srv} (h : Rep w base rb n (.slice (some ⟨g, 0, none⟩) len cap) R) (hl : len = R.length) :
    Calls Try.prog 23 #[.pointer (some ⟨rb, 0, none⟩)] w fun e w' => ∃ rb' v', e = .returned (.pointer (some ⟨rb', 0, none⟩)) ∧ w.heap.size ≤ rb' ∧ Rep w' w.heap.size rb' n v' R ∧ Below w.heap.size w w' := by
  obtain ⟨i0, hi0, hz0, hz1, hz2⟩ := info_parts infoRServer
  have e0 := h.c0
  have e1 := h.c1
  have hrb := h.lt
  have hlen := h.f.len
  have hg : g < w.heap.size := (h.own.lt g rfl).2
  have HN : Hid (∀ w' : World, (∀ a : Addr, a.block < w.heap.size → w'.cell? a = w.cell? a) → ∀ j u, (rcells R)[j]? = some u → w'.cell? ((⟨g, 0, none⟩ : Addr).add j) = some u) := by
    intro w' hc j u hu
    have hj : j < (rcells R).length := (List.getElem?_eq_some_iff.1 hu).1
    rw [rcells_length] at hj
    have hadd : (⟨g, 0, none⟩ : Addr).add j = ⟨g, j, none⟩ := by unfold Addr.add; split <;> simp_all
    rw [hadd, hc _ hg]
    have ho := h.own
    subst hl
    rw [ho.cellAt j (by omega)]
    exact hu
  have HF : Hid (∀ (w1 : World) (v1 : Value), w.heap.size ≤ w1.heap.size → w1.ownsRow w.heap.size 82 5 v1 (0 + len) ([] ++ rcells R) → Below w.heap.size w w1 →
      Rep (w1.alloc (.cells #[.int .i64 (n : Int), v1] 79)) w.heap.size w1.heap.size n v1 R ∧ Below w.heap.size w (w1.alloc (.cells #[.int .i64 (n : Int), v1] 79))) := by
    intro w1 v1 hs ho hb
    subst hl
    refine ⟨⟨heap_alloc_at _ _, (by simpa using ho.alloc _), by simp; omega, h.f⟩, hb.alloc hs _⟩
  have o1 := rcells_oneCell R
  have l1 := rcells_length R
  rw [← hl] at l1 hlen
  have HU := veil Try.underlying77
  have yb : ¬ rb = w.heap.size := by omega
  clear h hl
  have HL : Hid ((w.alloc (.cells #[] 82)).ownsRow w.heap.size 82 5 (.slice (some ⟨w.heap.size, 0, none⟩) 0 0) 0 []) := by
    have := World.ownsRow_lit (base := w.heap.size) (e := 82) (size := 5) w #[] 0 (Nat.le_refl _) (by simp [maxLen]) rfl
    exact this
  have HN2 : Hid (∀ j u, (rcells R)[j]? = some u → (w.alloc (.cells #[] 82)).cell? ((⟨g, 0, none⟩ : Addr).add j) = some u) := HN.out _ (fun a ha => World.cell?_alloc_lt _ _ _ ha)
  have HK : Hid (∀ w1, (w.alloc (.cells #[] 82)).grownBy w1 (some w.heap.size) → (w1.cell? ⟨rb, 0, none⟩ = some (.int .i64 (n : Int)) ∧ w1.cell? ⟨rb, 1, none⟩ = some (.slice (some ⟨g, 0, none⟩) len cap)) ∧ Below w.heap.size w w1) := by
    intro w1 hg1
    have hb : Below w.heap.size w w1 := ((Below.refl _ _).alloc (Nat.le_refl _) _).grown hg1 (by simp) (fun k hk => by simp at hk; omega)
    exact ⟨⟨(hb.cell (p := ⟨rb, 0, none⟩) hrb).trans e0, (hb.cell (p := ⟨rb, 1, none⟩) hrb).trans e1⟩, hb⟩
  clear HN
  generalize rcells R = c1 at *
  go_enter Try.func23, Try.ntmps23
  go_wp2
  go_region_held3 (fun w' => w'.cell? ⟨rb, 0, none⟩ = some (.int .i64 (n : Int)) ∧ w'.cell? ⟨rb, 1, none⟩ = some (.slice (some ⟨g, 0, none⟩) len cap)) (first | go_keep | exact (HK.out _ hg1).1)
    ((refine step_append_any _ (by rfl) _ _ _ (by rfl) w.heap.size 82 i0 (.agg #[.int .u64 0, .int .u64 0, .int .u64 0, .int .u64 0, .bool false]) 5 40 HU.out hi0 hz0 hz1 hz2 rfl (by omega) (.slice (some ⟨w.heap.size, 0, none⟩) 0 0) 0 [] (by rfl) HL.out ⟨g, 0, none⟩ len cap c1 (by rfl) l1 HN2.out o1 (by unfold maxLen; omega) (by omega) (by simp) ?_; intro v1 w1 ho1 hg1'; have hg1 : (w.alloc (.cells #[] 82)).grownBy w1 (some w.heap.size) := ⟨hg1'.os, hg1'.tape, hg1'.output, hg1'.size, hg1'.block⟩; clear hg1'; obtain ⟨a1, d1, rfl⟩ := owns_slice ho1; have hX := HF.out w1 _ (HK.out _ hg1).2.size ho1 (HK.out _ hg1).2; have y1 : ¬ rb = w1.heap.size := (by have := (HK.out _ hg1).2.size; omega); have y2 : w.heap.size ≤ w1.heap.size := (HK.out _ hg1).2.size))
  rw [Nat.zero_add] at hX
  have HX := veil hX
  clear hX ho1 hg1
  go_wp2
  go_ret
  exact ⟨_, _, rfl, y2, HX.out.1, HX.out.2⟩

set_option maxHeartbeats 4000000 in
set_option maxRecDepth 100000 in
theorem rfork_nil {w : World} {base rb n : Nat} (h : Rep w base rb n (.slice none 0 0) []) :
    Calls Try.prog 23 #[.pointer (some ⟨rb, 0, none⟩)] w fun e w' => ∃ rb' v', e = .returned (.pointer (some ⟨rb', 0, none⟩)) ∧ w.heap.size ≤ rb' ∧ Rep w' w.heap.size rb' n v' [] ∧ Below w.heap.size w w' := by
  obtain ⟨i0, hi0, hz0, hz1, hz2⟩ := info_parts infoRServer
  have e0 := h.c0
  have e1 := h.c1
  have hrb := h.lt
  have HU := veil Try.underlying77
  have yb : ¬ rb = w.heap.size := by omega
  have yb2 : ¬ rb = w.heap.size + 1 := by omega
  have HL : Hid ((w.alloc (.cells #[] 82)).ownsRow w.heap.size 82 5 (.slice (some ⟨w.heap.size, 0, none⟩) 0 0) 0 []) := by
    have := World.ownsRow_lit (base := w.heap.size) (e := 82) (size := 5) w #[] 0 (Nat.le_refl _) (by simp [maxLen]) rfl
    exact this
  have HX : Hid (Rep ((w.alloc (.cells #[] 82)).drew.alloc (.cells #[.int .i64 (n : Int), .slice (some ⟨w.heap.size, 0, none⟩) 0 0] 79)) w.heap.size (w.heap.size + 1) n (.slice (some ⟨w.heap.size, 0, none⟩) 0 0) [] ∧ Below w.heap.size w ((w.alloc (.cells #[] 82)).drew.alloc (.cells #[.int .i64 (n : Int), .slice (some ⟨w.heap.size, 0, none⟩) 0 0] 79))) := by
    refine ⟨⟨?_, HL.out.alloc _, by simp; omega, h.f⟩, ((Below.refl _ _).alloc (Nat.le_refl _) _).drew.alloc (by simp) _⟩
    have := heap_alloc_at (w.alloc (.cells #[] 82)).drew (.cells #[.int .i64 (n : Int), .slice (some ⟨w.heap.size, 0, none⟩) 0 0] 79)
    simpa using this
  clear h
  go_enter Try.func23, Try.ntmps23
  go_wp2
  go_region_held3 (fun w' => w'.cell? ⟨rb, 0, none⟩ = some (.int .i64 (n : Int)) ∧ w'.cell? ⟨rb, 1, none⟩ = some (.slice none 0 0)) (first | go_keep)
    ((refine step_append_nil _ (by rfl) _ _ _ (by rfl) w.heap.size 82 i0 5 HU.out hi0 (.slice (some ⟨w.heap.size, 0, none⟩) 0 0) 0 [] (by rfl) HL.out (by rfl) ?_))
  go_wp2
  go_ret
  exact ⟨_, _, rfl, by omega, HX.out.1, HX.out.2⟩

theorem rfork_ok {w : World} {base rb n : Nat} {v : Value} {R : List Srv} (h : Rep w base rb n v R) :
    Calls Try.prog 23 #[.pointer (some ⟨rb, 0, none⟩)] w fun e w' => ∃ rb' v', e = .returned (.pointer (some ⟨rb', 0, none⟩)) ∧ w.heap.size ≤ rb' ∧ Rep w' w.heap.size rb' n v' R ∧ Below w.heap.size w w' := by
  rcases h.own.2 with ⟨e, e0⟩ | ⟨g, cap, cur, e, _⟩
  · have hR : R = [] := List.length_eq_zero_iff.1 e0
    subst hR
    subst e
    exact rfork_nil h
  · subst e
    exact rfork_some h rfl
end Go.Proofs.Ytblickncecpajaa
