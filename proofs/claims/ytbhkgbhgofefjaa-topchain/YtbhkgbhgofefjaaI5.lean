/- What New makes is a graph; Base. -/
import Derived.Test.YtbhkgbhgofefjaaI4
namespace Go.Proofs.Ytbhkgbhgofefjaa
open Go.RowKit Go.Lib
set_option linter.unusedVariables false
def newT (n : Nat) : List Th := List.replicate n ⟨fixK 0, -1⟩
def newL (m : Nat) : List Lk := List.replicate m ⟨-1, []⟩
theorem new_fine (n m : Nat) (h1 : 1 ≤ n) (h2 : n ≤ 1024) (h3 : m ≤ 32) : Fine (newT n) (newL m) := by
  refine ⟨by simpa [newT] using h1, by simpa [newT] using h2, by simpa [newL] using h3, ?_, ?_, ?_, ?_⟩
  · intro x hx
    obtain rfl := List.eq_of_mem_replicate hx
    refine ⟨⟨⟨by decide, by decide⟩, by decide, by decide⟩, by decide, ?_⟩
    show (-1 : Int) < _
    omega
  · intro y hy
    obtain rfl := List.eq_of_mem_replicate hy
    refine ⟨by decide, ?_, by simp, by simp, by simp⟩
    show (-1 : Int) < _
    omega
  · intro t x hx m' y hy
    obtain rfl := List.eq_of_mem_replicate (List.mem_of_getElem? hx)
    obtain rfl := List.eq_of_mem_replicate (List.mem_of_getElem? hy)
    simp
  · refine ⟨0, fun _ => 0, fun _ => Nat.le_refl _, ?_⟩
    rintro t s ⟨y, hy, ht, _⟩
    obtain rfl := List.eq_of_mem_replicate hy
    simp at ht
section
variable {w w' : World} {base s : Nat} {vt vl : Value} {V : List Value} {T : List Th} {L : List Lk}
theorem IsG.new {gt gl n m : Nat} (h : NewAt w w' s gt gl n m (thj n n) (lkj m m)) (h1 : 1 ≤ n) (h2 : n ≤ 1024) (h3 : m ≤ 32) :
    IsG w' w.heap.size s (.slice (some ⟨gt, 0, none⟩) n n) (.slice (some ⟨gl, 0, none⟩) m m) (List.replicate m (.slice none 0 0)) (newT n) (newL m) := by
  have e1 : (newT n).length = n := by simp [newT]
  have e2 : (newL m).length = m := by simp [newL]
  have e3 : ((newL m).map (·.h)).zip (List.replicate m (Value.slice none 0 0)) = List.replicate m (-1, Value.slice none 0 0) := by
    simp [newL, List.map_replicate]
  have ht := h.tho
  have hl := h.lko
  rw [thj_end] at ht
  rw [lkj_end] at hl
  refine ⟨h.blk, h.lo, by rw [e1]; exact ht, by rw [e2, e3]; exact hl, by rw [e2]; simp, ?_, ?_, h.be.size, new_fine n m h1 h2 h3⟩
  · intro j y v hy hv
    obtain rfl := List.eq_of_mem_replicate (List.mem_of_getElem? hy)
    obtain rfl := List.eq_of_mem_replicate (List.mem_of_getElem? hv)
    exact World.ownsRow_nil _ _ _ _
  · intro i j u v k hu hv hk
    obtain rfl := List.eq_of_mem_replicate (List.mem_of_getElem? hu)
    simp [Value.ownBlock] at hk
theorem tcells_key : ∀ (T : List Th) (i : Nat) (x : Th) (k : K), T[i]? = some x → tcells (T.set i ⟨k, x.u⟩) = (((tcells T).set (i * 4) (.bool k.e)).set (i * 4 + 1) (.int .u64 k.d)).set (i * 4 + 2) (.int .u8 k.l)
  | [], i, x, k, h => by simp at h
  | y :: T, 0, x, k, h => by
    simp at h
    subst h
    simp [tcells_cons, tone]
  | y :: T, i + 1, x, k, h => by
    have := tcells_key T i x k (by simpa using h)
    rw [List.set_cons_succ, tcells_cons, this, tcells_cons, show (i + 1) * 4 = i * 4 + 4 by omega]
    rfl
theorem Fine.based (f : Fine T L) {j : Nat} {x : Th} (hx : T[j]? = some x) {k : K} (hk : k.ok) : Fine (T.set j ⟨k, x.u⟩) L := by
  refine ⟨by simpa using f.t1, by simpa using f.t2, f.l2, ?_, by simpa using f.lk, ?_, f.ac⟩
  · intro y hy
    rcases List.mem_or_eq_of_mem_set hy with q | q
    · exact f.th y q
    · rw [q]
      exact ⟨hk, (f.th x (List.mem_of_getElem? hx)).2⟩
  · intro t y hy m z hz
    rw [List.getElem?_set] at hy
    by_cases q : j = t
    · subst q
      have hj := (List.getElem?_eq_some_iff.1 hx).1
      rw [if_pos rfl, if_pos hj] at hy
      obtain rfl := Option.some.inj hy
      exact f.wt j x hx m z hz
    · rw [if_neg q] at hy
      exact f.wt t y hy m z hz
/-- A row's blocks are others than the graph's and each other's. -/
theorem IsG.blocks (h : IsG w base s vt vl V T L) {g : Nat} (hg : vt.ownBlock = some g) : g ≠ s ∧ vl.ownBlock ≠ some g ∧ ∀ v ∈ V, v.ownBlock ≠ some g := by
  obtain ⟨_, _, c, e⟩ := ownsRow_blk h.tho hg
  refine ⟨fun q => ?_, fun q => ?_, fun v hv q => ?_⟩
  · rw [q, h.blk] at e; simp at e
  · obtain ⟨_, _, c', e'⟩ := ownsRow_blk h.lko q
    rw [e] at e'; simp at e'
  · obtain ⟨j, hj⟩ := List.mem_iff_getElem?.1 hv
    have hjl := (List.getElem?_eq_some_iff.1 hj).1
    rw [h.vs] at hjl
    obtain ⟨_, _, c', e'⟩ := ownsRow_blk (h.lin j _ v (List.getElem?_eq_getElem hjl) hj) q
    rw [e] at e'; simp at e'
/-- The threads' row anew, all else as it was. -/
theorem IsG.putT (h : IsG w base s vt vl V T L) {g : Nat} (hg : vt.ownBlock = some g) {T' : List Th} (h0 : w'.heap.size = w.heap.size) (h1 : ∀ k, k ≠ g → w'.heap[k]? = w.heap[k]?)
    (ht : w'.ownsRow base 75 4 vt T'.length (tcells T')) (f : Fine T' L) : IsG w' base s vt vl V T' L := by
  obtain ⟨b1, b2, b3⟩ := h.blocks hg
  exact ⟨(h1 s (Ne.symm b1)).trans h.blk, h.lo, ht, ownsRow_far h.lko (fun k hk => h1 k (fun q => b2 (by rw [hk, q]))), h.vs,
    fun j y v hy hv => ownsRow_far (h.lin j y v hy hv) (fun k hk => h1 k (fun q => b3 v (List.mem_of_getElem? hv) (by rw [hk, q]))), h.apart, by rw [h0]; exact h.bs, f⟩
theorem IsG.based {g cap : Nat} (h : IsG w base s (.slice (some ⟨g, 0, none⟩) T.length cap) vl V T L) {j : Nat} {x : Th} (hx : T[j]? = some x) {k : K} (hk : k.ok) :
    IsG (((w.setCell ⟨g, j * 4, none⟩ (.bool k.e)).setCell ⟨g, j * 4 + 1, none⟩ (.int .u64 k.d)).setCell ⟨g, j * 4 + 2, none⟩ (.int .u8 k.l)) base s (.slice (some ⟨g, 0, none⟩) T.length cap) vl V (T.set j ⟨k, x.u⟩) L := by
  have hj := (List.getElem?_eq_some_iff.1 hx).1
  refine h.putT (g := g) rfl (by simp) (fun b hb => ?_) ?_ (h.f.based hx hk)
  · rw [Below.heap_setCell _ _ _ _ hb, Below.heap_setCell _ _ _ _ hb, Below.heap_setCell _ _ _ _ hb]
  · rw [tcells_key T j x k hx, List.length_set]
    exact ownsRow_set (ownsRow_set (ownsRow_set h.tho (j * 4) (by omega) _) (j * 4 + 1) (by omega) _) (j * 4 + 2) (by omega) _
theorem base_no (h : IsG w base s vt vl V T L) (t : Int) (k : K) (hn : inT T t = false ∨ rightK k = false) : Calls Try.prog 21 #[.pointer (some ⟨s, 0, none⟩), .int .i64 t, .agg #[.bool k.e, .int .u64 k.d, .int .u8 k.l]] w fun e w' => e = .returned (.int .i64 2) ∧ Below w.heap.size w w' := by
  have HT := veil (fun w' (hb : Below w.heap.size w w') => hasT_ok (h.below hb) t)
  have HR := veil (fun w => right_ok w k)
  cases ht : inT T t with
  | false =>
    simp only [ht] at HT
    clear h hn ht
    go_enter Try.func21, Try.ntmps21
    go_wp2_with (go_at_call 41; refine (HT.out _ (by first | exact Below.refl _ _ | exact (Below.refl _ _).alloc (Nat.le_refl _) _)).mono ?_; rintro e w1 ⟨rfl, hw⟩; replace hw := hw.symm; subst hw)
    go_ret
    exact ⟨rfl, by first | exact Below.refl _ _ | exact (Below.refl _ _).alloc (Nat.le_refl _) _⟩
  | true =>
    have hr : rightK k = false := by
      rcases hn with q | q
      · rw [ht] at q; simp at q
      · exact q
    simp only [ht] at HT
    simp only [hr] at HR
    clear h hn ht hr
    go_enter Try.func21, Try.ntmps21
    go_wp2_with (first
      | (go_at_call 41; refine (HT.out _ (by first | exact Below.refl _ _ | exact (Below.refl _ _).alloc (Nat.le_refl _) _)).mono ?_; rintro e w1 ⟨rfl, hw⟩; subst hw)
      | (go_at_call 45; refine (HR.out _).mono ?_; rintro e w1 ⟨rfl, hb1⟩))
    go_ret
    exact ⟨rfl, ((Below.refl _ _).alloc (Nat.le_refl _) _).trans (hb1.mono (by simp))⟩
theorem IsG.drew (h : IsG w base s vt vl V T L) : IsG w.drew base s vt vl V T L := ⟨h.blk, h.lo, h.tho.drew, h.lko.drew, h.vs, fun j y v a b => (h.lin j y v a b).drew, h.apart, h.bs, h.f⟩
theorem Fr.drew {S : Nat → Prop} (h : Fr S w w') : Fr S w w'.drew := ⟨h.os, h.tape, h.output, h.size, h.block⟩
theorem base_yes (h : IsG w base s vt vl V T L) (j : Nat) (x : Th) (hx : T[j]? = some x) (k : K) (hk : k.ok) (hr : rightK k = true) : Calls Try.prog 21 #[.pointer (some ⟨s, 0, none⟩), .int .i64 (j : Int), .agg #[.bool k.e, .int .u64 k.d, .int .u8 k.l]] w fun e w' => e = .returned (.int .i64 0) ∧ IsG w' base s vt vl V (T.set j ⟨k, x.u⟩) L ∧ Fr (fun b => vt.ownBlock = some b) w w' := by
  have hj := (List.getElem?_eq_some_iff.1 hx).1
  have hj' : (j : Int) < (T.length : Int) := by omega
  have HT := veil (fun w' (hb : Below w.heap.size w w') => hasT_ok (h.below hb) (j : Int))
  have ht : inT T (j : Int) = true := by unfold inT; simp; omega
  have HR := veil (fun w => right_ok w k)
  simp only [ht] at HT
  simp only [hr] at HR
  obtain ⟨g, cap, rfl, hc1, hc2, _⟩ := h.tform
  have HG : Hid (∀ w1, Below (w.alloc (.cells #[.bool k.e, .int .u64 k.d, .int .u8 k.l] 36)).heap.size (w.alloc (.cells #[.bool k.e, .int .u64 k.d, .int .u8 k.l] 36)) w1 →
      w1.cell? ⟨s, 0, none⟩ = some (.slice (some ⟨g, 0, none⟩) T.length cap) ∧ w1.cell? ⟨w.heap.size, 0, none⟩ = some (.bool k.e) ∧ w1.cell? ⟨w.heap.size, 1, none⟩ = some (.int .u64 k.d) ∧ w1.cell? ⟨w.heap.size, 2, none⟩ = some (.int .u8 k.l) ∧
      (∀ o, w1.frozen? ⟨g, o, none⟩ = false) ∧ w1.cell? ⟨g, j * 4, none⟩ = some (.bool x.k.e) ∧ w1.cell? ⟨g, j * 4 + 1, none⟩ = some (.int .u64 x.k.d) ∧ w1.cell? ⟨g, j * 4 + 2, none⟩ = some (.int .u8 x.k.l) ∧
      ((((w1.setCell ⟨g, j * 4, none⟩ (.bool k.e)).setCell ⟨g, j * 4 + 1, none⟩ (.int .u64 k.d)).setCell ⟨g, j * 4 + 2, none⟩ (.int .u8 k.l)).drew.cell? ⟨s, 0, none⟩ = some (.slice (some ⟨g, 0, none⟩) T.length cap) ∧ (((w1.setCell ⟨g, j * 4, none⟩ (.bool k.e)).setCell ⟨g, j * 4 + 1, none⟩ (.int .u64 k.d)).setCell ⟨g, j * 4 + 2, none⟩ (.int .u8 k.l)).drew.cell? ⟨w.heap.size, 0, none⟩ = some (.bool k.e) ∧ (((w1.setCell ⟨g, j * 4, none⟩ (.bool k.e)).setCell ⟨g, j * 4 + 1, none⟩ (.int .u64 k.d)).setCell ⟨g, j * 4 + 2, none⟩ (.int .u8 k.l)).drew.cell? ⟨w.heap.size, 1, none⟩ = some (.int .u64 k.d) ∧ (((w1.setCell ⟨g, j * 4, none⟩ (.bool k.e)).setCell ⟨g, j * 4 + 1, none⟩ (.int .u64 k.d)).setCell ⟨g, j * 4 + 2, none⟩ (.int .u8 k.l)).drew.cell? ⟨w.heap.size, 2, none⟩ = some (.int .u8 k.l)) ∧
      IsG (((w1.setCell ⟨g, j * 4, none⟩ (.bool k.e)).setCell ⟨g, j * 4 + 1, none⟩ (.int .u64 k.d)).setCell ⟨g, j * 4 + 2, none⟩ (.int .u8 k.l)) base s (.slice (some ⟨g, 0, none⟩) T.length cap) vl V (T.set j ⟨k, x.u⟩) L ∧
      Fr (fun b => (Value.slice (some ⟨g, 0, none⟩) T.length cap).ownBlock = some b) w (((w1.setCell ⟨g, j * 4, none⟩ (.bool k.e)).setCell ⟨g, j * 4 + 1, none⟩ (.int .u64 k.d)).setCell ⟨g, j * 4 + 2, none⟩ (.int .u8 k.l))) := by
    intro w1 hb
    have hb0 : Below w.heap.size w (w.alloc (.cells #[.bool k.e, .int .u64 k.d, .int .u8 k.l] 36)) := (Below.refl _ _).alloc (Nat.le_refl _) _
    have hb2 : Below w.heap.size w w1 := hb0.trans (hb.mono hb0.size)
    have h1 := h.below hb2
    obtain ⟨g', cap', e, _, _, _, _, hf, hc⟩ := h1.tform
    simp at e
    obtain ⟨rfl, rfl⟩ := e
    obtain ⟨y0, y1, y2, y3⟩ := hc j x hx
    obtain ⟨z0, z1, z2⟩ := at_new w k 36
    have hg := (ownsRow_blk h.tho (k := g) rfl).2.1
    have hgne : w.heap.size ≠ g := by omega
    have hS : ∀ u : Nat, (((w1.setCell ⟨g, j * 4, none⟩ (.bool k.e)).setCell ⟨g, j * 4 + 1, none⟩ (.int .u64 k.d)).setCell ⟨g, j * 4 + 2, none⟩ (.int .u8 k.l)).drew.heap[w.heap.size]? = w1.heap[w.heap.size]? := fun _ => by
      show (((w1.setCell ⟨g, j * 4, none⟩ (.bool k.e)).setCell ⟨g, j * 4 + 1, none⟩ (.int .u64 k.d)).setCell ⟨g, j * 4 + 2, none⟩ (.int .u8 k.l)).heap[w.heap.size]? = _
      rw [Below.heap_setCell _ _ _ _ hgne, Below.heap_setCell _ _ _ _ hgne, Below.heap_setCell _ _ _ _ hgne]
    have hlt : w.heap.size < (w.alloc (.cells #[.bool k.e, .int .u64 k.d, .int .u8 k.l] 36)).heap.size := by simp
    refine ⟨h1.c0, (hb.cell (p := ⟨w.heap.size, 0, none⟩) hlt).trans z0, (hb.cell (p := ⟨w.heap.size, 1, none⟩) hlt).trans z1, (hb.cell (p := ⟨w.heap.size, 2, none⟩) hlt).trans z2, hf, y0, y1, y2, ?_, h1.based hx hk, ?_⟩
    · refine ⟨(h1.based hx hk).drew.c0, ?_, ?_, ?_⟩
      · exact (World.cell?_of_block (hS 0)).trans ((hb.cell (p := ⟨w.heap.size, 0, none⟩) hlt).trans z0)
      · exact (World.cell?_of_block (hS 0)).trans ((hb.cell (p := ⟨w.heap.size, 1, none⟩) hlt).trans z1)
      · exact (World.cell?_of_block (hS 0)).trans ((hb.cell (p := ⟨w.heap.size, 2, none⟩) hlt).trans z2)
    exact (((Fr.of_below' (S := fun b => (Value.slice (some ⟨g, 0, none⟩) T.length cap).ownBlock = some b) hb2).setCell (a := ⟨g, j * 4, none⟩) rfl _).setCell (a := ⟨g, j * 4 + 1, none⟩) rfl _).setCell (a := ⟨g, j * 4 + 2, none⟩) rfl _
  clear h hr ht hx hk
  go_enter Try.func21, Try.ntmps21
  go_wp2_with (first
    | (go_at_call 41; refine (HT.out _ (by first | exact Below.refl _ _ | exact (Below.refl _ _).alloc (Nat.le_refl _) _)).mono ?_; rintro e w1 ⟨rfl, hw⟩; subst hw)
    | (go_at_call 45; refine (HR.out _).mono ?_; rintro e w1 ⟨rfl, hb1⟩; obtain ⟨c0, k0, k1, k2, fz, y0, y1, y2, hSS, hI, hF⟩ := HG.out w1 hb1; replace hI := veil hI; replace hF := veil hF; clear hb1))
  have hS1 := veil (And.intro c0 (And.intro k0 (And.intro k1 k2)))
  have hS2 : Hid (w1.drew.cell? ⟨s, 0, none⟩ = some (.slice (some ⟨g, 0, none⟩) T.length cap) ∧ w1.drew.cell? ⟨w.heap.size, 0, none⟩ = some (.bool k.e) ∧ w1.drew.cell? ⟨w.heap.size, 1, none⟩ = some (.int .u64 k.d) ∧ w1.drew.cell? ⟨w.heap.size, 2, none⟩ = some (.int .u8 k.l)) := ⟨c0, k0, k1, k2⟩
  replace hSS := veil hSS
  go_region_held3 (fun w' => (w'.cell? ⟨s, 0, none⟩ = some (.slice (some ⟨g, 0, none⟩) T.length cap) ∧ w'.cell? ⟨w.heap.size, 0, none⟩ = some (.bool k.e) ∧ w'.cell? ⟨w.heap.size, 1, none⟩ = some (.int .u64 k.d) ∧ w'.cell? ⟨w.heap.size, 2, none⟩ = some (.int .u8 k.l)))
    (first | with_reducible exact hS1.out | with_reducible exact hS2.out | with_reducible exact hSS.out)
    (first | fail)
  all_goals go_wp2
  all_goals go_ret
  all_goals exact ⟨rfl, hI.out.drew, hF.out.drew⟩
end
end Go.Proofs.Ytbhkgbhgofefjaa
