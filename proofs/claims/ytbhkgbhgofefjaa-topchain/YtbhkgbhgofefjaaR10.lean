/- The document's New. -/
import Derived.Test.YtbhkgbhgofefjaaR9
import Derived.OwnWalk
import Derived.Laws.MakeOwn
namespace Go.Proofs.Ytbhkgbhgofefjaa
open Go.RowKit
set_option linter.unusedVariables false
theorem infoKey : (Try.prog.info? 36).map (fun i => (i.zero, i.size, i.bytes)) = some (some (.agg #[.bool false, .int .u64 0, .int .u8 0]), 3, 24) := by kernel_rfl
theorem infoSl : (Try.prog.info? 31).map (fun i => (i.zero, i.size, i.bytes)) = some (some (.slice none 0 0), 1, 24) := by kernel_rfl
def keyMade (n : Nat) : Array Value := madeCells #[.bool false, .int .u64 0, .int .u8 0] (n * 3)
theorem made_key (n : Nat) : (keyMade n).toList = kcells (newT n) := by
  unfold keyMade
  apply List.ext_getElem?
  intro i
  have hl : (newT n).length = n := by simp [newT]
  by_cases h : i < n * 3
  · rw [made_at _ _ _ h]
    obtain ⟨q, r, rfl, hr⟩ : ∃ q r, i = q * 3 + r ∧ r < 3 := ⟨i / 3, i % 3, by omega, by omega⟩
    have hq : q < n := by omega
    have hx : (newT n)[q]? = some ⟨fixK 0, -1⟩ := by simp [newT, hq]
    obtain ⟨y0, y1, y2⟩ := kcells_at _ q _ hx
    rw [show (#[Value.bool false, .int .u64 0, .int .u8 0] : Array Value).size = 3 from rfl, show (q * 3 + r) % 3 = r by omega]
    rcases (by omega : r = 0 ∨ r = 1 ∨ r = 2) with rfl | rfl | rfl
    · exact y0.symm
    · exact y1.symm
    · exact y2.symm
  · rw [made_no _ _ _ h, eq_comm, List.getElem?_eq_none_iff, kcells_length, hl]
    omega
/-- A graph of the document's that is being made: a holders, b lines. -/
structure NQ (w wr : World) (s g n : Nat) (vo vw : Value) (a b : Nat) : Prop where
  blk : wr.heap[s]? = some (.cells #[.slice (some ⟨g, 0, none⟩) n n, vo, vw] 79 (0, 0))
  lo : w.heap.size ≤ s
  bo : wr.ownsRow w.heap.size 36 3 (.slice (some ⟨g, 0, none⟩) n n) n (kcells (newT n))
  oo : wr.ownsRow w.heap.size 3 1 vo a (List.replicate a (.int .i64 (-1)))
  wo : wr.ownsRow w.heap.size 31 1 vw b (List.replicate b (.slice none 0 0))
  be : Below w.heap.size w wr
section
variable {w wr w2 : World} {s g n : Nat} {vo vw : Value} {a b : Nat}
theorem NQ.sc (h : NQ w wr s g n vo vw a b) : wr.cell? ⟨s, 1, none⟩ = some vo ∧ wr.cell? ⟨s, 2, none⟩ = some vw ∧ ∀ k, wr.frozen? ⟨s, k, none⟩ = false := by
  refine ⟨?_, ?_, fun k => ?_⟩
  · unfold World.cell?; simp [h.blk]
  · unfold World.cell?; simp [h.blk]
  · unfold World.frozen?; simp [h.blk]
theorem NQ.own (h : NQ w wr s g n vo vw a b) {v' : Value} {tmp : Obj} (hown : w2.ownsRow w.heap.size 3 1 v' (a + 1) (List.replicate a (.int .i64 (-1)) ++ [.int .i64 (-1)])) (hgrow : (wr.alloc tmp).grownBy w2 vo.ownBlock) :
    w2.cell? ⟨s, 1, none⟩ = some vo ∧ (∀ k, w2.frozen? ⟨s, k, none⟩ = false) ∧ NQ w (w2.setCell ⟨s, 1, none⟩ v') s g n v' vw (a + 1) b := by
  have hkk : ∀ k, k < wr.heap.size → vo.ownBlock ≠ some k → w2.heap[k]? = wr.heap[k]? := fun k hk hn => (hgrow.block k (by simp; omega) (fun e => hn e.symm)).trans (Below.heap_alloc _ _ _ hk)
  have hne : ∀ (k : Nat) (c : Array Value) (t : TypeId), wr.heap[k]? = some (.cells c t (0, 0)) → t ≠ 3 → w2.heap[k]? = wr.heap[k]? := by
    intro k c t hc ht
    refine hkk k (Array.getElem?_eq_some_iff.1 hc).1 (fun e => ?_)
    obtain ⟨_, _, c', hc'⟩ := ownsRow_blk h.oo e
    rw [hc] at hc'
    simp at hc'
    exact ht hc'.2
  have hs2 := (hne s _ _ h.blk (by decide)).trans h.blk
  have hlt := (Array.getElem?_eq_some_iff.1 hs2).1
  have hfar : ∀ k, k ≠ s → (w2.setCell ⟨s, 1, none⟩ v').heap[k]? = w2.heap[k]? := fun k hk => Below.heap_setCell _ _ _ _ hk
  refine ⟨by unfold World.cell?; simp [hs2], fun k => by unfold World.frozen?; simp [hs2], ?_, h.lo, ?_, ?_, ?_, ?_⟩
  · exact Go.Joins.block_setCell hs2 v'
  · refine ownsRow_far h.bo (fun k hk => ?_)
    obtain ⟨_, _, c', hc'⟩ := ownsRow_blk h.bo hk
    exact (hfar k (blk_ne hc' h.blk (by decide))).trans (hne k _ _ hc' (by decide))
  · rw [show List.replicate (a + 1) (Value.int .i64 (-1)) = List.replicate a (.int .i64 (-1)) ++ [.int .i64 (-1)] from List.replicate_succ']
    refine ownsRow_far hown (fun k hk => hfar k ?_)
    obtain ⟨_, _, c', hc'⟩ := ownsRow_blk hown hk
    exact blk_ne hc' hs2 (by decide)
  · refine ownsRow_far h.wo (fun k hk => ?_)
    obtain ⟨_, _, c', hc'⟩ := ownsRow_blk h.wo hk
    exact (hfar k (blk_ne hc' h.blk (by decide))).trans (hne k _ _ hc' (by decide))
  · exact ((h.be.alloc h.be.size tmp).grown hgrow (h.be.alloc h.be.size tmp).size (fun k hk => (ownsRow_blk h.oo hk).1)).setCell (p := ⟨s, 1, none⟩) h.lo _
theorem NQ.lin (h : NQ w wr s g n vo vw a b) {v' : Value} {tmp : Obj} (hown : w2.ownsRow w.heap.size 31 1 v' (b + 1) (List.replicate b (.slice none 0 0) ++ [.slice none 0 0])) (hgrow : (wr.alloc tmp).grownBy w2 vw.ownBlock) :
    w2.cell? ⟨s, 2, none⟩ = some vw ∧ (∀ k, w2.frozen? ⟨s, k, none⟩ = false) ∧ NQ w (w2.setCell ⟨s, 2, none⟩ v') s g n vo v' a (b + 1) := by
  have hkk : ∀ k, k < wr.heap.size → vw.ownBlock ≠ some k → w2.heap[k]? = wr.heap[k]? := fun k hk hn => (hgrow.block k (by simp; omega) (fun e => hn e.symm)).trans (Below.heap_alloc _ _ _ hk)
  have hne : ∀ (k : Nat) (c : Array Value) (t : TypeId), wr.heap[k]? = some (.cells c t (0, 0)) → t ≠ 31 → w2.heap[k]? = wr.heap[k]? := by
    intro k c t hc ht
    refine hkk k (Array.getElem?_eq_some_iff.1 hc).1 (fun e => ?_)
    obtain ⟨_, _, c', hc'⟩ := ownsRow_blk h.wo e
    rw [hc] at hc'
    simp at hc'
    exact ht hc'.2
  have hs2 := (hne s _ _ h.blk (by decide)).trans h.blk
  have hfar : ∀ k, k ≠ s → (w2.setCell ⟨s, 2, none⟩ v').heap[k]? = w2.heap[k]? := fun k hk => Below.heap_setCell _ _ _ _ hk
  refine ⟨by unfold World.cell?; simp [hs2], fun k => by unfold World.frozen?; simp [hs2], ?_, h.lo, ?_, ?_, ?_, ?_⟩
  · exact Go.Joins.block_setCell hs2 v'
  · refine ownsRow_far h.bo (fun k hk => ?_)
    obtain ⟨_, _, c', hc'⟩ := ownsRow_blk h.bo hk
    exact (hfar k (blk_ne hc' h.blk (by decide))).trans (hne k _ _ hc' (by decide))
  · refine ownsRow_far h.oo (fun k hk => ?_)
    obtain ⟨_, _, c', hc'⟩ := ownsRow_blk h.oo hk
    exact (hfar k (blk_ne hc' h.blk (by decide))).trans (hne k _ _ hc' (by decide))
  · rw [show List.replicate (b + 1) (Value.slice none 0 0) = List.replicate b (.slice none 0 0) ++ [.slice none 0 0] from List.replicate_succ']
    refine ownsRow_far hown (fun k hk => hfar k ?_)
    obtain ⟨_, _, c', hc'⟩ := ownsRow_blk hown hk
    exact blk_ne hc' hs2 (by decide)
  · exact ((h.be.alloc h.be.size tmp).grown hgrow (h.be.alloc h.be.size tmp).size (fun k hk => (ownsRow_blk h.wo hk).1)).setCell (p := ⟨s, 2, none⟩) h.lo _
theorem NQ.done {m : Nat} (h : NQ w wr s g n vo vw m m) (h1 : 1 ≤ n) (h2 : n ≤ 1024) (h3 : m ≤ 32) : IsR wr w.heap.size s (.slice (some ⟨g, 0, none⟩) n n) vo vw (List.replicate m (.slice none 0 0)) (newT n) (newL m) := by
  have e1 : (newT n).length = n := by simp [newT]
  have e2 : (newL m).length = m := by simp [newL]
  have e3 : hcells (newL m) = List.replicate m (.int .i64 (-1)) := by simp [hcells, newL]
  refine ⟨h.blk, h.lo, by rw [e1]; exact h.bo, by rw [e2, e3]; exact h.oo, by rw [e2]; exact h.wo, ?_, ?_, h.be.size, new_fine n m h1 h2 h3⟩
  · intro j y v hy hv
    obtain rfl := List.eq_of_mem_replicate (List.mem_of_getElem? hy)
    obtain rfl := List.eq_of_mem_replicate (List.mem_of_getElem? hv)
    exact World.ownsRow_nil _ _ _ _
  · intro v hv k hk
    obtain rfl := List.eq_of_mem_replicate hv
    simp [Value.ownBlock] at hk
end
set_option maxHeartbeats 2000000 in
theorem rnew_ok (n m : Nat) (w : World) (h1 : 1 ≤ n) (h2 : n ≤ 1024) (h3 : m ≤ 32) :
    Calls Try.prog 34 #[.int .i64 n, .int .i64 m] w fun e w' => ∃ s vb vo vw V, e = .returned (.pointer (some ⟨s, 0, none⟩)) ∧ IsR w' w.heap.size s vb vo vw V (newT n) (newL m) ∧ Below w.heap.size w w' := by
  obtain ⟨i0, hi0, hz0, hz1, hz2⟩ := info_parts infoKey
  obtain ⟨j0, hj0, hy0, hy1, hy2⟩ := info_parts infoInt
  obtain ⟨k0, hk0, hx0, hx1, hx2⟩ := info_parts infoSl
  have hmk : ∀ w, (Instr.makeSlice 45 (.int .i64 (n : Int)) (.int .i64 (n : Int))).run Try.prog w = .ok (.slice (some ⟨w.heap.size, 0, none⟩) n n) (w.alloc (.cells (keyMade n) 36)) := by
    intro w
    have := run_make w 45 36 i0 (.agg #[.bool false, .int .u64 0, .int .u8 0]) Try.underlying45 hi0 hz0 .i64 .i64 (n : Int) (n : Int) (by omega) (by omega) (by rw [hz2]; omega) (by omega)
    rw [hz1, show (n : Int).toNat = n by omega] at this
    exact this
  have e1 : decide ((n : Int) < 1) = false := by simp; omega
  have e2 : decide ((1024 : Int) < (n : Int)) = false := by simp; omega
  have e3 : decide ((m : Int) < 0) = false := by simp
  have e4 : decide ((32 : Int) < (m : Int)) = false := by simp; omega
  have e5 : ¬ (n : Int) < 1 := by omega
  have e6 : ¬ (1024 : Int) < (n : Int) := by omega
  have e7 : ¬ (32 : Int) < (m : Int) := by omega
  have HN0 : Hid (NQ w ((w.alloc (.cells (keyMade n) 36)).alloc (.cells #[.slice (some ⟨w.heap.size, 0, none⟩) n n, .slice none 0 0, .slice none 0 0] 79)) (w.heap.size + 1) w.heap.size n (.slice none 0 0) (.slice none 0 0) 0 0) := by
    have hb : ((w.alloc (.cells (keyMade n) 36)).alloc (.cells #[.slice (some ⟨w.heap.size, 0, none⟩) n n, .slice none 0 0, .slice none 0 0] 79)).heap[w.heap.size + 1]? = some (.cells #[.slice (some ⟨w.heap.size, 0, none⟩) n n, .slice none 0 0, .slice none 0 0] 79 (0, 0)) := by
      have := World.alloc_heap_new (w.alloc (.cells (keyMade n) 36)) (.cells #[.slice (some ⟨w.heap.size, 0, none⟩) n n, .slice none 0 0, .slice none 0 0] 79)
      rw [World.size_alloc] at this
      exact this
    refine ⟨hb, by omega, ⟨by rw [kcells_length]; simp [newT], .inr ⟨w.heap.size, n, keyMade n, rfl, Nat.le_refl _, (Below.heap_alloc _ _ _ (by simp)).trans (World.alloc_heap_new w _), Nat.le_refl _, by simp [maxLen]; omega, by simp [keyMade, madeCells], ?_⟩⟩, World.ownsRow_nil _ _ _ _, World.ownsRow_nil _ _ _ _, ((Below.refl _ w).alloc (Nat.le_refl _) _).alloc (by simp) _⟩
    rw [made_key, List.take_of_length_le]
    rw [kcells_length]
    simp [newT]
  clear hi0 hz0 hz1 hz2
  go_enter Try.func34, Try.ntmps34
  go_wp2
  generalize (w.alloc (.cells (keyMade n) 36)).alloc (.cells #[.slice (some ⟨w.heap.size, 0, none⟩) n n, .slice none 0 0, .slice none 0 0] 79) = W0 at HN0 ⊢
  go_loopw [6] (fun p wr => ∃ (i : Nat) (vo vw : Value), i ≤ m ∧ p = .int .i64 i ∧ NQ w wr (w.heap.size + 1) w.heap.size n vo vw i i) (fun p _ => m - (intOf p).toNat)
  case atStart => exact ⟨0, _, _, by omega, rfl, HN0.out⟩
  case round =>
    obtain ⟨i, vo, vw, hi, rfl, hq⟩ := hrel
    by_cases hil : i < m
    · have hil' : (i : Int) < (m : Int) := by omega
      obtain ⟨oa, oc, rfl, _, _⟩ := form_of hq.oo
      obtain ⟨wa, wc, rfl, _, _⟩ := form_of hq.wo
      obtain ⟨s1, s2, sf⟩ := hq.sc
      have hsz := hq.be.size
      have HQ := veil hq
      clear hq
      go_wp2_with (first
        | (at_builtin; (have hh := HQ2.out; clear hh); refine wpList_append_own _ rfl _ _ 77 rfl w.heap.size 31 k0 (.slice none 0 0) 1 24 Try.underlying77 hk0 hx0 hx1 hx2 rfl (by decide) _ _ _ rfl (HQ2.out.wo.alloc _) ⟨w2.heap.size, 0, none⟩ 1 1 [.slice none 0 0] rfl rfl hcn.out (by simp [Value.oneCell']) (by unfold maxLen; omega) (by omega) (HQ2.out.be.alloc HQ2.out.be.size _).size ?_; intro v' w3 hown hgrow _; obtain ⟨g', cap', rfl⟩ := ownsRow_succ hown; obtain ⟨p1, p2, p3⟩ := HQ2.out.lin hown hgrow; have HQ3 := veil p3; clear hown hgrow p3)
        | (at_builtin; refine wpList_append_own _ rfl _ _ 31 rfl w.heap.size 3 j0 (.int .i64 0) 1 8 Try.underlying31 hj0 hy0 hy1 hy2 rfl (by decide) _ _ _ rfl (HQ.out.oo.alloc _) ⟨wr.heap.size, 0, none⟩ 1 1 [.int .i64 (-1)] rfl rfl (cell_one_new _ _ _) (by simp [Value.oneCell']) (by unfold maxLen; omega) (by omega) (by simp; omega) ?_; intro v' w2 hown hgrow _; obtain ⟨g', cap', rfl⟩ := ownsRow_succ hown; obtain ⟨p1, p2, p3⟩ := HQ.out.own hown hgrow; obtain ⟨t1, t2, tf⟩ := p3.sc; have HQ2 := veil p3; have hcn := cell_one_new (w2.setCell ⟨w.heap.size + 1, 1, none⟩ (.slice (some ⟨g', 0, none⟩) (i + 1) cap')) (.slice none 0 0) 31; (have hcs : (w2.setCell ⟨w.heap.size + 1, 1, none⟩ (.slice (some ⟨g', 0, none⟩) (i + 1) cap')).heap.size = w2.heap.size := by simp); rw [hcs] at hcn; replace hcn := veil hcn; clear hown hgrow p3 hcs))
      refine ⟨⟨i + 1, _, _, by omega, by go_num, HQ3.out⟩, ?_⟩
      simp [intOf]
      omega
    · have hil' : ¬ (i : Int) < (m : Int) := by omega
      obtain rfl : i = m := by omega
      have HD := veil (hq.done h1 h2 h3)
      have HB := veil hq.be
      clear hq
      go_wp2
      go_ret
      exact ⟨_, rfl, ⟨_, _, _, _, HD.out⟩, HB.out⟩
end Go.Proofs.Ytbhkgbhgofefjaa
