/-
  Both, the program's sets and the document's; the walk of 'do'.
  The walks of 'do', 'play' and 'same'.
  The walk of 'same'.
-/
import Derived.Test.YtlfejgjhamcahaaNc
import Derived.Test.YtlfejgjhamcahaaNe
namespace Go.Proofs.Ytlfejgjhamcahaa
open Go.RowKit Go.Lib
set_option linter.unusedVariables false
attribute [local go_sem ↓] Go.wp_at_zero Go.wp_at_succ

/-- The document's sets at rb, in the blocks D and others from base on, hold G. -/
def RD (w : World) (D : Nat → Prop) (base rb n np q : Nat) (G : List (List En)) : Prop :=
  ∃ (v : Value) (X : List Hd), IsD w base rb n np q v X ∧ Ms X = G ∧ ∀ k, OwnD X k ↔ D k
section
variable {w w' : World} {D : Nat → Prop} {base rb n np q : Nat} {G G' : List (List En)}
theorem RD.below (h : RD w D base rb n np q G) (hb : Below w.heap.size w w') : RD w' D base rb n np q G := by
  obtain ⟨v, X, hD, hG, hO⟩ := h
  exact ⟨v, X, hD.below hb, hG, hO⟩
theorem RD.frame {S : Nat → Prop} (h : RD w D base rb n np q G) (hf : Fr S w w') (hn : ∀ k, S k → k < base) : RD w' D base rb n np q G := by
  obtain ⟨v, X, hD, hG, hO⟩ := h
  exact ⟨v, X, hD.frame hf (fun k hk _ hs => by have := hn k hs; omega), hG, hO⟩
theorem RD.lt (h : RD w D base rb n np q G) : ∀ k, D k → k < w.heap.size := by
  obtain ⟨v, X, hD, hG, hO⟩ := h
  exact fun k hk => hD.ownl k ((hO k).2 hk)
theorem RD.ge (h : RD w D base rb n np q G) : ∀ k, D k → base ≤ k := by
  obtain ⟨v, X, hD, hG, hO⟩ := h
  intro k hk
  obtain ⟨i, x, hx, rfl⟩ := (hO k).2 hk
  exact hD.low.2 i x hx
theorem LeavesD.rd {v : Value} {X : List Hd} (hO : ∀ k, OwnD X k ↔ D k) (h : LeavesD w w' base rb n np q v X G) : RD w' D base rb n np q G ∧ Fr D w w' := by
  obtain ⟨⟨X', hD, hG, hO'⟩, hf⟩ := h
  exact ⟨⟨v, X', hD, hG, fun k => (hO' k).trans (hO k)⟩, hf.wide (fun k _ q => (hO k).1 q)⟩
theorem RD.put (h : RD w D base rb n np q G) (p id : Int) (k : Ke.K) :
    Calls Try.prog 54 #[.pointer (some ⟨rb, 0, none⟩), .int .i64 p, .int .i64 id, .agg #[.bool k.e, .int .u64 k.d, .int .u8 k.l]] w fun e w' => e = .returned (.int .i64 (pputC np n (gh G) p id k)) ∧ RD w' D base rb n np q (pputG np n q (gh G) p id k) ∧ Fr D w w' := by
  obtain ⟨v, X, hD, rfl, hO⟩ := h
  have e : Ms (gh (Ms X)) = Ms X := Ms_gh _
  rw [pputC_eq e, pputG_eq e]
  exact (rputD_all hD p id k).mono (fun e w' h => ⟨h.1, h.2.rd hO⟩)
theorem RD.change (h : RD w D base rb n np q G) (id : Int) (k : Ke.K) :
    Calls Try.prog 55 #[.pointer (some ⟨rb, 0, none⟩), .int .i64 id, .agg #[.bool k.e, .int .u64 k.d, .int .u8 k.l]] w fun e w' => e = .returned (.int .i64 (pchgC n (gh G) id k)) ∧ RD w' D base rb n np q (pchgG n (gh G) id k) ∧ Fr D w w' := by
  obtain ⟨v, X, hD, rfl, hO⟩ := h
  have e : Ms (gh (Ms X)) = Ms X := Ms_gh _
  rw [pchgC_eq e, pchgG_eq e]
  exact (rchangeD_all hD id k).mono (fun e w' h => ⟨h.1, h.2.rd hO⟩)
theorem RD.remove (h : RD w D base rb n np q G) (id : Int) :
    Calls Try.prog 48 #[.pointer (some ⟨rb, 0, none⟩), .int .i64 id] w fun e w' => e = .returned (.int .i64 (premC n (gh G) id)) ∧ RD w' D base rb n np q (premG n (gh G) id) ∧ Fr D w w' := by
  obtain ⟨v, X, hD, rfl, hO⟩ := h
  have e : Ms (gh (Ms X)) = Ms X := Ms_gh _
  rw [premC_eq e, premG_eq e]
  exact (rremoveD_all hD id).mono (fun e w' h => ⟨h.1, h.2.rd hO⟩)
theorem RD.best (h : RD w D base rb n np q G) (p d : Int) (hd : 0 ≤ d ∧ d < 18446744073709551616) :
    Calls Try.prog 37 #[.pointer (some ⟨rb, 0, none⟩), .int .i64 p, .int .u64 d] w fun e w' => e = .returned (.tuple #[.int .i64 (bI (gh G) (bb np (gh G) p d)), .agg #[.bool (bK (gh G) (bb np (gh G) p d)).e, .int .u64 (bK (gh G) (bb np (gh G) p d)).d, .int .u8 (bK (gh G) (bb np (gh G) p d)).l], .int .i64 (bA (bb np (gh G) p d)), .bool (bb np (gh G) p d).isSome]) ∧ Below w.heap.size w w' := by
  obtain ⟨v, X, hD, rfl, hO⟩ := h
  have e : Ms (gh (Ms X)) = Ms X := Ms_gh _
  rw [bb_eq e, bI_eq e, bK_eq e]
  exact rbestD_all hD p d hd
theorem RD.take (h : RD w D base rb n np q G) (p d : Int) (hd : 0 ≤ d ∧ d < 18446744073709551616) :
    Calls Try.prog 56 #[.pointer (some ⟨rb, 0, none⟩), .int .i64 p, .int .u64 d] w fun e w' => e = .returned (.tuple #[.int .i64 (bI (gh G) (bb np (gh G) p d)), .agg #[.bool (bK (gh G) (bb np (gh G) p d)).e, .int .u64 (bK (gh G) (bb np (gh G) p d)).d, .int .u8 (bK (gh G) (bb np (gh G) p d)).l], .int .i64 (bA (bb np (gh G) p d)), .bool (bb np (gh G) p d).isSome]) ∧ RD w' D base rb n np q (ptkG np (gh G) p d) ∧ Fr D w w' := by
  obtain ⟨v, X, hD, rfl, hO⟩ := h
  have e : Ms (gh (Ms X)) = Ms X := Ms_gh _
  rw [bb_eq e, bI_eq e, bK_eq e, ptkG_eq e]
  exact (rtakeD_all hD p d hd).mono (fun e w' h => ⟨h.1, h.2.rd hO⟩)
theorem RD.where (h : RD w D base rb n np q G) (id : Int) :
    Calls Try.prog 38 #[.pointer (some ⟨rb, 0, none⟩), .int .i64 id] w fun e w' => e = .returned (.tuple #[.int .i64 ((whereF n (gh G) 0 id).getD 0), .bool (whereF n (gh G) 0 id).isSome]) ∧ Below w.heap.size w w' := by
  obtain ⟨v, X, hD, rfl, hO⟩ := h
  have e : Ms (gh (Ms X)) = Ms X := Ms_gh _
  rw [whereF_eq e]
  exact rwhere_ok hD id
theorem RD.list (h : RD w D base rb n np q G) (i : Int) :
    Calls Try.prog 40 #[.pointer (some ⟨rb, 0, none⟩), .int .i64 i] w fun e w' => ∃ v', e = .returned v' ∧ Dc.IL w' w.heap.size v' (lst (gh G) i) ∧ Below w.heap.size w w' := by
  obtain ⟨v, X, hD, rfl, hO⟩ := h
  have e : Ms (gh (Ms X)) = Ms X := Ms_gh _
  rw [lst_eq e]
  exact rlistD hD i
theorem RD.length (h : RD w D base rb n np q G) :
    Calls Try.prog 18 #[.pointer (some ⟨rb, 0, none⟩)] w fun e w' => e = .returned (.int .i64 (sumH (gh G) : Int)) ∧ w' = w := by
  obtain ⟨v, X, hD, rfl, hO⟩ := h
  have e : Ms (gh (Ms X)) = Ms X := Ms_gh _
  rw [sumH_eq e]
  exact rlenD hD
end
/-- Both hold the same, and lie apart. -/
structure BothP (w : World) (O D : Nat → Prop) (base pb rb n np q T : Nat) (G : List (List En)) : Prop where
  pq : PQ w O pb n np q T G
  rd : RD w D base rb n np q G
  ob : ∀ k, O k → k < base
section
variable {w w' w'' : World} {O D : Nat → Prop} {base pb rb n np q T : Nat} {G G' : List (List En)}
theorem BothP.below (h : BothP w O D base pb rb n np q T G) (hb : Below w.heap.size w w') : BothP w' O D base pb rb n np q T G := ⟨h.pq.below hb, h.rd.below hb, h.ob⟩
theorem BothP.lt (h : BothP w O D base pb rb n np q T G) : ∀ k, O k ∨ D k → k < w.heap.size := by
  rintro k (e | e)
  · exact h.pq.blocks k e
  · exact h.rd.lt k e
theorem BothP.refOf (h : BothP w O D base pb rb n np q T G) (hf : Fr O w w') : RD w' D base rb n np q G := h.rd.frame hf h.ob
/-- First the program's, then the document's. -/
theorem BothP.join (h : BothP w O D base pb rb n np q T G) {T' : Nat} (hq : PQ w' O pb n np q T' G') (hf : Fr O w w') (hr : RD w'' D base rb n np q G') (hf' : Fr D w' w'') : BothP w'' O D base pb rb n np q T' G' ∧ Fr (fun k => O k ∨ D k) w w'' :=
  ⟨⟨hq.frame hf' (fun k hk hd => by have := h.ob k hk; have := h.rd.ge k hd; omega), hr, h.ob⟩, (hf.wide (fun _ _ q => .inl q)).trans (hf'.wide (fun _ _ q => .inr q))⟩
end
set_option maxHeartbeats 4000000 in
set_option maxRecDepth 20000 in
theorem do_put (w : World) (O D : Nat → Prop) (base pb rb n np q T : Nat) (G : List (List En)) (h : BothP w O D base pb rb n np q T G) (hT : T ≤ 1000) (x1 x2 r : Int) (k : Ke.K) (hk : k.ok) :
    Calls Try.prog 28 #[.pointer (some ⟨pb, 0, none⟩), .pointer (some ⟨rb, 0, none⟩), .agg #[.int .i64 0, .int .i64 x1, .int .i64 x2, .bool k.e, .int .u64 k.d, .int .u8 k.l, .int .u64 r]] w fun e w' => e = .returned (.bool true) ∧ BothP w' O D base pb rb n np q (T + 1) (pputG np n q (gh G) x1 x2 k) ∧ Fr (fun k => O k ∨ D k) w w' := by
  have hA : Below w.heap.size w (w.alloc (.cells #[.int .i64 0, .int .i64 x1, .int .i64 x2, .bool k.e, .int .u64 k.d, .int .u8 k.l, .int .u64 r] 27)) := (Below.refl _ _).alloc (Nat.le_refl _) _
  have hlt := h.lt
  have hblk : (w.alloc (.cells #[.int .i64 0, .int .i64 x1, .int .i64 x2, .bool k.e, .int .u64 k.d, .int .u8 k.l, .int .u64 r] 27)).heap[w.heap.size]? = some (.cells #[.int .i64 0, .int .i64 x1, .int .i64 x2, .bool k.e, .int .u64 k.d, .int .u8 k.l, .int .u64 r] 27 (0, 0)) := World.alloc_heap_new w _
  have HC : Hid (∀ W, Fr (fun k => O k ∨ D k) (w.alloc (.cells #[.int .i64 0, .int .i64 x1, .int .i64 x2, .bool k.e, .int .u64 k.d, .int .u8 k.l, .int .u64 r] 27)) W → W.cell? ⟨w.heap.size, 1, none⟩ = some (.int .i64 x1) ∧ W.cell? ⟨w.heap.size, 2, none⟩ = some (.int .i64 x2) ∧ W.cell? ⟨w.heap.size, 3, none⟩ = some (.bool k.e) ∧ W.cell? ⟨w.heap.size, 4, none⟩ = some (.int .u64 k.d) ∧ W.cell? ⟨w.heap.size, 5, none⟩ = some (.int .u8 k.l)) := fun W hW => by
    have hb : W.heap[w.heap.size]? = some (.cells #[.int .i64 0, .int .i64 x1, .int .i64 x2, .bool k.e, .int .u64 k.d, .int .u8 k.l, .int .u64 r] 27 (0, 0)) := (hW.block _ (by simp) (fun q => by have := hlt _ q; omega)).trans hblk
    exact ⟨(blk_cell hb 1).1, (blk_cell hb 2).1, (blk_cell hb 3).1, (blk_cell hb 4).1, (blk_cell hb 5).1⟩
  have HF0 : Hid (Fr (fun k => O k ∨ D k) (w.alloc (.cells #[.int .i64 0, .int .i64 x1, .int .i64 x2, .bool k.e, .int .u64 k.d, .int .u8 k.l, .int .u64 r] 27)) (w.alloc (.cells #[.int .i64 0, .int .i64 x1, .int .i64 x2, .bool k.e, .int .u64 k.d, .int .u8 k.l, .int .u64 r] 27))) := Fr.refl _ _
  have HP : Hid (∀ W, Below (w.alloc (.cells #[.int .i64 0, .int .i64 x1, .int .i64 x2, .bool k.e, .int .u64 k.d, .int .u8 k.l, .int .u64 r] 27)).heap.size (w.alloc (.cells #[.int .i64 0, .int .i64 x1, .int .i64 x2, .bool k.e, .int .u64 k.d, .int .u8 k.l, .int .u64 r] 27)) W → Calls Try.prog 26 #[.pointer (some ⟨pb, 0, none⟩), .int .i64 x1, .int .i64 x2, .agg #[.bool k.e, .int .u64 k.d, .int .u8 k.l]] W fun e w1 => e = .returned (.int .i64 (pputC np n (gh G) x1 x2 k)) ∧ (PQ w1 O pb n np q (T + 1) (pputG np n q (gh G) x1 x2 k) ∧ RD w1 D base rb n np q G ∧ Fr O (w.alloc (.cells #[.int .i64 0, .int .i64 x1, .int .i64 x2, .bool k.e, .int .u64 k.d, .int .u8 k.l, .int .u64 r] 27)) w1) ∧ Fr (fun k => O k ∨ D k) (w.alloc (.cells #[.int .i64 0, .int .i64 x1, .int .i64 x2, .bool k.e, .int .u64 k.d, .int .u8 k.l, .int .u64 r] 27)) w1) := fun W hW => by
    have hB := (h.below hA).below hW
    refine (hB.pq.put hT x1 x2 k hk).mono ?_
    rintro e w1 ⟨rfl, hq, hf⟩
    have hf0 : Fr O (w.alloc (.cells #[.int .i64 0, .int .i64 x1, .int .i64 x2, .bool k.e, .int .u64 k.d, .int .u8 k.l, .int .u64 r] 27)) w1 := (Fr.of_below' hW).trans hf
    exact ⟨rfl, ⟨hq, hB.refOf hf, hf0⟩, hf0.wide (fun _ _ q => .inl q)⟩
  have HR : Hid (∀ W, (PQ W O pb n np q (T + 1) (pputG np n q (gh G) x1 x2 k) ∧ RD W D base rb n np q G ∧ Fr O (w.alloc (.cells #[.int .i64 0, .int .i64 x1, .int .i64 x2, .bool k.e, .int .u64 k.d, .int .u8 k.l, .int .u64 r] 27)) W) → Calls Try.prog 54 #[.pointer (some ⟨rb, 0, none⟩), .int .i64 x1, .int .i64 x2, .agg #[.bool k.e, .int .u64 k.d, .int .u8 k.l]] W fun e w2 => e = .returned (.int .i64 (pputC np n (gh G) x1 x2 k)) ∧ BothP w2 O D base pb rb n np q (T + 1) (pputG np n q (gh G) x1 x2 k) ∧ Fr (fun k => O k ∨ D k) (w.alloc (.cells #[.int .i64 0, .int .i64 x1, .int .i64 x2, .bool k.e, .int .u64 k.d, .int .u8 k.l, .int .u64 r] 27)) w2) := fun W hW => by
    refine (hW.2.1.put x1 x2 k).mono ?_
    rintro e w2 ⟨rfl, hr, hf⟩
    exact ⟨rfl, (h.below hA).join hW.1 hW.2.2 hr hf⟩
  generalize pputC np n (gh G) x1 x2 k = cc at *
  clear h hA hlt hblk
  go_enter Try.func28, Try.ntmps28
  go_wp2
  go_region_held3 (fun w' => w'.cell? ⟨w.heap.size, 1, none⟩ = some (.int .i64 x1) ∧ w'.cell? ⟨w.heap.size, 2, none⟩ = some (.int .i64 x2) ∧ w'.cell? ⟨w.heap.size, 3, none⟩ = some (.bool k.e) ∧ w'.cell? ⟨w.heap.size, 4, none⟩ = some (.int .u64 k.d) ∧ w'.cell? ⟨w.heap.size, 5, none⟩ = some (.int .u8 k.l))
    (first
      | exact HC.out _ HF2.out
      | exact HC.out _ HF1.out
      | exact HC.out _ HF0.out
      | go_keep)
    (first
      | (go_at_call 26; refine (HP.out _ (by first | exact Below.refl _ _ | exact (Below.refl _ _).drew)).mono ?_; rintro e w1 ⟨rfl, hm1, hf1⟩; have HM1 := veil hm1; have HF1 := veil hf1; clear hm1 hf1)
      | (go_at_call 54; refine (HR.out _ HM1.out).mono ?_; rintro e w2 ⟨rfl, hb2, hf2⟩; have HB2 := veil hb2; have HF2 := veil hf2; clear hb2 hf2))
  go_wp2
  go_ret
  exact ⟨by simp, HB2.out, (Fr.of_below' ((Below.refl _ _).alloc (Nat.le_refl _) _)).trans HF2.out⟩
set_option maxHeartbeats 4000000 in
set_option maxRecDepth 20000 in
theorem do_change (w : World) (O D : Nat → Prop) (base pb rb n np q T : Nat) (G : List (List En)) (h : BothP w O D base pb rb n np q T G) (hT : T ≤ 1000) (x1 x2 r : Int) (k : Ke.K) (hk : k.ok) (wfi : (Lit.int .i64 x2).wf = true) :
    Calls Try.prog 28 #[.pointer (some ⟨pb, 0, none⟩), .pointer (some ⟨rb, 0, none⟩), .agg #[.int .i64 1, .int .i64 x1, .int .i64 x2, .bool k.e, .int .u64 k.d, .int .u8 k.l, .int .u64 r]] w fun e w' => e = .returned (.bool true) ∧ BothP w' O D base pb rb n np q (T + 1) (pchgG n (gh G) x2 k) ∧ Fr (fun k => O k ∨ D k) w w' := by
  have hA : Below w.heap.size w (w.alloc (.cells #[.int .i64 1, .int .i64 x1, .int .i64 x2, .bool k.e, .int .u64 k.d, .int .u8 k.l, .int .u64 r] 27)) := (Below.refl _ _).alloc (Nat.le_refl _) _
  have hlt := h.lt
  have hblk : (w.alloc (.cells #[.int .i64 1, .int .i64 x1, .int .i64 x2, .bool k.e, .int .u64 k.d, .int .u8 k.l, .int .u64 r] 27)).heap[w.heap.size]? = some (.cells #[.int .i64 1, .int .i64 x1, .int .i64 x2, .bool k.e, .int .u64 k.d, .int .u8 k.l, .int .u64 r] 27 (0, 0)) := World.alloc_heap_new w _
  have HC : Hid (∀ W, Fr (fun k => O k ∨ D k) (w.alloc (.cells #[.int .i64 1, .int .i64 x1, .int .i64 x2, .bool k.e, .int .u64 k.d, .int .u8 k.l, .int .u64 r] 27)) W → W.cell? ⟨w.heap.size, 2, none⟩ = some (.int .i64 x2) ∧ W.cell? ⟨w.heap.size, 3, none⟩ = some (.bool k.e) ∧ W.cell? ⟨w.heap.size, 4, none⟩ = some (.int .u64 k.d) ∧ W.cell? ⟨w.heap.size, 5, none⟩ = some (.int .u8 k.l)) := fun W hW => by
    have hb : W.heap[w.heap.size]? = some (.cells #[.int .i64 1, .int .i64 x1, .int .i64 x2, .bool k.e, .int .u64 k.d, .int .u8 k.l, .int .u64 r] 27 (0, 0)) := (hW.block _ (by simp) (fun q => by have := hlt _ q; omega)).trans hblk
    exact ⟨(blk_cell hb 2).1, (blk_cell hb 3).1, (blk_cell hb 4).1, (blk_cell hb 5).1⟩
  have HF0 : Hid (Fr (fun k => O k ∨ D k) (w.alloc (.cells #[.int .i64 1, .int .i64 x1, .int .i64 x2, .bool k.e, .int .u64 k.d, .int .u8 k.l, .int .u64 r] 27)) (w.alloc (.cells #[.int .i64 1, .int .i64 x1, .int .i64 x2, .bool k.e, .int .u64 k.d, .int .u8 k.l, .int .u64 r] 27))) := Fr.refl _ _
  have HP : Hid (∀ W, Below (w.alloc (.cells #[.int .i64 1, .int .i64 x1, .int .i64 x2, .bool k.e, .int .u64 k.d, .int .u8 k.l, .int .u64 r] 27)).heap.size (w.alloc (.cells #[.int .i64 1, .int .i64 x1, .int .i64 x2, .bool k.e, .int .u64 k.d, .int .u8 k.l, .int .u64 r] 27)) W → Calls Try.prog 29 #[.pointer (some ⟨pb, 0, none⟩), .int .i64 x2, .agg #[.bool k.e, .int .u64 k.d, .int .u8 k.l]] W fun e w1 => e = .returned (.int .i64 (pchgC n (gh G) x2 k)) ∧ (PQ w1 O pb n np q (T + 1) (pchgG n (gh G) x2 k) ∧ RD w1 D base rb n np q G ∧ Fr O (w.alloc (.cells #[.int .i64 1, .int .i64 x1, .int .i64 x2, .bool k.e, .int .u64 k.d, .int .u8 k.l, .int .u64 r] 27)) w1) ∧ Fr (fun k => O k ∨ D k) (w.alloc (.cells #[.int .i64 1, .int .i64 x1, .int .i64 x2, .bool k.e, .int .u64 k.d, .int .u8 k.l, .int .u64 r] 27)) w1) := fun W hW => by
    have hB := (h.below hA).below hW
    refine (hB.pq.change hT x2 wfi k hk).mono ?_
    rintro e w1 ⟨rfl, hq, hf⟩
    have hf0 : Fr O (w.alloc (.cells #[.int .i64 1, .int .i64 x1, .int .i64 x2, .bool k.e, .int .u64 k.d, .int .u8 k.l, .int .u64 r] 27)) w1 := (Fr.of_below' hW).trans hf
    exact ⟨rfl, ⟨hq, hB.refOf hf, hf0⟩, hf0.wide (fun _ _ q => .inl q)⟩
  have HR : Hid (∀ W, (PQ W O pb n np q (T + 1) (pchgG n (gh G) x2 k) ∧ RD W D base rb n np q G ∧ Fr O (w.alloc (.cells #[.int .i64 1, .int .i64 x1, .int .i64 x2, .bool k.e, .int .u64 k.d, .int .u8 k.l, .int .u64 r] 27)) W) → Calls Try.prog 55 #[.pointer (some ⟨rb, 0, none⟩), .int .i64 x2, .agg #[.bool k.e, .int .u64 k.d, .int .u8 k.l]] W fun e w2 => e = .returned (.int .i64 (pchgC n (gh G) x2 k)) ∧ BothP w2 O D base pb rb n np q (T + 1) (pchgG n (gh G) x2 k) ∧ Fr (fun k => O k ∨ D k) (w.alloc (.cells #[.int .i64 1, .int .i64 x1, .int .i64 x2, .bool k.e, .int .u64 k.d, .int .u8 k.l, .int .u64 r] 27)) w2) := fun W hW => by
    refine (hW.2.1.change x2 k).mono ?_
    rintro e w2 ⟨rfl, hr, hf⟩
    exact ⟨rfl, (h.below hA).join hW.1 hW.2.2 hr hf⟩
  generalize pchgC n (gh G) x2 k = cc at *
  clear h hA hlt hblk
  go_enter Try.func28, Try.ntmps28
  go_wp2
  go_region_held3 (fun w' => w'.cell? ⟨w.heap.size, 2, none⟩ = some (.int .i64 x2) ∧ w'.cell? ⟨w.heap.size, 3, none⟩ = some (.bool k.e) ∧ w'.cell? ⟨w.heap.size, 4, none⟩ = some (.int .u64 k.d) ∧ w'.cell? ⟨w.heap.size, 5, none⟩ = some (.int .u8 k.l))
    (first
      | exact HC.out _ HF2.out
      | exact HC.out _ HF1.out
      | exact HC.out _ HF0.out
      | go_keep)
    (first
      | (go_at_call 29; refine (HP.out _ (by first | exact Below.refl _ _ | exact (Below.refl _ _).drew)).mono ?_; rintro e w1 ⟨rfl, hm1, hf1⟩; have HM1 := veil hm1; have HF1 := veil hf1; clear hm1 hf1)
      | (go_at_call 55; refine (HR.out _ HM1.out).mono ?_; rintro e w2 ⟨rfl, hb2, hf2⟩; have HB2 := veil hb2; have HF2 := veil hf2; clear hb2 hf2))
  go_wp2
  go_ret
  exact ⟨by simp, HB2.out, (Fr.of_below' ((Below.refl _ _).alloc (Nat.le_refl _) _)).trans HF2.out⟩
set_option maxHeartbeats 4000000 in
set_option maxRecDepth 20000 in
theorem do_remove (w : World) (O D : Nat → Prop) (base pb rb n np q T : Nat) (G : List (List En)) (h : BothP w O D base pb rb n np q T G) (hT : T ≤ 1000) (x1 x2 r : Int) (k : Ke.K) (wfi : (Lit.int .i64 x2).wf = true) :
    Calls Try.prog 28 #[.pointer (some ⟨pb, 0, none⟩), .pointer (some ⟨rb, 0, none⟩), .agg #[.int .i64 2, .int .i64 x1, .int .i64 x2, .bool k.e, .int .u64 k.d, .int .u8 k.l, .int .u64 r]] w fun e w' => e = .returned (.bool true) ∧ BothP w' O D base pb rb n np q (T + 1) (premG n (gh G) x2) ∧ Fr (fun k => O k ∨ D k) w w' := by
  have hA : Below w.heap.size w (w.alloc (.cells #[.int .i64 2, .int .i64 x1, .int .i64 x2, .bool k.e, .int .u64 k.d, .int .u8 k.l, .int .u64 r] 27)) := (Below.refl _ _).alloc (Nat.le_refl _) _
  have hlt := h.lt
  have hblk : (w.alloc (.cells #[.int .i64 2, .int .i64 x1, .int .i64 x2, .bool k.e, .int .u64 k.d, .int .u8 k.l, .int .u64 r] 27)).heap[w.heap.size]? = some (.cells #[.int .i64 2, .int .i64 x1, .int .i64 x2, .bool k.e, .int .u64 k.d, .int .u8 k.l, .int .u64 r] 27 (0, 0)) := World.alloc_heap_new w _
  have HC : Hid (∀ W, Fr (fun k => O k ∨ D k) (w.alloc (.cells #[.int .i64 2, .int .i64 x1, .int .i64 x2, .bool k.e, .int .u64 k.d, .int .u8 k.l, .int .u64 r] 27)) W → W.cell? ⟨w.heap.size, 2, none⟩ = some (.int .i64 x2)) := fun W hW => by
    have hb : W.heap[w.heap.size]? = some (.cells #[.int .i64 2, .int .i64 x1, .int .i64 x2, .bool k.e, .int .u64 k.d, .int .u8 k.l, .int .u64 r] 27 (0, 0)) := (hW.block _ (by simp) (fun q => by have := hlt _ q; omega)).trans hblk
    exact (blk_cell hb 2).1
  have HF0 : Hid (Fr (fun k => O k ∨ D k) (w.alloc (.cells #[.int .i64 2, .int .i64 x1, .int .i64 x2, .bool k.e, .int .u64 k.d, .int .u8 k.l, .int .u64 r] 27)) (w.alloc (.cells #[.int .i64 2, .int .i64 x1, .int .i64 x2, .bool k.e, .int .u64 k.d, .int .u8 k.l, .int .u64 r] 27))) := Fr.refl _ _
  have HP : Hid (∀ W, Below (w.alloc (.cells #[.int .i64 2, .int .i64 x1, .int .i64 x2, .bool k.e, .int .u64 k.d, .int .u8 k.l, .int .u64 r] 27)).heap.size (w.alloc (.cells #[.int .i64 2, .int .i64 x1, .int .i64 x2, .bool k.e, .int .u64 k.d, .int .u8 k.l, .int .u64 r] 27)) W → Calls Try.prog 30 #[.pointer (some ⟨pb, 0, none⟩), .int .i64 x2] W fun e w1 => e = .returned (.int .i64 (premC n (gh G) x2)) ∧ (PQ w1 O pb n np q (T + 1) (premG n (gh G) x2) ∧ RD w1 D base rb n np q G ∧ Fr O (w.alloc (.cells #[.int .i64 2, .int .i64 x1, .int .i64 x2, .bool k.e, .int .u64 k.d, .int .u8 k.l, .int .u64 r] 27)) w1) ∧ Fr (fun k => O k ∨ D k) (w.alloc (.cells #[.int .i64 2, .int .i64 x1, .int .i64 x2, .bool k.e, .int .u64 k.d, .int .u8 k.l, .int .u64 r] 27)) w1) := fun W hW => by
    have hB := (h.below hA).below hW
    refine (hB.pq.remove x2 wfi).mono ?_
    rintro e w1 ⟨rfl, hq, hf⟩
    have hf0 : Fr O (w.alloc (.cells #[.int .i64 2, .int .i64 x1, .int .i64 x2, .bool k.e, .int .u64 k.d, .int .u8 k.l, .int .u64 r] 27)) w1 := (Fr.of_below' hW).trans hf
    exact ⟨rfl, ⟨hq, hB.refOf hf, hf0⟩, hf0.wide (fun _ _ q => .inl q)⟩
  have HR : Hid (∀ W, (PQ W O pb n np q (T + 1) (premG n (gh G) x2) ∧ RD W D base rb n np q G ∧ Fr O (w.alloc (.cells #[.int .i64 2, .int .i64 x1, .int .i64 x2, .bool k.e, .int .u64 k.d, .int .u8 k.l, .int .u64 r] 27)) W) → Calls Try.prog 48 #[.pointer (some ⟨rb, 0, none⟩), .int .i64 x2] W fun e w2 => e = .returned (.int .i64 (premC n (gh G) x2)) ∧ BothP w2 O D base pb rb n np q (T + 1) (premG n (gh G) x2) ∧ Fr (fun k => O k ∨ D k) (w.alloc (.cells #[.int .i64 2, .int .i64 x1, .int .i64 x2, .bool k.e, .int .u64 k.d, .int .u8 k.l, .int .u64 r] 27)) w2) := fun W hW => by
    refine (hW.2.1.remove x2).mono ?_
    rintro e w2 ⟨rfl, hr, hf⟩
    exact ⟨rfl, (h.below hA).join hW.1 hW.2.2 hr hf⟩
  generalize premC n (gh G) x2 = cc at *
  clear h hA hlt hblk
  go_enter Try.func28, Try.ntmps28
  go_wp2
  go_region_held3 (fun w' => w'.cell? ⟨w.heap.size, 2, none⟩ = some (.int .i64 x2))
    (first
      | exact HC.out _ HF2.out
      | exact HC.out _ HF1.out
      | exact HC.out _ HF0.out
      | go_keep)
    (first
      | (go_at_call 30; refine (HP.out _ (by first | exact Below.refl _ _ | exact (Below.refl _ _).drew)).mono ?_; rintro e w1 ⟨rfl, hm1, hf1⟩; have HM1 := veil hm1; have HF1 := veil hf1; clear hm1 hf1)
      | (go_at_call 48; refine (HR.out _ HM1.out).mono ?_; rintro e w2 ⟨rfl, hb2, hf2⟩; have HB2 := veil hb2; have HF2 := veil hf2; clear hb2 hf2))
  go_wp2
  go_ret
  exact ⟨by simp, HB2.out, (Fr.of_below' ((Below.refl _ _).alloc (Nat.le_refl _) _)).trans HF2.out⟩
set_option maxHeartbeats 4000000 in
set_option maxRecDepth 20000 in
theorem do_take (w : World) (O D : Nat → Prop) (base pb rb n np q T : Nat) (G : List (List En)) (h : BothP w O D base pb rb n np q T G) (x1 x2 r : Int) (k : Ke.K) (hr : 0 ≤ r ∧ r < 18446744073709551616) :
    Calls Try.prog 28 #[.pointer (some ⟨pb, 0, none⟩), .pointer (some ⟨rb, 0, none⟩), .agg #[.int .i64 3, .int .i64 x1, .int .i64 x2, .bool k.e, .int .u64 k.d, .int .u8 k.l, .int .u64 r]] w fun e w' => e = .returned (.bool true) ∧ BothP w' O D base pb rb n np q (T + 1) (ptkG np (gh G) x1 r) ∧ Fr (fun k => O k ∨ D k) w w' := by
  have hA : Below w.heap.size w (w.alloc (.cells #[.int .i64 3, .int .i64 x1, .int .i64 x2, .bool k.e, .int .u64 k.d, .int .u8 k.l, .int .u64 r] 27)) := (Below.refl _ _).alloc (Nat.le_refl _) _
  have hlt := h.lt
  have hblk : (w.alloc (.cells #[.int .i64 3, .int .i64 x1, .int .i64 x2, .bool k.e, .int .u64 k.d, .int .u8 k.l, .int .u64 r] 27)).heap[w.heap.size]? = some (.cells #[.int .i64 3, .int .i64 x1, .int .i64 x2, .bool k.e, .int .u64 k.d, .int .u8 k.l, .int .u64 r] 27 (0, 0)) := World.alloc_heap_new w _
  have HC : Hid (∀ W, Fr (fun k => O k ∨ D k) (w.alloc (.cells #[.int .i64 3, .int .i64 x1, .int .i64 x2, .bool k.e, .int .u64 k.d, .int .u8 k.l, .int .u64 r] 27)) W → W.cell? ⟨w.heap.size, 1, none⟩ = some (.int .i64 x1) ∧ W.cell? ⟨w.heap.size, 6, none⟩ = some (.int .u64 r)) := fun W hW => by
    have hb : W.heap[w.heap.size]? = some (.cells #[.int .i64 3, .int .i64 x1, .int .i64 x2, .bool k.e, .int .u64 k.d, .int .u8 k.l, .int .u64 r] 27 (0, 0)) := (hW.block _ (by simp) (fun q => by have := hlt _ q; omega)).trans hblk
    exact ⟨(blk_cell hb 1).1, (blk_cell hb 6).1⟩
  obtain ⟨o, ho⟩ : ∃ o, bb np (gh G) x1 r = o := ⟨_, rfl⟩
  obtain ⟨ti, hti⟩ : ∃ ti, bI (gh G) o = ti := ⟨_, rfl⟩
  obtain ⟨kk, hkk⟩ : ∃ kk, bK (gh G) o = kk := ⟨_, rfl⟩
  obtain ⟨ta, hta⟩ : ∃ ta, bA o = ta := ⟨_, rfl⟩
  obtain ⟨ob, hob⟩ : ∃ ob, o.isSome = ob := ⟨_, rfl⟩
  have HP : Hid (Calls Try.prog 25 #[.pointer (some ⟨pb, 0, none⟩), .int .i64 x1, .int .u64 r] (w.alloc (.cells #[.int .i64 3, .int .i64 x1, .int .i64 x2, .bool k.e, .int .u64 k.d, .int .u8 k.l, .int .u64 r] 27)) fun e w1 => e = .returned (.tuple #[.int .i64 ti, .agg #[.bool kk.e, .int .u64 kk.d, .int .u8 kk.l], .int .i64 ta, .bool ob]) ∧ (PQ (w1.alloc (.cells #[.bool kk.e, .int .u64 kk.d, .int .u8 kk.l] 25)) O pb n np q (T + 1) (ptkG np (gh G) x1 r) ∧ RD (w1.alloc (.cells #[.bool kk.e, .int .u64 kk.d, .int .u8 kk.l] 25)) D base rb n np q G ∧ Fr O (w.alloc (.cells #[.int .i64 3, .int .i64 x1, .int .i64 x2, .bool k.e, .int .u64 k.d, .int .u8 k.l, .int .u64 r] 27)) (w1.alloc (.cells #[.bool kk.e, .int .u64 kk.d, .int .u8 kk.l] 25))) ∧ Fr (fun k => O k ∨ D k) (w.alloc (.cells #[.int .i64 3, .int .i64 x1, .int .i64 x2, .bool k.e, .int .u64 k.d, .int .u8 k.l, .int .u64 r] 27)) (w1.alloc (.cells #[.bool kk.e, .int .u64 kk.d, .int .u8 kk.l] 25)) ∧ w.heap.size < w1.heap.size) := by
    have hB := h.below hA
    have := hB.pq.take x1 r hr
    rw [ho, hti, hkk, hta, hob] at this
    refine this.mono ?_
    rintro e w1 ⟨rfl, hq, hf⟩
    have hal : Below w1.heap.size w1 (w1.alloc (.cells #[.bool kk.e, .int .u64 kk.d, .int .u8 kk.l] 25)) := (Below.refl _ _).alloc (Nat.le_refl _) _
    have hf0 : Fr O (w.alloc (.cells #[.int .i64 3, .int .i64 x1, .int .i64 x2, .bool k.e, .int .u64 k.d, .int .u8 k.l, .int .u64 r] 27)) (w1.alloc (.cells #[.bool kk.e, .int .u64 kk.d, .int .u8 kk.l] 25)) := hf.alloc _
    exact ⟨rfl, ⟨hq.below hal, (hB.refOf hf).below hal, hf0⟩, hf0.wide (fun _ _ q => .inl q), by have := hf.size; simp at this; omega⟩
  have HR : Hid (∀ W, (PQ W O pb n np q (T + 1) (ptkG np (gh G) x1 r) ∧ RD W D base rb n np q G ∧ Fr O (w.alloc (.cells #[.int .i64 3, .int .i64 x1, .int .i64 x2, .bool k.e, .int .u64 k.d, .int .u8 k.l, .int .u64 r] 27)) W) → Calls Try.prog 56 #[.pointer (some ⟨rb, 0, none⟩), .int .i64 x1, .int .u64 r] W fun e w2 => e = .returned (.tuple #[.int .i64 ti, .agg #[.bool kk.e, .int .u64 kk.d, .int .u8 kk.l], .int .i64 ta, .bool ob]) ∧ (BothP w2 O D base pb rb n np q (T + 1) (ptkG np (gh G) x1 r) ∧ Fr (fun k => O k ∨ D k) (w.alloc (.cells #[.int .i64 3, .int .i64 x1, .int .i64 x2, .bool k.e, .int .u64 k.d, .int .u8 k.l, .int .u64 r] 27)) w2) ∧ Fr D W w2) := fun W hW => by
    have := hW.2.1.take x1 r hr
    rw [ho, hti, hkk, hta, hob] at this
    refine this.mono ?_
    rintro e w2 ⟨rfl, hr', hf⟩
    exact ⟨rfl, (h.below hA).join hW.1 hW.2.2 hr' hf, hf⟩
  have c1 := (HC.out _ (Fr.refl _ _)).1
  have c6 := (HC.out _ (Fr.refl _ _)).2
  have HLD : Hid (∀ k, D k → k < w.heap.size) := fun k hk => hlt k (.inr hk)
  clear h hA hlt hblk ho hti hkk hta hob
  have hs1 : Ke.same kk kk = true := by rw [Ke.same_eq]; exact decide_eq_true rfl
  go_enter Try.func28, Try.ntmps28
  go_wp2_with (first
    | (go_at_call 25; refine (HP.out).mono ?_; rintro e w1 ⟨rfl, hm1, hf1, hz1⟩; have HM1 := veil hm1; obtain ⟨c11, c16⟩ := HC.out _ hf1; have HBX := veil (World.alloc_heap_new w1 (.cells #[.bool kk.e, .int .u64 kk.d, .int .u8 kk.l] 25)); clear hm1 hf1)
    | (go_at_call 56; refine (HR.out _ HM1.out).mono ?_; rintro e w2 ⟨rfl, hb2, hf2⟩; have HB2 := veil hb2; have hbx2 := (hf2.block w1.heap.size (by simp) (fun q => by have := HLD.out _ q; omega)).trans HBX.out; have hs2 : w1.heap.size < w2.heap.size := (Array.getElem?_eq_some_iff.1 hbx2).1; have z0 : ¬ w1.heap.size = w2.heap.size := (by omega); have z1 : ¬ w2.heap.size = w1.heap.size := (by omega); have hbx3 : (w2.alloc (.cells #[.bool kk.e, .int .u64 kk.d, .int .u8 kk.l] 25)).heap[w1.heap.size]? = some (.cells #[.bool kk.e, .int .u64 kk.d, .int .u8 kk.l] 25) := (Below.heap_alloc _ _ _ hs2).trans hbx2; have p0 := (blk_cell hbx3 0).1; have p1 := (blk_cell hbx3 1).1; have p2 := (blk_cell hbx3 2).1; simp only [List.getElem?_toArray, List.getElem?_cons_zero, List.getElem?_cons_succ] at p0 p1 p2; clear hb2 hf2 hbx2 hbx3))
  go_ret
  refine ⟨by simp, HB2.out.1.below ((Below.refl _ _).alloc (Nat.le_refl _) _), ?_⟩
  exact (Fr.of_below' ((Below.refl _ _).alloc (Nat.le_refl _) _)).trans (HB2.out.2.alloc _)
theorem do_other (w : World) (O D : Nat → Prop) (base pb rb n np q T : Nat) (G : List (List En)) (h : BothP w O D base pb rb n np q T G) (x0 x1 x2 r : Int) (k : Ke.K) (h0 : ¬ x0 = 0) (h1 : ¬ x0 = 1) (h2 : ¬ x0 = 2) (h3 : ¬ x0 = 3) :
    Calls Try.prog 28 #[.pointer (some ⟨pb, 0, none⟩), .pointer (some ⟨rb, 0, none⟩), .agg #[.int .i64 x0, .int .i64 x1, .int .i64 x2, .bool k.e, .int .u64 k.d, .int .u8 k.l, .int .u64 r]] w fun e w' => e = .returned (.bool true) ∧ BothP w' O D base pb rb n np q (T + 1) G ∧ Fr (fun k => O k ∨ D k) w w' := by
  have hb := h.below ((Below.refl _ _).alloc (Nat.le_refl _) (.cells #[.int .i64 x0, .int .i64 x1, .int .i64 x2, .bool k.e, .int .u64 k.d, .int .u8 k.l, .int .u64 r] 27))
  have HA : Hid (BothP (w.alloc (.cells #[.int .i64 x0, .int .i64 x1, .int .i64 x2, .bool k.e, .int .u64 k.d, .int .u8 k.l, .int .u64 r] 27)) O D base pb rb n np q (T + 1) G) := ⟨hb.pq.more (by omega), hb.rd, hb.ob⟩
  clear h hb
  go_enter Try.func28, Try.ntmps28
  go_wp2
  go_ret
  exact ⟨rfl, HA.out, Fr.of_below' ((Below.refl _ _).alloc (Nat.le_refl _) _)⟩
end Go.Proofs.Ytlfejgjhamcahaa

namespace Go.Proofs.Ytlfejgjhamcahaa
open Go.RowKit Go.Lib
set_option linter.unusedVariables false
attribute [local go_sem ↓] Go.wp_at_zero Go.wp_at_succ

theorem do_ok (w : World) (O D : Nat → Prop) (base pb rb n np q T : Nat) (G : List (List En)) (h : BothP w O D base pb rb n np q T G) (hT : T ≤ 1000) (x : Dp) (hx : x.ok) :
    Calls Try.prog 28 #[.pointer (some ⟨pb, 0, none⟩), .pointer (some ⟨rb, 0, none⟩), .agg #[.int .i64 x.k, .int .i64 x.p, .int .i64 x.i, .bool x.e, .int .u64 x.d, .int .u8 x.l, .int .u64 x.r]] w fun e w' => e = .returned (.bool true) ∧ (∃ G', BothP w' O D base pb rb n np q (T + 1) G') ∧ Fr (fun k => O k ∨ D k) w w' := by
  obtain ⟨x0, x1, x2, xe, xd, xl, xr⟩ := x
  have hk : (⟨xe, xd, xl⟩ : Ke.K).ok := hx.k
  have hd : 0 ≤ xr ∧ xr < 18446744073709551616 := hx.dr
  have wfi : (Lit.int .i64 x2).wf = true := hx.2.1
  have key : ∀ (G' : List (List En)), Calls Try.prog 28 #[.pointer (some ⟨pb, 0, none⟩), .pointer (some ⟨rb, 0, none⟩), .agg #[.int .i64 x0, .int .i64 x1, .int .i64 x2, .bool xe, .int .u64 xd, .int .u8 xl, .int .u64 xr]] w (fun e w' => e = .returned (.bool true) ∧ BothP w' O D base pb rb n np q (T + 1) G' ∧ Fr (fun k => O k ∨ D k) w w') → Calls Try.prog 28 #[.pointer (some ⟨pb, 0, none⟩), .pointer (some ⟨rb, 0, none⟩), .agg #[.int .i64 x0, .int .i64 x1, .int .i64 x2, .bool xe, .int .u64 xd, .int .u8 xl, .int .u64 xr]] w (fun e w' => e = .returned (.bool true) ∧ (∃ G', BothP w' O D base pb rb n np q (T + 1) G') ∧ Fr (fun k => O k ∨ D k) w w') := by
    intro G' hc
    refine hc.mono ?_
    rintro e w' ⟨he, q1, hf⟩
    exact ⟨he, ⟨G', q1⟩, hf⟩
  by_cases h0 : x0 = 0
  · subst h0; exact key _ (do_put w O D base pb rb n np q T G h hT x1 x2 xr ⟨xe, xd, xl⟩ hk)
  by_cases h1 : x0 = 1
  · subst h1; exact key _ (do_change w O D base pb rb n np q T G h hT x1 x2 xr ⟨xe, xd, xl⟩ hk wfi)
  by_cases h2 : x0 = 2
  · subst h2; exact key _ (do_remove w O D base pb rb n np q T G h hT x1 x2 xr ⟨xe, xd, xl⟩ wfi)
  by_cases h3 : x0 = 3
  · subst h3; exact key _ (do_take w O D base pb rb n np q T G h x1 x2 xr ⟨xe, xd, xl⟩ hd)
  exact key _ (do_other w O D base pb rb n np q T G h x0 x1 x2 xr ⟨xe, xd, xl⟩ h0 h1 h2 h3)
/-- What play leaves: both, in blocks of their own. -/
def PlayedP (w : World) (np q : Nat) (e : Ending) (w' : World) : Prop :=
  ∃ (O D : Nat → Prop) (base pb rb T : Nat) (G : List (List En)), e = .returned (.tuple #[.pointer (some ⟨pb, 0, none⟩), .pointer (some ⟨rb, 0, none⟩), .bool true]) ∧ (∀ k, O k → w.heap.size ≤ k) ∧ (∀ k, D k → w.heap.size ≤ k) ∧ w.heap.size ≤ base ∧ T ≤ 80 ∧ BothP w' O D base pb rb 10 np q T G ∧ Below w.heap.size w w'
theorem rnew_rd (np n q : Nat) (w : World) (h1 : 1 ≤ np ∧ np ≤ 64) (h2 : 1 ≤ n ∧ n ≤ 1024) (h3 : 1 ≤ q ∧ q ≤ 256) :
    Calls Try.prog 36 #[.int .i64 np, .int .i64 n, .int .i64 q] w fun e w' => ∃ D, e = .returned (.pointer (some ⟨w.heap.size, 0, none⟩)) ∧ RD w' D w.heap.size w.heap.size n np q (List.replicate (np + 1) []) ∧ Below w.heap.size w w' := by
  refine (rnewD_ok np n q w h1.1 h1.2 h2.1 h2.2 h3.1 h3.2).mono ?_
  rintro e w1 ⟨v, X, rfl, hl, hM, hB⟩
  exact ⟨OwnD X, rfl, ⟨v, X, hB.isD h2 h1 h3 hl, ms_nil hl hM, fun _ => Iff.rfl⟩, hB.bel⟩
theorem rem4 (m : Nat) : Int.tmod (m : Int) 4 = ((m % 4 : Nat) : Int) := by
  rw [Int.tmod_eq_emod_of_nonneg (by omega)]
  omega
theorem div43 (m : Nat) : Int.tmod (Int.tdiv (m : Int) 4) 3 = ((m / 4 % 3 : Nat) : Int) := by
  rw [Int.tdiv_eq_ediv_of_nonneg (by omega), Int.tmod_eq_emod_of_nonneg (by omega)]
  omega
set_option maxHeartbeats 4000000 in
theorem play_ok (w : World) (m : Nat) (hm : m < 256) (a : Option Addr) (len cap : Nat) (hlen : len < 9223372036854775808) (L : Nat → Dp) (hd : Dps w a len L) :
    Calls Try.prog 14 #[.int .u8 m, .slice a len cap] w (PlayedP w (m % 4 + 1) (m / 4 % 3 + 1)) := by
  have hr := rem4 m
  have hq := div43 m
  have hq' : (m : Int) / 4 % 3 = ((m / 4 % 3 : Nat) : Int) := by omega
  have HN := veil (pnew_pq (m % 4 + 1) 10 (m / 4 % 3 + 1) w (by omega) (by omega) (by omega))
  have HR := veil (fun w' => rnew_rd (m % 4 + 1) 10 (m / 4 % 3 + 1) w' (by omega) (by omega) (by omega))
  have hN4 : m % 4 < 4 := Nat.mod_lt _ (by decide)
  have hQ3 : m / 4 % 3 < 3 := Nat.mod_lt _ (by decide)
  have HD := veil hd
  clear hd
  generalize m % 4 = N at *
  generalize m / 4 % 3 = Q at *
  have eN : ((N + 1 : Nat) : Int) = (N : Int) + 1 := by omega
  have eQ : ((Q + 1 : Nat) : Int) = (Q : Int) + 1 := by omega
  have e10 : ((10 : Nat) : Int) = 10 := rfl
  rw [eN, eQ, e10] at HN
  simp only [eN, eQ, e10] at HR
  clear eN eQ e10
  go_enter Try.func14, Try.ntmps14
  go_wp2_with (first
    | (go_at_call 31; refine (HN.out).mono ?_; rintro e w1 ⟨O, rfl, hq1, ho, hb'⟩; have HQ := veil hq1; have HB := veil hb'; have HO := veil ho; clear hq1 hb' ho)
    | (go_at_call 36; refine (HR.out _).mono ?_; rintro e w2 ⟨D, rfl, hr1, hb1⟩; have HR1 := veil hr1; have HB1 := veil hb1; clear hr1 hb1))
  have HB2 : Hid (BothP w2 O D w1.heap.size (w.heap.size + 1) w1.heap.size 10 (N + 1) (Q + 1) 0 (List.replicate (N + 1 + 1) [])) := ⟨HQ.out.below HB1.out, HR1.out, HQ.out.blocks⟩
  have HL : Hid (Below w.heap.size w w2) := HB.out.trans (HB1.out.mono HB.out.size)
  have h12 : w.heap.size ≤ w1.heap.size := HB.out.size
  have HDG : Hid (∀ k, D k → w.heap.size ≤ k) := fun k hk => by have := HR1.out.ge k hk; omega
  clear HQ HR1 HB HB1 HN HR
  go_loopw [9] (fun i wr => ∃ (j : Nat) (G : List (List En)), j ≤ len ∧ j ≤ 80 ∧ i = .int .i64 j ∧ BothP wr O D w1.heap.size (w.heap.size + 1) w1.heap.size 10 (N + 1) (Q + 1) j G ∧ Below w.heap.size w wr) (fun i _ => len - (intOf i).toNat)
  case atStart => exact ⟨0, _, by omega, by omega, rfl, HB2.out, HL.out⟩
  case round =>
    obtain ⟨j, G, hj, hj1, rfl, hB, hbel⟩ := hrel
    by_cases hjl : j < len
    · have hjl' : (j : Int) < (len : Int) := by omega
      by_cases hj2 : j < 80
      · rcases HD.out with h0 | ⟨lb, off, rfl, hlb, hc⟩
        · omega
        · obtain ⟨hok, z2, z3, z4, z5, z6, z7, z8⟩ := hc j hjl
          have y2 := (hbel.cell (p := ⟨lb, off + j * 7, none⟩) hlb).trans z2
          have y3 := (hbel.cell (p := ⟨lb, off + j * 7 + 1, none⟩) hlb).trans z3
          have y4 := (hbel.cell (p := ⟨lb, off + j * 7 + 2, none⟩) hlb).trans z4
          have y5 := (hbel.cell (p := ⟨lb, off + j * 7 + 3, none⟩) hlb).trans z5
          have y6 := (hbel.cell (p := ⟨lb, off + j * 7 + 4, none⟩) hlb).trans z6
          have y7 := (hbel.cell (p := ⟨lb, off + j * 7 + 5, none⟩) hlb).trans z7
          have y8 := (hbel.cell (p := ⟨lb, off + j * 7 + 6, none⟩) hlb).trans z8
          have HDO := veil (do_ok wr O D _ _ _ _ _ _ j G hB (by omega) (L j) hok)
          have HS : Hid (∀ w'', Fr (fun k => O k ∨ D k) wr w'' → Below w.heap.size w w'') := fun w'' hf => hbel.trans (hf.below hbel.size (by rintro k (q | q); exact HO.out k q; exact HDG.out k q))
          clear hc z2 z3 z4 z5 z6 z7 z8 hB hbel
          go_wp2_with (go_at_call 28; refine (HDO.out).mono ?_; rintro e w3 ⟨rfl, hb3, hf3⟩; have HB3 := veil hb3; have HF3 := veil (HS.out _ hf3); clear hb3 hf3)
          go_roundw
          case rel =>
            obtain ⟨G', hb'⟩ := HB3.out
            exact ⟨j + 1, G', by omega, by omega, by go_num, hb', HF3.out⟩
          case measure => simp [intOf]; omega
      · have HB4 := veil hB
        have HL4 := veil hbel
        clear hB hbel
        go_wp2
        go_ret3
        exact ⟨O, D, _, _, _, j, G, rfl, HO.out, HDG.out, h12, by omega, HB4.out, HL4.out⟩
    · have HB4 := veil hB
      have HL4 := veil hbel
      have hjl' : ¬ (j : Int) < (len : Int) := by omega
      clear hB hbel
      go_wp2
      go_ret3
      exact ⟨O, D, _, _, _, j, G, rfl, HO.out, HDG.out, h12, by omega, HB4.out, HL4.out⟩
end Go.Proofs.Ytlfejgjhamcahaa

namespace Go.Proofs.Ytlfejgjhamcahaa
open Go.RowKit Go.Lib
set_option linter.unusedVariables false
attribute [local go_sem ↓] Go.wp_at_zero Go.wp_at_succ

/-- Boxes that lie, each with its cells. -/
def Bs (w : World) (l : List (Nat × Array Value × TypeId)) : Prop := ∀ x ∈ l, w.heap[x.1]? = some (.cells x.2.1 x.2.2 (0, 0))
section
variable {w w' : World} {l : List (Nat × Array Value × TypeId)}
theorem Bs.nil (w : World) : Bs w [] := fun x hx => (by cases hx)
theorem Bs.below (h : Bs w l) (hb : Below w.heap.size w w') : Bs w' l := fun x hx => (hb.block _ (Array.getElem?_eq_some_iff.1 (h x hx)).1).trans (h x hx)
theorem Bs.fr {S : Nat → Prop} (h : Bs w l) (hf : Fr S w w') (hn : ∀ x ∈ l, ¬ S x.1) : Bs w' l := fun x hx => (hf.block _ (Array.getElem?_eq_some_iff.1 (h x hx)).1 (hn x hx)).trans (h x hx)
theorem Bs.push (h : Bs w l) (cs : Array Value) (t : TypeId) : Bs (w.alloc (.cells cs t)) ((w.heap.size, cs, t) :: l) := fun x hx => by
  rcases List.mem_cons.1 hx with rfl | hx
  · exact World.alloc_heap_new w _
  · exact (Below.heap_alloc _ _ _ (Array.getElem?_eq_some_iff.1 (h x hx)).1).trans (h x hx)
theorem Bs.cell (h : Bs w l) {b : Nat} {cs : Array Value} {t : TypeId} (hm : (b, cs, t) ∈ l) (j : Nat) : w.cell? ⟨b, j, none⟩ = cs[j]? := (blk_cell (h _ hm) j).1
theorem Bs.lt (h : Bs w l) {b : Nat} {cs : Array Value} {t : TypeId} (hm : (b, cs, t) ∈ l) : b < w.heap.size := (Array.getElem?_eq_some_iff.1 (h _ hm)).1
end
theorem PQ.lst_le {w : World} {O : Nat → Prop} {pb n np q T : Nat} {G : List (List En)} (h : PQ w O pb n np q T G) (i : Int) : (lst (gh G) i).length ≤ 1024 := by
  unfold lst
  split
  · rename_i hi
    rw [idE_len, MM_ms, Ms_gh]
    cases hM : G[i.toNat]? with
    | none => simp
    | some M =>
      have h1 := (h.at hM).2.2.1
      have h2 := h.n1
      have : moP np n q i.toNat ≤ n := by unfold moP; split <;> omega
      show M.length ≤ 1024
      omega
  · simp
set_option maxHeartbeats 8000000 in
set_option maxRecDepth 20000 in
theorem same_ok (w : World) (O D : Nat → Prop) (base pb rb n np q T : Nat) (G : List (List En)) (h : BothP w O D base pb rb n np q T G) (x : Dp) (hx : x.ok) :
    Calls Try.prog 16 #[.pointer (some ⟨pb, 0, none⟩), .pointer (some ⟨rb, 0, none⟩), .agg #[.int .i64 x.k, .int .i64 x.p, .int .i64 x.i, .bool x.e, .int .u64 x.d, .int .u8 x.l, .int .u64 x.r]] w fun e w' => e = .returned (.bool true) ∧ Below w.heap.size w w' := by
  have hd := hx.dr
  have wfi : (Lit.int .i64 x.i).wf = true := hx.2.1
  have hlst := h.pq.lst_le
  have HLL := veil hlst
  have hA : Below w.heap.size w (w.alloc (.cells #[.int .i64 x.k, .int .i64 x.p, .int .i64 x.i, .bool x.e, .int .u64 x.d, .int .u8 x.l, .int .u64 x.r] 27)) := (Below.refl _ _).alloc (Nat.le_refl _) _
  have HA := veil hA
  have HB0 := veil (h.below hA)
  have HX0 : Hid (Bs (w.alloc (.cells #[.int .i64 x.k, .int .i64 x.p, .int .i64 x.i, .bool x.e, .int .u64 x.d, .int .u8 x.l, .int .u64 x.r] 27)) [(w.heap.size, #[.int .i64 x.k, .int .i64 x.p, .int .i64 x.i, .bool x.e, .int .u64 x.d, .int .u8 x.l, .int .u64 x.r], 27)]) := (Bs.nil w).push _ _
  obtain ⟨o, ho⟩ : ∃ o, bb np (gh G) x.p x.r = o := ⟨_, rfl⟩
  obtain ⟨ti, hti⟩ : ∃ ti, bI (gh G) o = ti := ⟨_, rfl⟩
  obtain ⟨kk, hkk⟩ : ∃ kk, bK (gh G) o = kk := ⟨_, rfl⟩
  obtain ⟨ta, hta⟩ : ∃ ta, bA o = ta := ⟨_, rfl⟩
  obtain ⟨ob, hob⟩ : ∃ ob, o.isSome = ob := ⟨_, rfl⟩
  have HP : Hid (∀ W, PQ W O pb n np q T G → Calls Try.prog 17 #[.pointer (some ⟨pb, 0, none⟩), .int .i64 x.p, .int .u64 x.r] W fun e w1 => e = .returned (.tuple #[.int .i64 ti, .agg #[.bool kk.e, .int .u64 kk.d, .int .u8 kk.l], .int .i64 ta, .bool ob]) ∧ Below W.heap.size W w1) := fun W hW => by
    have := hW.best x.p x.r hd
    rw [ho, hti, hkk, hta, hob] at this
    exact this
  have HR : Hid (∀ W, RD W D base rb n np q G → Calls Try.prog 37 #[.pointer (some ⟨rb, 0, none⟩), .int .i64 x.p, .int .u64 x.r] W fun e w1 => e = .returned (.tuple #[.int .i64 ti, .agg #[.bool kk.e, .int .u64 kk.d, .int .u8 kk.l], .int .i64 ta, .bool ob]) ∧ Below W.heap.size W w1) := fun W hW => by
    have := hW.best x.p x.r hd
    rw [ho, hti, hkk, hta, hob] at this
    exact this
  obtain ⟨wa, hwa⟩ : ∃ wa, (whereF n (gh G) 0 x.i).getD 0 = wa := ⟨_, rfl⟩
  obtain ⟨wo, hwo⟩ : ∃ wo, (whereF n (gh G) 0 x.i).isSome = wo := ⟨_, rfl⟩
  have HPW : Hid (∀ W, PQ W O pb n np q T G → Calls Try.prog 23 #[.pointer (some ⟨pb, 0, none⟩), .int .i64 x.i] W fun e w1 => e = .returned (.tuple #[.int .i64 wa, .bool wo]) ∧ w1 = W) := fun W hW => by
    have := hW.where x.i wfi
    rw [hwa, hwo] at this
    exact this
  have HRW : Hid (∀ W, RD W D base rb n np q G → Calls Try.prog 38 #[.pointer (some ⟨rb, 0, none⟩), .int .i64 x.i] W fun e w1 => e = .returned (.tuple #[.int .i64 wa, .bool wo]) ∧ Below W.heap.size W w1) := fun W hW => by
    have := hW.where x.i
    rw [hwa, hwo] at this
    exact this
  have c1 := HX0.out.cell (b := w.heap.size) (cs := #[.int .i64 x.k, .int .i64 x.p, .int .i64 x.i, .bool x.e, .int .u64 x.d, .int .u8 x.l, .int .u64 x.r]) (t := 27) (by simp) 1
  have c6 := HX0.out.cell (b := w.heap.size) (cs := #[.int .i64 x.k, .int .i64 x.p, .int .i64 x.i, .bool x.e, .int .u64 x.d, .int .u8 x.l, .int .u64 x.r]) (t := 27) (by simp) 6
  simp only [List.getElem?_toArray, List.getElem?_cons_zero, List.getElem?_cons_succ] at c1 c6
  have hs1 : Ke.same kk kk = true := by rw [Ke.same_eq]; exact decide_eq_true rfl
  have HCX : Hid (∀ (W : World) l, Bs W l → (w.heap.size, #[.int .i64 x.k, .int .i64 x.p, .int .i64 x.i, .bool x.e, .int .u64 x.d, .int .u8 x.l, .int .u64 x.r], 27) ∈ l → W.cell? ⟨w.heap.size, 1, none⟩ = some (.int .i64 x.p) ∧ W.cell? ⟨w.heap.size, 2, none⟩ = some (.int .i64 x.i) ∧ W.cell? ⟨w.heap.size, 6, none⟩ = some (.int .u64 x.r)) := fun W l hl hm => ⟨hl.cell (cs := #[.int .i64 x.k, .int .i64 x.p, .int .i64 x.i, .bool x.e, .int .u64 x.d, .int .u8 x.l, .int .u64 x.r]) (t := 27) hm 1, hl.cell (cs := #[.int .i64 x.k, .int .i64 x.p, .int .i64 x.i, .bool x.e, .int .u64 x.d, .int .u8 x.l, .int .u64 x.r]) (t := 27) hm 2, hl.cell (cs := #[.int .i64 x.k, .int .i64 x.p, .int .i64 x.i, .bool x.e, .int .u64 x.d, .int .u8 x.l, .int .u64 x.r]) (t := 27) hm 6⟩
  clear h hA ho hti hkk hta hob hwa hwo hlst
  go_enter Try.func16, Try.ntmps16
  go_wp2_with (first
    | (go_at_call 17; refine (HP.out _ HB0.out.pq).mono ?_; rintro e w1 ⟨rfl, hb⟩; have HB1 := veil ((HB0.out.below hb).below ((Below.refl _ _).alloc (Nat.le_refl _) (.cells #[.bool kk.e, .int .u64 kk.d, .int .u8 kk.l] 25))); have HX1 := veil ((HX0.out.below hb).push #[.bool kk.e, .int .u64 kk.d, .int .u8 kk.l] 25); have HL1 := veil (HA.out.trans ((hb.alloc hb.size (.cells #[.bool kk.e, .int .u64 kk.d, .int .u8 kk.l] 25)).mono HA.out.size)); obtain ⟨c11, _, c16⟩ := HCX.out _ _ HX1.out (by simp); clear hb)
    | (go_at_call 37; refine (HR.out _ HB1.out.rd).mono ?_; rintro e w2 ⟨rfl, hb⟩; have HB2 := veil ((HB1.out.below hb).below ((Below.refl _ _).alloc (Nat.le_refl _) (.cells #[.bool kk.e, .int .u64 kk.d, .int .u8 kk.l] 25))); have HX2 := veil ((HX1.out.below hb).push #[.bool kk.e, .int .u64 kk.d, .int .u8 kk.l] 25); have HL2 := veil (HL1.out.trans ((hb.alloc hb.size (.cells #[.bool kk.e, .int .u64 kk.d, .int .u8 kk.l] 25)).mono HL1.out.size)); obtain ⟨_, c22, _⟩ := HCX.out _ _ HX2.out (by simp); clear hb)
    | (go_at_call 23; refine (HPW.out _ HB2.out.pq).mono ?_; rintro e w4 ⟨rfl, hw⟩; replace hw := hw.symm; subst hw)
    | (go_at_call 38; refine (HRW.out _ HB2.out.rd).mono ?_; rintro e w3 ⟨rfl, hb⟩; have HB3 := veil (HB2.out.below hb); have HX3 := veil (HX2.out.below hb); have HL3 := veil (HL2.out.trans (hb.mono HL2.out.size)); clear hb))
  clear HP HR HPW HRW HB0 HB1 HB2 HX0 HX1 HX2 HL1 HL2 HA c1 c6 c11 c16 c22
  go_loopw [19] (fun i wr => ∃ (m : Nat), m ≤ 7 ∧ i = .int .i64 ((m : Int) - 1) ∧ Below w3.heap.size w3 wr) (fun i _ => (6 - intOf i).toNat)
  case atStart => exact ⟨0, by omega, rfl, Below.refl _ _⟩
  case round =>
    obtain ⟨m, hm, rfl, hbel⟩ := hrel
    have HBq := veil (HB3.out.below hbel)
    have HLq := veil (HL3.out.trans (hbel.mono HL3.out.size))
    have HXq := veil (HX3.out.below hbel)
    have HBE := veil hbel
    clear hbel
    by_cases hml : m < 7
    · have hml' : (m : Int) - 1 < 6 := by omega
      have HL := veil (HLL.out ((m : Int) - 1))
      obtain ⟨l, hl⟩ : ∃ l, lst (gh G) ((m : Int) - 1) = l := ⟨_, rfl⟩
      have HPL := veil (HBq.out.pq.list ((m : Int) - 1))
      have HRL := veil (fun W (hW : Below wr.heap.size wr W) => (HBq.out.below hW).rd.list ((m : Int) - 1))
      rw [hl] at HL HPL
      simp only [hl] at HRL
      obtain ⟨z, hz⟩ : ∃ z, (m : Int) - 1 = z := ⟨_, rfl⟩
      have hz1 : z ≤ 5 := by omega
      have hz0 : -1 ≤ z := by omega
      have HZ : Hid (z + 1 = ((m + 1 : Nat) : Int) - 1) := by unfold Hid; omega
      rw [hz] at HPL HRL hml' ⊢
      have hll := HL.out
      clear hl hz
      go_wp2_with (first
        | (go_at_call 19; refine (HPL.out).mono ?_; rintro e w4 ⟨v4, rfl, hil, hb⟩; have HI4 := veil hil; have HB4 := veil hb; clear hb hil)
        | (go_at_call 40; refine (HRL.out _ HB4.out).mono ?_; rintro e w5 ⟨v5, rfl, hil, hb⟩; have HI5 := veil hil; have HI4' := veil (HI4.out.below hb); have HB5 := veil (HB4.out.trans (hb.mono HB4.out.size)); clear hb hil)
        | (go_at_call 39; refine (Dc.same_yes _ _ _ _ _ l hll HI4'.out HI5.out).mono ?_; rintro e w6 ⟨rfl, qq, hw⟩; have HB6 := veil (show Below wr.heap.size wr w6 by rw [hw]; exact below_drewN HB5.out _); clear hw))
      go_roundw
      case rel => exact ⟨m + 1, by omega, by rw [← HZ.out], HBE.out.trans (HB6.out.mono HBE.out.size)⟩
      case measure => simp [intOf]; omega
    · obtain rfl : m = 7 := by omega
      have HPN := veil (HBq.out.pq.length)
      have HRN := veil (HBq.out.rd.length)
      have b1 := HXq.out.cell (b := w1.heap.size) (cs := #[.bool kk.e, .int .u64 kk.d, .int .u8 kk.l]) (t := 25) (by simp)
      have b2 := HXq.out.cell (b := w2.heap.size) (cs := #[.bool kk.e, .int .u64 kk.d, .int .u8 kk.l]) (t := 25) (by simp)
      have p0 := b1 0
      have p1 := b1 1
      have p2 := b1 2
      have p3 := b2 0
      have p4 := b2 1
      have p5 := b2 2
      simp only [List.getElem?_toArray, List.getElem?_cons_zero, List.getElem?_cons_succ] at p0 p1 p2 p3 p4 p5
      clear b1 b2
      go_wp2_with (first
        | (go_at_call 24; refine (HPN.out).mono ?_; rintro e w4 ⟨rfl, hw⟩; replace hw := hw.symm; subst hw)
        | (go_at_call 18; refine (HRN.out).mono ?_; rintro e w4 ⟨rfl, hw⟩; replace hw := hw.symm; subst hw))
      go_ret
      exact ⟨by simp, HLq.out⟩
end Go.Proofs.Ytlfejgjhamcahaa
