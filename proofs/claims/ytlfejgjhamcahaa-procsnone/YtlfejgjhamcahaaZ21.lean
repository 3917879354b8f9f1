/-
  What all processors' sets hold, with all else hidden; New; live.
-/
import Derived.Test.YtlfejgjhamcahaaZ20
namespace Go.Proofs.Ytlfejgjhamcahaa
open Go.RowKit Go.Lib
set_option linter.unusedVariables false
attribute [local go_sem ↓] Go.wp_at_zero Go.wp_at_succ

/-- Places that hold just these lists. -/
def gh (G : List (List En)) : List Hd := G.map (fun M => ⟨0, 0, 0, 0, 0, 0, M⟩)
theorem Ms_gh (G : List (List En)) : Ms (gh G) = G := by
  unfold Ms gh
  rw [List.map_map]
  exact List.map_id G
section
variable {H X : List Hd}
theorem pputC_eq (e : Ms H = Ms X) (np n : Nat) (p id : Int) (k : Ke.K) : pputC np n H p id k = pputC np n X p id k := by unfold pputC; rw [whereF_eq e]
theorem aPut_eq (e : Ms H = Ms X) (np n q p : Nat) : aPut np n q H p = aPut np n q X p := by unfold aPut; rw [MM_eq e]
theorem pputG_eq (e : Ms H = Ms X) (np n q : Nat) (p id : Int) (k : Ke.K) : pputG np n q H p id k = pputG np n q X p id k := by unfold pputG; rw [pputC_eq e, aPut_eq e, MM_eq e, e]
theorem pchgC_eq (e : Ms H = Ms X) (n : Nat) (id : Int) (k : Ke.K) : pchgC n H id k = pchgC n X id k := by unfold pchgC; rw [whereF_eq e]
theorem aOf_eq (e : Ms H = Ms X) (n : Nat) (id : Int) : aOf n H id = aOf n X id := by unfold aOf; rw [whereF_eq e]
theorem pchgG_eq (e : Ms H = Ms X) (n : Nat) (id : Int) (k : Ke.K) : pchgG n H id k = pchgG n X id k := by unfold pchgG; rw [pchgC_eq e, aOf_eq e, MM_eq e, e]
theorem premC_eq (e : Ms H = Ms X) (n : Nat) (id : Int) : premC n H id = premC n X id := by unfold premC; rw [whereF_eq e]
theorem premG_eq (e : Ms H = Ms X) (n : Nat) (id : Int) : premG n H id = premG n X id := by unfold premG; rw [premC_eq e, aOf_eq e, MM_eq e, e]
theorem bb_eq (e : Ms H = Ms X) (np : Nat) (p d : Int) : bb np H p d = bb np X p d := by unfold bb; rw [bst_eq e]
theorem ptkG_eq (e : Ms H = Ms X) (np : Nat) (p d : Int) : ptkG np H p d = ptkG np X p d := by unfold ptkG; rw [bb_eq e, MM_eq e, e]
theorem lst_eq (e : Ms H = Ms X) (i : Int) : lst H i = lst X i := by unfold lst; rw [len_eq e, MM_eq e]
end
/-- All processors' sets at pb, in the blocks O, hold G. -/
def PQ (w : World) (O : Nat → Prop) (pb n np q T : Nat) (G : List (List En)) : Prop :=
  ∃ (base lo mb : Nat) (v : Value) (H : List Hd), IsQ w base lo pb mb n np q v T H ∧ Ms H = G ∧ ∀ k, OwnP pb mb v H k ↔ O k
section
variable {w w' : World} {O : Nat → Prop} {pb n np q T : Nat} {G G' : List (List En)}
theorem PQ.below (h : PQ w O pb n np q T G) (hb : Below w.heap.size w w') : PQ w' O pb n np q T G := by
  obtain ⟨base, lo, mb, v, H, hQ, hG, hO⟩ := h
  exact ⟨base, lo, mb, v, H, hQ.below hb, hG, hO⟩
theorem PQ.frame {S : Nat → Prop} (h : PQ w O pb n np q T G) (hf : Fr S w w') (hn : ∀ k, O k → ¬ S k) : PQ w' O pb n np q T G := by
  obtain ⟨base, lo, mb, v, H, hQ, hG, hO⟩ := h
  exact ⟨base, lo, mb, v, H, hQ.frame hf (fun k hk => hn k ((hO k).1 hk)), hG, hO⟩
theorem PQ.more (h : PQ w O pb n np q T G) {T' : Nat} (ht : T ≤ T') : PQ w O pb n np q T' G := by
  obtain ⟨base, lo, mb, v, H, hQ, hG, hO⟩ := h
  exact ⟨base, lo, mb, v, H, hQ.more ht, hG, hO⟩
theorem PQ.blocks (h : PQ w O pb n np q T G) : ∀ k, O k → k < w.heap.size := by
  obtain ⟨base, lo, mb, v, H, hQ, hG, hO⟩ := h
  exact fun k hk => hQ.p.blocks k ((hO k).2 hk)
theorem PQ.len (h : PQ w O pb n np q T G) : G.length = np + 1 := by
  obtain ⟨base, lo, mb, v, H, hQ, hG, hO⟩ := h
  rw [← hG, Ms_len]; exact hQ.p.len
theorem PQ.un (h : PQ w O pb n np q T G) : Un (gh G) := by
  obtain ⟨base, lo, mb, v, H, hQ, hG, hO⟩ := h
  exact Un_eq (by rw [hG, Ms_gh]) hQ.un
theorem PQ.np1 (h : PQ w O pb n np q T G) : 1 ≤ np ∧ np ≤ 64 := by
  obtain ⟨base, lo, mb, v, H, hQ, hG, hO⟩ := h
  exact hQ.p.np1
theorem PQ.n1 (h : PQ w O pb n np q T G) : 1 ≤ n ∧ n ≤ 1024 := by
  obtain ⟨base, lo, mb, v, H, hQ, hG, hO⟩ := h
  exact hQ.p.n1
theorem PQ.at {i : Nat} {M : List En} (h : PQ w O pb n np q T G) (hi : G[i]? = some M) : (M.map (·.1)).Nodup ∧ (∀ y ∈ M, y.1 < n) ∧ M.length ≤ moP np n q i ∧ ∀ y ∈ M, Ke.rightK y.2 = true := by
  obtain ⟨base, lo, mb, v, H, hQ, hG, hO⟩ := h
  rw [← hG] at hi
  simp only [Ms, List.getElem?_map] at hi
  cases hx : H[i]? with
  | none => rw [hx] at hi; cases hi
  | some x =>
    rw [hx] at hi
    injection hi with hi
    subst hi
    have hs := hQ.p.sets.it i x hx
    refine ⟨IsS.nd hs, ?_, IsS.fit hs, ?_⟩
    · obtain ⟨R, L, hS, hI⟩ := id_S hs
      exact hI.rng hS
    · obtain ⟨R, L, hS, hI⟩ := id_S hs
      intro y hy
      have hy' : y ∈ x.M := hy
      rw [← hI.eq] at hy'
      rcases mem_all.1 hy' with ⟨d, s, _, h2⟩ | ⟨lv, _, _, h2⟩
      · rw [h2]; rfl
      · rw [h2]; rfl
theorem Leaves.pq {base lo mb : Nat} {v : Value} {H : List Hd} (hO : ∀ k, OwnP pb mb v H k ↔ O k) (h : Leaves w w' base lo pb mb n np q v T H G) : PQ w' O pb n np q (T + 1) G ∧ Fr O w w' := by
  obtain ⟨⟨H', hQ, hG, hO'⟩, hf⟩ := h
  exact ⟨⟨base, lo, mb, v, H', hQ, hG, fun k => (hO' k).trans (hO k)⟩, hf.wide (fun k _ q => (hO k).1 q)⟩
theorem PQ.put (h : PQ w O pb n np q T G) (hT : T ≤ 1000) (p id : Int) (k : Ke.K) (hk : k.ok) :
    Calls Try.prog 26 #[.pointer (some ⟨pb, 0, none⟩), .int .i64 p, .int .i64 id, .agg #[.bool k.e, .int .u64 k.d, .int .u8 k.l]] w fun e w' => e = .returned (.int .i64 (pputC np n (gh G) p id k)) ∧ PQ w' O pb n np q (T + 1) (pputG np n q (gh G) p id k) ∧ Fr O w w' := by
  obtain ⟨base, lo, mb, v, H, hQ, rfl, hO⟩ := h
  have e : Ms (gh (Ms H)) = Ms H := Ms_gh _
  rw [pputC_eq e, pputG_eq e]
  exact (pput_all hQ hT p id k hk).mono (fun e w' h => ⟨h.1, h.2.pq hO⟩)
theorem PQ.change (h : PQ w O pb n np q T G) (hT : T ≤ 1000) (id : Int) (wfi : (Lit.int .i64 id).wf = true) (k : Ke.K) (hk : k.ok) :
    Calls Try.prog 29 #[.pointer (some ⟨pb, 0, none⟩), .int .i64 id, .agg #[.bool k.e, .int .u64 k.d, .int .u8 k.l]] w fun e w' => e = .returned (.int .i64 (pchgC n (gh G) id k)) ∧ PQ w' O pb n np q (T + 1) (pchgG n (gh G) id k) ∧ Fr O w w' := by
  obtain ⟨base, lo, mb, v, H, hQ, rfl, hO⟩ := h
  have e : Ms (gh (Ms H)) = Ms H := Ms_gh _
  rw [pchgC_eq e, pchgG_eq e]
  exact (pchange_all hQ hT id wfi k hk).mono (fun e w' h => ⟨h.1, h.2.pq hO⟩)
theorem PQ.remove (h : PQ w O pb n np q T G) (id : Int) (wfi : (Lit.int .i64 id).wf = true) :
    Calls Try.prog 30 #[.pointer (some ⟨pb, 0, none⟩), .int .i64 id] w fun e w' => e = .returned (.int .i64 (premC n (gh G) id)) ∧ PQ w' O pb n np q (T + 1) (premG n (gh G) id) ∧ Fr O w w' := by
  obtain ⟨base, lo, mb, v, H, hQ, rfl, hO⟩ := h
  have e : Ms (gh (Ms H)) = Ms H := Ms_gh _
  rw [premC_eq e, premG_eq e]
  exact (premove_all hQ id wfi).mono (fun e w' h => ⟨h.1, h.2.pq hO⟩)
theorem PQ.best (h : PQ w O pb n np q T G) (p d : Int) (hd : 0 ≤ d ∧ d < 18446744073709551616) :
    Calls Try.prog 17 #[.pointer (some ⟨pb, 0, none⟩), .int .i64 p, .int .u64 d] w fun e w' => e = .returned (.tuple #[.int .i64 (bI (gh G) (bb np (gh G) p d)), .agg #[.bool (bK (gh G) (bb np (gh G) p d)).e, .int .u64 (bK (gh G) (bb np (gh G) p d)).d, .int .u8 (bK (gh G) (bb np (gh G) p d)).l], .int .i64 (bA (bb np (gh G) p d)), .bool (bb np (gh G) p d).isSome]) ∧ Below w.heap.size w w' := by
  obtain ⟨base, lo, mb, v, H, hQ, rfl, hO⟩ := h
  have e : Ms (gh (Ms H)) = Ms H := Ms_gh _
  rw [bb_eq e, bI_eq e, bK_eq e]
  exact pbest_all hQ p d hd
theorem PQ.take (h : PQ w O pb n np q T G) (p d : Int) (hd : 0 ≤ d ∧ d < 18446744073709551616) :
    Calls Try.prog 25 #[.pointer (some ⟨pb, 0, none⟩), .int .i64 p, .int .u64 d] w fun e w' => e = .returned (.tuple #[.int .i64 (bI (gh G) (bb np (gh G) p d)), .agg #[.bool (bK (gh G) (bb np (gh G) p d)).e, .int .u64 (bK (gh G) (bb np (gh G) p d)).d, .int .u8 (bK (gh G) (bb np (gh G) p d)).l], .int .i64 (bA (bb np (gh G) p d)), .bool (bb np (gh G) p d).isSome]) ∧ PQ w' O pb n np q (T + 1) (ptkG np (gh G) p d) ∧ Fr O w w' := by
  obtain ⟨base, lo, mb, v, H, hQ, rfl, hO⟩ := h
  have e : Ms (gh (Ms H)) = Ms H := Ms_gh _
  rw [bb_eq e, bI_eq e, bK_eq e, ptkG_eq e]
  exact (ptake_all hQ p d hd).mono (fun e w' h => ⟨h.1, h.2.pq hO⟩)
theorem PQ.where (h : PQ w O pb n np q T G) (id : Int) (hi : (Lit.int .i64 id).wf = true) :
    Calls Try.prog 23 #[.pointer (some ⟨pb, 0, none⟩), .int .i64 id] w fun e w' => e = .returned (.tuple #[.int .i64 ((whereF n (gh G) 0 id).getD 0), .bool (whereF n (gh G) 0 id).isSome]) ∧ w' = w := by
  obtain ⟨base, lo, mb, v, H, hQ, rfl, hO⟩ := h
  have e : Ms (gh (Ms H)) = Ms H := Ms_gh _
  rw [whereF_eq e]
  exact pwhere_ok hQ.p id hi
theorem PQ.list (h : PQ w O pb n np q T G) (i : Int) :
    Calls Try.prog 19 #[.pointer (some ⟨pb, 0, none⟩), .int .i64 i] w fun e w' => ∃ v', e = .returned v' ∧ Dc.IL w' w.heap.size v' (lst (gh G) i) ∧ Below w.heap.size w w' := by
  obtain ⟨base, lo, mb, v, H, hQ, rfl, hO⟩ := h
  have e : Ms (gh (Ms H)) = Ms H := Ms_gh _
  rw [lst_eq e]
  exact plist_ok hQ i
theorem PQ.length (h : PQ w O pb n np q T G) :
    Calls Try.prog 24 #[.pointer (some ⟨pb, 0, none⟩)] w fun e w' => e = .returned (.int .i64 (sumH (gh G) : Int)) ∧ w' = w := by
  obtain ⟨base, lo, mb, v, H, hQ, rfl, hO⟩ := h
  have e : Ms (gh (Ms H)) = Ms H := Ms_gh _
  rw [sumH_eq e]
  exact plen_ok hQ.p
end
/-- New of right numbers. -/
theorem pnew_pq (np n q : Nat) (w : World) (h1 : 1 ≤ np ∧ np ≤ 64) (h2 : 1 ≤ n ∧ n ≤ 1024) (h3 : 1 ≤ q ∧ q ≤ 256) :
    Calls Try.prog 31 #[.int .i64 np, .int .i64 n, .int .i64 q] w fun e w' => ∃ O, e = .returned (.pointer (some ⟨w.heap.size + 1, 0, none⟩)) ∧ PQ w' O (w.heap.size + 1) n np q 0 (List.replicate (np + 1) []) ∧ (∀ k, O k → w.heap.size ≤ k) ∧ Below w.heap.size w w' := by
  refine (pnew_ok np n q w h1.1 h1.2 h2.1 h2.2 h3.1 h3.2).mono ?_
  rintro e w1 ⟨v, H, rfl, hl, hB⟩
  have hQ := hB.isQ hl h2 h1 h3
  refine ⟨OwnP (w.heap.size + 1) w.heap.size v H, rfl, ⟨_, _, _, v, H, hQ, ?_, fun _ => Iff.rfl⟩, ?_, hB.bel⟩
  · apply List.ext_getElem?
    intro i
    rw [List.getElem?_replicate]
    unfold Ms
    rw [List.getElem?_map]
    split
    · rename_i hi
      have hx : H[i]? = some (H[i]'(by omega)) := List.getElem?_eq_getElem _
      rw [hx]
      exact congrArg some (hB.fresh i _ hx).1
    · rename_i hi
      rw [List.getElem?_eq_none (by omega)]
      rfl
  · rintro k (e | e | e | ⟨i, x, hx, hk⟩)
    · omega
    · omega
    · have := (Dc.own_ge hB.row k e).1; omega
    · have := hB.sets.low i x hx k hk; omega
theorem pnew_no (a b c : Int) (w : World) (h : ¬ (1 ≤ a ∧ a ≤ 64 ∧ 1 ≤ b ∧ b ≤ 1024 ∧ 1 ≤ c ∧ c ≤ 256)) :
    Calls Try.prog 31 #[.int .i64 a, .int .i64 b, .int .i64 c] w fun e w' => e = .returned (.pointer none) ∧ w' = w := by
  have hmm := @run_makeMap Try.prog
  by_cases h1 : a < 1
  · go_enter Try.func31, Try.ntmps31
    go_wp2
    go_ret
    exact ⟨rfl, rfl⟩
  by_cases h2 : 64 < a
  · go_enter Try.func31, Try.ntmps31
    go_wp2
    go_ret
    exact ⟨rfl, rfl⟩
  by_cases h3 : b < 1
  · go_enter Try.func31, Try.ntmps31
    go_wp2
    go_ret
    exact ⟨rfl, rfl⟩
  by_cases h4 : 1024 < b
  · go_enter Try.func31, Try.ntmps31
    go_wp2
    go_ret
    exact ⟨rfl, rfl⟩
  by_cases h5 : c < 1
  · go_enter Try.func31, Try.ntmps31
    go_wp2
    go_ret
    exact ⟨rfl, rfl⟩
  have h6 : 256 < c := by omega
  go_enter Try.func31, Try.ntmps31
  go_wp2
  go_ret
  exact ⟨rfl, rfl⟩
end Go.Proofs.Ytlfejgjhamcahaa
