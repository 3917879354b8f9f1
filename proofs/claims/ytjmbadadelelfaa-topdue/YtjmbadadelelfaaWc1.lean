/- The document's wheel: how it lies in memory; New, place, out. -/
import Derived.Test.YtjmbadadelelfaaWb8
import Derived.Maps.AppendAt
import Derived.OneCell
namespace Go.Proofs.Ytjmbadadelelfaa
open Go.RowKit Go.Lib
set_option linter.unusedVariables false
set_option linter.unusedSimpArgs false
attribute [local go_sem ↓] Go.wp_at_zero Go.wp_at_succ
theorem wrap_succ (k : Nat) (h : k ≤ 1024) : IntKind.i64.wrap ((k : Int) + 1) = ((k + 1 : Nat) : Int) := by
  simp [IntKind.wrap, IntKind.bits, IntKind.signed]
  omega
/-- append onto what the call owns, at a step of a region that draws its order, whether or not something is appended. -/
theorem step_append_any {P : Program} (w : World) {ops : Array Oper} {o : Oper} {a : Act} {K : Act → World → Prop} {Q : Exit → Act → World → Prop} {E : Prop} (hgd : o.guard = none) (s x : Operand) (t : TypeId)
    (ho : o.op = .call { callee := .builtin .append, args := #[s, x], argTypes := #[t, t] })
    (base : Nat) (e : TypeId) (i : TypeInfo) (z : Value) (size bytes : Nat) (ht : P.underlying t = some (.slice e)) (hi : P.info? e = some i) (hz : i.zero = some z)
    (hsize : i.size = size) (hby : i.bytes = bytes) (hzs : z.cells.size = size) (hsz : 0 < size)
    (v : Value) (n : Nat) (xs : List Value) (hs : a.eval s = v) (hown : w.ownsRow base e size v n xs)
    (ad : Addr) (m c : Nat) (news : List Value) (hx : a.eval x = .slice (some ad) m c) (hl : news.length = m * size) (hnews : ∀ j u, news[j]? = some u → w.cell? (ad.add j) = some u) (h1 : ∀ u ∈ news, u.oneCell' = true)
    (h63 : n + m ≤ maxLen) (hbytes : (n + m) * bytes ≤ 140737488355328) (hbase : base ≤ w.heap.size)
    (h : ∀ v' w', w'.ownsRow base e size v' (n + m) (xs ++ news) → w.grownBy w' v.ownBlock → K (a.put o.dst v') w') :
    if Region.wanted o (yielded ops a.tmps) = true then Oper.wp P o a w K Q else E := by
  have hw : Region.wanted o (yielded ops a.tmps) = true := by simp [Region.wanted, hgd]
  rw [if_pos hw]
  exact wp_append_own w s x t ho base e i z size bytes ht hi hz hsize hby hzs hsz v n xs hs hown ad m c news hx hl hnews h1 h63 hbytes hbase fun v' w' h2 h3 _ => h v' w' h2 h3

/-- append of nothing at all, at a step of a region that draws its order. -/
theorem step_append_nil {P : Program} (w : World) {ops : Array Oper} {o : Oper} {a : Act} {K : Act → World → Prop} {Q : Exit → Act → World → Prop} {E : Prop} (hgd : o.guard = none) (s x : Operand) (t : TypeId)
    (ho : o.op = .call { callee := .builtin .append, args := #[s, x], argTypes := #[t, t] })
    (base : Nat) (e : TypeId) (i : TypeInfo) (size : Nat) (ht : P.underlying t = some (.slice e)) (hi : P.info? e = some i)
    (v : Value) (n : Nat) (xs : List Value) (hs : a.eval s = v) (hown : w.ownsRow base e size v n xs) (hx : a.eval x = .slice none 0 0)
    (h : K (a.put o.dst v) w) :
    if Region.wanted o (yielded ops a.tmps) = true then Oper.wp P o a w K Q else E := by
  have hw : Region.wanted o (yielded ops a.tmps) = true := by simp [Region.wanted, hgd]
  rw [if_pos hw]
  have hr := run_append_owned_none (P := P) w base t o.type e i size ht hi v n xs hown
  unfold Oper.wp execOp
  simp only [ho, resolve, invoke, builtin, Sem.run_bind, Sem.run_pure, Result.andThen_ok, List.map_toArray, List.map_cons, List.map_nil, hs, hx, hr]
  exact h

def itemCells (R : List It) : List Value := R.flatMap (fun it => [Value.int .i64 (it.i : Int), .int .u64 (it.t : Int)])
theorem itemCells_cons (it : It) (R : List It) : itemCells (it :: R) = .int .i64 (it.i : Int) :: .int .u64 (it.t : Int) :: itemCells R := rfl
theorem itemCells_append (R1 R2 : List It) : itemCells (R1 ++ R2) = itemCells R1 ++ itemCells R2 := by unfold itemCells; rw [List.flatMap_append]
theorem itemCells_length : ∀ R, (itemCells R).length = R.length * 2
  | [] => rfl
  | it :: R => by rw [itemCells_cons]; simp [itemCells_length R]; omega
theorem itemCells_at : ∀ (R : List It) (i : Nat) (it : It), R[i]? = some it → (itemCells R)[i * 2]? = some (.int .i64 (it.i : Int)) ∧ (itemCells R)[i * 2 + 1]? = some (.int .u64 (it.t : Int))
  | [], i, it, h => by simp at h
  | x :: R, 0, it, h => by
    simp at h
    subst h
    exact ⟨rfl, rfl⟩
  | x :: R, i + 1, it, h => by
    have := itemCells_at R i it (by simpa using h)
    rw [itemCells_cons, show (i + 1) * 2 = i * 2 + 2 by omega]
    exact this
theorem itemCells_one (R : List It) : ∀ u ∈ itemCells R, u.oneCell' = true := by
  intro u hu
  unfold itemCells at hu
  rw [List.mem_flatMap] at hu
  obtain ⟨it, _, h⟩ := hu
  simp at h
  rcases h with rfl | rfl <;> rfl
/-- Items of a wheel for ids below n. -/
structure Good (n : Nat) (R : List It) : Prop where
  ids : (R.map (·.i)).Nodup
  rng : ∀ x ∈ R, x.i < n
  tms : ∀ x ∈ R, x.t < 18446744073709551616
theorem Good.len {n : Nat} {R : List It} (h : Good n R) : R.length ≤ n := by
  have := len_le_of_sub (l := R.map (fun x => (x.i : Int))) (m := (List.range n).map (fun (k : Nat) => (k : Int))) (by
    have hn := h.ids
    rw [List.Nodup, List.pairwise_map] at hn ⊢
    exact hn.imp (fun {a c} hne e => hne (by omega))) (fun x hx => by
      obtain ⟨y, hy, rfl⟩ := List.mem_map.1 hx
      exact List.mem_map.2 ⟨y.i, List.mem_range.2 (h.rng y hy), rfl⟩)
  simpa using this
theorem Good.out {n : Nat} {R1 R2 : List It} {x : It} (h : Good n (R1 ++ x :: R2)) : Good n (R1 ++ R2) := by
  have hs : (R1 ++ R2).Sublist (R1 ++ x :: R2) := List.Sublist.append (List.Sublist.refl _) (List.sublist_cons_self _ _)
  exact ⟨h.ids.sublist (hs.map _), fun y hy => h.rng y (hs.subset hy), fun y hy => h.tms y (hs.subset hy)⟩
/-- The document's wheel at block rb, its slice v: R are its items, as they were set. -/
structure IsR (w : World) (base rb n nw : Nat) (v : Value) (R : List It) : Prop where
  nle : n ≤ 1024
  good : Good n R
  blk : w.heap[rb]? = some (.cells #[.int .i64 (n : Int), .int .u64 (nw : Int), v] 87 (0, 0))
  own : w.ownsRow base 99 2 v R.length (itemCells R)
  ne : v.ownBlock ≠ some rb
  bs : base ≤ w.heap.size
section
variable {w w' : World} {base rb n nw : Nat} {v : Value} {R : List It}
theorem IsR.lt (h : IsR w base rb n nw v R) : rb < w.heap.size := (Array.getElem?_eq_some_iff.1 h.blk).1
theorem cell_of_row (w : World) (b i : Nat) (c : Array Value) (t : TypeId) (f : Nat × Nat) (h : w.heap[b]? = some (.cells c t f)) : w.cell? ⟨b, i, none⟩ = c[i]? := by
  unfold World.cell?
  simp [h]
theorem IsR.c0 (h : IsR w base rb n nw v R) : w.cell? ⟨rb, 0, none⟩ = some (.int .i64 (n : Int)) := by rw [cell_of_row w rb 0 _ _ _ h.blk]; rfl
theorem IsR.c1 (h : IsR w base rb n nw v R) : w.cell? ⟨rb, 1, none⟩ = some (.int .u64 (nw : Int)) := by rw [cell_of_row w rb 1 _ _ _ h.blk]; rfl
theorem IsR.c2 (h : IsR w base rb n nw v R) : w.cell? ⟨rb, 2, none⟩ = some v := by rw [cell_of_row w rb 2 _ _ _ h.blk]; rfl
theorem IsR.fz (h : IsR w base rb n nw v R) (o : Nat) : w.frozen? ⟨rb, o, none⟩ = false := by unfold World.frozen?; simp [h.blk]
theorem IsR.len_le (h : IsR w base rb n nw v R) : R.length ≤ 1024 := Nat.le_trans h.good.len h.nle
theorem IsR.form (h : IsR w base rb n nw v R) : ∃ a cap, v = .slice a R.length cap ∧ R.length ≤ cap ∧ cap ≤ maxLen := by
  rcases h.own.2 with ⟨e, e0⟩ | ⟨g, cap, cur, e, _, _, h1, h2, _⟩
  · exact ⟨none, 0, by rw [e, e0], by omega, by simp [maxLen]⟩
  · exact ⟨_, cap, e, h1, h2⟩
theorem IsR.cells (h : IsR w base rb n nw v R) (hR : R ≠ []) : ∃ g cap, v = .slice (some ⟨g, 0, none⟩) R.length cap ∧ R.length ≤ cap ∧ cap ≤ maxLen ∧ g < w.heap.size ∧ base ≤ g ∧
    (∀ j it, R[j]? = some it → w.cell? ⟨g, j * 2, none⟩ = some (.int .i64 (it.i : Int)) ∧ w.cell? ⟨g, j * 2 + 1, none⟩ = some (.int .u64 (it.t : Int))) := by
  have hpos : 0 < R.length := List.length_pos_iff.2 hR
  rcases h.own.2 with ⟨e, e0⟩ | ⟨g, cap, cur, e, h0, hg, h1, h2, _⟩
  · omega
  · refine ⟨g, cap, e, h1, h2, (Array.getElem?_eq_some_iff.1 hg).1, h0, fun j it hj => ?_⟩
    have hown := h.own
    subst e
    have hjl : j < R.length := (List.getElem?_eq_some_iff.1 hj).1
    rw [hown.cellAt (j * 2) (by omega), hown.cellAt (j * 2 + 1) (by omega)]
    exact itemCells_at R j it hj
theorem IsR.frame {S : Nat → Prop} (h : IsR w base rb n nw v R) (hf : Fr S w w') (h1 : ¬ S rb) (h2 : ∀ k, v.ownBlock = some k → ¬ S k) : IsR w' base rb n nw v R where
  nle := h.nle
  good := h.good
  blk := (hf.block rb h.lt h1).trans h.blk
  own := own_kept h.own (fun k hk => hf.block k (own_ge h.own hk).2 (h2 k hk))
  ne := h.ne
  bs := Nat.le_trans h.bs hf.size
theorem IsR.below (h : IsR w base rb n nw v R) (hb : Below w.heap.size w w') : IsR w' base rb n nw v R := h.frame (S := fun _ => False) (Fr.of_below' hb) (fun q => q) (fun _ _ q => q)
theorem IsR.stored {w1 : World} {v0 v' : Value} {R' : List It} (hb : w1.heap[rb]? = some (.cells #[.int .i64 (n : Int), .int .u64 (nw : Int), v0] 87 (0, 0)))
    (hown : w1.ownsRow base 99 2 v' R'.length (itemCells R')) (hne : v'.ownBlock ≠ some rb) (hn : n ≤ 1024) (hr : Good n R') (hbs : base ≤ w1.heap.size) :
    IsR (w1.setCell ⟨rb, 2, none⟩ v') base rb n nw v' R' :=
  ⟨hn, hr, Go.Joins.block_setCell hb v', ownsRow_setCell_other hown hne v', hne, by simpa using hbs⟩
theorem IsR.setNow (h : IsR w base rb n nw v R) (t : Nat) : IsR (w.setCell ⟨rb, 1, none⟩ (.int .u64 (t : Int))) base rb n t v R :=
  ⟨h.nle, h.good, Go.Joins.block_setCell h.blk _, ownsRow_setCell_other h.own h.ne _, h.ne, by simpa using h.bs⟩
end
theorem infoItem : (Try.prog.info? 99).map (fun i => (i.zero, i.size, i.bytes)) = some (some (.agg #[.int .i64 0, .int .u64 0]), 2, 16) := by kernel_rfl
set_option maxHeartbeats 1000000 in
theorem at_walk (w : World) (rb g len cap J : Nat) (id : Int) (ids : Nat → Nat)
    (c1 : w.cell? ⟨rb, 2, none⟩ = some (.slice (some ⟨g, 0, none⟩) len cap)) (hl : len ≤ 1024) (hJ : J ≤ len)
    (hc : ∀ j, j < len → w.cell? ⟨g, j * 2, none⟩ = some (.int .i64 (ids j)))
    (hno : ∀ j, j < J → ¬ (ids j : Int) = id) (hyes : J < len → (ids J : Int) = id) :
    Calls Try.prog 54 #[.pointer (some ⟨rb, 0, none⟩), .int .i64 id] w fun e w' => e = .returned (.int .i64 (if J < len then (J : Int) else -1)) ∧ w' = w := by
  have HC := veil hc
  have HN := veil hno
  have HY := veil hyes
  clear hc hno hyes
  generalize hr : (if J < len then (J : Int) else -1) = r
  go_enter Try.func54, Try.ntmps54
  go_wp2
  go_loopw [5] (fun i wr => ∃ j : Nat, j ≤ J ∧ i = .int .i64 j ∧ wr = w) (fun i _ => len - (intOf i).toNat)
  case atStart => exact ⟨0, by omega, rfl, rfl⟩
  case round =>
    obtain ⟨j, hj, rfl, rfl⟩ := hrel
    by_cases hjl : j < len
    · have e0 := HC.out j hjl
      by_cases hjJ : j < J
      · have e1 := HN.out j hjJ
        go_wp2
        go_roundw
        case rel => exact ⟨j + 1, by omega, by go_num, by first | rfl | trivial⟩
        case measure => simp [intOf]; omega
      · have hjJ' : j = J := by omega
        subst hjJ'
        have e1 := HY.out hjl
        go_wp2
        go_ret
        rw [if_pos hjl] at hr; subst hr; exact ⟨rfl, rfl⟩
    · have hjl' : ¬ J < len := by omega
      go_wp2
      go_ret
      rw [if_neg hjl'] at hr; subst hr; exact ⟨rfl, rfl⟩
theorem at_empty (w : World) (rb cap : Nat) (a : Option Addr) (id : Int)
    (c1 : w.cell? ⟨rb, 2, none⟩ = some (.slice a 0 cap)) :
    Calls Try.prog 54 #[.pointer (some ⟨rb, 0, none⟩), .int .i64 id] w fun e w' => e = .returned (.int .i64 (-1)) ∧ w' = w := by
  go_enter Try.func54, Try.ntmps54
  go_wp2
  go_loopw [5] (fun i wr => i = .int .i64 0 ∧ wr = w) (fun i _ => 0)
  case atStart => exact ⟨rfl, rfl⟩
  case round =>
    obtain ⟨rfl, rfl⟩ := hrel
    go_wp2
    go_ret
    exact ⟨rfl, rfl⟩
theorem rnew_ok (n : Nat) (w : World) (h1 : 1 ≤ n) (h2 : n ≤ 1024) :
    Calls Try.prog 33 #[.int .i64 n] w fun e w' => e = .returned (.pointer (some ⟨w.heap.size, 0, none⟩)) ∧ IsR w' w.heap.size w.heap.size n 0 (.slice none 0 0) [] ∧ Below w.heap.size w w' := by
  have hr : IsR (w.alloc (.cells #[.int .i64 (n : Int), .int .u64 0, .slice none 0 0] 87)) w.heap.size w.heap.size n 0 (.slice none 0 0) [] :=
    ⟨h2, ⟨List.nodup_nil, by simp, by simp⟩, (MapKept.heap_alloc w _).1, World.ownsRow_nil _ _ _ _, by simp [Value.ownBlock], by simp⟩
  have HR := veil hr
  clear hr
  go_enter Try.func33, Try.ntmps33
  go_wp2
  go_ret
  exact ⟨rfl, HR.out, (Below.refl _ _).alloc (Nat.le_refl _) _⟩
section
variable {w : World} {base rb n nw : Nat} {v : Value} {R : List It}
theorem rat_none (h : IsR w base rb n nw v R) (id : Int) (hno : ∀ it ∈ R, ¬ (it.i : Int) = id) :
    Calls Try.prog 54 #[.pointer (some ⟨rb, 0, none⟩), .int .i64 id] w fun e w' => e = .returned (.int .i64 (-1)) ∧ w' = w := by
  by_cases hR : R = []
  · subst hR
    obtain ⟨a, cap, rfl, _⟩ := h.form
    exact at_empty w rb cap a id h.c2
  · obtain ⟨g, cap, rfl, h1, h2, h3, h4, h5⟩ := h.cells hR
    have := at_walk w rb g R.length cap R.length id (fun j => (R.getD j ⟨0, 0⟩).i) h.c2 h.len_le (Nat.le_refl _) (fun j hj => by
      have e : R[j]? = some (R.getD j ⟨0, 0⟩) := by simp [List.getD, hj]
      exact (h5 j _ e).1) (fun j hj => hno _ (by simp [List.getD, hj])) (fun q => absurd q (Nat.lt_irrefl _))
    rw [if_neg (Nat.lt_irrefl _)] at this
    exact this
theorem rat_some {R1 R2 : List It} {x : It} (h : IsR w base rb n nw v (R1 ++ x :: R2)) :
    Calls Try.prog 54 #[.pointer (some ⟨rb, 0, none⟩), .int .i64 (x.i : Int)] w fun e w' => e = .returned (.int .i64 (R1.length : Int)) ∧ w' = w := by
  obtain ⟨g, cap, rfl, h1, h2, h3, h4, h5⟩ := h.cells (by simp)
  have hlt : R1.length < (R1 ++ x :: R2).length := by simp
  have hid := h.good.ids
  rw [List.map_append, List.nodup_append] at hid
  have := at_walk w rb g (R1 ++ x :: R2).length cap R1.length x.i (fun j => ((R1 ++ x :: R2).getD j ⟨0, 0⟩).i) h.c2 h.len_le (Nat.le_of_lt hlt) (fun j hj => by
      have e : (R1 ++ x :: R2)[j]? = some ((R1 ++ x :: R2).getD j ⟨0, 0⟩) := by rw [List.getD, List.getElem?_eq_getElem hj]; rfl
      exact (h5 j _ e).1) (fun j hj q => by
      have e : (R1 ++ x :: R2).getD j ⟨0, 0⟩ ∈ R1 := by rw [List.getD, List.getElem?_append_left hj]; simp [hj]
      exact hid.2.2 _ (List.mem_map_of_mem (f := (·.i)) e) x.i (by simp) (by simpa using Int.ofNat.inj q)) (fun _ => by simp [List.getD])
  rw [if_pos hlt] at this
  exact this
end
theorem items_from {w : World} {g : Nat} {R : List It} (hc : ∀ j it, R[j]? = some it → w.cell? ⟨g, j * 2, none⟩ = some (.int .i64 (it.i : Int)) ∧ w.cell? ⟨g, j * 2 + 1, none⟩ = some (.int .u64 (it.t : Int)))
    (k : Nat) (S : List It) (hS : ∀ j, j < S.length → R[k + j]? = S[j]?) : ∀ j u, (itemCells S)[j]? = some u → w.cell? ((⟨g, k * 2, none⟩ : Addr).add j) = some u := by
  intro j u hu
  have hj : j < (itemCells S).length := (List.getElem?_eq_some_iff.1 hu).1
  rw [itemCells_length] at hj
  have hadd : (⟨g, k * 2, none⟩ : Addr).add j = ⟨g, k * 2 + j, none⟩ := by unfold Addr.add; split <;> simp_all
  rw [hadd]
  have hs : S[j / 2]? = some (S[j / 2]'(by omega)) := List.getElem?_eq_getElem _
  have hc' := hc (k + j / 2) (S[j / 2]'(by omega)) (by rw [hS _ (by omega)]; exact hs)
  have ha := itemCells_at S (j / 2) _ hs
  have hm : j % 2 = 0 ∨ j % 2 = 1 := by omega
  rcases hm with hp | hp
  · rw [show k * 2 + j = (k + j / 2) * 2 by omega, hc'.1, ← hu, ← ha.1]
    congr 1
    omega
  · rw [show k * 2 + j = (k + j / 2) * 2 + 1 by omega, hc'.2, ← hu, ← ha.2]
    congr 1
    omega
set_option maxHeartbeats 4000000 in
set_option maxRecDepth 100000 in
theorem rout_ok {w : World} {base rb n nw : Nat} {v : Value} {R1 R2 : List It} {x : It} (h : IsR w base rb n nw v (R1 ++ x :: R2)) :
    Calls Try.prog 59 #[.pointer (some ⟨rb, 0, none⟩), .int .i64 (R1.length : Int)] w fun e w' => e = .returned (.tuple #[]) ∧ (∃ v', IsR w' base rb n nw v' (R1 ++ R2)) ∧ Fr (fun k => k = rb) w w' := by
  obtain ⟨i0, hi0, hz0, hz1, hz2⟩ := info_parts infoItem
  obtain ⟨g, cap, rfl, h1, h2, h3, h4, h5⟩ := h.cells (by simp)
  have e1 := h.c2
  have hlen := h.len_le
  have hL : (R1 ++ x :: R2).length = R1.length + R2.length + 1 := by simp; omega
  rw [hL] at e1 hlen h1
  have hrb := h.lt
  have hne := h.ne
  have f1 : w.frozen? ⟨rb, 2, none⟩ = false := by unfold World.frozen?; simp [h.blk]
  have HN1 : Hid (∀ w', Fr (fun _ => False) w w' → ∀ j u, (itemCells R1)[j]? = some u → w'.cell? ((⟨g, 0, none⟩ : Addr).add j) = some u) := by
    intro w' hf
    have := items_from (w := w') (g := g) (R := R1 ++ x :: R2) (fun j it hj => by
      rw [hf.cell (a := ⟨g, j * 2, none⟩) h3 (fun q => q), hf.cell (a := ⟨g, j * 2 + 1, none⟩) h3 (fun q => q)]
      exact h5 j it hj) 0 R1 (fun j hj => by rw [Nat.zero_add, List.getElem?_append_left hj])
    simpa using this
  have HN2 : Hid (∀ w', Fr (fun _ => False) w w' → ∀ j u, (itemCells R2)[j]? = some u → w'.cell? ((⟨g, (R1.length + 1) * 2, none⟩ : Addr).add j) = some u) := by
    intro w' hf
    exact items_from (w := w') (g := g) (R := R1 ++ x :: R2) (fun j it hj => by
      rw [hf.cell (a := ⟨g, j * 2, none⟩) h3 (fun q => q), hf.cell (a := ⟨g, j * 2 + 1, none⟩) h3 (fun q => q)]
      exact h5 j it hj) (R1.length + 1) R2 (fun j hj => by rw [List.getElem?_append_right (by omega), show R1.length + 1 + j - R1.length = j + 1 by omega]; rfl)
  have HF : Hid (∀ (w' : World) (v' : Value), Fr (fun _ => False) w w' → w'.ownsRow w.heap.size 99 2 v' (R1.length + R2.length) (itemCells R1 ++ itemCells R2) → (∃ v'', IsR (w'.setCell ⟨rb, 2, none⟩ v') base rb n nw v'' (R1 ++ R2)) ∧ Fr (fun k => k = rb) w (w'.setCell ⟨rb, 2, none⟩ v')) := by
    intro w' v' hf ho
    refine ⟨⟨v', IsR.stored (v0 := .slice (some ⟨g, 0, none⟩) (R1 ++ x :: R2).length cap) ?_ (own_base (by rw [itemCells_append, List.length_append]; exact ho) h.bs) ?_ h.nle h.good.out (Nat.le_trans h.bs hf.size)⟩, Fr.setCell (S := fun k => k = rb) (a := ⟨rb, 2, none⟩) (hf.wide (fun _ _ q => q.elim)) rfl _⟩
    · exact (hf.block rb hrb (fun q => q)).trans h.blk
    · intro q
      have := ho.lt rb q
      omega
  have o1 := itemCells_one R1
  have o2 := itemCells_one R2
  have l1 := itemCells_length R1
  have l2 := itemCells_length R2
  have b1 : (0 : Int) ≤ (R1.length : Int) := Int.natCast_nonneg _
  generalize R1.length = k at *
  generalize R2.length = m at *
  generalize itemCells R1 = c1 at *
  generalize itemCells R2 = c2 at *
  have b6 := wrap_succ k (by omega)
  generalize hK : k + 1 = K at *
  generalize hLL : k + m + 1 = L at *
  have b2 : (k : Int) ≤ (cap : Int) := by omega
  have b5 : (L : Int) ≤ (cap : Int) := by omega
  have b7 : (0 : Int) ≤ (K : Int) := by omega
  have b8 : (K : Int) ≤ (L : Int) := by omega
  have b9 : L - K = m := by omega
  have HK : Hid (∀ v1 w1, w.grownBy w1 (Value.ownBlock (.slice none 0 0)) → w1.ownsRow w.heap.size 99 2 v1 (0 + k) ([] ++ c1) → w1.cell? ⟨rb, 2, none⟩ = some (.slice (some ⟨g, 0, none⟩) L cap) ∧ Fr (fun _ => False) w w1 ∧ w1.frozen? ⟨rb, 2, none⟩ = false ∧
      ∀ v2 w2, w1.grownBy w2 v1.ownBlock → w2.ownsRow w.heap.size 99 2 v2 (0 + k + m) (([] ++ c1) ++ c2) → w2.cell? ⟨rb, 2, none⟩ = some (.slice (some ⟨g, 0, none⟩) L cap) ∧ w2.frozen? ⟨rb, 2, none⟩ = false ∧ (∃ v', IsR (w2.setCell ⟨rb, 2, none⟩ v2) base rb n nw v' (R1 ++ R2)) ∧ Fr (fun k => k = rb) w (w2.setCell ⟨rb, 2, none⟩ v2)) := by
    intro v1 w1 hg1 ho1
    have c1' := (hg1.cell_far ⟨rb, 2, none⟩ hrb (by simp [Value.ownBlock])).trans e1
    have f1' := (hg1.frozen_far ⟨rb, 2, none⟩ hrb (by simp [Value.ownBlock])).trans f1
    have fr1 : Fr (fun _ => False) w w1 := (Fr.of_grown hg1).wide (fun k _ q => by simp [Value.ownBlock] at q)
    refine ⟨c1', fr1, f1', fun v2 w2 hg2 ho2 => ?_⟩
    have hx : some rb ≠ v1.ownBlock := fun q => by have := ho1.lt rb q.symm; omega
    have fr2 : Fr (fun _ => False) w w2 := ⟨hg2.os.trans fr1.os, hg2.tape.trans fr1.tape, hg2.output.trans fr1.output, Nat.le_trans fr1.size hg2.size, fun k hk _ => (hg2.block k (Nat.lt_of_lt_of_le hk fr1.size) (fun q => by have := ho1.lt k q.symm; omega)).trans (fr1.block k hk (fun q => q))⟩
    exact ⟨(hg2.cell_far ⟨rb, 2, none⟩ (Nat.lt_of_lt_of_le hrb fr1.size) hx).trans c1', (hg2.frozen_far ⟨rb, 2, none⟩ (Nat.lt_of_lt_of_le hrb fr1.size) hx).trans f1', HF.out w2 v2 fr2 (by simpa using ho2)⟩
  have HW : Hid (∀ w', w'.heap = w.heap → w'.os = w.os → w'.tape = w.tape → w'.output = w.output → Fr (fun _ => False) w w') := fun w' a b c d => ⟨b, c, d, by rw [a]; exact Nat.le_refl _, fun k _ _ => by rw [a]⟩
  have HU := veil Try.underlying85
  clear h h5 h4 hL hne HF f1
  by_cases hcK : cap = K
  · have hm0 : m = 0 := by omega
    have hLK : L = K := by omega
    have hc2 : c2 = [] := List.length_eq_zero_iff.1 (by omega)
    have HN3 : Hid (∀ w', Fr (fun _ => False) w w' → ∀ j u, c2[j]? = some u → w'.cell? ((⟨g, 0, none⟩ : Addr).add j) = some u) := by
      intro w' _ j u hu
      rw [hc2] at hu
      simp at hu
    clear hc2 b9 HN2
    subst hm0
    subst hLK
    subst hcK
    go_enter Try.func59, Try.ntmps59
    go_wp2
    go_region_held3 (fun w' => w'.cell? ⟨rb, 2, none⟩ = some (.slice (some ⟨g, 0, none⟩) cap cap))
      (first | go_keep | exact (HK.out _ _ hg1 ho1).1 | exact ((HK.out _ _ hg1 ho1).2.2.2 _ _ hg2 ho2).1)
      (first
        | (refine step_append_any _ (by rfl) _ _ _ (by rfl) w.heap.size 99 i0 (.agg #[.int .i64 0, .int .u64 0]) 2 16 HU.out hi0 hz0 hz1 hz2 rfl (by omega) (.slice none 0 0) 0 [] (by rfl) (World.ownsRow_nil _ _ _ _) ⟨g, 0, none⟩ k cap c1 (by rfl) l1 (HN1.out _ (HW.out _ rfl rfl rfl rfl)) o1 (by unfold maxLen; omega) (by omega) (by simp) ?_; intro v1 w1 ho1 hg1'; have hg1 : w.grownBy w1 (Value.ownBlock (.slice none 0 0)) := ⟨hg1'.os, hg1'.tape, hg1'.output, hg1'.size, hg1'.block⟩; clear hg1')
        | (refine step_append_any _ (by rfl) _ _ _ (by rfl) w.heap.size 99 i0 (.agg #[.int .i64 0, .int .u64 0]) 2 16 HU.out hi0 hz0 hz1 hz2 rfl (by omega) v1 (0 + k) ([] ++ c1) (by rfl) ho1 ⟨g, 0, none⟩ 0 _ c2 (by rfl) l2 (HN3.out _ (HK.out _ _ hg1 ho1).2.1) o2 (by unfold maxLen; omega) (by omega) (HK.out _ _ hg1 ho1).2.1.size ?_; intro v2 w2 ho2 hg2'; have hg2 : w1.grownBy w2 v1.ownBlock := ⟨hg2'.os, hg2'.tape, hg2'.output, hg2'.size, hg2'.block⟩; clear hg2'))
    have hX := (HK.out _ _ hg1 ho1).2.2.2 _ _ hg2 ho2
    have x1 := hX.1
    have x2 := hX.2.1
    obtain ⟨a2, d2, rfl⟩ := own_slice ho2
    have hX2 := hX.2.2
    rw [Nat.zero_add] at hX2
    have HX := veil hX2
    clear hX2
    clear hX ho1 hg1 ho2 hg2
    go_wp2
    go_end0
    exact ⟨rfl, HX.out.1, HX.out.2⟩
  ·
    go_enter Try.func59, Try.ntmps59
    go_wp2
    go_region_held3 (fun w' => w'.cell? ⟨rb, 2, none⟩ = some (.slice (some ⟨g, 0, none⟩) L cap))
      (first | go_keep | exact (HK.out _ _ hg1 ho1).1 | exact ((HK.out _ _ hg1 ho1).2.2.2 _ _ hg2 ho2).1)
      (first
        | (refine step_append_any _ (by rfl) _ _ _ (by rfl) w.heap.size 99 i0 (.agg #[.int .i64 0, .int .u64 0]) 2 16 HU.out hi0 hz0 hz1 hz2 rfl (by omega) (.slice none 0 0) 0 [] (by rfl) (World.ownsRow_nil _ _ _ _) ⟨g, 0, none⟩ k cap c1 (by rfl) l1 (HN1.out _ (HW.out _ rfl rfl rfl rfl)) o1 (by unfold maxLen; omega) (by omega) (by simp) ?_; intro v1 w1 ho1 hg1'; have hg1 : w.grownBy w1 (Value.ownBlock (.slice none 0 0)) := ⟨hg1'.os, hg1'.tape, hg1'.output, hg1'.size, hg1'.block⟩; clear hg1')
        | (refine step_append_any _ (by rfl) _ _ _ (by rfl) w.heap.size 99 i0 (.agg #[.int .i64 0, .int .u64 0]) 2 16 HU.out hi0 hz0 hz1 hz2 rfl (by omega) v1 (0 + k) ([] ++ c1) (by rfl) ho1 ⟨g, K * 2, none⟩ m _ c2 (by first | rfl | (rw [← b9]; rfl)) l2 (HN2.out _ (HK.out _ _ hg1 ho1).2.1) o2 (by unfold maxLen; omega) (by omega) (HK.out _ _ hg1 ho1).2.1.size ?_; intro v2 w2 ho2 hg2'; have hg2 : w1.grownBy w2 v1.ownBlock := ⟨hg2'.os, hg2'.tape, hg2'.output, hg2'.size, hg2'.block⟩; clear hg2'))
    have hX := (HK.out _ _ hg1 ho1).2.2.2 _ _ hg2 ho2
    have x1 := hX.1
    have x2 := hX.2.1
    obtain ⟨a2, d2, rfl⟩ := own_slice ho2
    have hX2 := hX.2.2
    rw [Nat.zero_add] at hX2
    have HX := veil hX2
    clear hX2
    clear hX ho1 hg1 ho2 hg2
    go_wp2
    go_end0
    exact ⟨rfl, HX.out.1, HX.out.2⟩
end Go.Proofs.Ytjmbadadelelfaa
