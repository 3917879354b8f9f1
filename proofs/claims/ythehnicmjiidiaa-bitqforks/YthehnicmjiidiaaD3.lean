/-
  The walks of the document's queue: New, Push, out.
-/
import Derived.Test.YthehnicmjiidiaaD2
namespace Go.Proofs.Ythehnicmjiidiaa
open Go.RowKit Go.Lib

theorem infoItem : (Try.prog.info? 71).map (fun i => (i.zero, i.size, i.bytes)) = some (some (.agg #[.int .i64 0, .int .u8 0]), 2, 16) := by kernel_rfl

/-- append onto what the call owns, at a step of a region that draws its order, whether or not something is appended. -/
theorem step_append_any {P : Program} (w : World) {ops : Array Oper} {o : Oper} {a : Act} {K : Act → World → Prop} {Q : Exit → Act → World → Prop} {E : Prop} (hgd : o.guard = none) (s x : Operand) (t : TypeId)
    (ho : o.op = .call { callee := .builtin .append, args := #[s, x], argTypes := #[t, t] })
    (base : Nat) (e : TypeId) (i : TypeInfo) (z : Value) (size bytes : Nat) (ht : P.underlying t = some (.slice e)) (hi : P.info? e = some i) (hz : i.zero = some z)
    (hsize : i.size = size) (hby : i.bytes = bytes) (hzs : z.cells.size = size) (hsz : 0 < size)
    (v : Value) (n : Nat) (xs : List Value) (hs : a.eval s = v) (hown : w.ownsRow base e size v n xs)
    (ad : Addr) (m c : Nat) (news : List Value) (hx : a.eval x = .slice (some ad) m c) (hl : news.length = m * size) (hnews : ∀ j u, news[j]? = some u → w.cell? (ad.add j) = some u) (h1 : ∀ u ∈ news, u.oneCell' = true)
    (h63 : n + m ≤ maxLen) (hbytes : (n + m) * bytes ≤ 140737488355328) (hbase : base ≤ w.heap.size)
    (h : ∀ v' w', w'.ownsRow base e size v' (n + m) (xs ++ news) → w.grownBy w' v.ownBlock → K (a.put o.dst v') w') :
    if Region.wanted o (yielded ops a.tmps) = true then Oper.wp P o a w K Q else E := by
  have hw : Region.wanted o (yielded ops a.tmps) = true := by simp [Region.wanted, hgd]
  rw [if_pos hw]
  exact wp_append_own w s x t ho base e i z size bytes ht hi hz hsize hby hzs hsz v n xs hs hown ad m c news hx hl hnews h1 h63 hbytes hbase fun v' w' h2 h3 _ => h v' w' h2 h3

theorem rnew_ok (n : Nat) (w : World) (h1 : 1 ≤ n) (h2 : n ≤ 1024) :
    Calls Try.prog 27 #[.int .i64 n] w fun e w' => e = .returned (.pointer (some ⟨w.heap.size, 0, none⟩)) ∧ IsRef w' w.heap.size w.heap.size n (.slice none 0 0) [] ∧ Below w.heap.size w w' := by
  have hr : IsRef (w.alloc (.cells #[.int .i64 (n : Int), .slice none 0 0] 69)) w.heap.size w.heap.size n (.slice none 0 0) [] :=
    ⟨h2, by simp, by simp, heap_alloc_new w _, World.ownsRow_nil _ _ _ _, by simp [Value.ownBlock], by simp⟩
  have HR := veil hr
  clear hr
  go_enter Try.func27, Try.ntmps27
  go_wp2
  go_ret
  exact ⟨rfl, HR.out, (Below.refl _ _).alloc (Nat.le_refl _) _⟩

section
variable {w : World} {base rb n : Nat} {v : Value} {R : List (Nat × Nat)}
theorem rat_none (h : IsRef w base rb n v R) (id : Int) (hno : ∀ it ∈ R, ¬ (it.1 : Int) = id) :
    Calls Try.prog 43 #[.pointer (some ⟨rb, 0, none⟩), .int .i64 id] w fun e w' => e = .returned (.int .i64 (-1)) ∧ w' = w := by
  by_cases hR : R = []
  · subst hR
    obtain ⟨a, cap, rfl, _⟩ := h.form
    exact at_empty w rb cap a id h.c1
  · obtain ⟨g, cap, rfl, h1, h2, h3, h4, h5⟩ := h.cells hR
    have := at_walk w rb g R.length cap R.length id (fun j => (R.getD j (0, 0)).1) h.c1 h.len_le (Nat.le_refl _) (fun j hj => by
      have e : R[j]? = some (R.getD j (0, 0)) := by simp [List.getD, hj]
      exact (h5 j _ e).1) (fun j hj => hno _ (by simp [List.getD, hj])) (fun q => absurd q (Nat.lt_irrefl _))
    rw [if_neg (Nat.lt_irrefl _)] at this
    exact this
theorem rat_some {R1 R2 : List (Nat × Nat)} {k lv : Nat} (h : IsRef w base rb n v (R1 ++ (k, lv) :: R2)) :
    Calls Try.prog 43 #[.pointer (some ⟨rb, 0, none⟩), .int .i64 (k : Int)] w fun e w' => e = .returned (.int .i64 (R1.length : Int)) ∧ w' = w := by
  obtain ⟨g, cap, rfl, h1, h2, h3, h4, h5⟩ := h.cells (by simp)
  have hlt : R1.length < (R1 ++ (k, lv) :: R2).length := by simp
  have hid := h.ids
  rw [List.map_append, List.nodup_append] at hid
  have := at_walk w rb g (R1 ++ (k, lv) :: R2).length cap R1.length k (fun j => ((R1 ++ (k, lv) :: R2).getD j (0, 0)).1) h.c1 h.len_le (Nat.le_of_lt hlt) (fun j hj => by
      have e : (R1 ++ (k, lv) :: R2)[j]? = some ((R1 ++ (k, lv) :: R2).getD j (0, 0)) := by rw [List.getD, List.getElem?_eq_getElem hj]; rfl
      exact (h5 j _ e).1) (fun j hj q => by
      have e : (R1 ++ (k, lv) :: R2).getD j (0, 0) ∈ R1 := by rw [List.getD, List.getElem?_append_left hj]; simp [hj]
      exact hid.2.2 _ (List.mem_map_of_mem (f := (·.1)) e) k (by simp) (by simpa using Int.ofNat.inj q)) (fun _ => by simp [List.getD])
  rw [if_pos hlt] at this
  exact this
end
end Go.Proofs.Ythehnicmjiidiaa
