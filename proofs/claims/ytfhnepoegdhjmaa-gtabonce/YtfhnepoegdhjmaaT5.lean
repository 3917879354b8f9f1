/-
  The walks of Len and Live: the places that are given out, counted and gathered.
-/
import Derived.Test.YtfhnepoegdhjmaaT4
namespace Go.Proofs.Ytfhnepoegdhjmaa
open Go.RowKit Go.Shelf
attribute [local go_sem] Oper.semAt_some

/-- append onto what the call owns, at a step of a region that draws its order, whether or not something is appended. -/
theorem step_append_any {P : Program} (w : World) {ops : Array Oper} {o : Oper} {a : Act} {K : Act → World → Prop} {Q : Exit → Act → World → Prop} {E : Prop} (hgd : o.guard = none) (s x : Operand) (t : TypeId)
    (ho : o.op = .call { callee := .builtin .append, args := #[s, x], argTypes := #[t, t] })
    (base : Nat) (e : TypeId) (i : TypeInfo) (z : Value) (size bytes : Nat) (ht : P.underlying t = some (.slice e)) (hi : P.info? e = some i) (hz : i.zero = some z)
    (hsize : i.size = size) (hby : i.bytes = bytes) (hzs : z.cells.size = size) (hsz : 0 < size)
    (v : Value) (n : Nat) (xs : List Value) (hs : a.eval s = v) (hown : w.ownsRow base e size v n xs)
    (ad : Addr) (m c : Nat) (news : List Value) (hx : a.eval x = .slice (some ad) m c) (hl : news.length = m * size) (hnews : ∀ j u, news[j]? = some u → w.cell? (ad.add j) = some u) (h1 : ∀ u ∈ news, u.oneCell' = true)
    (h63 : n + m ≤ maxLen) (hbytes : (n + m) * bytes ≤ 140737488355328) (hbase : base ≤ w.heap.size)
    (h : ∀ v' w', w'.ownsRow base e size v' (n + m) (xs ++ news) → w.grownBy w' v.ownBlock → K (a.put o.dst v') w') :
    if Region.wanted o (yielded ops a.tmps) = true then Oper.wp P o a w K Q else E := by
  have hw : Region.wanted o (yielded ops a.tmps) = true := by simp [Region.wanted, hgd]
  rw [if_pos hw]
  exact wp_append_own w s x t ho base e i z size bytes ht hi hz hsize hby hzs hsz v n xs hs hown ad m c news hx hl hnews h1 h63 hbytes hbase fun v' w' h2 h3 _ => h v' w' h2 h3

theorem owns_slice {w : World} {base : Nat} {e : TypeId} {size : Nat} {v : Value} {n : Nat} {xs : List Value} (h : w.ownsRow base e size v n xs) : ∃ a c, v = .slice a n c := by
  rcases h.2 with ⟨e, e0⟩ | ⟨g, cap, cur, e, _⟩
  · exact ⟨none, 0, by rw [e, e0]⟩
  · exact ⟨_, cap, e⟩

theorem places_in (nn b : Nat) (fr : Bool) (w : World) :
    CallsIn Fence.wide nn Try.prog 11 #[.pointer (some ⟨b, 0, none⟩), .bool fr] w fun e w' => e = .returned (.func (.func 12) #[] #[.pointer (some ⟨w.heap.size, 0, none⟩), .pointer (some ⟨w.heap.size + 1, 0, none⟩)]) ∧
      w' = (w.alloc (.cells #[.pointer (some ⟨b, 0, none⟩)] 23)).alloc (.cells #[.bool fr] 4) := by
  refine callsIn_of_wp Try.func11 rfl trivial ?_ rfl
  simp only [Try.ntmps11, List.size_toArray, List.length_cons, List.length_nil, Nat.reduceAdd, Nat.reduceSub, Array.replicate_succ, Array.replicate_zero, List.push_toArray, List.append_toArray, List.nil_append, List.cons_append]
  gi_wp2
  go_ret
  exact ⟨by simp, rfl⟩

theorem kp_trans {n0 B2 : Nat} {fr : Bool} {A B C : World} (h : Kp n0 B2 fr A B) (h' : Kp n0 B2 fr B C) : Kp n0 B2 fr A C := ⟨h.1.trans h'.1, fun q => h'.2 (h.2 q)⟩
theorem kp_put {w : World} {n0 B2 : Nat} {fr : Bool} (hn : n0 ≤ w.heap.size) (W : World) (l : Nat) (o o' : Obj) (hl : w.heap.size ≤ l) (ho : W.heap[l]? = some o) (hc : o.isCells = false) (hw : o.isWalk = false) : Kp n0 B2 fr W (W.putObj l o') := by
  refine ⟨belowK_b hn W l o o' hl ho hc hw, fun q => q.kept (grownBy_putObj' W l o') (fun e => ?_)⟩
  cases e
  rw [show W.heap[B2]? = _ from q] at ho
  cases ho
  cases hc
theorem kp_append {W w1 : World} {n0 B B2 size : Nat} {fr : Bool} {t e : TypeId} {v v' : Value} {k m : Nat} {xs ys : List Value} {tmp : Obj} (hte : 4 ≠ e) (hte' : t ≠ e) (hv : Boxed W B t v) (hrow : W.ownsRow n0 e size v k xs) (hn0 : n0 ≤ W.heap.size) (hB : n0 ≤ B) (hne : B2 ≠ B)
    (hown' : w1.ownsRow n0 e size v' m ys) (hgrow : (W.alloc tmp).grownBy w1 v.ownBlock) : Kp n0 B2 fr W (w1.setCell ⟨B, 0, none⟩ v') := by
  refine ⟨(hv.appended hte' hrow hn0 hB hown' hgrow).2.2.2.2, fun q => ?_⟩
  have q1 := (q.alloc tmp).kept hgrow (q.not_row hte hrow)
  exact q1.kept (grownBy_setCell' w1 B v') (by simp [hne])

theorem places_stops (nn : Nat) (hn : 1 ≤ nn) (B1 B2 n0 b g n cp : Nat) (G S : Nat → Nat) (fr : Bool) (w : World) (hb1 : Boxed w B1 23 (.pointer (some ⟨b, 0, none⟩))) (hb2 : Boxed w B2 4 (.bool fr)) (hsl : w.cell? ⟨b, 0, none⟩ = some (.slice (some ⟨g, 0, none⟩) n cp)) (hr : Reads w g n G S) (hn1 : n ≤ 1024) (hbn : b < n0) (hgn : g < n0) (hn0 : n0 ≤ w.heap.size) :
    SeqStopsK Fence.wide nn Try.prog 12 #[.pointer (some ⟨B1, 0, none⟩), .pointer (some ⟨B2, 0, none⟩)] (fun x : Fin n => #[Value.int .i64 (x.val : Int)]) (Kp n0 B2 fr) (fun ys => ys = pl S fr n n) (fun pre => pre <+: pl S fr n n) (pl S fr n n).length w := by
  intro l J Jx W hW hJ hJx hY h0
  exact yields_in nn hn l B1 B2 n0 b g n cp G S fr J Jx (fun pre W o hh => hJ pre W _ none hh (World.grownBy_alloc W o none) (fun r e => by cases e)) hY W ((hW.cell (p := ⟨B1, 0, none⟩) hb1.lt).trans hb1.cell) ((hW.block B2 hb2.lt).trans hb2) ((hW.cell (p := ⟨b, 0, none⟩) (by simp; omega)).trans hsl) (hr.below (hW.mono hn0) hgn) hn1 hgn (Nat.le_trans hn0 hW.size) h0

set_option maxRecDepth 100000 in
set_option maxHeartbeats 2000000 in
theorem len_in (b g n : Nat) (G S : Nat → Nat) (w : World) (hq : Rep w b g n G S) :
    CallsIn Fence.wide 4 Try.prog 7 #[.pointer (some ⟨b, 0, none⟩)] w fun e W' => e = .returned (.int .i64 ((pl S false n n).length : Int)) ∧ Below w.heap.size w W' := by
  have hlb := hq.lt_b
  have hlg := hq.lt_g
  have hn := hq.n2
  obtain ⟨cp, hsl⟩ := hq.sl
  have hlen := pl_len S false n n
  have HQ := veil hq
  clear hq
  refine callsIn_of_wp_marks Try.func7 rfl trivial ?_ rfl
  simp only [Try.ntmps7, List.size_toArray, List.length_cons, List.length_nil, Nat.reduceAdd, Nat.reduceSub, Array.replicate_succ, Array.replicate_zero, List.push_toArray, List.append_toArray, List.nil_append, List.cons_append]
  gi_wp2_with (refine ⟨trivial, ?_⟩; gi_at_call 11; refine (places_in _ b false _).mono ?_; rintro e w' ⟨rfl, rfl⟩)
  have bC := Boxed.new w 3 (.int .i64 0)
  have b1 := Boxed.new (w.alloc (.cells #[.int .i64 0] 3)) 23 (.pointer (some ⟨b, 0, none⟩))
  have b2 := Boxed.new ((w.alloc (.cells #[.int .i64 0] 3)).alloc (.cells #[.pointer (some ⟨b, 0, none⟩)] 23)) 4 (.bool false)
  have hB0 : Below w.heap.size w (((w.alloc (.cells #[.int .i64 0] 3)).alloc (.cells #[.pointer (some ⟨b, 0, none⟩)] 23)).alloc (.cells #[.bool false] 4)) := (((Below.refl _ w).alloc (Nat.le_refl _) _).alloc (by simp) _).alloc (by simp; omega) _
  simp only [World.size_alloc] at b1 b2 ⊢
  refine wpIn_rangeFunc_ownG rfl (by decide) (gf := 12) (lb := #[.pointer (some ⟨w.heap.size + 1, 0, none⟩), .pointer (some ⟨w.heap.size + 1 + 1, 0, none⟩)]) rfl trivial (enters_of Try.func12 (by kernel_rfl) rfl)
    (places_stops 3 (by decide) (w.heap.size + 1) (w.heap.size + 1 + 1) w.heap.size b g n cp G S false _ (b1.alloc _) b2 ((hB0.cell (p := ⟨b, 0, none⟩) hlb).trans hsl) (HQ.out.reads.below hB0 hlg) hn hlb hlg hB0.size) kp_trans (kp_put hB0.size) (Below.refl _ _) (fun _ => rfl)
    (fun (pre : List (Fin n)) W => Boxed W w.heap.size 3 (.int .i64 (pre.length : Int)) ∧ Below w.heap.size w W)
    (fun _ _ _ => False)
    (OwnFrom.and (Own.from (boxed_own w.heap.size 3 (fun pre : List (Fin n) => .int .i64 (pre.length : Int))) _) (ownFrom_below (Nat.le_refl _) hB0.size))
    (fun _ _ _ _ _ hs _ _ => hs)
    ⟨(bC.alloc _).alloc _, hB0⟩
    (fun x => { tmps := #[.pointer (some ⟨b, 0, none⟩), undef, .int .i64 0, .pointer (some ⟨w.heap.size, 0, none⟩), .pointer (some ⟨b, 0, none⟩), .bool false, .pointer (some ⟨b, 0, none⟩), .func (.func 12) #[] #[.pointer (some ⟨w.heap.size + 1, 0, none⟩), .pointer (some ⟨w.heap.size + 1 + 1, 0, none⟩)], .int .i64 (x.val : Int), undef, undef, undef], defers := [] }) ?assign ?body ?done ?stop
  case assign =>
    intro l x W K hK
    gi_wp2
    simpa using hK
  case body =>
    rintro l pre x W ⟨hv, hB⟩ hlt
    have hc := hv.cell
    have hf := hv.frozen
    have hle : pre.length < 1024 := by omega
    gi_wp2
    refine ⟨(KeepsOthers.setCell _ _ _).from _, ⟨(Below.refl w.heap.size W).setCell (p := ⟨w.heap.size, 0, none⟩) (Nat.le_refl _) _, fun q => q.other (by omega) _⟩, ?_, hB.setCell (p := ⟨w.heap.size, 0, none⟩) (Nat.le_refl _) _⟩
    have := hv.set (.int .i64 ((pre.length : Int) + 1))
    simpa using this
  case done =>
    rintro D ys W hD rfl ⟨hv, hB⟩ hK
    have hc := hv.cell
    gi_wp2
    refine ⟨by simp, .inl ⟨_, _, rfl, run_takeDeferred hK, ?_⟩⟩
    exact ⟨_, results_tmp rfl _ _ _, rfl, hB.trans (belowK_b (w := w) (Nat.le_refl _) W D _ _ (by simp at hD; omega) hK rfl rfl)⟩
  case stop =>
    rintro D c pre W _ _ h _
    exact h.elim

theorem len_ok {w : World} {b g n : Nat} {G S : Nat → Nat} (hq : Rep w b g n G S) :
    Calls Try.prog 7 #[.pointer (some ⟨b, 0, none⟩)] w fun e W' => e = .returned (.int .i64 ((pl S false n n).length : Int)) ∧ Below w.heap.size w W' :=
  callsIn_wide.1 (len_in b g n G S w hq)

/-- The cells of some ids. -/
def idCells (G : Nat → Nat) {n : Nat} (l : List (Fin n)) : List Value := l.flatMap (fun x => [Value.int .i64 (x.val : Int), .int .u32 (G x.val : Int)])
theorem idCells_len (G : Nat → Nat) {n : Nat} : ∀ l : List (Fin n), (idCells G l).length = l.length * 2
  | [] => rfl
  | x :: l => by
    have := idCells_len G l
    unfold idCells at this ⊢
    simp only [List.flatMap_cons, List.length_append, List.length_cons, List.length_nil, this]
    omega
theorem idCells_snoc (G : Nat → Nat) {n : Nat} (l : List (Fin n)) (x : Fin n) : idCells G (l ++ [x]) = idCells G l ++ [.int .i64 (x.val : Int), .int .u32 (G x.val : Int)] := by unfold idCells; simp
theorem infoId : (Try.prog.info? 28).map (fun i => (i.zero, i.size, i.bytes)) = some (some (.agg #[.int .i64 0, .int .u32 0]), 2, 16) := by kernel_rfl

end Go.Proofs.Ytfhnepoegdhjmaa
