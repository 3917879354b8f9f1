/-
  The walks of Len and Live: the places that are given out, counted and gathered.
-/
import Derived.Test.YtfhnepoegdhjmaaDoorT4
namespace Go.Proofs.YtfhnepoegdhjmaaDoor
open Go.RowKit Go.Shelf
attribute [local go_sem] Oper.semAt_some

/-- append onto what the call owns, at a step of a region that draws its order, whether or not something is appended. -/
theorem step_append_any {P : Program} (w : World) {ops : Array Oper} {o : Oper} {a : Act} {K : Act → World → Prop} {Q : Exit → Act → World → Prop} {E : Prop} (hgd : o.guard = none) (s x : Operand) (t : TypeId)
    (ho : o.op = .call { callee := .builtin .append, args := #[s, x], argTypes := #[t, t] })
    (base : Nat) (e : TypeId) (i : TypeInfo) (z : Value) (size bytes : Nat) (ht : P.underlying t = some (.slice e)) (hi : P.info? e = some i) (hz : i.zero = some z)
    (hsize : i.size = size) (hby : i.bytes = bytes) (hzs : z.cells.size = size) (hsz : 0 < size)
    (v : Value) (n : Nat) (xs : List Value) (hs : a.eval s = v) (hown : w.ownsRow base e size v n xs)
    (ad : Addr) (m c : Nat) (news : List Value) (hx : a.eval x = .slice (some ad) m c) (hl : news.length = m * size) (hnews : ∀ j u, news[j]? = some u → w.cell? (ad.add j) = some u) (h1 : ∀ u ∈ news, u.oneCell' = true)
    (h63 : n + m ≤ maxLen) (hbytes : (n + m) * bytes ≤ 140737488355328) (hbase : base ≤ w.heap.size)
    (h : ∀ v' w', w'.ownsRow base e size v' (n + m) (xs ++ news) → w.grownBy w' v.ownBlock → K (a.put o.dst v') w') :
    if Region.wanted o (yielded ops a.tmps) = true then Oper.wp P o a w K Q else E := by
  have hw : Region.wanted o (yielded ops a.tmps) = true := by simp [Region.wanted, hgd]
  rw [if_pos hw]
  exact wp_append_own w s x t ho base e i z size bytes ht hi hz hsize hby hzs hsz v n xs hs hown ad m c news hx hl hnews h1 h63 hbytes hbase fun v' w' h2 h3 _ => h v' w' h2 h3

theorem owns_slice {w : World} {base : Nat} {e : TypeId} {size : Nat} {v : Value} {n : Nat} {xs : List Value} (h : w.ownsRow base e size v n xs) : ∃ a c, v = .slice a n c := by
  rcases h.2 with ⟨e, e0⟩ | ⟨g, cap, cur, e, _⟩
  · exact ⟨none, 0, by rw [e, e0]⟩
  · exact ⟨_, cap, e⟩

theorem places_in (nn b : Nat) (fr : Bool) (w : World) :
    CallsIn Fence.wide nn Tryd.prog 32 #[.pointer (some ⟨b, 0, none⟩), .bool fr] w fun e w' => e = .returned (.func (.func 39) #[] #[.pointer (some ⟨w.heap.size, 0, none⟩), .pointer (some ⟨w.heap.size + 1, 0, none⟩)]) ∧
      w' = (w.alloc (.cells #[.pointer (some ⟨b, 0, none⟩)] 26)).alloc (.cells #[.bool fr] 4) := by
  refine callsIn_of_wp Tryd.func32 rfl trivial ?_ rfl
  simp only [Tryd.ntmps32, List.size_toArray, List.length_cons, List.length_nil, Nat.reduceAdd, Nat.reduceSub, Array.replicate_succ, Array.replicate_zero, List.push_toArray, List.append_toArray, List.nil_append, List.cons_append]
  gi_wp2
  go_ret
  exact ⟨by simp, rfl⟩

theorem kp_trans {n0 B2 : Nat} {fr : Bool} {A B C : World} (h : Kp n0 B2 fr A B) (h' : Kp n0 B2 fr B C) : Kp n0 B2 fr A C := ⟨h.1.trans h'.1, fun q => h'.2 (h.2 q)⟩
theorem kp_put {w : World} {n0 B2 : Nat} {fr : Bool} (hn : n0 ≤ w.heap.size) (W : World) (l : Nat) (o o' : Obj) (hl : w.heap.size ≤ l) (ho : W.heap[l]? = some o) (hc : o.isCells = false) (hw : o.isWalk = false) : Kp n0 B2 fr W (W.putObj l o') := by
  refine ⟨belowK_b hn W l o o' hl ho hc hw, fun q => q.kept (grownBy_putObj' W l o') (fun e => ?_)⟩
  cases e
  rw [show W.heap[B2]? = _ from q] at ho
  cases ho
  cases hc
theorem kp_append {W w1 : World} {n0 B B2 size : Nat} {fr : Bool} {t e : TypeId} {v v' : Value} {k m : Nat} {xs ys : List Value} {tmp : Obj} (hte : 4 ≠ e) (hte' : t ≠ e) (hv : Boxed W B t v) (hrow : W.ownsRow n0 e size v k xs) (hn0 : n0 ≤ W.heap.size) (hB : n0 ≤ B) (hne : B2 ≠ B)
    (hown' : w1.ownsRow n0 e size v' m ys) (hgrow : (W.alloc tmp).grownBy w1 v.ownBlock) : Kp n0 B2 fr W (w1.setCell ⟨B, 0, none⟩ v') := by
  refine ⟨(hv.appended hte' hrow hn0 hB hown' hgrow).2.2.2.2, fun q => ?_⟩
  have q1 := (q.alloc tmp).kept hgrow (q.not_row hte hrow)
  exact q1.kept (grownBy_setCell' w1 B v') (by simp [hne])

theorem places_stops (nn : Nat) (hn : 1 ≤ nn) (B1 B2 n0 b g n cp : Nat) (G S : Nat → Nat) (fr : Bool) (w : World) (hb1 : Boxed w B1 26 (.pointer (some ⟨b, 0, none⟩))) (hb2 : Boxed w B2 4 (.bool fr)) (hsl : w.cell? ⟨b, 0, none⟩ = some (.slice (some ⟨g, 0, none⟩) n cp)) (hr : Reads w g n G S) (hn1 : n ≤ 1024) (hbn : b < n0) (hgn : g < n0) (hn0 : n0 ≤ w.heap.size) :
    SeqStopsK Fence.wide nn Tryd.prog 39 #[.pointer (some ⟨B1, 0, none⟩), .pointer (some ⟨B2, 0, none⟩)] (fun x : Fin n => #[Value.int .i64 (x.val : Int)]) (Kp n0 B2 fr) (fun ys => ys = pl S fr n n) (fun pre => pre <+: pl S fr n n) (pl S fr n n).length w := by
  intro l J Jx W hW hJ hJx hY h0
  exact yields_in nn hn l B1 B2 n0 b g n cp G S fr J Jx (fun pre W o hh => hJ pre W _ none hh (World.grownBy_alloc W o none) (fun r e => by cases e)) hY W ((hW.cell (p := ⟨B1, 0, none⟩) hb1.lt).trans hb1.cell) ((hW.block B2 hb2.lt).trans hb2) ((hW.cell (p := ⟨b, 0, none⟩) (by simp; omega)).trans hsl) (hr.below (hW.mono hn0) hgn) hn1 hgn (Nat.le_trans hn0 hW.size) h0

set_option maxRecDepth 100000 in
set_option maxHeartbeats 2000000 in
theorem len_in (b g n : Nat) (G S : Nat → Nat) (w : World) (hq : Rep w b g n G S) :
    CallsIn Fence.wide 4 Tryd.prog 20 #[.pointer (some ⟨b, 0, none⟩)] w fun e W' => e = .returned (.int .i64 ((pl S false n n).length : Int)) ∧ Below w.heap.size w W' := by
  have hlb := hq.lt_b
  have hlg := hq.lt_g
  have hn := hq.n2
  obtain ⟨cp, hsl⟩ := hq.sl
  have hlen := pl_len S false n n
  have HQ := veil hq
  clear hq
  refine callsIn_of_wp_marks Tryd.func20 rfl trivial ?_ rfl
  simp only [Tryd.ntmps20, List.size_toArray, List.length_cons, List.length_nil, Nat.reduceAdd, Nat.reduceSub, Array.replicate_succ, Array.replicate_zero, List.push_toArray, List.append_toArray, List.nil_append, List.cons_append]
  gi_wp2_with (refine ⟨trivial, ?_⟩; gi_at_call 32; refine (places_in _ b false _).mono ?_; rintro e w' ⟨rfl, rfl⟩)
  have bC := Boxed.new w 3 (.int .i64 0)
  have b1 := Boxed.new (w.alloc (.cells #[.int .i64 0] 3)) 26 (.pointer (some ⟨b, 0, none⟩))
  have b2 := Boxed.new ((w.alloc (.cells #[.int .i64 0] 3)).alloc (.cells #[.pointer (some ⟨b, 0, none⟩)] 26)) 4 (.bool false)
  have hB0 : Below w.heap.size w (((w.alloc (.cells #[.int .i64 0] 3)).alloc (.cells #[.pointer (some ⟨b, 0, none⟩)] 26)).alloc (.cells #[.bool false] 4)) := (((Below.refl _ w).alloc (Nat.le_refl _) _).alloc (by simp) _).alloc (by simp; omega) _
  simp only [World.size_alloc] at b1 b2 ⊢
  refine wpIn_rangeFunc_ownG rfl (by decide) (gf := 39) (lb := #[.pointer (some ⟨w.heap.size + 1, 0, none⟩), .pointer (some ⟨w.heap.size + 1 + 1, 0, none⟩)]) rfl trivial (enters_of Tryd.func39 (by kernel_rfl) rfl)
    (places_stops 3 (by decide) (w.heap.size + 1) (w.heap.size + 1 + 1) w.heap.size b g n cp G S false _ (b1.alloc _) b2 ((hB0.cell (p := ⟨b, 0, none⟩) hlb).trans hsl) (HQ.out.reads.below hB0 hlg) hn hlb hlg hB0.size) kp_trans (kp_put hB0.size) (Below.refl _ _) (fun _ => rfl)
    (fun (pre : List (Fin n)) W => Boxed W w.heap.size 3 (.int .i64 (pre.length : Int)) ∧ Below w.heap.size w W)
    (fun _ _ _ => False)
    (OwnFrom.and (Own.from (boxed_own w.heap.size 3 (fun pre : List (Fin n) => .int .i64 (pre.length : Int))) _) (ownFrom_below (Nat.le_refl _) hB0.size))
    (fun _ _ _ _ _ hs _ _ => hs)
    ⟨(bC.alloc _).alloc _, hB0⟩
    (fun x => { tmps := #[.pointer (some ⟨b, 0, none⟩), undef, .int .i64 0, .pointer (some ⟨w.heap.size, 0, none⟩), .pointer (some ⟨b, 0, none⟩), .bool false, .pointer (some ⟨b, 0, none⟩), .func (.func 39) #[] #[.pointer (some ⟨w.heap.size + 1, 0, none⟩), .pointer (some ⟨w.heap.size + 1 + 1, 0, none⟩)], .int .i64 (x.val : Int), undef, undef, undef], defers := [] }) ?assign ?body ?done ?stop
  case assign =>
    intro l x W K hK
    gi_wp2
    simpa using hK
  case body =>
    rintro l pre x W ⟨hv, hB⟩ hlt
    have hc := hv.cell
    have hf := hv.frozen
    have hle : pre.length < 1024 := by omega
    gi_wp2
    refine ⟨(KeepsOthers.setCell _ _ _).from _, ⟨(Below.refl w.heap.size W).setCell (p := ⟨w.heap.size, 0, none⟩) (Nat.le_refl _) _, fun q => q.other (by omega) _⟩, ?_, hB.setCell (p := ⟨w.heap.size, 0, none⟩) (Nat.le_refl _) _⟩
    have := hv.set (.int .i64 ((pre.length : Int) + 1))
    simpa using this
  case done =>
    rintro D ys W hD rfl ⟨hv, hB⟩ hK
    have hc := hv.cell
    gi_wp2
    refine ⟨by simp, .inl ⟨_, _, rfl, run_takeDeferred hK, ?_⟩⟩
    exact ⟨_, results_tmp rfl _ _ _, rfl, hB.trans (belowK_b (w := w) (Nat.le_refl _) W D _ _ (by simp at hD; omega) hK rfl rfl)⟩
  case stop =>
    rintro D c pre W _ _ h _
    exact h.elim

theorem len_ok {w : World} {b g n : Nat} {G S : Nat → Nat} (hq : Rep w b g n G S) :
    Calls Tryd.prog 20 #[.pointer (some ⟨b, 0, none⟩)] w fun e W' => e = .returned (.int .i64 ((pl S false n n).length : Int)) ∧ Below w.heap.size w W' :=
  callsIn_wide.1 (len_in b g n G S w hq)

/-- The cells of some ids. -/
def idCells (G : Nat → Nat) {n : Nat} (l : List (Fin n)) : List Value := l.flatMap (fun x => [Value.int .i64 (x.val : Int), .int .u32 (G x.val : Int)])
theorem idCells_len (G : Nat → Nat) {n : Nat} : ∀ l : List (Fin n), (idCells G l).length = l.length * 2
  | [] => rfl
  | x :: l => by
    have := idCells_len G l
    unfold idCells at this ⊢
    simp only [List.flatMap_cons, List.length_append, List.length_cons, List.length_nil, this]
    omega
theorem idCells_snoc (G : Nat → Nat) {n : Nat} (l : List (Fin n)) (x : Fin n) : idCells G (l ++ [x]) = idCells G l ++ [.int .i64 (x.val : Int), .int .u32 (G x.val : Int)] := by unfold idCells; simp
theorem infoId : (Tryd.prog.info? 25).map (fun i => (i.zero, i.size, i.bytes)) = some (some (.agg #[.int .i64 0, .int .u32 0]), 2, 16) := by kernel_rfl

set_option maxRecDepth 100000 in
set_option maxHeartbeats 2000000 in
theorem live_in (b g n : Nat) (G S : Nat → Nat) (w : World) (hq : Rep w b g n G S) :
    CallsIn Fence.wide 4 Tryd.prog 16 #[.pointer (some ⟨b, 0, none⟩)] w fun e W' => ∃ v, e = .returned v ∧ W'.ownsRow w.heap.size 25 2 v (pl S false n n).length (idCells G (pl S false n n)) ∧ Below w.heap.size w W' := by
  have hlb := hq.lt_b
  have hlg := hq.lt_g
  have hn := hq.n2
  obtain ⟨cp, hsl⟩ := hq.sl
  have hlen := pl_len S false n n
  have HQ := veil hq
  clear hq
  obtain ⟨i0, hi, hz0, hz1, hz2⟩ := info_parts infoId
  refine callsIn_of_wp_marks Tryd.func16 rfl trivial ?_ rfl
  simp only [Tryd.ntmps16, List.size_toArray, List.length_cons, List.length_nil, Nat.reduceAdd, Nat.reduceSub, Array.replicate_succ, Array.replicate_zero, List.push_toArray, List.append_toArray, List.nil_append, List.cons_append]
  gi_wp2_with (refine ⟨trivial, ?_⟩; gi_at_call 32; refine (places_in _ b false _).mono ?_; rintro e w' ⟨rfl, rfl⟩)
  have bT := Boxed.new w 26 (.pointer (some ⟨b, 0, none⟩))
  have bO := Boxed.new (w.alloc (.cells #[.pointer (some ⟨b, 0, none⟩)] 26)) 35 (.slice none 0 0)
  have b1 := Boxed.new ((w.alloc (.cells #[.pointer (some ⟨b, 0, none⟩)] 26)).alloc (.cells #[.slice none 0 0] 35)) 26 (.pointer (some ⟨b, 0, none⟩))
  have b2 := Boxed.new (((w.alloc (.cells #[.pointer (some ⟨b, 0, none⟩)] 26)).alloc (.cells #[.slice none 0 0] 35)).alloc (.cells #[.pointer (some ⟨b, 0, none⟩)] 26)) 4 (.bool false)
  have hB0 : Below w.heap.size w ((((w.alloc (.cells #[.pointer (some ⟨b, 0, none⟩)] 26)).alloc (.cells #[.slice none 0 0] 35)).alloc (.cells #[.pointer (some ⟨b, 0, none⟩)] 26)).alloc (.cells #[.bool false] 4)) := ((((Below.refl _ w).alloc (Nat.le_refl _) _).alloc (by simp) _).alloc (by simp; omega) _).alloc (by simp; omega) _
  simp only [World.size_alloc] at bO b1 b2 ⊢
  refine wpIn_rangeFunc_ownG rfl (by decide) (gf := 39) (lb := #[.pointer (some ⟨w.heap.size + 1 + 1, 0, none⟩), .pointer (some ⟨w.heap.size + 1 + 1 + 1, 0, none⟩)]) rfl trivial (enters_of Tryd.func39 (by kernel_rfl) rfl)
    (places_stops 3 (by decide) (w.heap.size + 1 + 1) (w.heap.size + 1 + 1 + 1) w.heap.size b g n cp G S false _ (b1.alloc _) b2 ((hB0.cell (p := ⟨b, 0, none⟩) hlb).trans hsl) (HQ.out.reads.below hB0 hlg) hn hlb hlg hB0.size) kp_trans (kp_put hB0.size) (Below.refl _ _) (fun _ => rfl)
    (fun (pre : List (Fin n)) W => ((∃ v, Boxed W (w.heap.size + 1) 35 v ∧ W.ownsRow w.heap.size 25 2 v pre.length (idCells G pre) ∧ True) ∧ Boxed W w.heap.size 26 (.pointer (some ⟨b, 0, none⟩))) ∧ Below w.heap.size w W)
    (fun _ _ _ => False)
    (OwnFrom.and (OwnFrom.and (Own.from (holdsRow_own w.heap.size (w.heap.size + 1) 35 25 2 (fun pre : List (Fin n) => pre.length) (fun pre : List (Fin n) => idCells G pre) (fun _ _ => True)) _) (Own.from (boxed_own w.heap.size 26 (fun _ : List (Fin n) => .pointer (some ⟨b, 0, none⟩))) _)) (ownFrom_below (Nat.le_refl _) hB0.size))
    (fun _ _ _ _ _ hs _ _ => hs)
    ⟨⟨⟨_, (bO.alloc _).alloc _, World.ownsRow_nil _ _ _ _, trivial⟩, ((bT.alloc _).alloc _).alloc _⟩, hB0⟩
    (fun x => { tmps := #[.pointer (some ⟨b, 0, none⟩), .pointer (some ⟨w.heap.size, 0, none⟩), .slice none 0 0, .pointer (some ⟨w.heap.size + 1, 0, none⟩), .int .i64 (x.val : Int), .pointer (some ⟨b, 0, none⟩), .bool false, .pointer (some ⟨b, 0, none⟩), .func (.func 39) #[] #[.pointer (some ⟨w.heap.size + 1 + 1, 0, none⟩), .pointer (some ⟨w.heap.size + 1 + 1 + 1, 0, none⟩)], .int .i64 (x.val : Int), undef, undef, undef, undef, undef, undef, undef, undef, undef, undef, undef, undef, undef, undef], defers := [] }) ?assign ?body ?done ?stop
  case assign =>
    intro l x W K hK
    gi_wp2
    exact hK
  case body =>
    rintro l pre x W ⟨⟨⟨v, hv, hrow, _⟩, hbt⟩, hB⟩ hlt
    obtain ⟨a0, c0, rfl⟩ := owns_slice hrow
    have hc := hv.cell
    have hf := hv.frozen
    have hct := hbt.cell
    have hsz := hB.size
    have hxn := x.isLt
    have hsl1 := (hB.cell (p := ⟨b, 0, none⟩) hlb).trans hsl
    have hg1 := (hB.cell (p := ⟨g, x.val * 2, none⟩) hlg).trans (HQ.out.gn x.val hxn)
    have HU := veil Tryd.underlying35
    have HL : Hid ((W.drew.alloc (.cells #[.int .i64 (x.val : Int), .int .u32 (G x.val : Int)] 25)).ownsRow w.heap.size 25 2 (.slice a0 pre.length c0) pre.length (idCells G pre)) := by
      have := hrow.alloc (.cells #[.int .i64 (x.val : Int), .int .u32 (G x.val : Int)] 25)
      exact this
    have HN : Hid (∀ j u, [Value.int .i64 (x.val : Int), .int .u32 (G x.val : Int)][j]? = some u → (W.drew.alloc (.cells #[.int .i64 (x.val : Int), .int .u32 (G x.val : Int)] 25)).cell? ((⟨W.heap.size, 0, none⟩ : Addr).add j) = some u) := by
      intro j u hu
      have hadd : (⟨W.heap.size, 0, none⟩ : Addr).add j = ⟨W.heap.size, j, none⟩ := by unfold Addr.add; split <;> simp_all
      rw [hadd]
      have := cell_new W.drew #[.int .i64 (x.val : Int), .int .u32 (G x.val : Int)] 25 j
      rw [show W.drew.heap.size = W.heap.size from rfl] at this
      rw [this]
      simpa using hu
    have HF : Hid (∀ (w1 : World) (v' : Value), w1.ownsRow w.heap.size 25 2 v' (pre.length + 1) (idCells G pre ++ [.int .i64 (x.val : Int), .int .u32 (G x.val : Int)]) → (W.drew.alloc (.cells #[.int .i64 (x.val : Int), .int .u32 (G x.val : Int)] 25)).grownBy w1 (Value.ownBlock (.slice a0 pre.length c0)) →
        w1.cell? ⟨w.heap.size + 1, 0, none⟩ = some (.slice a0 pre.length c0) ∧ w1.frozen? ⟨w.heap.size + 1, 0, none⟩ = false ∧
        (w1.cell? ⟨w.heap.size, 0, none⟩ = some (.pointer (some ⟨b, 0, none⟩)) ∧ w1.cell? ⟨b, 0, none⟩ = some (.slice (some ⟨g, 0, none⟩) n cp) ∧ w1.cell? ⟨g, x.val * 2, none⟩ = some (.int .u32 (G x.val : Int))) ∧
        ((w1.setCell ⟨w.heap.size + 1, 0, none⟩ v').cell? ⟨w.heap.size, 0, none⟩ = some (.pointer (some ⟨b, 0, none⟩)) ∧ (w1.setCell ⟨w.heap.size + 1, 0, none⟩ v').cell? ⟨b, 0, none⟩ = some (.slice (some ⟨g, 0, none⟩) n cp) ∧ (w1.setCell ⟨w.heap.size + 1, 0, none⟩ v').cell? ⟨g, x.val * 2, none⟩ = some (.int .u32 (G x.val : Int))) ∧
        (KeepsFrom ((((w.alloc (.cells #[.pointer (some ⟨b, 0, none⟩)] 26)).alloc (.cells #[.slice none 0 0] 35)).alloc (.cells #[.pointer (some ⟨b, 0, none⟩)] 26)).alloc (.cells #[.bool false] 4)).heap.size W (w1.setCell ⟨w.heap.size + 1, 0, none⟩ v') ∧ Kp w.heap.size (w.heap.size + 1 + 1 + 1) false W (w1.setCell ⟨w.heap.size + 1, 0, none⟩ v') ∧
          ((∃ v, Boxed (w1.setCell ⟨w.heap.size + 1, 0, none⟩ v') (w.heap.size + 1) 35 v ∧ (w1.setCell ⟨w.heap.size + 1, 0, none⟩ v').ownsRow w.heap.size 25 2 v (pre ++ [x]).length (idCells G (pre ++ [x])) ∧ True) ∧ Boxed (w1.setCell ⟨w.heap.size + 1, 0, none⟩ v') w.heap.size 26 (.pointer (some ⟨b, 0, none⟩))) ∧ Below w.heap.size w (w1.setCell ⟨w.heap.size + 1, 0, none⟩ v'))) := by
      intro w1 v' ho hg
      have hgW : (W.alloc (.cells #[.int .i64 (x.val : Int), .int .u32 (G x.val : Int)] 25)).grownBy w1 (Value.ownBlock (.slice a0 pre.length c0)) := ⟨hg.os, hg.tape, hg.output, hg.size, hg.block⟩
      obtain ⟨hv1, hv2, hr2, hk2, hb2⟩ := hv.appended (by decide) hrow hsz (by omega) ho hgW
      have hkp := kp_append (B2 := w.heap.size + 1 + 1 + 1) (fr := false) (by decide) (by decide) hv hrow hsz (by omega) (by omega) ho hgW
      have hbt1 := (hbt.alloc (.cells #[.int .i64 (x.val : Int), .int .u32 (G x.val : Int)] 25)).kept hgW (hbt.not_row (by decide) hrow)
      have hbt2 : Boxed (w1.setCell ⟨w.heap.size + 1, 0, none⟩ v') w.heap.size 26 (.pointer (some ⟨b, 0, none⟩)) := hbt1.other (by omega) _
      have hbw := hB.trans hb2
      have hw1 : Below w.heap.size W w1 := by
        refine ((Below.refl w.heap.size W).alloc hsz (.cells #[.int .i64 (x.val : Int), .int .u32 (G x.val : Int)] 25)).trans ⟨hgW.os, hgW.tape, hgW.output, hgW.size, fun k hk => hgW.block k (Nat.lt_of_lt_of_le hk (by simp; omega)) (fun e => ?_)⟩
        have := (hrow.lt k e.symm).1
        omega
      have hbw1 := hB.trans hw1
      refine ⟨hv1.cell, hv1.frozen, ⟨hbt1.cell, (hbw1.cell (p := ⟨b, 0, none⟩) hlb).trans hsl, (hbw1.cell (p := ⟨g, x.val * 2, none⟩) hlg).trans (HQ.out.gn x.val hxn)⟩, ⟨hbt2.cell, (hbw.cell (p := ⟨b, 0, none⟩) hlb).trans hsl, (hbw.cell (p := ⟨g, x.val * 2, none⟩) hlg).trans (HQ.out.gn x.val hxn)⟩, hk2.from _, hkp, ⟨⟨_, hv2, by rw [idCells_snoc]; simpa using hr2, trivial⟩, hbt2⟩, hbw⟩
    have hple : pre.length < 1024 := by omega
    have hcA := (hv.alloc (.cells #[.int .i64 (x.val : Int), .int .u32 (G x.val : Int)] 25)).cell
    have yA : ¬ w.heap.size + 1 = W.heap.size := by have := hv.lt; omega
    have HA : Hid ((W.alloc (.cells #[.int .i64 (x.val : Int), .int .u32 (G x.val : Int)] 25)).cell? ⟨w.heap.size, 0, none⟩ = some (.pointer (some ⟨b, 0, none⟩)) ∧ (W.alloc (.cells #[.int .i64 (x.val : Int), .int .u32 (G x.val : Int)] 25)).cell? ⟨b, 0, none⟩ = some (.slice (some ⟨g, 0, none⟩) n cp) ∧ (W.alloc (.cells #[.int .i64 (x.val : Int), .int .u32 (G x.val : Int)] 25)).cell? ⟨g, x.val * 2, none⟩ = some (.int .u32 (G x.val : Int))) :=
      ⟨(hbt.alloc _).cell, (World.cell?_alloc_lt _ _ _ (by simp; omega)).trans hsl1, (World.cell?_alloc_lt _ _ _ (by simp; omega)).trans hg1⟩
    clear hv hrow hbt hB
    gi_wp2
    refine region_round (fun w' => w'.cell? ⟨w.heap.size, 0, none⟩ = some (.pointer (some ⟨b, 0, none⟩)) ∧ w'.cell? ⟨b, 0, none⟩ = some (.slice (some ⟨g, 0, none⟩) n cp) ∧ w'.cell? ⟨g, x.val * 2, none⟩ = some (.int .u32 (G x.val : Int))) (by kernel_rfl) (by kernel_rfl) (by rintro ⟨a, w, h⟩; exact h) ⟨hct, hsl1, hg1⟩ (fun hHeld => ?_)
    refine wpAnyH_take (i := 1) (v := ?_) rfl (by kernel_rfl) (by kernel_rfl) (by kernel_rfl) (fun _ _ _ h => h) (Or.inl ⟨by rfl, ?v1⟩) (by assumption) ?_
    case v1 => (intro w hSw; (try dsimp only at hSw); go_simp; try with_reducible rfl)
    try simp only [Act.put, List.setIfInBounds_toArray, List.set_cons_zero, List.set_cons_succ, List.getElem_toArray, List.getElem_cons_succ, List.getElem_cons_zero]
    refine wpAnyH_take (i := 2) (v := ?_) rfl (by kernel_rfl) (by kernel_rfl) (by kernel_rfl) (fun _ _ _ h => h) (Or.inl ⟨by rfl, ?v2⟩) (by assumption) ?_
    case v2 => (intro w hSw; (try dsimp only at hSw); go_simp; try with_reducible rfl)
    try simp only [Act.put, List.setIfInBounds_toArray, List.set_cons_zero, List.set_cons_succ, List.getElem_toArray, List.getElem_cons_succ, List.getElem_cons_zero]
    refine wpAnyH_take (i := 3) (v := ?_) rfl (by kernel_rfl) (by kernel_rfl) (by kernel_rfl) (fun _ _ _ h => h) (Or.inl ⟨by rfl, ?v3⟩) (by assumption) ?_
    case v3 => (intro w hSw; (try dsimp only at hSw); go_simp; try with_reducible rfl)
    try simp only [Act.put, List.setIfInBounds_toArray, List.set_cons_zero, List.set_cons_succ, List.getElem_toArray, List.getElem_cons_succ, List.getElem_cons_zero]
    refine wpAnyH_take (i := 4) (v := ?_) rfl (by kernel_rfl) (by kernel_rfl) (by kernel_rfl) (fun _ _ _ h => h) (Or.inl ⟨by rfl, ?v4⟩) (by assumption) ?_
    case v4 => (intro w hSw; (try dsimp only at hSw); go_simp; try with_reducible rfl)
    try simp only [Act.put, List.setIfInBounds_toArray, List.set_cons_zero, List.set_cons_succ, List.getElem_toArray, List.getElem_cons_succ, List.getElem_cons_zero]
    refine wpAnyH_take (i := 5) (v := ?_) rfl (by kernel_rfl) (by kernel_rfl) (by kernel_rfl) (fun _ _ _ h => h) (Or.inl ⟨by rfl, ?v5⟩) (by assumption) ?_
    case v5 => (intro w hSw; (try dsimp only at hSw); go_simp; try with_reducible rfl)
    try simp only [Act.put, List.setIfInBounds_toArray, List.set_cons_zero, List.set_cons_succ, List.getElem_toArray, List.getElem_cons_succ, List.getElem_cons_zero]
    refine wpAnyH_take (i := 6) (v := ?_) rfl (by kernel_rfl) (by kernel_rfl) (by kernel_rfl) (fun _ _ _ h => h) (Or.inl ⟨by rfl, ?v6⟩) (by assumption) ?_
    case v6 => (intro w hSw; (try dsimp only at hSw); go_simp; try with_reducible rfl)
    try simp only [Act.put, List.setIfInBounds_toArray, List.set_cons_zero, List.set_cons_succ, List.getElem_toArray, List.getElem_cons_succ, List.getElem_cons_zero]
    refine wpAnyH_take (i := 7) (v := ?_) rfl (by kernel_rfl) (by kernel_rfl) (by kernel_rfl) (fun _ _ _ h => h) (Or.inl ⟨by rfl, ?v7⟩) (by assumption) ?_
    case v7 => (intro w hSw; (try dsimp only at hSw); go_simp; try with_reducible rfl)
    try simp only [Act.put, List.setIfInBounds_toArray, List.set_cons_zero, List.set_cons_succ, List.getElem_toArray, List.getElem_cons_succ, List.getElem_cons_zero]
    refine wpAnyH_take (i := 8) (v := ?_) rfl (by kernel_rfl) (by kernel_rfl) (by kernel_rfl) (fun _ _ _ h => h) (Or.inl ⟨by rfl, ?v8⟩) (by assumption) ?_
    case v8 => (intro w hSw; (try dsimp only at hSw); go_simp; try with_reducible rfl)
    try simp only [Act.put, List.setIfInBounds_toArray, List.set_cons_zero, List.set_cons_succ, List.getElem_toArray, List.getElem_cons_succ, List.getElem_cons_zero]
    refine wpAnyH_take (i := 9) (v := ?_) rfl (by kernel_rfl) (by kernel_rfl) (by kernel_rfl) (fun _ _ _ h => h) (Or.inl ⟨by rfl, ?v9⟩) (by assumption) ?_
    case v9 => (intro w hSw; (try dsimp only at hSw); go_simp; try with_reducible rfl)
    try simp only [Act.put, List.setIfInBounds_toArray, List.set_cons_zero, List.set_cons_succ, List.getElem_toArray, List.getElem_cons_succ, List.getElem_cons_zero]
    refine wpAnyH_take (i := 10) (v := ?_) rfl (by kernel_rfl) (by kernel_rfl) (by kernel_rfl) (fun _ _ _ h => h) (Or.inl ⟨by rfl, ?v10⟩) (by assumption) ?_
    case v10 => (intro w hSw; (try dsimp only at hSw); go_simp; try with_reducible rfl)
    try simp only [Act.put, List.setIfInBounds_toArray, List.set_cons_zero, List.set_cons_succ, List.getElem_toArray, List.getElem_cons_succ, List.getElem_cons_zero]
    refine wpAnyH_ready (rs := [0, 11]) (by kernel_rfl) (by simp) ?_
    refine AllReadyH.cons rfl (fun K hK => ?_) (AllReadyH.cons rfl (fun K hK => ?_) AllReadyH.nil)
    · skip
      go_simp
      refine hK.out _ _ ?_ (fun hHeld => ?_)
      · first | exact hHeld | exact HA.out
      clear hK K
      try simp only [Act.put, List.setIfInBounds_toArray, List.set_cons_zero, List.set_cons_succ, List.getElem_toArray, List.getElem_cons_succ, List.getElem_cons_zero]
      refine wpAnyH_ready (rs := [11]) (by kernel_rfl) (by simp) ?_
      refine AllReadyH.cons rfl (fun K hK => ?_) AllReadyH.nil
      go_simp
      refine hK.out _ _ ?_ (fun hHeld => ?_)
      · first | exact hHeld | exact HA.out
      clear hK K
      try simp only [Act.put, List.setIfInBounds_toArray, List.set_cons_zero, List.set_cons_succ, List.getElem_toArray, List.getElem_cons_succ, List.getElem_cons_zero]
      refine wpAnyH_ready (rs := [12]) (by kernel_rfl) (by simp) ?_
      refine AllReadyH.cons rfl (fun K hK => ?_) AllReadyH.nil
      refine step_append_any _ (by rfl) _ _ _ (by rfl) w.heap.size 25 i0 (.agg #[.int .i64 0, .int .u32 0]) 2 16 HU.out hi hz0 hz1 hz2 rfl (by omega) _ _ _ (by rfl) HL.out ⟨W.heap.size, 0, none⟩ 1 1 [.int .i64 (x.val : Int), .int .u32 (G x.val : Int)] (by rfl) rfl HN.out (by simp [Value.oneCell']) (by unfold maxLen; omega) (by omega) (by simp; omega) ?_
      intro v' w1 hown' hgrow'
      obtain ⟨g', cap', rfl⟩ := ownsRow_succ hown'
      have HX := veil (HF.out _ _ hown' hgrow')
      have hc1 := HX.out.1
      have hf1 := HX.out.2.1
      refine hK.out _ _ ?_ (fun hHeld => ?_)
      · exact HX.out.2.2.1
      clear hK K
      try simp only [Act.put, List.setIfInBounds_toArray, List.set_cons_zero, List.set_cons_succ, List.getElem_toArray, List.getElem_cons_succ, List.getElem_cons_zero]
      refine wpAnyH_ready (rs := [13]) (by kernel_rfl) (by simp) ?_
      refine AllReadyH.cons rfl (fun K hK => ?_) AllReadyH.nil
      go_simp
      refine hK.out _ _ ?_ (fun hHeld => ?_)
      · exact HX.out.2.2.2.1
      clear hK K
      try simp only [Act.put, List.setIfInBounds_toArray, List.set_cons_zero, List.set_cons_succ, List.getElem_toArray, List.getElem_cons_succ, List.getElem_cons_zero]
      refine wpAnyH_done (by kernel_rfl) ?_ _
      gi_wp2
      exact HX.out.2.2.2.2
    · skip
      go_simp
      refine hK.out _ _ ?_ (fun hHeld => ?_)
      · first | exact hHeld | exact HA.out
      clear hK K
      try simp only [Act.put, List.setIfInBounds_toArray, List.set_cons_zero, List.set_cons_succ, List.getElem_toArray, List.getElem_cons_succ, List.getElem_cons_zero]
      refine wpAnyH_ready (rs := [0]) (by kernel_rfl) (by simp) ?_
      refine AllReadyH.cons rfl (fun K hK => ?_) AllReadyH.nil
      go_simp
      refine hK.out _ _ ?_ (fun hHeld => ?_)
      · first | exact hHeld | exact HA.out
      clear hK K
      try simp only [Act.put, List.setIfInBounds_toArray, List.set_cons_zero, List.set_cons_succ, List.getElem_toArray, List.getElem_cons_succ, List.getElem_cons_zero]
      refine wpAnyH_ready (rs := [12]) (by kernel_rfl) (by simp) ?_
      refine AllReadyH.cons rfl (fun K hK => ?_) AllReadyH.nil
      refine step_append_any _ (by rfl) _ _ _ (by rfl) w.heap.size 25 i0 (.agg #[.int .i64 0, .int .u32 0]) 2 16 HU.out hi hz0 hz1 hz2 rfl (by omega) _ _ _ (by rfl) HL.out ⟨W.heap.size, 0, none⟩ 1 1 [.int .i64 (x.val : Int), .int .u32 (G x.val : Int)] (by rfl) rfl HN.out (by simp [Value.oneCell']) (by unfold maxLen; omega) (by omega) (by simp; omega) ?_
      intro v' w1 hown' hgrow'
      obtain ⟨g', cap', rfl⟩ := ownsRow_succ hown'
      have HX := veil (HF.out _ _ hown' hgrow')
      have hc1 := HX.out.1
      have hf1 := HX.out.2.1
      refine hK.out _ _ ?_ (fun hHeld => ?_)
      · exact HX.out.2.2.1
      clear hK K
      try simp only [Act.put, List.setIfInBounds_toArray, List.set_cons_zero, List.set_cons_succ, List.getElem_toArray, List.getElem_cons_succ, List.getElem_cons_zero]
      refine wpAnyH_ready (rs := [13]) (by kernel_rfl) (by simp) ?_
      refine AllReadyH.cons rfl (fun K hK => ?_) AllReadyH.nil
      go_simp
      refine hK.out _ _ ?_ (fun hHeld => ?_)
      · exact HX.out.2.2.2.1
      clear hK K
      try simp only [Act.put, List.setIfInBounds_toArray, List.set_cons_zero, List.set_cons_succ, List.getElem_toArray, List.getElem_cons_succ, List.getElem_cons_zero]
      refine wpAnyH_done (by kernel_rfl) ?_ _
      gi_wp2
      exact HX.out.2.2.2.2
  case done =>
    rintro D ys W hD rfl ⟨⟨⟨v, hv, hrow, _⟩, hbt⟩, hB⟩ hK
    have hc := hv.cell
    gi_wp2
    refine ⟨by simp, .inl ⟨_, _, rfl, run_takeDeferred hK, ?_⟩⟩
    exact ⟨_, results_tmp rfl _ _ _, v, rfl, ownsRow_putObj hrow _ hK rfl, hB.trans (belowK_b (w := w) (Nat.le_refl _) W D _ _ (by simp at hD; omega) hK rfl rfl)⟩
  case stop =>
    rintro D c pre W _ _ h _
    exact h.elim
theorem live_ok {w : World} {b g n : Nat} {G S : Nat → Nat} (hq : Rep w b g n G S) :
    Calls Tryd.prog 16 #[.pointer (some ⟨b, 0, none⟩)] w fun e W' => ∃ v, e = .returned v ∧ W'.ownsRow w.heap.size 25 2 v (pl S false n n).length (idCells G (pl S false n n)) ∧ Below w.heap.size w W' :=
  callsIn_wide.1 (live_in b g n G S w hq)
end Go.Proofs.YtfhnepoegdhjmaaDoor
