/-
  The walk of List: the ids of a level, gathered.
-/
import Derived.Test.YthehnicmjiidiaaE5
namespace Go.Proofs.Ythehnicmjiidiaa
open Go.RowKit Go.Shelf
attribute [local go_sem] Oper.semAt_some

theorem infoInt : (Try.prog.info? 3).map (fun i => (i.zero, i.size, i.bytes)) = some (some (.int .i64 0), 1, 8) := by kernel_rfl

theorem ids_in (nn b lv : Nat) (w : World) :
    CallsIn Fence.wide nn Try.prog 35 #[.pointer (some ⟨b, 0, none⟩), .int .u8 lv] w fun e w' => e = .returned (.func (.func 45) #[] #[.pointer (some ⟨w.heap.size, 0, none⟩), .pointer (some ⟨w.heap.size + 1, 0, none⟩)]) ∧
      w' = (w.alloc (.cells #[.pointer (some ⟨b, 0, none⟩)] 25)).alloc (.cells #[.int .u8 lv] 5) := by
  refine callsIn_of_wp Try.func35 rfl trivial ?_ rfl
  simp only [Try.ntmps35, List.size_toArray, List.length_cons, List.length_nil, Nat.reduceAdd, Nat.reduceSub, Array.replicate_succ, Array.replicate_zero, List.push_toArray, List.append_toArray, List.nil_append, List.cons_append]
  gi_wp2
  go_ret
  exact ⟨by simp, rfl⟩

theorem kp_trans {n0 B1 b : Nat} {A B C : World} (h : Kp n0 B1 b A B) (h' : Kp n0 B1 b B C) : Kp n0 B1 b A C := ⟨h.1.trans h'.1, fun q => h'.2 (h.2 q)⟩
theorem kp_put {w : World} {n0 B1 b : Nat} (hn : n0 ≤ w.heap.size) (W : World) (l : Nat) (o o' : Obj) (hl : w.heap.size ≤ l) (ho : W.heap[l]? = some o) (hc : o.isCells = false) (hw : o.isWalk = false) : Kp n0 B1 b W (W.putObj l o') := by
  refine ⟨belowK_b hn W l o o' hl ho hc hw, fun q => q.kept (grownBy_putObj' W l o') (fun e => ?_)⟩
  cases e
  rw [show W.heap[B1]? = _ from q] at ho
  cases ho
  cases hc
/-- The queue's pointer stays in its box while another box is written and a row grows. -/
theorem kp_append {W w1 : World} {n0 B B1 b : Nat} {v v' : Value} {k m : Nat} {xs ys : List Value} {tmp : Obj} (hv : Boxed W B 40 v) (hrow : W.ownsRow n0 3 1 v k xs) (hn0 : n0 ≤ W.heap.size) (hB : n0 ≤ B) (hne : B1 ≠ B)
    (hown' : w1.ownsRow n0 3 1 v' m ys) (hgrow : (W.alloc tmp).grownBy w1 v.ownBlock) : Kp n0 B1 b W (w1.setCell ⟨B, 0, none⟩ v') := by
  refine ⟨(hv.appended (by decide) hrow hn0 hB hown' hgrow).2.2.2.2, fun q => ?_⟩
  have q1 := (q.alloc tmp).kept hgrow (q.not_row (by decide) hrow)
  exact q1.kept (grownBy_setCell' w1 B v') (by simp [hne])

theorem ids_stops (nn : Nat) (hn : 1 ≤ nn) (B1 B2 n0 b g n lv : Nat) (R : List (Nat × Nat)) (w : World) (hlv : lv < 256) (hb1 : Boxed w B1 25 (.pointer (some ⟨b, 0, none⟩))) (hb2 : Boxed w B2 5 (.int .u8 lv)) (hr : Reads w b g n R lv) (hnd : (QL R lv).Nodup) (hsp : ∀ s ∈ QL R lv, 1 ≤ s ∧ s ≤ n) (hn1 : n ≤ 1024) (hbn : b < n0) (hgn : g < n0) (hn0 : n0 ≤ w.heap.size) :
    SeqStopsK Fence.wide nn Try.prog 45 #[.pointer (some ⟨B1, 0, none⟩), .pointer (some ⟨B2, 0, none⟩)] (fun x : Int => #[Value.int .i64 x]) (Kp n0 B1 b) (fun ys => ys = idsOf R lv) (fun pre => pre <+: idsOf R lv) (idsOf R lv).length w := by
  intro l J Jx W hW hJ hJx hY h0
  refine yields_in nn hn l B1 B2 n0 b g n lv R J Jx hY W hlv ((hW.block B1 hb1.lt).trans hb1) ((hW.cell (p := ⟨B2, 0, none⟩) hb2.lt).trans hb2.cell) (hr.below (hW.mono hn0) hbn hgn) hnd hsp hn1 hbn hgn (fun q => ?_)
  exact hJ [] W (W.drewN q) none h0 ⟨rfl, rfl, rfl, Nat.le_refl _, fun _ _ _ => rfl⟩ (fun r e => by cases e)

set_option maxRecDepth 100000 in
set_option maxHeartbeats 2000000 in
theorem list_in (b g n lv : Nat) (R : List (Nat × Nat)) (w : World) (hq : IsQ w b g n R) (hlv : lv < 256) :
    CallsIn Fence.wide 4 Try.prog 17 #[.pointer (some ⟨b, 0, none⟩), .int .u8 lv] w fun e W' => ∃ v, e = .returned v ∧ W'.ownsRow w.heap.size 3 1 v (idsOf R lv).length ((idsOf R lv).map (Value.int .i64)) ∧ Below w.heap.size w W' := by
  obtain ⟨hre, hnd, hsp⟩ := hq.reads lv hlv
  have hbg := hq.blocks
  have hn := hq.len_le.2
  have hlen : (idsOf R lv).length ≤ 1024 := by
    unfold idsOf QL
    rw [List.length_map, List.length_map]
    have := List.length_filter_le (fun it : Nat × Nat => it.2 == lv) R
    have := hq.len_le.1
    omega
  have HQ := veil hq
  clear hq
  obtain ⟨i0, hi, hz0, hz1, hz2⟩ := info_parts infoInt
  refine callsIn_of_wp_marks Try.func17 rfl trivial ?_ rfl
  simp only [Try.ntmps17, List.size_toArray, List.length_cons, List.length_nil, Nat.reduceAdd, Nat.reduceSub, Array.replicate_succ, Array.replicate_zero, List.push_toArray, List.append_toArray, List.nil_append, List.cons_append]
  gi_wp2_with (refine ⟨trivial, ?_⟩; gi_at_call 35; refine (ids_in _ b lv _).mono ?_; rintro e w' ⟨rfl, rfl⟩)
  have bO := Boxed.new w 40 (.slice none 0 0)
  have b1 := Boxed.new (w.alloc (.cells #[.slice none 0 0] 40)) 25 (.pointer (some ⟨b, 0, none⟩))
  have b2 := Boxed.new ((w.alloc (.cells #[.slice none 0 0] 40)).alloc (.cells #[.pointer (some ⟨b, 0, none⟩)] 25)) 5 (.int .u8 lv)
  have hB0 : Below w.heap.size w (((w.alloc (.cells #[.slice none 0 0] 40)).alloc (.cells #[.pointer (some ⟨b, 0, none⟩)] 25)).alloc (.cells #[.int .u8 lv] 5)) := (((Below.refl _ w).alloc (Nat.le_refl _) _).alloc (by simp) _).alloc (by simp; omega) _
  simp only [World.size_alloc] at b1 b2 ⊢
  refine wpIn_rangeFunc_ownG rfl (by decide) (gf := 45) (lb := #[.pointer (some ⟨w.heap.size + 1, 0, none⟩), .pointer (some ⟨w.heap.size + 1 + 1, 0, none⟩)]) rfl trivial (enters_of Try.func45 (by kernel_rfl) rfl)
    (ids_stops 3 (by decide) (w.heap.size + 1) (w.heap.size + 1 + 1) w.heap.size b g n lv R _ hlv (b1.alloc _) b2 (hre.below hB0 hbg.1 hbg.2.1) hnd hsp hn hbg.1 hbg.2.1 hB0.size) kp_trans (kp_put hB0.size) (Below.refl _ _) (fun _ => rfl)
    (fun (pre : List Int) W => (∃ v, Boxed W w.heap.size 40 v ∧ W.ownsRow w.heap.size 3 1 v pre.length (pre.map (Value.int .i64)) ∧ True) ∧ Below w.heap.size w W)
    (fun _ _ _ => False)
    (OwnFrom.and (Own.from (holdsRow_own w.heap.size w.heap.size 40 3 1 (fun pre : List Int => pre.length) (fun pre : List Int => pre.map (Value.int .i64)) (fun _ _ => True)) _) (ownFrom_below (Nat.le_refl _) hB0.size))
    (fun _ _ _ _ _ hs _ _ => hs)
    ⟨⟨_, (bO.alloc _).alloc _, World.ownsRow_nil _ _ _ _, trivial⟩, hB0⟩
    (fun x => { tmps := #[.pointer (some ⟨b, 0, none⟩), .int .u8 lv, undef, undef, .slice none 0 0, .pointer (some ⟨w.heap.size, 0, none⟩), .int .i64 x, .pointer (some ⟨b, 0, none⟩), .bool false, .pointer (some ⟨b, 0, none⟩), .int .u8 lv, .func (.func 45) #[] #[.pointer (some ⟨w.heap.size + 1, 0, none⟩), .pointer (some ⟨w.heap.size + 1 + 1, 0, none⟩)], .int .i64 x, undef, undef, undef, undef, undef], defers := [] }) ?assign ?body ?done ?stop
  case assign =>
    intro l x W K hK
    gi_wp2
    exact hK
  case body =>
    rintro l pre x W ⟨⟨v, hv, hrow, _⟩, hB⟩ hlt
    have hc := hv.cell
    have hsz := hB.size
    gi_wp2_with (gi_at_builtin; refine wpListIn_append_own _ rfl _ _ 40 rfl w.heap.size 3 i0 (.int .i64 0) 1 8 Try.underlying40 hi hz0 hz1 hz2 rfl (by decide) _ _ _ rfl (hrow.alloc _) ⟨W.heap.size, 0, none⟩ 1 1 [.int .i64 x] rfl rfl (cell_one_new _ _ _) (by simp [Value.oneCell']) (by unfold maxLen; omega) (by omega) (by simp; omega) ?_; intro v' w1 hown' hgrow _; obtain ⟨g', cap', rfl⟩ := ownsRow_succ hown'; obtain ⟨hv1, hv2, hr2, hk2, hb2⟩ := hv.appended (by decide) hrow hB.size (Nat.le_refl _) hown' hgrow; have hkp := kp_append (B1 := w.heap.size + 1) (b := b) hv hrow hB.size (Nat.le_refl _) (by omega) hown' hgrow; have hc1 := hv1.cell; have hf1 := hv1.frozen)
    exact ⟨hk2.from _, hkp, ⟨_, hv2, by simpa using hr2, trivial⟩, hB.trans hb2⟩
  case done =>
    rintro D ys W hD rfl ⟨⟨v, hv, hrow, _⟩, hB⟩ hK
    have hc := hv.cell
    gi_wp2
    refine ⟨by simp, .inl ⟨_, _, rfl, run_takeDeferred hK, ?_⟩⟩
    exact ⟨_, results_tmp rfl _ _ _, v, rfl, ownsRow_putObj hrow _ hK rfl, hB.trans (belowK_b (w := w) (Nat.le_refl _) W D _ _ (by simp at hD; omega) hK rfl rfl)⟩
  case stop =>
    rintro D c pre W _ _ h _
    exact h.elim

theorem list_ok (b g n lv : Nat) (R : List (Nat × Nat)) (w : World) (hq : IsQ w b g n R) (hlv : lv < 256) :
    Calls Try.prog 17 #[.pointer (some ⟨b, 0, none⟩), .int .u8 lv] w fun e W' => ∃ v, e = .returned v ∧ W'.ownsRow w.heap.size 3 1 v (idsOf R lv).length ((idsOf R lv).map (Value.int .i64)) ∧ Below w.heap.size w W' :=
  callsIn_wide.1 (list_in b g n lv R w hq hlv)
end Go.Proofs.Ythehnicmjiidiaa
