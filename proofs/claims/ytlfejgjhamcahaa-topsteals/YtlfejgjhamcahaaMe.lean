/-
  Frames.
  The ids of a level, as the program's queue yields them.
  The walk of List: the ids of a level, gathered.
  The walks of Fork: the program's queue.
  The walk of the program's Fork.
-/
import Derived.Test.YtlfejgjhamcahaaMq
import Derived.Laws.OwnMore
import Derived.Maps.AppendAt
import Derived.Deep.AppendLies
import Derived.Deep.DrawnRows
import Derived.OneCell
import Derived.RangeFuncNested
import Derived.RangeFuncBound
import Derived.RangeFuncCalls
import Derived.RangeFuncLeaves
import Derived.RangeFuncBox
import Derived.Shelf.Abstract
import Derived.Shelf.RegionOpen
import Derived.WalkKit
import Derived.OwnWalkIn
import Derived.TacticsInMore
import Derived.LoopNIn
import Derived.LoopIn
import Derived.Deep.MidRow
namespace Go.Proofs.Ytlfejgjhamcahaa.Bq
open Go.RowKit Go.Lib

/-- A frame: blocks that were there and do not belong to S are as they were. -/
structure Fr (S : Nat → Prop) (w w' : World) : Prop where
  os : w'.os = w.os
  tape : w'.tape = w.tape
  output : w'.output = w.output
  size : w.heap.size ≤ w'.heap.size
  block : ∀ k, k < w.heap.size → ¬ S k → w'.heap[k]? = w.heap[k]?
section
variable {S S' : Nat → Prop} {w w' w'' : World}
theorem Fr.refl (S : Nat → Prop) (w : World) : Fr S w w := ⟨rfl, rfl, rfl, Nat.le_refl _, fun _ _ _ => rfl⟩
theorem Fr.wide (h : Fr S w w') (hs : ∀ k, k < w.heap.size → S k → S' k) : Fr S' w w' := ⟨h.os, h.tape, h.output, h.size, fun k hk hn => h.block k hk (fun q => hn (hs k hk q))⟩
theorem Fr.trans (h : Fr S w w') (h' : Fr S w' w'') : Fr S w w'' :=
  ⟨h'.os.trans h.os, h'.tape.trans h.tape, h'.output.trans h.output, Nat.le_trans h.size h'.size, fun k hk hn => (h'.block k (Nat.lt_of_lt_of_le hk h.size) hn).trans (h.block k hk hn)⟩
theorem Fr.alloc (h : Fr S w w') (o : Obj) : Fr S w (w'.alloc o) :=
  ⟨h.os, h.tape, h.output, Nat.le_trans h.size (by simp), fun k hk hn => (Below.heap_alloc _ _ _ (Nat.lt_of_lt_of_le hk h.size)).trans (h.block k hk hn)⟩
theorem Fr.setCell (h : Fr S w w') {a : Addr} (hb : S a.block) (u : Value) : Fr S w (w'.setCell a u) :=
  ⟨h.os, h.tape, h.output, by simpa using h.size, fun k hk hn => (Below.heap_setCell _ _ _ _ (fun e => hn (by rw [e]; exact hb))).trans (h.block k hk hn)⟩
theorem Fr.drewN (h : Fr S w w') (q : Nat) : Fr S w (w'.drewN q) := ⟨h.os, h.tape, h.output, h.size, h.block⟩
theorem Fr.cell (h : Fr S w w') {a : Addr} (hk : a.block < w.heap.size) (hn : ¬ S a.block) : w'.cell? a = w.cell? a := World.cell?_of_block (h.block _ hk hn)
theorem Fr.frozen (h : Fr S w w') {a : Addr} (hk : a.block < w.heap.size) (hn : ¬ S a.block) : w'.frozen? a = w.frozen? a := World.frozen?_of_block (h.block _ hk hn)
theorem Fr.of_below {B : Nat} (h : Below B w w') : Fr (fun k => B ≤ k) w w' := ⟨h.os, h.tape, h.output, h.size, fun k _ hn => h.block k (by omega)⟩
theorem Fr.of_below' (h : Below w.heap.size w w') : Fr S w w' := ⟨h.os, h.tape, h.output, h.size, fun k hk _ => h.block k hk⟩
theorem Fr.below {B : Nat} (h : Fr S w w') (hb : B ≤ w.heap.size) (hs : ∀ k, S k → B ≤ k) : Below B w w' := ⟨h.os, h.tape, h.output, h.size, fun k hk => h.block k (by omega) (fun q => by have := hs k q; omega)⟩
theorem Fr.of_grown {row : Option Nat} (h : w.grownBy w' row) : Fr (fun k => some k = row) w w' := ⟨h.os, h.tape, h.output, h.size, h.block⟩
theorem Fr.grown {row : Option Nat} (h : Fr S w w') : (∀ k, k < w.heap.size → S k → some k = row) → w.grownBy w' row := fun hs => ⟨h.os, h.tape, h.output, h.size, fun k hk hn => h.block k hk (fun q => hn (hs k hk q))⟩
end

theorem ownsRow_base {w : World} {base base' : Nat} {e : TypeId} {size : Nat} {v : Value} {n : Nat} {xs : List Value} (h : w.ownsRow base e size v n xs) (hb : base' ≤ base) : w.ownsRow base' e size v n xs := by
  refine ⟨h.1, ?_⟩
  rcases h.2 with hn | ⟨g, cap, cur, e, h0, rest⟩
  · exact .inl hn
  · exact .inr ⟨g, cap, cur, e, Nat.le_trans hb h0, rest⟩

theorem owns_slice {w : World} {base : Nat} {e : TypeId} {size : Nat} {v : Value} {n : Nat} {xs : List Value} (h : w.ownsRow base e size v n xs) : ∃ a c, v = .slice a n c := by
  rcases h.2 with ⟨e, e0⟩ | ⟨g, cap, cur, e, _⟩
  · exact ⟨none, 0, by rw [e, e0]⟩
  · exact ⟨_, _, e⟩

end Go.Proofs.Ytlfejgjhamcahaa.Bq

namespace Go.Proofs.Ytlfejgjhamcahaa.Bq
open Go.RowKit Go.Shelf
attribute [local go_sem] Oper.semAt_some

/-- How many are still to come from a spot on. -/
def left (L : List Nat) (s : Nat) : Nat := if s = 0 then 0 else L.length - L.idxOf s
theorem left_at (d r : List Nat) (s : Nat) (h1 : 1 ≤ s) (hn : (d ++ s :: r).Nodup) : left (d ++ s :: r) s = r.length + 1 := by
  have hd : s ∉ d := by
    rw [List.nodup_append] at hn
    exact fun q => hn.2.2 s q s (by simp) rfl
  unfold left
  rw [if_neg (by omega), List.idxOf_append, if_neg hd]
  simp
theorem left_head (d r : List Nat) (hp : ∀ s ∈ d ++ r, 1 ≤ s) (hn : (d ++ r).Nodup) : left (d ++ r) (r.headD 0) = r.length := by
  cases r with
  | nil => rfl
  | cons s r => exact left_at d r s (hp s (by simp)) hn

/-- The ids of a level, in order. -/
def idsOf (R : List (Nat × Nat)) (lv : Nat) : List Int := (QL R lv).map (fun s : Nat => (s : Int) - 1)

/-- What the yielding reads of a queue. -/
structure Reads (W : World) (b g n : Nat) (R : List (Nat × Nat)) (lv : Nat) : Prop where
  fst : W.cell? ⟨b, lv, none⟩ = some (.int .i64 ((QL R lv).headD 0 : Nat))
  sl : ∃ cp, W.cell? ⟨b, 516, none⟩ = some (.slice (some ⟨g, 0, none⟩) (n + 1) cp)
  nx : ∀ d s r, QL R lv = d ++ s :: r → W.cell? ⟨g, s * 4 + 1, none⟩ = some (.int .i64 (r.headD 0 : Nat))
theorem IsQ.reads {W : World} {b g n : Nat} {R : List (Nat × Nat)} (h : IsQ W b g n R) (lv : Nat) (hlv : lv < 256) : Reads W b g n R lv ∧ (QL R lv).Nodup ∧ ∀ s ∈ QL R lv, 1 ≤ s ∧ s ≤ n := by
  obtain ⟨hn, F, L, m, c, A, B, V, T, hr, hv⟩ := h
  refine ⟨⟨?_, hr.sl, fun d s r e => ?_⟩, QL_nodup hv.ids lv, fun s hs => ⟨QL_pos hs, (hv.spot_le hs).1⟩⟩
  · rw [← hv.hd lv hlv]
    exact hr.fst lv hlv
  · have hch := hv.ch lv hlv
    rw [e] at hch
    have := (chain_mid A B s r d 0 hch).2.1
    rw [← this]
    exact hr.lb s (hv.spot_le (show s ∈ QL R lv by rw [e]; simp)).1
theorem Reads.below {W W' : World} {b g n n0 : Nat} {R : List (Nat × Nat)} {lv : Nat} (h : Reads W b g n R lv) (hb : Below n0 W W') (h1 : b < n0) (h2 : g < n0) : Reads W' b g n R lv :=
  ⟨(hb.cell (p := ⟨b, lv, none⟩) h1).trans h.fst, h.sl.imp (fun _ q => (hb.cell (p := ⟨b, 516, none⟩) h1).trans q), fun d s r e => (hb.cell (p := ⟨g, s * 4 + 1, none⟩) h2).trans (h.nx d s r e)⟩

/-- What a round must keep: what lay below, and the box of the queue's pointer. -/
def Kp (n0 B1 b : Nat) (A B : World) : Prop := Below n0 A B ∧ (Boxed A B1 94 (.pointer (some ⟨b, 0, none⟩)) → Boxed B B1 94 (.pointer (some ⟨b, 0, none⟩)))

set_option maxRecDepth 100000 in
set_option maxHeartbeats 2000000 in
theorem yields_in (nn : Nat) (hn : 1 ≤ nn) (l B1 B2 n0 b g n lv : Nat) (R : List (Nat × Nat)) (J Jx : List Int → World → Prop)
    (hY : ∀ pre x W, J pre W → pre.length < (idsOf R lv).length → YieldAt Fence.wide (nn - 1) Try.prog l #[.int .i64 x] W fun e W' =>
      (e = .returned (.bool true) ∧ J (pre ++ [x]) W' ∧ Kp n0 B1 b W W') ∨ (e = .returned (.bool false) ∧ Jx (pre ++ [x]) W'))
    (W : World) (hlv : lv < 256) (hb1 : Boxed W B1 94 (.pointer (some ⟨b, 0, none⟩))) (hb2 : W.cell? ⟨B2, 0, none⟩ = some (.int .u8 lv)) (hr : Reads W b g n R lv) (hnd : (QL R lv).Nodup) (hsp : ∀ s ∈ QL R lv, 1 ≤ s ∧ s ≤ n) (hn1 : n ≤ 1024) (hbn : b < n0) (hgn : g < n0) (h0 : ∀ q, J [] (W.drewN q)) :
    CallsIn Fence.wide nn Try.prog 105 #[.func (.yield l) #[] #[], .pointer (some ⟨B1, 0, none⟩), .pointer (some ⟨B2, 0, none⟩)] W fun e W' => (∃ v, e = .returned v) ∧
      ((∃ ys, ys = idsOf R lv ∧ J ys W') ∨ (∃ pre, pre <+: idsOf R lv ∧ Jx pre W')) := by
  have c1 := hb1.cell
  have c3 := hr.fst
  have HB1 := veil hb1
  have HR := veil hr
  have H0 := veil h0
  have HY := veil hY
  have HND := veil hnd
  have HSP := veil hsp
  clear hb1 hr h0 hY hnd hsp
  refine callsIn_of_wp Try.func105 rfl trivial ?_ rfl
  simp only [Try.ntmps105, List.size_toArray, List.length_cons, List.length_nil, Nat.reduceAdd, Nat.reduceSub, Array.replicate_succ, Array.replicate_zero, List.push_toArray, List.append_toArray, List.nil_append, List.cons_append]
  gi_wp2
  gi_quiet (fail)
  gi_wp2
  gi_loopw [4] (fun p wr => ∃ (d r : List Nat), QL R lv = d ++ r ∧ p = .int .i64 (r.headD 0 : Nat) ∧ Reads wr b g n R lv ∧ Boxed wr B1 94 (.pointer (some ⟨b, 0, none⟩)) ∧ J (d.map (fun s : Nat => (s : Int) - 1)) wr)
    (fun p _ => left (QL R lv) (intOf p).toNat)
  case atStart => exact ⟨[], QL R lv, rfl, by simp, ⟨HR.out.fst, HR.out.sl, HR.out.nx⟩, HB1.out, H0.out _⟩
  case round =>
    obtain ⟨d, r, hq, rfl, hre, hbx, hJ⟩ := hrel
    have hJl : (d.map (fun s : Nat => (s : Int) - 1)).length < (idsOf R lv).length ∨ r = [] := by
      cases r with
      | nil => exact .inr rfl
      | cons s r => left; unfold idsOf; rw [hq]; simp
    cases r with
    | nil =>
      have HJ := veil hJ
      have HQ := veil hq
      clear hre hbx hJ hq
      gi_wp2
      go_end0
      have hj := HJ.out
      have he : idsOf R lv = d.map (fun s : Nat => (s : Int) - 1) := by unfold idsOf; rw [HQ.out]; simp
      rw [← he] at hj
      exact ⟨⟨_, rfl⟩, .inl (by first | exact ⟨_, rfl, hj⟩ | exact hj)⟩
    | cons s r =>
      have hs := HSP.out s (by rw [hq]; simp)
      have hs1 := hs.1
      have hs2 := hs.2
      obtain ⟨fn, tmps, assign, body, hy, hR⟩ := HY.out _ ((s : Int) - 1) wr hJ (hJl.resolve_right (by simp))
      have HRe := veil hre
      have HBx := veil hbx
      have HQ := veil hq
      have hs0 : ¬ s = 0 := by omega
      have hlt : s < n + 1 := by omega
      have hle : s ≤ 1024 := by omega
      clear hre hbx hJ hq hJl hs
      simp only [List.headD_cons] at *
      gi_wp2
      refine hR.mono ?_
      rintro e W3 (⟨rfl, hJ3, hk3⟩ | ⟨rfl, hJx3⟩)
      · have hbx3 := hk3.2 HBx.out
        have re3 := HRe.out.below hk3.1 hbn hgn
        have d1 := hbx3.cell
        obtain ⟨cp3, d2⟩ := re3.sl
        have d3 := re3.nx d s r HQ.out
        have HBx3 := veil hbx3
        have HRe3 := veil re3
        have HJ3 := veil hJ3
        clear hbx3 re3 hJ3 hk3 hy hR HY
        gi_wp2
        go_roundw
        case rel => exact ⟨d ++ [s], r, by rw [HQ.out]; simp, by simp, HRe3.out, HBx3.out, by simpa using HJ3.out⟩
        case measure =>
          have hnd := HND.out
          have hsp := HSP.out
          rw [HQ.out] at hnd hsp ⊢
          have m1 := left_at d r s hs1 hnd
          have m2 := left_head (d ++ [s]) r (fun x hx => (hsp x (by simpa using hx)).1) (by simpa using hnd)
          simp [intOf] at m1 m2 ⊢
          omega
      · have HJx := veil hJx3
        clear hJx3 hy hR HY
        gi_wp2
        refine bodyPost_ret (results_none rfl _ _ _) rfl ?_
        refine ⟨⟨_, rfl⟩, .inr ⟨_, ?_, HJx.out⟩⟩
        exact ⟨r.map (fun s : Nat => (s : Int) - 1), by unfold idsOf; rw [HQ.out]; simp⟩
end Go.Proofs.Ytlfejgjhamcahaa.Bq

namespace Go.Proofs.Ytlfejgjhamcahaa.Bq
open Go.RowKit Go.Shelf
attribute [local go_sem] Oper.semAt_some

theorem infoInt : (Try.prog.info? 3).map (fun i => (i.zero, i.size, i.bytes)) = some (some (.int .i64 0), 1, 8) := by kernel_rfl

theorem ids_in (nn b lv : Nat) (w : World) :
    CallsIn Fence.wide nn Try.prog 93 #[.pointer (some ⟨b, 0, none⟩), .int .u8 lv] w fun e w' => e = .returned (.func (.func 105) #[] #[.pointer (some ⟨w.heap.size, 0, none⟩), .pointer (some ⟨w.heap.size + 1, 0, none⟩)]) ∧
      w' = (w.alloc (.cells #[.pointer (some ⟨b, 0, none⟩)] 94)).alloc (.cells #[.int .u8 lv] 5) := by
  refine callsIn_of_wp Try.func93 rfl trivial ?_ rfl
  simp only [Try.ntmps93, List.size_toArray, List.length_cons, List.length_nil, Nat.reduceAdd, Nat.reduceSub, Array.replicate_succ, Array.replicate_zero, List.push_toArray, List.append_toArray, List.nil_append, List.cons_append]
  gi_wp2
  go_ret
  exact ⟨by simp, rfl⟩

theorem kp_trans {n0 B1 b : Nat} {A B C : World} (h : Kp n0 B1 b A B) (h' : Kp n0 B1 b B C) : Kp n0 B1 b A C := ⟨h.1.trans h'.1, fun q => h'.2 (h.2 q)⟩
theorem kp_put {w : World} {n0 B1 b : Nat} (hn : n0 ≤ w.heap.size) (W : World) (l : Nat) (o o' : Obj) (hl : w.heap.size ≤ l) (ho : W.heap[l]? = some o) (hc : o.isCells = false) (hw : o.isWalk = false) : Kp n0 B1 b W (W.putObj l o') := by
  refine ⟨belowK_b hn W l o o' hl ho hc hw, fun q => q.kept (grownBy_putObj' W l o') (fun e => ?_)⟩
  cases e
  rw [show W.heap[B1]? = _ from q] at ho
  cases ho
  cases hc
/-- The queue's pointer stays in its box while another box is written and a row grows. -/
theorem kp_append {W w1 : World} {n0 B B1 b : Nat} {v v' : Value} {k m : Nat} {xs ys : List Value} {tmp : Obj} (hv : Boxed W B 38 v) (hrow : W.ownsRow n0 3 1 v k xs) (hn0 : n0 ≤ W.heap.size) (hB : n0 ≤ B) (hne : B1 ≠ B)
    (hown' : w1.ownsRow n0 3 1 v' m ys) (hgrow : (W.alloc tmp).grownBy w1 v.ownBlock) : Kp n0 B1 b W (w1.setCell ⟨B, 0, none⟩ v') := by
  refine ⟨(hv.appended (by decide) hrow hn0 hB hown' hgrow).2.2.2.2, fun q => ?_⟩
  have q1 := (q.alloc tmp).kept hgrow (q.not_row (by decide) hrow)
  exact q1.kept (grownBy_setCell' w1 B v') (by simp [hne])

theorem ids_stops (nn : Nat) (hn : 1 ≤ nn) (B1 B2 n0 b g n lv : Nat) (R : List (Nat × Nat)) (w : World) (hlv : lv < 256) (hb1 : Boxed w B1 94 (.pointer (some ⟨b, 0, none⟩))) (hb2 : Boxed w B2 5 (.int .u8 lv)) (hr : Reads w b g n R lv) (hnd : (QL R lv).Nodup) (hsp : ∀ s ∈ QL R lv, 1 ≤ s ∧ s ≤ n) (hn1 : n ≤ 1024) (hbn : b < n0) (hgn : g < n0) (hn0 : n0 ≤ w.heap.size) :
    SeqStopsK Fence.wide nn Try.prog 105 #[.pointer (some ⟨B1, 0, none⟩), .pointer (some ⟨B2, 0, none⟩)] (fun x : Int => #[Value.int .i64 x]) (Kp n0 B1 b) (fun ys => ys = idsOf R lv) (fun pre => pre <+: idsOf R lv) (idsOf R lv).length w := by
  intro l J Jx W hW hJ hJx hY h0
  refine yields_in nn hn l B1 B2 n0 b g n lv R J Jx hY W hlv ((hW.block B1 hb1.lt).trans hb1) ((hW.cell (p := ⟨B2, 0, none⟩) hb2.lt).trans hb2.cell) (hr.below (hW.mono hn0) hbn hgn) hnd hsp hn1 hbn hgn (fun q => ?_)
  exact hJ [] W (W.drewN q) none h0 ⟨rfl, rfl, rfl, Nat.le_refl _, fun _ _ _ => rfl⟩ (fun r e => by cases e)

set_option maxRecDepth 100000 in
set_option maxHeartbeats 2000000 in
theorem list_in (b g n lv : Nat) (R : List (Nat × Nat)) (w : World) (hq : IsQ w b g n R) (hlv : lv < 256) :
    CallsIn Fence.wide 4 Try.prog 72 #[.pointer (some ⟨b, 0, none⟩), .int .u8 lv] w fun e W' => ∃ v, e = .returned v ∧ W'.ownsRow w.heap.size 3 1 v (idsOf R lv).length ((idsOf R lv).map (Value.int .i64)) ∧ Below w.heap.size w W' := by
  obtain ⟨hre, hnd, hsp⟩ := hq.reads lv hlv
  have hbg := hq.blocks
  have hn := hq.len_le.2
  have hlen : (idsOf R lv).length ≤ 1024 := by
    unfold idsOf QL
    rw [List.length_map, List.length_map]
    have := List.length_filter_le (fun it : Nat × Nat => it.2 == lv) R
    have := hq.len_le.1
    omega
  have HQ := veil hq
  clear hq
  obtain ⟨i0, hi, hz0, hz1, hz2⟩ := info_parts infoInt
  refine callsIn_of_wp_marks Try.func72 rfl trivial ?_ rfl
  simp only [Try.ntmps72, List.size_toArray, List.length_cons, List.length_nil, Nat.reduceAdd, Nat.reduceSub, Array.replicate_succ, Array.replicate_zero, List.push_toArray, List.append_toArray, List.nil_append, List.cons_append]
  gi_wp2_with (refine ⟨trivial, ?_⟩; gi_at_call 93; refine (ids_in _ b lv _).mono ?_; rintro e w' ⟨rfl, rfl⟩)
  have bO := Boxed.new w 38 (.slice none 0 0)
  have b1 := Boxed.new (w.alloc (.cells #[.slice none 0 0] 38)) 94 (.pointer (some ⟨b, 0, none⟩))
  have b2 := Boxed.new ((w.alloc (.cells #[.slice none 0 0] 38)).alloc (.cells #[.pointer (some ⟨b, 0, none⟩)] 94)) 5 (.int .u8 lv)
  have hB0 : Below w.heap.size w (((w.alloc (.cells #[.slice none 0 0] 38)).alloc (.cells #[.pointer (some ⟨b, 0, none⟩)] 94)).alloc (.cells #[.int .u8 lv] 5)) := (((Below.refl _ w).alloc (Nat.le_refl _) _).alloc (by simp) _).alloc (by simp; omega) _
  simp only [World.size_alloc] at b1 b2 ⊢
  refine wpIn_rangeFunc_ownG rfl (by decide) (gf := 105) (lb := #[.pointer (some ⟨w.heap.size + 1, 0, none⟩), .pointer (some ⟨w.heap.size + 1 + 1, 0, none⟩)]) rfl trivial (enters_of Try.func105 (by kernel_rfl) rfl)
    (ids_stops 3 (by decide) (w.heap.size + 1) (w.heap.size + 1 + 1) w.heap.size b g n lv R _ hlv (b1.alloc _) b2 (hre.below hB0 hbg.1 hbg.2.1) hnd hsp hn hbg.1 hbg.2.1 hB0.size) kp_trans (kp_put hB0.size) (Below.refl _ _) (fun _ => rfl)
    (fun (pre : List Int) W => (∃ v, Boxed W w.heap.size 38 v ∧ W.ownsRow w.heap.size 3 1 v pre.length (pre.map (Value.int .i64)) ∧ True) ∧ Below w.heap.size w W)
    (fun _ _ _ => False)
    (OwnFrom.and (Own.from (holdsRow_own w.heap.size w.heap.size 38 3 1 (fun pre : List Int => pre.length) (fun pre : List Int => pre.map (Value.int .i64)) (fun _ _ => True)) _) (ownFrom_below (Nat.le_refl _) hB0.size))
    (fun _ _ _ _ _ hs _ _ => hs)
    ⟨⟨_, (bO.alloc _).alloc _, World.ownsRow_nil _ _ _ _, trivial⟩, hB0⟩
    (fun x => { tmps := #[.pointer (some ⟨b, 0, none⟩), .int .u8 lv, undef, undef, .slice none 0 0, .pointer (some ⟨w.heap.size, 0, none⟩), .int .i64 x, .pointer (some ⟨b, 0, none⟩), .bool false, .pointer (some ⟨b, 0, none⟩), .int .u8 lv, .func (.func 105) #[] #[.pointer (some ⟨w.heap.size + 1, 0, none⟩), .pointer (some ⟨w.heap.size + 1 + 1, 0, none⟩)], .int .i64 x, undef, undef, undef, undef, undef], defers := [] }) ?assign ?body ?done ?stop
  case assign =>
    intro l x W K hK
    gi_wp2
    exact hK
  case body =>
    rintro l pre x W ⟨⟨v, hv, hrow, _⟩, hB⟩ hlt
    have hc := hv.cell
    have hsz := hB.size
    gi_wp2_with (gi_at_builtin; refine wpListIn_append_own _ rfl _ _ 38 rfl w.heap.size 3 i0 (.int .i64 0) 1 8 Try.underlying38 hi hz0 hz1 hz2 rfl (by decide) _ _ _ rfl (hrow.alloc _) ⟨W.heap.size, 0, none⟩ 1 1 [.int .i64 x] rfl rfl (cell_one_new _ _ _) (by simp [Value.oneCell']) (by unfold maxLen; omega) (by omega) (by simp; omega) ?_; intro v' w1 hown' hgrow _; obtain ⟨g', cap', rfl⟩ := ownsRow_succ hown'; obtain ⟨hv1, hv2, hr2, hk2, hb2⟩ := hv.appended (by decide) hrow hB.size (Nat.le_refl _) hown' hgrow; have hkp := kp_append (B1 := w.heap.size + 1) (b := b) hv hrow hB.size (Nat.le_refl _) (by omega) hown' hgrow; have hc1 := hv1.cell; have hf1 := hv1.frozen)
    exact ⟨hk2.from _, hkp, ⟨_, hv2, by simpa using hr2, trivial⟩, hB.trans hb2⟩
  case done =>
    rintro D ys W hD rfl ⟨⟨v, hv, hrow, _⟩, hB⟩ hK
    have hc := hv.cell
    gi_wp2
    refine ⟨by simp, .inl ⟨_, _, rfl, run_takeDeferred hK, ?_⟩⟩
    exact ⟨_, results_tmp rfl _ _ _, v, rfl, ownsRow_putObj hrow _ hK rfl, hB.trans (belowK_b (w := w) (Nat.le_refl _) W D _ _ (by simp at hD; omega) hK rfl rfl)⟩
  case stop =>
    rintro D c pre W _ _ h _
    exact h.elim

theorem list_ok (b g n lv : Nat) (R : List (Nat × Nat)) (w : World) (hq : IsQ w b g n R) (hlv : lv < 256) :
    Calls Try.prog 72 #[.pointer (some ⟨b, 0, none⟩), .int .u8 lv] w fun e W' => ∃ v, e = .returned v ∧ W'.ownsRow w.heap.size 3 1 v (idsOf R lv).length ((idsOf R lv).map (Value.int .i64)) ∧ Below w.heap.size w W' :=
  callsIn_wide.1 (list_in b g n lv R w hq hlv)
end Go.Proofs.Ytlfejgjhamcahaa.Bq

namespace Go.Proofs.Ytlfejgjhamcahaa.Bq
open Go.RowKit Go.Lib

/-- The cells of the links. -/
def linkRow (A B V : Nat → Nat) (T : Nat → Bool) : Nat → List Value
  | 0 => []
  | k + 1 => linkRow A B V T k ++ [.int .i64 (A k), .int .i64 (B k), .int .u8 (V k), .bool (T k)]
theorem linkRow_len (A B V : Nat → Nat) (T : Nat → Bool) : ∀ k, (linkRow A B V T k).length = k * 4
  | 0 => rfl
  | k + 1 => by rw [linkRow, List.length_append, linkRow_len A B V T k]; simp; omega
theorem linkRow_one (A B V : Nat → Nat) (T : Nat → Bool) : ∀ k, ∀ u ∈ linkRow A B V T k, u.oneCell' = true
  | 0 => by simp [linkRow]
  | k + 1 => by
    intro u hu
    rw [linkRow, List.mem_append] at hu
    rcases hu with q | q
    · exact linkRow_one A B V T k u q
    · simp at q
      rcases q with rfl | rfl | rfl | rfl <;> rfl
theorem linkRow_at (A B V : Nat → Nat) (T : Nat → Bool) (s : Nat) : ∀ k, s < k → (linkRow A B V T k)[s * 4]? = some (.int .i64 (A s)) ∧ (linkRow A B V T k)[s * 4 + 1]? = some (.int .i64 (B s)) ∧ (linkRow A B V T k)[s * 4 + 2]? = some (.int .u8 (V s)) ∧ (linkRow A B V T k)[s * 4 + 3]? = some (.bool (T s))
  | 0, h => by omega
  | k + 1, h => by
    have hl := linkRow_len A B V T k
    by_cases e : s = k
    · subst e
      rw [linkRow]
      refine ⟨?_, ?_, ?_, ?_⟩ <;> rw [List.getElem?_append_right (by omega), hl]
      · rw [show s * 4 - s * 4 = 0 by omega]; rfl
      · rw [show s * 4 + 1 - s * 4 = 1 by omega]; rfl
      · rw [show s * 4 + 2 - s * 4 = 2 by omega]; rfl
      · rw [show s * 4 + 3 - s * 4 = 3 by omega]; rfl
    · obtain ⟨a1, a2, a3, a4⟩ := linkRow_at A B V T s k (by omega)
      rw [linkRow]
      refine ⟨?_, ?_, ?_, ?_⟩ <;> rw [List.getElem?_append_left (by omega)] <;> assumption
theorem linkRow_cells {w : World} {b g n : Nat} {F L : Nat → Nat} {M : Nat → Int} {c : Nat} {A B V : Nat → Nat} {T : Nat → Bool} (h : Rep w b g n F L M c A B V T) : ∀ j u, (linkRow A B V T (n + 1))[j]? = some u → w.cell? ((⟨g, 0, none⟩ : Addr).add j) = some u := by
  intro j u hu
  have hj : j < (linkRow A B V T (n + 1)).length := (List.getElem?_eq_some_iff.1 hu).1
  rw [linkRow_len] at hj
  have hadd : (⟨g, 0, none⟩ : Addr).add j = ⟨g, j, none⟩ := by unfold Addr.add; split <;> simp_all
  rw [hadd, ← hu]
  obtain ⟨a1, a2, a3, a4⟩ := linkRow_at A B V T (j / 4) (n + 1) (by omega)
  have hm : j = j / 4 * 4 ∨ j = j / 4 * 4 + 1 ∨ j = j / 4 * 4 + 2 ∨ j = j / 4 * 4 + 3 := by omega
  rcases hm with e | e | e | e
  · rw [e, a1]; exact h.la (j / 4) (by omega)
  · rw [e, a2]; exact h.lb (j / 4) (by omega)
  · rw [e, a3]; exact h.lv (j / 4) (by omega)
  · rw [e, a4]; exact h.lt (j / 4) (by omega)

theorem eq_nil_no (w : World) (g n cp : Nat) : (binOp BinOp.eql 122 (.slice (some ⟨g, 0, none⟩) n cp) (.slice none 0 0)).run Try.prog w = .ok (.bool false) w := by kernel_rfl
set_option maxHeartbeats 2000000 in
theorem clone_ok (w : World) (g n cp : Nat) (xs : List Value) (hn : n ≤ 1024) (hl : xs.length = (n + 1) * 4) (hc : ∀ j u, xs[j]? = some u → w.cell? ((⟨g, 0, none⟩ : Addr).add j) = some u) (h1 : ∀ u ∈ xs, u.oneCell' = true) (hg : g < w.heap.size) :
    Calls Try.prog 96 #[.slice (some ⟨g, 0, none⟩) (n + 1) cp] w fun e w' => ∃ g' cap', e = .returned (.slice (some ⟨g', 0, none⟩) (n + 1) cap') ∧ w.heap.size ≤ g' ∧ w'.ownsRow w.heap.size 133 4 (.slice (some ⟨g', 0, none⟩) (n + 1) cap') (n + 1) xs ∧ Below w.heap.size w w' := by
  obtain ⟨i0, hi, hz0, hz1, hz2⟩ := info_parts infoLink
  have HC : Hid (∀ j u, xs[j]? = some u → (w.alloc (.cells #[] 133)).cell? ((⟨g, 0, none⟩ : Addr).add j) = some u) := by
    intro j u hu
    have hadd : (⟨g, 0, none⟩ : Addr).add j = ⟨g, j, none⟩ := by unfold Addr.add; split <;> simp_all
    have := hc j u hu
    rw [hadd] at this ⊢
    rw [World.cell?_alloc_lt _ _ _ (by simpa using hg)]
    exact this
  have HL : Hid ((w.alloc (.cells #[] 133)).ownsRow w.heap.size 133 4 (.slice (some ⟨w.heap.size, 0, none⟩) 0 0) 0 []) := by
    have := World.ownsRow_lit (base := w.heap.size) (e := 133) (size := 4) w #[] 0 (Nat.le_refl _) (by simp [maxLen]) rfl
    exact this
  have H1 := veil h1
  have hnil := fun w => eq_nil_no w g (n + 1) cp
  clear hc h1
  go_enter Try.func96, Try.ntmps96
  go_wp2_with (at_builtin; refine wpList_append_lies _ rfl _ _ 122 rfl w.heap.size 133 i0 linkZero 4 24 Try.underlying122 hi hz0 hz1 hz2 rfl (by omega) _ 0 [] (by rfl) HL.out ⟨g, 0, none⟩ (n + 1) cp xs (by rfl) hl HC.out H1.out (by omega) (by unfold maxLen; omega) (by omega) (by simp) _ rfl ?_; intro g' cap' w1 hown hgrow hat hlt; have HO := veil hown; have HG := veil hgrow; clear hown hgrow hat hlt)
  go_ret
  refine ⟨g', cap', by simp, (HO.out.lt g' rfl).1, by simpa using HO.out, ?_⟩
  exact ((Below.refl _ _).alloc (Nat.le_refl _) _).grown HG.out (by simp) (fun k hk => by simp [Value.ownBlock] at hk; omega)
end Go.Proofs.Ytlfejgjhamcahaa.Bq

namespace Go.Proofs.Ytlfejgjhamcahaa.Bq
open Go.RowKit Go.Lib

/-- The cells of a queue's block. -/
def queueRow (F L : Nat → Nat) (M : Nat → Int) (s : Value) (c : Nat) : List Value :=
  (List.range 256).map (fun i => Value.int .i64 (F i)) ++ ((List.range 256).map (fun i => Value.int .i64 (L i)) ++ [.int .u64 (M 0), .int .u64 (M 1), .int .u64 (M 2), .int .u64 (M 3), s, .int .i64 c])
section
variable {F L : Nat → Nat} {M : Nat → Int} {s : Value} {c : Nat}
theorem queueRow_len : (queueRow F L M s c).length = 518 := by unfold queueRow; simp
theorem queueRow_F (i : Nat) (h : i < 256) : (queueRow F L M s c)[i]? = some (.int .i64 (F i)) := by
  unfold queueRow
  rw [List.getElem?_append_left (by simpa using h)]
  simp [h]
theorem queueRow_L (i : Nat) (h : i < 256) : (queueRow F L M s c)[256 + i]? = some (.int .i64 (L i)) := by
  unfold queueRow
  rw [List.getElem?_append_right (by simp), List.getElem?_append_left (by simp; omega)]
  simp [h]
theorem queueRow_hi (i : Nat) : (queueRow F L M s c)[512 + i]? = ([.int .u64 (M 0), .int .u64 (M 1), .int .u64 (M 2), .int .u64 (M 3), s, .int .i64 c] : List Value)[i]? := by
  unfold queueRow
  rw [List.getElem?_append_right (by simp; omega), List.getElem?_append_right (by simp; omega)]
  simp only [List.length_map, List.length_range]
  rw [show 512 + i - 256 - 256 = i by omega]
theorem queueRow_one (hs : s.oneCell' = true) : ∀ v ∈ queueRow F L M s c, v.oneCell' = true := by
  intro v hv
  unfold queueRow at hv
  rw [List.mem_append, List.mem_append] at hv
  rcases hv with q | q | q
  · obtain ⟨i, _, rfl⟩ := List.mem_map.1 q; rfl
  · obtain ⟨i, _, rfl⟩ := List.mem_map.1 q; rfl
  · simp at q
    rcases q with rfl | rfl | rfl | rfl | rfl | rfl <;> first | rfl | exact hs
end
theorem queue_range {w : World} {b g n cp : Nat} {F L : Nat → Nat} {M : Nat → Int} {c : Nat} {A B V : Nat → Nat} {T : Nat → Bool} (h : Rep w b g n F L M c A B V T) (hs : w.cell? ⟨b, 516, none⟩ = some (.slice (some ⟨g, 0, none⟩) (n + 1) cp)) :
    w.rangeAt b 0 (queueRow F L M (.slice (some ⟨g, 0, none⟩) (n + 1) cp) c) := by
  intro j v hv
  have hj : j < 518 := by have := (List.getElem?_eq_some_iff.1 hv).1; rwa [queueRow_len] at this
  rw [Nat.zero_add, ← hv]
  by_cases h1 : j < 256
  · rw [queueRow_F j h1]; exact h.fst j h1
  · by_cases h2 : j < 512
    · obtain ⟨i, rfl⟩ : ∃ i, j = 256 + i := ⟨j - 256, by omega⟩
      rw [queueRow_L i (by omega)]; exact h.lst i (by omega)
    · obtain ⟨i, rfl⟩ : ∃ i, j = 512 + i := ⟨j - 512, by omega⟩
      rw [queueRow_hi]
      have : i = 0 ∨ i = 1 ∨ i = 2 ∨ i = 3 ∨ i = 4 ∨ i = 5 := by omega
      rcases this with rfl | rfl | rfl | rfl | rfl | rfl
      · exact h.msk 0 (by omega)
      · exact h.msk 1 (by omega)
      · exact h.msk 2 (by omega)
      · exact h.msk 3 (by omega)
      · exact hs
      · exact h.cn
theorem infoQueue : (Try.prog.info? 124).map (·.size) = some 518 := by kernel_rfl

theorem setCells_fr (b : Nat) : ∀ (vs : List Value) (o : Nat) (w : World), Fr (fun k => k = b) w (w.setCells b o vs) ∧ (w.setCells b o vs).heap.size = w.heap.size
  | [], _, w => ⟨Fr.refl _ _, rfl⟩
  | v :: r, o, w => by
    obtain ⟨h1, h2⟩ := setCells_fr b r (o + 1) (w.setCell ⟨b, o, none⟩ v)
    exact ⟨(Fr.setCell (S := fun k => k = b) (a := ⟨b, o, none⟩) (Fr.refl _ _) rfl v).trans h1, h2.trans (by simp)⟩
theorem zero_there (w : World) : (w.alloc (.cells zeroCells 124)).there w.heap.size 0 518 := by
  intro j hj
  rw [Nat.zero_add, cell_new]
  refine ⟨?_, frozen_new _ _ _ _⟩
  rw [Array.getElem?_eq_getElem (by rw [zero_size]; exact hj)]
  rfl
/-- A world whose new block bears the cells of a queue's. -/
theorem copy_world (w : World) (xs : List Value) (hl : xs.length = 518) : ∃ W1, (w.alloc (.cells zeroCells 124)).setCells w.heap.size 0 xs.toArray.toList = W1 ∧ W1.heap.size = w.heap.size + 1 ∧ Below w.heap.size w W1 ∧ (∀ j, j < 518 → W1.cell? ⟨w.heap.size, j, none⟩ = xs[j]?) ∧ ∀ j, W1.frozen? ⟨w.heap.size, j, none⟩ = false := by
  refine ⟨_, rfl, ?_, ?_, fun j hj => ?_, fun j => ?_⟩
  · rw [(setCells_fr _ _ _ _).2]; simp
  · have := (setCells_fr w.heap.size xs.toArray.toList 0 (w.alloc (.cells zeroCells 124))).1
    exact ((Below.refl _ _).alloc (Nat.le_refl _) _).trans (this.below (by simp) (fun k q => by omega))
  · have hin := World.rangeAt_setCells_same (w.alloc (.cells zeroCells 124)) w.heap.size 0 xs (by rw [hl]; exact zero_there w)
    have := hin j (xs[j]'(by omega)) (List.getElem?_eq_getElem _)
    rw [Nat.zero_add] at this
    rw [List.getElem?_eq_getElem (by omega)]
    exact this
  · rw [World.frozen?_setCells]
    exact frozen_new _ _ _ _

set_option maxHeartbeats 4000000 in
set_option maxRecDepth 100000 in
theorem fork_ok (w : World) (b g n : Nat) (R : List (Nat × Nat)) (h : IsQ w b g n R) :
    Calls Try.prog 77 #[.pointer (some ⟨b, 0, none⟩)] w fun e w' => ∃ b' g', e = .returned (.pointer (some ⟨b', 0, none⟩)) ∧ w.heap.size ≤ b' ∧ w.heap.size ≤ g' ∧ IsQ w' b' g' n R ∧ Below w.heap.size w w' := by
  obtain ⟨hn, F, L, m, c, A, B, V, T, hr, hv⟩ := h
  obtain ⟨cp, esl⟩ := hr.sl
  have hbb := hr.lt_b
  have hgg := hr.lt_g
  have HRange := veil (queue_range hr esl)
  have hone := queueRow_one (F := F) (L := L) (M := fun i => (m i : Int)) (s := .slice (some ⟨g, 0, none⟩) (n + 1) cp) (c := c) rfl
  have hql := queueRow_len (F := F) (L := L) (M := fun i => (m i : Int)) (s := .slice (some ⟨g, 0, none⟩) (n + 1) cp) (c := c)
  have HX := veil (copy_world w (queueRow F L (fun i => (m i : Int)) (.slice (some ⟨g, 0, none⟩) (n + 1) cp) c) hql)
  have HCl : Hid (∀ W1, W1.heap.size = w.heap.size + 1 → Below w.heap.size w W1 → Calls Try.prog 96 #[.slice (some ⟨g, 0, none⟩) (n + 1) cp] W1 fun e w' => ∃ g' cap', e = .returned (.slice (some ⟨g', 0, none⟩) (n + 1) cap') ∧ W1.heap.size ≤ g' ∧ w'.ownsRow W1.heap.size 133 4 (.slice (some ⟨g', 0, none⟩) (n + 1) cap') (n + 1) (linkRow A B V T (n + 1)) ∧ Below W1.heap.size W1 w') := by
    intro W1 hs hb
    refine clone_ok W1 g n cp (linkRow A B V T (n + 1)) hn (linkRow_len _ _ _ _ _) ?_ (linkRow_one _ _ _ _ _) (by omega)
    have hr1 := hr.below hb hbb hgg
    exact linkRow_cells hr1
  have HE : Hid (∀ W1 W2 g' cap', W1.heap.size = w.heap.size + 1 → Below w.heap.size w W1 → (∀ j, j < 518 → W1.cell? ⟨w.heap.size, j, none⟩ = (queueRow F L (fun i => (m i : Int)) (.slice (some ⟨g, 0, none⟩) (n + 1) cp) c)[j]?) → (∀ j, W1.frozen? ⟨w.heap.size, j, none⟩ = false) →
      W1.heap.size ≤ g' → W2.ownsRow W1.heap.size 133 4 (.slice (some ⟨g', 0, none⟩) (n + 1) cap') (n + 1) (linkRow A B V T (n + 1)) → Below W1.heap.size W1 W2 →
      W2.cell? ⟨w.heap.size, 516, none⟩ = some (.slice (some ⟨g, 0, none⟩) (n + 1) cp) ∧ W2.frozen? ⟨w.heap.size, 516, none⟩ = false ∧ IsQ (W2.setCell ⟨w.heap.size, 516, none⟩ (.slice (some ⟨g', 0, none⟩) (n + 1) cap')) w.heap.size g' n R ∧ Below w.heap.size w (W2.setCell ⟨w.heap.size, 516, none⟩ (.slice (some ⟨g', 0, none⟩) (n + 1) cap'))) := by
    intro W1 W2 g' cap' hs hb hcell hfr hg' hown hb2
    have c2 : ∀ j, j < 518 → W2.cell? ⟨w.heap.size, j, none⟩ = (queueRow F L (fun i => (m i : Int)) (.slice (some ⟨g, 0, none⟩) (n + 1) cp) c)[j]? := fun j hj => (hb2.cell (p := ⟨w.heap.size, j, none⟩) (by simp; omega)).trans (hcell j hj)
    have f2 : ∀ j, W2.frozen? ⟨w.heap.size, j, none⟩ = false := fun j => (World.frozen?_of_block (a := ⟨w.heap.size, j, none⟩) (hb2.block w.heap.size (by omega))).trans (hfr j)
    have h516 : W2.cell? ⟨w.heap.size, 516, none⟩ = some (.slice (some ⟨g, 0, none⟩) (n + 1) cp) := by rw [c2 516 (by omega), show 516 = 512 + 4 from rfl, queueRow_hi]; rfl
    have hne : w.heap.size ≠ g' := by omega
    have lk : ∀ j, j < (n + 1) * 4 → (W2.setCell ⟨w.heap.size, 516, none⟩ (.slice (some ⟨g', 0, none⟩) (n + 1) cap')).cell? ⟨g', j, none⟩ = (linkRow A B V T (n + 1))[j]? := fun j hj => by
      rw [set_other _ _ _ _ _ _ (by omega)]
      exact hown.cellAt j hj
    refine ⟨h516, f2 516, ⟨hn, F, L, m, c, A, B, V, T, ⟨hne, fun i hi => ?_, fun i hi => ?_, fun i hi => ?_, ⟨cap', ?_⟩, ?_, fun s hs' => ?_, fun s hs' => ?_, fun s hs' => ?_, fun s hs' => ?_, fun o => ?_, fun o => ?_⟩, hv⟩, ?_⟩
    · rw [set_other _ _ _ _ _ _ (by omega), c2 i (by omega), queueRow_F i hi]
    · rw [set_other _ _ _ _ _ _ (by omega), c2 (256 + i) (by omega), queueRow_L i hi]
    · rw [set_other _ _ _ _ _ _ (by omega), c2 (512 + i) (by omega), queueRow_hi]
      have : i = 0 ∨ i = 1 ∨ i = 2 ∨ i = 3 := by omega
      rcases this with rfl | rfl | rfl | rfl <;> rfl
    · exact set_same _ _ _ _ h516
    · rw [set_other _ _ _ _ _ _ (by omega), c2 517 (by omega), show 517 = 512 + 5 from rfl, queueRow_hi]; rfl
    · rw [lk _ (by omega)]; exact (linkRow_at A B V T s (n + 1) (by omega)).1
    · rw [lk _ (by omega)]; exact (linkRow_at A B V T s (n + 1) (by omega)).2.1
    · rw [lk _ (by omega)]; exact (linkRow_at A B V T s (n + 1) (by omega)).2.2.1
    · rw [lk _ (by omega)]; exact (linkRow_at A B V T s (n + 1) (by omega)).2.2.2
    · rw [World.frozen?_setCell]; exact f2 o
    · rw [World.frozen?_setCell]; exact hown.frozenAt o
    · exact (hb.trans (hb2.mono (by omega))).setCell (p := ⟨w.heap.size, 516, none⟩) (Nat.le_refl _) _
  have HZ := zeroQ
  have HI := veil infoQueue
  have HU := veil Try.underlying124
  have hst : (storeCells ⟨w.heap.size, 0, none⟩ (queueRow F L (fun i => (m i : Int)) (.slice (some ⟨g, 0, none⟩) (n + 1) cp) c)).run Try.prog (w.alloc (.cells zeroCells 124)) = .ok () ((w.alloc (.cells zeroCells 124)).setCells w.heap.size 0 (queueRow F L (fun i => (m i : Int)) (.slice (some ⟨g, 0, none⟩) (n + 1) cp) c)) := by
    have := run_storeCells_cells (P := Try.prog) w.heap.size 0 (queueRow F L (fun i => (m i : Int)) (.slice (some ⟨g, 0, none⟩) (n + 1) cp) c) 0 (w.alloc (.cells zeroCells 124)) (fun j hj => by rw [hql] at hj; have := (zero_there w j hj).1; rw [Nat.zero_add] at this; rw [Nat.zero_add]; exact this) (fun j hj => by rw [hql] at hj; have := (zero_there w j hj).2; rw [Nat.zero_add] at this; rw [Nat.zero_add]; exact this) hone
    simpa using this
  obtain ⟨W1, hW1, hs1, hb1, hc1, hf1⟩ := HX.out
  rw [List.toList_toArray] at hW1
  rw [hW1] at hst
  have esl1 := (hb1.cell (p := ⟨b, 516, none⟩) hbb).trans esl
  have HC1 := veil hc1
  have HF1 := veil hf1
  have HB1 := veil hb1
  have HS1 := veil hs1
  have HQL := veil hql
  clear hr hv hone hql esl hs1 hb1 hc1 hf1 hW1 HX
  generalize queueRow F L (fun i => (m i : Int)) (.slice (some ⟨g, 0, none⟩) (n + 1) cp) c = row at *
  go_enter Try.func77, Try.ntmps77
  go_wp2_with (first
    | (refine wpList_load_mid rfl 124 _ rfl b 0 (by rfl) row _ HRange.out HU.out rfl (by rw [HQL.out]; exact HI.out) ?_)
    | (go_at_call 96; refine (HCl.out _ HS1.out HB1.out).mono ?_; rintro e W2 ⟨g', cap', rfl, hg', hown, hb2⟩; obtain ⟨x1, x2, x3⟩ := HE.out _ _ _ _ HS1.out HB1.out HC1.out HF1.out hg' hown hb2; have HX3 := veil x3; have hg2 : w.heap.size ≤ g' := (by rw [HS1.out] at hg'; omega); clear hown hb2 x3))
  go_ret
  exact ⟨_, g', rfl, Nat.le_refl _, hg2, HX3.out.1, HX3.out.2⟩
end Go.Proofs.Ytlfejgjhamcahaa.Bq
