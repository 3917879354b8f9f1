/-
  The ids of a level, as the program's queue yields them.
-/
import Derived.RangeFuncNested
import Derived.RangeFuncBound
import Derived.RangeFuncCalls
import Derived.RangeFuncLeaves
import Derived.RangeFuncBox
import Derived.Shelf.Abstract
import Derived.Shelf.RegionOpen
import Derived.WalkKit
import Derived.OwnWalkIn
import Derived.TacticsInMore
import Derived.LoopNIn
import Derived.LoopIn
import Derived.Maps.AppendAt
import Derived.Test.YthehnicmjiidiaaE4
namespace Go.Proofs.Ythehnicmjiidiaa
open Go.RowKit Go.Shelf
attribute [local go_sem] Oper.semAt_some

/-- How many are still to come from a spot on. -/
def left (L : List Nat) (s : Nat) : Nat := if s = 0 then 0 else L.length - L.idxOf s
theorem left_at (d r : List Nat) (s : Nat) (h1 : 1 ≤ s) (hn : (d ++ s :: r).Nodup) : left (d ++ s :: r) s = r.length + 1 := by
  have hd : s ∉ d := by
    rw [List.nodup_append] at hn
    exact fun q => hn.2.2 s q s (by simp) rfl
  unfold left
  rw [if_neg (by omega), List.idxOf_append, if_neg hd]
  simp
theorem left_head (d r : List Nat) (hp : ∀ s ∈ d ++ r, 1 ≤ s) (hn : (d ++ r).Nodup) : left (d ++ r) (r.headD 0) = r.length := by
  cases r with
  | nil => rfl
  | cons s r => exact left_at d r s (hp s (by simp)) hn

/-- The ids of a level, in order. -/
def idsOf (R : List (Nat × Nat)) (lv : Nat) : List Int := (QL R lv).map (fun s : Nat => (s : Int) - 1)

/-- What the yielding reads of a queue. -/
structure Reads (W : World) (b g n : Nat) (R : List (Nat × Nat)) (lv : Nat) : Prop where
  fst : W.cell? ⟨b, lv, none⟩ = some (.int .i64 ((QL R lv).headD 0 : Nat))
  sl : ∃ cp, W.cell? ⟨b, 516, none⟩ = some (.slice (some ⟨g, 0, none⟩) (n + 1) cp)
  nx : ∀ d s r, QL R lv = d ++ s :: r → W.cell? ⟨g, s * 4 + 1, none⟩ = some (.int .i64 (r.headD 0 : Nat))
theorem IsQ.reads {W : World} {b g n : Nat} {R : List (Nat × Nat)} (h : IsQ W b g n R) (lv : Nat) (hlv : lv < 256) : Reads W b g n R lv ∧ (QL R lv).Nodup ∧ ∀ s ∈ QL R lv, 1 ≤ s ∧ s ≤ n := by
  obtain ⟨hn, F, L, m, c, A, B, V, T, hr, hv⟩ := h
  refine ⟨⟨?_, hr.sl, fun d s r e => ?_⟩, QL_nodup hv.ids lv, fun s hs => ⟨QL_pos hs, (hv.spot_le hs).1⟩⟩
  · rw [← hv.hd lv hlv]
    exact hr.fst lv hlv
  · have hch := hv.ch lv hlv
    rw [e] at hch
    have := (chain_mid A B s r d 0 hch).2.1
    rw [← this]
    exact hr.lb s (hv.spot_le (show s ∈ QL R lv by rw [e]; simp)).1
theorem Reads.below {W W' : World} {b g n n0 : Nat} {R : List (Nat × Nat)} {lv : Nat} (h : Reads W b g n R lv) (hb : Below n0 W W') (h1 : b < n0) (h2 : g < n0) : Reads W' b g n R lv :=
  ⟨(hb.cell (p := ⟨b, lv, none⟩) h1).trans h.fst, h.sl.imp (fun _ q => (hb.cell (p := ⟨b, 516, none⟩) h1).trans q), fun d s r e => (hb.cell (p := ⟨g, s * 4 + 1, none⟩) h2).trans (h.nx d s r e)⟩

/-- What a round must keep: what lay below, and the box of the queue's pointer. -/
def Kp (n0 B1 b : Nat) (A B : World) : Prop := Below n0 A B ∧ (Boxed A B1 25 (.pointer (some ⟨b, 0, none⟩)) → Boxed B B1 25 (.pointer (some ⟨b, 0, none⟩)))

set_option maxRecDepth 100000 in
set_option maxHeartbeats 2000000 in
theorem yields_in (nn : Nat) (hn : 1 ≤ nn) (l B1 B2 n0 b g n lv : Nat) (R : List (Nat × Nat)) (J Jx : List Int → World → Prop)
    (hY : ∀ pre x W, J pre W → pre.length < (idsOf R lv).length → YieldAt Fence.wide (nn - 1) Try.prog l #[.int .i64 x] W fun e W' =>
      (e = .returned (.bool true) ∧ J (pre ++ [x]) W' ∧ Kp n0 B1 b W W') ∨ (e = .returned (.bool false) ∧ Jx (pre ++ [x]) W'))
    (W : World) (hlv : lv < 256) (hb1 : Boxed W B1 25 (.pointer (some ⟨b, 0, none⟩))) (hb2 : W.cell? ⟨B2, 0, none⟩ = some (.int .u8 lv)) (hr : Reads W b g n R lv) (hnd : (QL R lv).Nodup) (hsp : ∀ s ∈ QL R lv, 1 ≤ s ∧ s ≤ n) (hn1 : n ≤ 1024) (hbn : b < n0) (hgn : g < n0) (h0 : ∀ q, J [] (W.drewN q)) :
    CallsIn Fence.wide nn Try.prog 45 #[.func (.yield l) #[] #[], .pointer (some ⟨B1, 0, none⟩), .pointer (some ⟨B2, 0, none⟩)] W fun e W' => (∃ v, e = .returned v) ∧
      ((∃ ys, ys = idsOf R lv ∧ J ys W') ∨ (∃ pre, pre <+: idsOf R lv ∧ Jx pre W')) := by
  have c1 := hb1.cell
  have c3 := hr.fst
  have HB1 := veil hb1
  have HR := veil hr
  have H0 := veil h0
  have HY := veil hY
  have HND := veil hnd
  have HSP := veil hsp
  clear hb1 hr h0 hY hnd hsp
  refine callsIn_of_wp Try.func45 rfl trivial ?_ rfl
  simp only [Try.ntmps45, List.size_toArray, List.length_cons, List.length_nil, Nat.reduceAdd, Nat.reduceSub, Array.replicate_succ, Array.replicate_zero, List.push_toArray, List.append_toArray, List.nil_append, List.cons_append]
  gi_wp2
  gi_quiet (fail)
  gi_wp2
  gi_loopw [4] (fun p wr => ∃ (d r : List Nat), QL R lv = d ++ r ∧ p = .int .i64 (r.headD 0 : Nat) ∧ Reads wr b g n R lv ∧ Boxed wr B1 25 (.pointer (some ⟨b, 0, none⟩)) ∧ J (d.map (fun s : Nat => (s : Int) - 1)) wr)
    (fun p _ => left (QL R lv) (intOf p).toNat)
  case atStart => exact ⟨[], QL R lv, rfl, by simp, ⟨HR.out.fst, HR.out.sl, HR.out.nx⟩, HB1.out, H0.out _⟩
  case round =>
    obtain ⟨d, r, hq, rfl, hre, hbx, hJ⟩ := hrel
    have hJl : (d.map (fun s : Nat => (s : Int) - 1)).length < (idsOf R lv).length ∨ r = [] := by
      cases r with
      | nil => exact .inr rfl
      | cons s r => left; unfold idsOf; rw [hq]; simp
    cases r with
    | nil =>
      have HJ := veil hJ
      have HQ := veil hq
      clear hre hbx hJ hq
      gi_wp2
      go_end0
      have hj := HJ.out
      have he : idsOf R lv = d.map (fun s : Nat => (s : Int) - 1) := by unfold idsOf; rw [HQ.out]; simp
      rw [← he] at hj
      exact ⟨⟨_, rfl⟩, .inl (by first | exact ⟨_, rfl, hj⟩ | exact hj)⟩
    | cons s r =>
      have hs := HSP.out s (by rw [hq]; simp)
      have hs1 := hs.1
      have hs2 := hs.2
      obtain ⟨fn, tmps, assign, body, hy, hR⟩ := HY.out _ ((s : Int) - 1) wr hJ (hJl.resolve_right (by simp))
      have HRe := veil hre
      have HBx := veil hbx
      have HQ := veil hq
      have hs0 : ¬ s = 0 := by omega
      have hlt : s < n + 1 := by omega
      have hle : s ≤ 1024 := by omega
      clear hre hbx hJ hq hJl hs
      simp only [List.headD_cons] at *
      gi_wp2
      refine hR.mono ?_
      rintro e W3 (⟨rfl, hJ3, hk3⟩ | ⟨rfl, hJx3⟩)
      · have hbx3 := hk3.2 HBx.out
        have re3 := HRe.out.below hk3.1 hbn hgn
        have d1 := hbx3.cell
        obtain ⟨cp3, d2⟩ := re3.sl
        have d3 := re3.nx d s r HQ.out
        have HBx3 := veil hbx3
        have HRe3 := veil re3
        have HJ3 := veil hJ3
        clear hbx3 re3 hJ3 hk3 hy hR HY
        gi_wp2
        go_roundw
        case rel => exact ⟨d ++ [s], r, by rw [HQ.out]; simp, by simp, HRe3.out, HBx3.out, by simpa using HJ3.out⟩
        case measure =>
          have hnd := HND.out
          have hsp := HSP.out
          rw [HQ.out] at hnd hsp ⊢
          have m1 := left_at d r s hs1 hnd
          have m2 := left_head (d ++ [s]) r (fun x hx => (hsp x (by simpa using hx)).1) (by simpa using hnd)
          simp [intOf] at m1 m2 ⊢
          omega
      · have HJx := veil hJx3
        clear hJx3 hy hR HY
        gi_wp2
        refine bodyPost_ret (results_none rfl _ _ _) rfl ?_
        refine ⟨⟨_, rfl⟩, .inr ⟨_, ?_, HJx.out⟩⟩
        exact ⟨r.map (fun s : Nat => (s : Int) - 1), by unfold idsOf; rw [HQ.out]; simp⟩
end Go.Proofs.Ythehnicmjiidiaa
