/-
  The places in a processor's order, as they are yielded.
-/
import Derived.RangeFuncNested
import Derived.RangeFuncBound
import Derived.RangeFuncCalls
import Derived.RangeFuncLeaves
import Derived.RangeFuncBox
import Derived.Shelf.Abstract
import Derived.Shelf.RegionOpen
import Derived.WalkKit
import Derived.OwnWalkIn
import Derived.TacticsInMore
import Derived.LoopNIn
import Derived.LoopIn
import Derived.Test.YtlfejgjhamcahaaZ9
namespace Go.Proofs.Ytlfejgjhamcahaa
open Go.RowKit Go.Shelf
set_option linter.unusedVariables false
attribute [local go_sem] Oper.semAt_some

/-- A place. -/
abbrev Pl (np : Nat) := { x : Nat // x ≤ np }
def plOf (np p d i : Nat) : Nat := (p + 1 + d % np + i) % np
def ordsU (np p d i : Nat) : List Nat := p :: np :: ((List.range i).map (plOf np p d)).filter (· != p)
def ords (np p d : Nat) : List Nat := ordsU np p d np
theorem ordsU_yes {np p d i : Nat} (h : plOf np p d i ≠ p) : ordsU np p d (i + 1) = ordsU np p d i ++ [plOf np p d i] := by
  unfold ordsU
  rw [List.range_succ, List.map_append, List.filter_append]
  simp [h]
theorem ordsU_no {np p d i : Nat} (h : plOf np p d i = p) : ordsU np p d (i + 1) = ordsU np p d i := by
  unfold ordsU
  rw [List.range_succ, List.map_append, List.filter_append]
  simp [h]
theorem ordsU_len (np p d i : Nat) : (ordsU np p d i).length ≤ i + 2 := by
  unfold ordsU
  have := List.length_filter_le (· != p) ((List.range i).map (plOf np p d))
  simp at this ⊢
  omega
theorem ordsU_pre {np p d i : Nat} : ∀ {j : Nat}, i ≤ j → ordsU np p d i <+: ordsU np p d j
  | 0, h => by
    have : i = 0 := by omega
    rw [this]
    exact List.prefix_refl _
  | j + 1, h => by
    rcases Nat.eq_or_lt_of_le h with e | e
    · rw [e]; exact List.prefix_refl _
    · have := ordsU_pre (np := np) (p := p) (d := d) (i := i) (j := j) (by omega)
      by_cases q : plOf np p d j = p
      · rw [ordsU_no q]; exact this
      · rw [ordsU_yes q]; exact this.trans (List.prefix_append _ _)
/-- What the yielding reads. -/
structure RdP (W : World) (B1 B2 B3 pb np p d : Nat) (a : Option Addr) (cap : Nat) : Prop where
  l1 : B1 < W.heap.size
  l2 : B2 < W.heap.size
  l3 : B3 < W.heap.size
  l4 : pb < W.heap.size
  c1 : W.cell? ⟨B1, 0, none⟩ = some (.int .i64 (p : Int))
  c2 : W.cell? ⟨B2, 0, none⟩ = some (.pointer (some ⟨pb, 0, none⟩))
  c3 : W.cell? ⟨B3, 0, none⟩ = some (.int .u64 (d : Int))
  c0 : W.cell? ⟨pb, 0, none⟩ = some (.slice a (np + 1) cap)
theorem RdP.fr {W W' : World} {B1 B2 B3 pb np p d : Nat} {a : Option Addr} {cap : Nat} {S : Nat → Prop} (h : RdP W B1 B2 B3 pb np p d a cap) (hS : ¬ S B1 ∧ ¬ S B2 ∧ ¬ S B3 ∧ ¬ S pb) (hf : Fr S W W') : RdP W' B1 B2 B3 pb np p d a cap :=
  ⟨Nat.lt_of_lt_of_le h.l1 hf.size, Nat.lt_of_lt_of_le h.l2 hf.size, Nat.lt_of_lt_of_le h.l3 hf.size, Nat.lt_of_lt_of_le h.l4 hf.size, (hf.cell (a := ⟨B1, 0, none⟩) h.l1 hS.1).trans h.c1, (hf.cell (a := ⟨B2, 0, none⟩) h.l2 hS.2.1).trans h.c2, (hf.cell (a := ⟨B3, 0, none⟩) h.l3 hS.2.2.1).trans h.c3, (hf.cell (a := ⟨pb, 0, none⟩) h.l4 hS.2.2.2).trans h.c0⟩

set_option maxRecDepth 100000 in
set_option maxHeartbeats 4000000 in
theorem places_in (nn : Nat) (hn : 1 ≤ nn) (l B1 B2 B3 pb np p d : Nat) (a : Option Addr) (cap : Nat) (hp : p < np) (hnp : np ≤ 64) (hd : d < 18446744073709551616) (S : Nat → Prop) (hS : ¬ S B1 ∧ ¬ S B2 ∧ ¬ S B3 ∧ ¬ S pb) (J Jx : List (Pl np) → World → Prop)
    (hY : ∀ pre x W, J pre W → pre.length < np + 2 → YieldAt Fence.wide (nn - 1) Try.prog l #[.int .i64 (x.1 : Int)] W fun e W' =>
      (e = .returned (.bool true) ∧ J (pre ++ [x]) W' ∧ Fr S W W') ∨ (e = .returned (.bool false) ∧ Jx (pre ++ [x]) W'))
    (hD : ∀ pre W q, J pre W → J pre (World.drewN W q))
    (W : World) (hR : RdP W B1 B2 B3 pb np p d a cap) (h0 : J [] W) :
    CallsIn Fence.wide nn Try.prog 66 #[.func (.yield l) #[] #[], .pointer (some ⟨B1, 0, none⟩), .pointer (some ⟨B2, 0, none⟩), .pointer (some ⟨B3, 0, none⟩)] W fun e W' => (∃ v, e = .returned v) ∧
      ((∃ ys : List (Pl np), ys.map (·.1) = ords np p d ∧ J ys W') ∨ (∃ pre : List (Pl np), pre.map (·.1) <+: ords np p d ∧ Jx pre W')) := by
  have c1 := hR.c1
  have c2 := hR.c2
  have HR := veil hR
  have HY := veil hY
  have HD := veil hD
  have HS := veil hS
  have HSH := veil (fun W h0 => (callsIn_wide (n := nn - 1)).2 (pshared_c W pb np a cap hnp h0))
  obtain ⟨fn, tmps, assign, body, hy, hRd⟩ := hY [] ⟨p, by omega⟩ W h0 (by simp)
  dsimp only at hy
  have HRD := veil hRd
  clear hR hY hD hS h0 hRd
  refine callsIn_of_wp Try.func66 rfl trivial ?_ rfl
  simp only [Try.ntmps66, List.size_toArray, List.length_cons, List.length_nil, Nat.reduceAdd, Nat.reduceSub, Array.replicate_succ, Array.replicate_zero, List.push_toArray, List.append_toArray, List.nil_append, List.cons_append]
  gi_wp2
  refine HRD.out.mono ?_
  rintro e W1 (⟨rfl, hJ1, hk1⟩ | ⟨rfl, hJx1⟩)
  · have HR1 := veil (HR.out.fr HS.out hk1)
    have HJ1 := veil hJ1
    have d2 := HR1.out.c2
    have D0 := veil HR1.out.c0
    clear hJ1 hk1 c1 c2 hy HRD
    gi_wp2_with (refine ⟨trivial, ?_⟩; gi_at_call 51; refine (HSH.out _ D0.out).mono ?_; rintro e w2 ⟨rfl, hw2⟩; replace hw2 := hw2.symm; subst hw2)
    obtain ⟨fn, tmps, assign, body, hy, hRd⟩ := HY.out [⟨p, by omega⟩] ⟨np, by omega⟩ W1 HJ1.out (by simp)
    dsimp only at hy
    rw [hy, Oper.uponIn_round]
    refine ⟨fun _ => hn, hRd.mono ?_⟩
    rintro e W2 (⟨rfl, hJ2, hk2⟩ | ⟨rfl, hJx2⟩)
    · have HR2 := veil (HR1.out.fr HS.out hk2)
      have HJ2 := veil hJ2
      have e1 := HR2.out.c1
      have e2 := HR2.out.c2
      have e3 := HR2.out.c3
      have E0 := veil HR2.out.c0
      have z0 : ¬ (np : Int) = 0 := by omega
      clear hJ2 hk2 d2 D0 hy hRd
      gi_wp2_with (refine ⟨trivial, ?_⟩; gi_at_call 51; refine (HSH.out _ E0.out).mono ?_; rintro e w2 ⟨rfl, hw2⟩; replace hw2 := hw2.symm; subst hw2)
      gi_quiet (fail)
      gi_wp2
      have ew : wrap64 ((p : Int) + 1 + wrap64 ((d : Int) % (np : Int))) = ((p + 1 + d % np : Nat) : Int) := by
        have h1 : (d : Int) % (np : Int) = ((d % np : Nat) : Int) := by omega
        have h2 : d % np < np := Nat.mod_lt _ (by omega)
        rw [h1]
        unfold wrap64
        omega
      simp only [ew]
      have hf : p + 1 + d % np ≤ 128 := by
        have h2 : d % np < np := Nat.mod_lt _ (by omega)
        omega
      have HPL : Hid (∀ i, (p + 1 + d % np + i) % np = plOf np p d i) := fun i => rfl
      generalize p + 1 + d % np = f at *
      have HDR := veil (HD.out _ _ nq HJ2.out)
      have HRR := veil (show RdP (W2.drewN nq) B1 B2 B3 pb np p d a cap from ⟨HR2.out.l1, HR2.out.l2, HR2.out.l3, HR2.out.l4, HR2.out.c1, HR2.out.c2, HR2.out.c3, HR2.out.c0⟩)
      clear HJ2 HR2 e1 e2 e3 E0 ew
      gi_loopw [31] (fun v wr => ∃ i : Nat, i ≤ np ∧ v = .int .i64 (i : Int) ∧ RdP wr B1 B2 B3 pb np p d a cap ∧ ∃ ys : List (Pl np), ys.map (·.1) = ordsU np p d i ∧ J ys wr) (fun v _ => np - (intOf v).toNat)
      case atStart => exact ⟨0, Nat.zero_le _, rfl, HRR.out, _, rfl, HDR.out⟩
      case round =>
        obtain ⟨i, hi, rfl, hRi, ys, hys, hJi⟩ := hrel
        have g1 := hRi.c1
        have HRi := veil hRi
        have HJi := veil hJi
        have HYS := veil hys
        clear hRi hJi hys
        by_cases hil : i < np
        · have hil' : (i : Int) < (np : Int) := by omega
          obtain ⟨x, hx⟩ : ∃ x, plOf np p d i = x := ⟨_, rfl⟩
          have em : ((f : Int) + (i : Int)) % (np : Int) = (x : Int) := by rw [← hx, ← HPL.out i]; push_cast; rfl
          by_cases hxp : x = p
          · rw [hxp] at em
            have HNX := veil (show ys.map (·.1) = ordsU np p d (i + 1) by rw [ordsU_no (hx.trans hxp)]; exact HYS.out)
            clear hx hxp
            gi_wp2
            refine ⟨fun _ h => (by cases h), ?_⟩
            gi_wp2
            go_roundw
            case rel => exact ⟨i + 1, by omega, by go_num, HRi.out, ys, HNX.out, HJi.out⟩
            case measure => simp [intOf]; omega
          · have hxn : x ≤ np := by rw [← hx]; exact Nat.le_of_lt (Nat.mod_lt _ (by omega))
            have en : ((x : Int) != (p : Int)) = true := by simp; omega
            have HNX := veil (show (ys ++ [(⟨x, hxn⟩ : Pl np)]).map (·.1) = ordsU np p d (i + 1) by rw [ordsU_yes (by rw [hx]; exact hxp), List.map_append, HYS.out, hx]; rfl)
            have hlen : ys.length < np + 2 := by
              have := ordsU_len np p d i
              rw [← HYS.out, List.length_map] at this
              omega
            obtain ⟨fn, tmps, assign, body, hy, hRd⟩ := HY.out ys ⟨x, hxn⟩ wr HJi.out hlen
            dsimp only at hy
            have HRD := veil hRd
            clear hx hlen hRd
            gi_wp2
            refine HRD.out.mono ?_
            rintro e W3 (⟨rfl, hJ3, hk3⟩ | ⟨rfl, hJx3⟩)
            · have HR3 := veil (HRi.out.fr HS.out hk3)
              have HJ3 := veil hJ3
              clear hJ3 hk3 hy
              gi_wp2
              go_roundw
              case rel => exact ⟨i + 1, by omega, by go_num, HR3.out, _, HNX.out, HJ3.out⟩
              case measure => simp [intOf]; omega
            · have HJx := veil hJx3
              clear hJx3 hy
              gi_wp2
              refine bodyPost_ret (results_none rfl _ _ _) rfl ?_
              refine ⟨⟨_, rfl⟩, .inr ⟨_, ?_, HJx.out⟩⟩
              rw [HNX.out]
              exact ordsU_pre (by omega)
        · obtain rfl : i = np := by omega
          gi_wp2
          go_end0
          exact ⟨⟨_, rfl⟩, .inl ⟨ys, HYS.out, HJi.out⟩⟩
    · have HJx := veil hJx2
      clear hJx2
      gi_wp2
      refine bodyPost_ret (results_none rfl _ _ _) rfl ?_
      refine ⟨⟨_, rfl⟩, .inr ⟨_, ?_, HJx.out⟩⟩
      exact ordsU_pre (i := 0) (Nat.zero_le _)
  · have HJx := veil hJx1
    clear hJx1
    gi_wp2
    refine ⟨trivial, ?_⟩
    gi_wp2
    refine ⟨fun _ h => (by cases h), ?_⟩
    gi_wp2
    refine bodyPost_ret (results_none rfl _ _ _) rfl ?_
    refine ⟨⟨_, rfl⟩, .inr ⟨_, ?_, HJx.out⟩⟩
    exact (show [p] <+: [p, np] from ⟨[np], rfl⟩).trans (ordsU_pre (np := np) (p := p) (d := d) (i := 0) (Nat.zero_le np))
end Go.Proofs.Ytlfejgjhamcahaa
