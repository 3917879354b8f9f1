/-
  The places of a table, as it yields them.
-/
import Derived.RangeFuncNested
import Derived.RangeFuncBound
import Derived.RangeFuncCalls
import Derived.RangeFuncLeaves
import Derived.RangeFuncBox
import Derived.Shelf.Abstract
import Derived.Shelf.RegionOpen
import Derived.WalkKit
import Derived.OwnWalkIn
import Derived.TacticsInMore
import Derived.LoopNIn
import Derived.LoopIn
import Derived.Maps.AppendAt
import Derived.OrdersHeld
import Derived.OrdersIn
import Derived.Test.YtfhnepoegdhjmaaT3
namespace Go.Proofs.Ytfhnepoegdhjmaa
open Go.RowKit Go.Shelf
set_option linter.unusedVariables false
attribute [local go_sem] Oper.semAt_some

/-! A region that draws its order, within a round: whatever is shown of it outside serves, if it defers nothing. -/
def noDefer (ops : Array Oper) : Bool := ops.all fun o => match o.op with
  | .defer _ => false
  | _ => true
theorem noDefer_at {ops : Array Oper} (h : noDefer ops = true) {i : Nat} {o : Oper} (ho : ops[i]? = some o) : ∀ c, o.op ≠ .defer c := by
  intro c e
  unfold noDefer at h
  rw [Array.all_eq_true'] at h
  have := h o (Array.mem_of_getElem? ho)
  rw [e] at this
  exact absurd this (by simp)
theorem oper_round {P : Program} {o : Oper} {a : Act} {w : World} {K : Act → World → Prop} {Q : Exit → Act → World → Prop} {l n : Nat} (hd : ∀ c, o.op ≠ .defer c) (h : o.wp P a w K Q) : o.wpIn (Fence.wide.inRound l) n P a w K Q := by
  refine ⟨fun _ _ => trivial, ?_⟩
  rw [Oper.semAt_eq _ _ _ hd]
  unfold Oper.wp at h
  revert h
  generalize (execOp a.eval o).run P w = r
  intro h
  match r, h with
  | .ok (.value _) _, h => exact h
  | .ok .skip _, h => exact h
  | .ok (.defer _) _, h => exact h
  | .ok (.enter f args) w', h => exact ⟨fun q => absurd q (by simp [Fence.inRound, Fence.wide]), CallsIn.inRound l (callsIn_wide.2 h)⟩
  | .ok (.row row args) w', h =>
    refine ⟨fun q => absurd q (by simp [Fence.inRound, Fence.wide]), fun c cs _ => ?_⟩
    obtain ⟨v, w'', r1, s⟩ := h c cs
    exact ⟨v, w'', r1, stepsIn_wide.2 s⟩
  | .halt (.panic _) _, h => exact h
theorem any_round {P : Program} {md : Region.Mode} {ops : Array Oper} {Q : Exit → Act → World → Prop} {l n : Nat} (hd : noDefer ops = true) (hlo : ¬ LetsOut Q) : ∀ (fuel : Nat) (listed : Array Bool) (a : Act) (w : World), wpAny P md ops Q fuel listed a w → wpAnyIn (Fence.wide.inRound l) n P md ops Q fuel listed a w
  | 0, _, _, _, h => h
  | fuel + 1, _, a, w, h => ⟨h.1, fun i hi => by
    have h2 := h.2 i hi
    unfold wpOp at h2
    unfold wpOpIn
    cases ho : ops[i]? with
    | none => rw [ho] at h2; exact any_round hd hlo fuel _ _ _ h2
    | some o =>
      rw [ho] at h2
      dsimp only at h2 ⊢
      by_cases hw : Region.wanted o (yielded ops a.tmps) = true
      · rw [if_pos hw] at h2 ⊢
        rcases h2 with h2 | h2
        · exact oper_round (noDefer_at hd ho) (Oper.wp_mono (fun a w q => any_round hd hlo fuel _ a w q) h2)
        · exact absurd h2.2 hlo
      · rw [if_neg hw] at h2 ⊢
        exact ⟨fun _ _ => trivial, any_round hd hlo fuel _ _ _ h2⟩⟩
theorem region_round {P : Program} {id : Nat} {ops : Array Oper} {Q : Exit → Act → World → Prop} {l n : Nat} {a : Act} {w : World} (S : World → Prop) (hm : P.follows .mixedOrders = true) (hd : noDefer ops = true) (hlo : ¬ LetsOut Q) (hS : S w.drew)
    (h : S w.drew → wpAnyH P .any ops Q S ops.size (Array.replicate ops.size false) a w.drew) : (Code.region id ops true).wpIn (Fence.wide.inRound l) n P Q a w :=
  wpIn_region_any hm (any_round hd hlo _ _ _ _ (wpAny_of_held _ _ _ _ (h hS)))

/-- The places below k that are free, or those that are not. -/
def pl (S : Nat → Nat) (fr : Bool) (n : Nat) : Nat → List (Fin n)
  | 0 => []
  | k + 1 => if h : k < n then (if (S k == 0) = fr then pl S fr n k ++ [⟨k, h⟩] else pl S fr n k) else pl S fr n k
theorem pl_yes {S : Nat → Nat} {fr : Bool} {n k : Nat} (h : k < n) (hs : (S k == 0) = fr) : pl S fr n (k + 1) = pl S fr n k ++ [⟨k, h⟩] := by rw [pl, dif_pos h, if_pos hs]
theorem pl_no {S : Nat → Nat} {fr : Bool} {n k : Nat} (hs : ¬ (S k == 0) = fr) : pl S fr n (k + 1) = pl S fr n k := by rw [pl]; split <;> simp 
theorem pl_pre (S : Nat → Nat) (fr : Bool) (n k : Nat) : pl S fr n k <+: pl S fr n (k + 1) := by
  rw [pl]
  split
  · split
    · exact List.prefix_append _ _
    · exact List.prefix_refl _
  · exact List.prefix_refl _
theorem pl_le (S : Nat → Nat) (fr : Bool) (n k : Nat) : ∀ d, pl S fr n k <+: pl S fr n (k + d)
  | 0 => List.prefix_refl _
  | d + 1 => (pl_le S fr n k d).trans (pl_pre S fr n (k + d))
theorem pl_len (S : Nat → Nat) (fr : Bool) (n : Nat) : ∀ k, (pl S fr n k).length ≤ k
  | 0 => Nat.le_refl _
  | k + 1 => by
    have := pl_len S fr n k
    rw [pl]
    split
    · split <;> simp <;> omega
    · omega

/-- What a round must keep: what lay below, and the box of the flag. -/
def Kp (n0 B2 : Nat) (fr : Bool) (A B : World) : Prop := Below n0 A B ∧ (Boxed A B2 4 (.bool fr) → Boxed B B2 4 (.bool fr))
/-- What the yielding reads. -/
structure Reads (W : World) (g n : Nat) (G S : Nat → Nat) : Prop where
  gn : ∀ x, x < n → W.cell? ⟨g, x * 2, none⟩ = some (.int .u32 (G x : Int))
  st : ∀ x, x < n → W.cell? ⟨g, x * 2 + 1, none⟩ = some (.int .i64 (S x : Int))
theorem Reads.below {W W' : World} {g n n0 : Nat} {G S : Nat → Nat} (h : Reads W g n G S) (hb : Below n0 W W') (h2 : g < n0) : Reads W' g n G S :=
  ⟨fun x hx => (hb.cell (p := ⟨g, x * 2, none⟩) h2).trans (h.gn x hx), fun x hx => (hb.cell (p := ⟨g, x * 2 + 1, none⟩) h2).trans (h.st x hx)⟩
theorem Rep.reads {w : World} {b g n : Nat} {G S : Nat → Nat} (h : Rep w b g n G S) : Reads w g n G S := ⟨h.gn, h.st⟩

set_option maxRecDepth 100000 in
set_option maxHeartbeats 2000000 in
theorem yields_in (nn : Nat) (hn : 1 ≤ nn) (l B1 B2 n0 b g n cp : Nat) (G S : Nat → Nat) (fr : Bool) (J Jx : List (Fin n) → World → Prop)
    (hA : ∀ pre W o, J pre W → J pre (World.alloc W o))
    (hY : ∀ pre (x : Fin n) W, J pre W → pre.length < (pl S fr n n).length → YieldAt Fence.wide (nn - 1) Try.prog l #[.int .i64 (x.val : Int)] W fun e W' =>
      (e = .returned (.bool true) ∧ J (pre ++ [x]) W' ∧ Kp n0 B2 fr W W') ∨ (e = .returned (.bool false) ∧ Jx (pre ++ [x]) W'))
    (W : World) (hb1 : W.cell? ⟨B1, 0, none⟩ = some (.pointer (some ⟨b, 0, none⟩))) (hb2 : Boxed W B2 4 (.bool fr)) (hsl : W.cell? ⟨b, 0, none⟩ = some (.slice (some ⟨g, 0, none⟩) n cp)) (hr : Reads W g n G S) (hn1 : n ≤ 1024) (hgn : g < n0) (hn0 : n0 ≤ W.heap.size) (h0 : J [] W) :
    CallsIn Fence.wide nn Try.prog 12 #[.func (.yield l) #[] #[], .pointer (some ⟨B1, 0, none⟩), .pointer (some ⟨B2, 0, none⟩)] W fun e W' => (∃ v, e = .returned v) ∧
      ((∃ ys, ys = pl S fr n n ∧ J ys W') ∨ (∃ pre, pre <+: pl S fr n n ∧ Jx pre W')) := by
  have HB2 := veil hb2
  have HR := veil hr
  have H0 := veil h0
  have HY := veil hY
  have HA := veil hA
  have HN0 := veil hn0
  clear hb2 hr h0 hY hA hn0
  refine callsIn_of_wp Try.func12 rfl trivial ?_ rfl
  simp only [Try.ntmps12, List.size_toArray, List.length_cons, List.length_nil, Nat.reduceAdd, Nat.reduceSub, Array.replicate_succ, Array.replicate_zero, List.push_toArray, List.append_toArray, List.nil_append, List.cons_append]
  gi_wp2
  gi_loopw [11] (fun p wr => ∃ k : Nat, k ≤ n ∧ p = .int .i64 (k : Int) ∧ Reads wr g n G S ∧ Boxed wr B2 4 (.bool fr) ∧ n0 ≤ wr.heap.size ∧ J (pl S fr n k) wr) (fun p _ => n - (intOf p).toNat)
  case atStart => exact ⟨0, by omega, rfl, HR.out, HB2.out, HN0.out, H0.out⟩
  case round =>
    obtain ⟨k, hk, rfl, hre, hbx, hsz, hJ⟩ := hrel
    by_cases hkn : k < n
    · have e1 := hre.gn k hkn
      have e2 := hre.st k hkn
      have e3 := hbx.cell
      have hlt := hbx.lt
      have y1 : ¬ B2 = wr.heap.size := by omega
      have y2 : ¬ g = wr.heap.size := by omega
      have hJ1 := HA.out _ _ (.cells #[.int .u32 (G k : Int), .int .i64 (S k : Int)] 46) hJ
      have hbx1 := hbx.alloc (.cells #[.int .u32 (G k : Int), .int .i64 (S k : Int)] 46)
      have e4 := hbx1.cell
      have hre1 : Reads (wr.alloc (.cells #[.int .u32 (G k : Int), .int .i64 (S k : Int)] 46)) g n G S := hre.below ((Below.refl n0 _).alloc hsz _) hgn
      have hsz1 : n0 ≤ (wr.alloc (.cells #[.int .u32 (G k : Int), .int .i64 (S k : Int)] 46)).heap.size := by simp; omega
      by_cases hp : (S k == 0) = fr
      · have hlen : (pl S fr n k).length < (pl S fr n n).length := by
          have h1 := pl_le S fr n (k + 1) (n - (k + 1))
          rw [show k + 1 + (n - (k + 1)) = n by omega, pl_yes hkn hp] at h1
          have := h1.length_le
          simp at this
          omega
        obtain ⟨fn, tmps, assign, body, hy, hR⟩ := HY.out _ ⟨k, hkn⟩ _ hJ1 hlen
        have HBx := veil hbx1
        have HRe := veil hre1
        have HS := veil hsz1
        have HP := veil hp
        clear hJ hJ1 hbx hbx1 hre hre1 hlen hsz hsz1 hlt
        dsimp only at hy
        cases fr
        · have hz : ¬ (S k : Int) = 0 := by intro q; have : S k = 0 := by omega
                                            rw [this] at hp; exact absurd hp (by decide)
          have hz2 : ((S k : Int) == 0) = false := by simpa using hz
          clear hp
          gi_wp2
          refine hR.mono ?_
          rintro e W3 (⟨rfl, hJ3, hk3⟩ | ⟨rfl, hJx3⟩)
          · have hbx3 := hk3.2 HBx.out
            have re3 := HRe.out.below hk3.1 hgn
            have hs3 : n0 ≤ W3.heap.size := Nat.le_trans HS.out hk3.1.size
            have HBx3 := veil hbx3
            have HRe3 := veil re3
            have HS3 := veil hs3
            have HJ3 := veil hJ3
            clear hbx3 re3 hJ3 hk3 hs3 hy hR HY
            gi_wp2
            go_roundw
            case rel => exact ⟨k + 1, by omega, by go_num, HRe3.out, HBx3.out, HS3.out, by rw [pl_yes hkn HP.out]; exact HJ3.out⟩
            case measure => simp [intOf]; omega
          · have HJx := veil hJx3
            clear hJx3 hy hR HY
            gi_wp2
            refine bodyPost_ret (results_none rfl _ _ _) rfl ?_
            refine ⟨⟨_, rfl⟩, .inr ⟨_, ?_, HJx.out⟩⟩
            have h1 := pl_le S false n (k + 1) (n - (k + 1))
            rw [show k + 1 + (n - (k + 1)) = n by omega, pl_yes hkn HP.out] at h1
            exact h1
        · have hz : (S k : Int) = 0 := by have : S k = 0 := by simpa using hp
                                          omega
          rw [hz] at e2 e4 hy hR HBx HRe HS
          clear hp
          gi_wp2
          refine hR.mono ?_
          rintro e W3 (⟨rfl, hJ3, hk3⟩ | ⟨rfl, hJx3⟩)
          · have hbx3 := hk3.2 HBx.out
            have re3 := HRe.out.below hk3.1 hgn
            have hs3 : n0 ≤ W3.heap.size := Nat.le_trans HS.out hk3.1.size
            have HBx3 := veil hbx3
            have HRe3 := veil re3
            have HS3 := veil hs3
            have HJ3 := veil hJ3
            clear hbx3 re3 hJ3 hk3 hs3 hy hR HY
            gi_wp2
            go_roundw
            case rel => exact ⟨k + 1, by omega, by go_num, HRe3.out, HBx3.out, HS3.out, by rw [pl_yes hkn HP.out]; exact HJ3.out⟩
            case measure => simp [intOf]; omega
          · have HJx := veil hJx3
            clear hJx3 hy hR HY
            gi_wp2
            refine bodyPost_ret (results_none rfl _ _ _) rfl ?_
            refine ⟨⟨_, rfl⟩, .inr ⟨_, ?_, HJx.out⟩⟩
            have h1 := pl_le S true n (k + 1) (n - (k + 1))
            rw [show k + 1 + (n - (k + 1)) = n by omega, pl_yes hkn HP.out] at h1
            exact h1
      · have HBx := veil hbx1
        have HRe := veil hre1
        have HS := veil hsz1
        have HP := veil hp
        have HJ1 := veil hJ1
        clear hJ hJ1 hbx hbx1 hre hre1 hsz hsz1 hlt
        cases fr
        · have hz : (S k : Int) = 0 := by have : S k = 0 := by simpa using hp
                                          omega
          rw [hz] at e2 e4 HBx HRe HS HJ1
          clear hp HY
          gi_wp2
          refine ⟨fun _ h => (by cases h), ?_⟩
          gi_wp2
          go_roundw
          case rel => exact ⟨k + 1, by omega, by go_num, HRe.out, HBx.out, HS.out, by rw [pl_no HP.out]; exact HJ1.out⟩
          case measure => simp [intOf]; omega
        · have hz : ¬ (S k : Int) = 0 := by intro q; have : S k = 0 := by omega
                                            rw [this] at hp; exact absurd rfl hp
          clear hp HY
          gi_wp2
          refine ⟨fun _ h => (by cases h), ?_⟩
          gi_wp2
          go_roundw
          case rel => exact ⟨k + 1, by omega, by go_num, HRe.out, HBx.out, HS.out, by rw [pl_no HP.out]; exact HJ1.out⟩
          case measure => simp [intOf]; omega
    · have hkn' : k = n := by omega
      subst hkn'
      have HJ := veil hJ
      clear hre hbx hJ hsz HY
      gi_wp2
      go_end0
      exact ⟨⟨_, rfl⟩, .inl ⟨_, rfl, HJ.out⟩⟩
end Go.Proofs.Ytfhnepoegdhjmaa
