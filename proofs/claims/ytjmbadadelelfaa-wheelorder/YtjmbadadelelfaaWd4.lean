/- alike; two times come in. -/
import Derived.Test.YtjmbadadelelfaaWd3
namespace Go.Proofs.Ytjmbadadelelfaa
open Go.RowKit Go.Lib Go.Deep Go.ChangeShapes Go.WideShapes Go.ChangeAt
set_option linter.unusedVariables false
set_option linter.unusedSimpArgs false
set_option maxRecDepth 100000
attribute [local go_sem ↓] Go.wp_at_zero Go.wp_at_succ
set_option maxHeartbeats 1000000 in
theorem alike_walk (w : World) (ga gb len ca cb : Nat) (xs : Nat → Int) (hl : len ≤ 1024)
    (hca : ∀ j, j < len → w.cell? ⟨ga, j, none⟩ = some (.int .i64 (xs j))) (hcb : ∀ j, j < len → w.cell? ⟨gb, j, none⟩ = some (.int .i64 (xs j))) :
    Calls Try.prog 20 #[.slice (some ⟨ga, 0, none⟩) len ca, .slice (some ⟨gb, 0, none⟩) len cb] w fun e w' => e = .returned (.bool true) ∧ ∃ q, w' = w.drewN q := by
  have HA := veil hca
  have HB := veil hcb
  clear hca hcb
  go_enter Try.func20, Try.ntmps20
  go_wp2
  go_loopw [5] (fun i wr => ∃ j q : Nat, j ≤ len ∧ i = .int .i64 j ∧ wr = w.drewN q) (fun i _ => len - (intOf i).toNat)
  case atStart => exact ⟨0, 0, by omega, rfl, rfl⟩
  case round =>
    obtain ⟨j, q, hj, rfl, rfl⟩ := hrel
    by_cases hjl : j < len
    · have e1 := HA.out j hjl
      have hjl' : (j : Int) < (len : Int) := by omega
      go_wp2
      go_loopw [6, 7] (fun f i wr => ∃ (k q : Nat) (p : Bool), k ≤ len ∧ i = .int .i64 k ∧ f = .bool p ∧ (j < k → p = true) ∧ wr = w.drewN q) (fun _ i _ => len - (intOf i).toNat)
      case atStart => exact ⟨0, q, false, by omega, rfl, rfl, fun h => by omega, rfl⟩
      case round =>
        obtain ⟨k, q', p, hk, rfl, rfl, hp, rfl⟩ := hrel
        by_cases hkl : k < len
        · have e2 := HB.out k hkl
          have hkl' : (k : Int) < (len : Int) := by omega
          cases p with
          | true =>
            go_wp2
            go_quiet (fail)
            go_wp2
            go_roundw
            case rel => exact ⟨k + 1, _, true, by omega, by go_num, rfl, fun _ => rfl, rfl⟩
            case measure => simp [intOf]; omega
          | false =>
            have hkj : ¬ j < k := fun h => by have := hp h; cases this
            go_wp2
            go_quiet (fail)
            go_wp2
            go_roundw
            case rel => exact ⟨k + 1, _, decide (xs j = xs k), by omega, by go_num, rfl, fun h => decide_eq_true (by rw [show j = k by omega]), rfl⟩
            case measure => simp [intOf]; omega
        · have hkl' : ¬ (k : Int) < (len : Int) := by omega
          have hpt := hp (by omega)
          subst hpt
          go_wp2
          go_roundw
          case rel => exact ⟨j + 1, _, by omega, by go_num, rfl⟩
          case measure => simp [intOf]; omega
    · have hjl' : ¬ (j : Int) < (len : Int) := by omega
      go_wp2
      go_ret
      exact ⟨rfl, _, rfl⟩
theorem alike_empty (w : World) (a b : Option Addr) (ca cb : Nat) :
    Calls Try.prog 20 #[.slice a 0 ca, .slice b 0 cb] w fun e w' => e = .returned (.bool true) ∧ ∃ q, w' = w.drewN q := by
  go_enter Try.func20, Try.ntmps20
  go_wp2
  go_loopw [5] (fun i wr => i = .int .i64 0 ∧ wr = w) (fun i _ => 0)
  case atStart => exact ⟨rfl, rfl⟩
  case round =>
    obtain ⟨rfl, rfl⟩ := hrel
    go_wp2
    go_ret
    exact ⟨rfl, 0, rfl⟩
theorem Two.frame {w w' : World} {lo mid b g mb n nw b' g' mb' nw' : Nat} {S S' : List It} {Z : Nat → Prop} (h : Two w lo mid b g mb n nw S b' g' mb' nw' S') (hf : Fr Z w w') (hz : ∀ k, Z k → ∀ u, O3 b g mb u ∨ O3 b' g' mb' u → u ≠ k) : Two w' lo mid b g mb n nw S b' g' mb' nw' S' :=
  ⟨⟨h.p.p.frame hf (fun k hk q => hz k q k (.inl hk) rfl), h.p.lo⟩, ⟨h.q.p.frame hf (fun k hk q => hz k q k (.inr hk) rfl), h.q.lo⟩, h.lt⟩
theorem Two.top {w : World} {lo mid b g mb n nw b' g' mb' nw' : Nat} {S S' : List It} (h : Two w lo mid b g mb n nw S b' g' mb' nw' S') : ∀ u, O3 b g mb u ∨ O3 b' g' mb' u → u < w.heap.size := fun u hu => hu.elim (h.p.p.blocks u) (h.q.p.blocks u)
theorem alike_yes (w : World) (b1 b2 : Nat) (v1 v2 : Value) (S : List It) (hl : S.length ≤ 1024) (h1 : w.ownsRow b1 3 1 v1 S.length (iv (spots S))) (h2 : w.ownsRow b2 3 1 v2 S.length (iv (spots S))) :
    Calls Try.prog 20 #[v1, v2] w fun e w' => e = .returned (.bool true) ∧ ∃ q, w' = w.drewN q := by
  have i1 := IL_of h1
  have i2 := IL_of h2
  rw [← idl_len] at hl
  generalize idl S = xs at *
  by_cases hx : xs = []
  · subst hx
    obtain ⟨a, ca, rfl⟩ := i1.slice
    obtain ⟨b, cb, rfl⟩ := i2.slice
    exact alike_empty w a b ca cb
  · obtain ⟨ga, ca, rfl, _, _, c1⟩ := i1.cells hx
    obtain ⟨gb, cb, rfl, _, _, c2⟩ := i2.cells hx
    exact alike_walk w ga gb xs.length ca cb (fun j => xs.getD j 0) hl c1 c2
section
variable {H : Type} {enc : TypeId × Value → H} {w : World} {base : Nat} {spare : Nat → Bool} {held : Bool}
theorem cellsTwo64 : Try.prog.cellsOf 40 = 2 := by kernel_rfl
theorem cellsU64' : Try.prog.cellsOf 30 = 1 := by kernel_rfl
theorem open_two64 {r : Reach} {b0 : Nat} {v : Value} {d : DataW H} {p : List MemPlace} (hv : Value.okWide Try.prog w r b0 40 v) (h : DataW.Trod enc Try.prog w base spare held 40 v d p) :
    ∃ (a b : Int), v = .agg #[.int .u64 a, .int .u64 b] ∧ (Lit.int .u64 a).wf = true ∧ (Lit.int .u64 b).wf = true := by
  obtain ⟨cs, rfl, hsz, _⟩ : ∃ cs, v = .agg cs ∧ cs.size = Try.prog.cellsOf 40 ∧ Row.okWide Try.prog w r b0 40 cs := by
    simpa [Value.okWide, Try.underlying40] using hv
  rw [cellsTwo64] at hsz
  obtain ⟨l⟩ := cs
  match l, hsz with
  | [c0, c1], _ =>
    obtain ⟨fuel, hf⟩ := h
    cases fuel with
    | zero => simp [DataW.trod] at hf
    | succ n =>
      unfold DataW.trod at hf
      rw [Try.underlying40] at hf
      have r2 : List.range 2 = [0, 1] := rfl
      simp [r2, cellsU64', Value.cells] at hf
      obtain ⟨_, hf⟩ := hf
      cases h0 : DataW.trod enc Try.prog w base spare held n 30 [c0] with
      | none => simp [h0] at hf
      | some y0 =>
        cases h1 : DataW.trod enc Try.prog w base spare held n 30 [c1] with
        | none => simp [h0, h1] at hf
        | some y1 =>
          obtain ⟨a, e0, _, w0⟩ := DataW.trod_int Try.underlying30 h0
          obtain ⟨b, e1, _, w1⟩ := DataW.trod_int Try.underlying30 h1
          simp at e0 e1
          subst e0 e1
          exact ⟨a, b, rfl, w0, w1⟩
end
end Go.Proofs.Ytjmbadadelelfaa
