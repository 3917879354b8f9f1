/- What comes in: bytes. A wheel where all times are one. -/
import Derived.Test.YtjmbadadelelfaaWe6
namespace Go.Proofs.Ytjmbadadelelfaa
open Go.RowKit Go.Lib Go.Deep Go.ChangeShapes Go.WideShapes Go.ChangeAt
set_option linter.unusedVariables false
set_option linter.unusedSimpArgs false
set_option maxRecDepth 100000
def U8s (w : World) (a : Option Addr) (len : Nat) (D : Nat → Nat) : Prop :=
  len = 0 ∨ ∃ lb off, a = some ⟨lb, off, none⟩ ∧ lb < w.heap.size ∧ ∀ j, j < len → D j < 256 ∧ w.cell? ⟨lb, off + j, none⟩ = some (.int .u8 (D j : Int))
theorem u8_of {z : Int} (h : (Lit.int .u8 z).wf = true) : ∃ n : Nat, z = n ∧ n < 256 := by
  simp [Lit.wf, IntKind.min, IntKind.max, IntKind.bits, IntKind.signed] at h
  exact ⟨z.toNat, by omega, by omega⟩
section
variable {H : Type} {enc : TypeId × Value → H} {w : World} {base : Nat} {spare : Nat → Bool} {held : Bool}
theorem cellsU8b : Try.prog.cellsOf 5 = 1 := by kernel_rfl
theorem open_u8s {fuel : Nat} {a : Option Addr} {len cap : Nat} {x : DataW H × List MemPlace}
    (h : DataW.trod enc Try.prog w base spare held fuel 53 (Value.slice a len cap).cells.toList = some x) : len < 9223372036854775808 ∧ len ≤ cap ∧ cap < 9223372036854775808 ∧ ∃ D, U8s w a len D := by
  rcases open_slice Try.underlying53 h with ⟨hcs, _⟩ | ⟨a', len', cap', m, n, D, Pl, hcs, hbb, hl, hm, hmm, hx, hel⟩
  · simp [Value.cells] at hcs
    obtain ⟨rfl, rfl, rfl⟩ := hcs
    exact ⟨by omega, by omega, by omega, fun _ => 0, .inl rfl⟩
  · simp [Value.cells] at hcs
    obtain ⟨rfl, rfl, rfl⟩ := hcs
    have hlm : len ≤ m := by rw [hmm]; split <;> omega
    refine ⟨by unfold maxLen at hm; omega, hl, by unfold maxLen at hm; omega, ?_⟩
    have hone : ∀ i, i < len → ∃ r : Nat, r < 256 ∧ w.cell? (a'.add (i * 1)) = some (.int .u8 (r : Int)) := by
      intro i hi'
      obtain ⟨cs', h1, h2⟩ := hel i (by omega)
      rw [cellsU8b] at h1
      obtain ⟨_, hlen, hc⟩ := World.cells?_some h1
      match cs', hlen with
      | [c0], _ =>
        obtain ⟨z0, e0, _, w0⟩ := DataW.trod_int Try.underlying5 h2
        simp at e0
        subst e0
        obtain ⟨n0, rfl, q0⟩ := u8_of w0
        have a0 := hc 0 (by omega)
        have az : ∀ x : Addr, x.add 0 = x := fun x => by unfold Addr.add; split <;> simp_all
        rw [az] at a0
        exact ⟨n0, q0, a0⟩
    obtain ⟨f, hf⟩ := choose_lt' hone
    refine ⟨f, ?_⟩
    by_cases h0 : len = 0
    · exact .inl h0
    · right
      obtain ⟨b, off, spot⟩ := a'
      have hspot : spot = none := by
        have := World.cell?_spot (hf 0 (by omega)).2
        simpa [Addr.add] using this
      subst hspot
      have hlt : b < w.heap.size := by
        have := World.block_lt_of_cell? w _ (hf 0 (by omega)).2
        simpa [Addr.add] using this
      refine ⟨b, off, rfl, hlt, fun i hi' => ?_⟩
      obtain ⟨q0, q1⟩ := hf i hi'
      simp only [Go.WideShapes.add_plain, Nat.mul_one] at q1
      exact ⟨q0, q1⟩
end
/-- All at one time. -/
def One (t : Nat) (S : List It) : Prop := ∀ x ∈ S, x.t = t
section
variable {w w' : World} {lo b g mb n nw t : Nat} {S : List It}
theorem One.few (h : One t S) : ∀ ts : List Nat, ts.Nodup → (∀ k ∈ ts, ∃ x ∈ S, ky nw x = k) → ts.length ≤ 12 := by
  intro ts hn hk
  match ts, hn, hk with
  | [], _, _ => simp
  | [a], _, _ => simp
  | a :: c :: l, hn, hk =>
    exfalso
    obtain ⟨x, hx, ex⟩ := hk a (by simp)
    obtain ⟨y, hy, ey⟩ := hk c (by simp)
    have h1 := h x hx
    have h2 := h y hy
    have : a = c := by unfold ky at ex ey; omega
    rw [this] at hn
    simp at hn
theorem Sol.few (h : Sol w lo b g mb n nw S) (h1 : One t S) (to : Nat) (ht : to < 18446744073709551616) :
    Calls Try.prog 16 #[.pointer (some ⟨b, 0, none⟩), .int .u64 (to : Int)] w fun e w' => (∃ v, e = .returned v ∧ w'.ownsRow w.heap.size 3 1 v (due (max to nw) S).length (iv (spots (due (max to nw) S)))) ∧ Sol w' lo b g mb n (max to nw) (late (max to nw) S) ∧ Fr (O3 b g mb) w w' :=
  (advance_few h.p 12 sorts12 h1.few to ht).mono (fun _ _ q => ⟨q.1, ⟨q.2.1, h.lo⟩, q.2.2⟩)
theorem One.due (h : One t S) {to : Nat} (hto : t ≤ to) : due to S = S := List.filter_eq_self.2 (fun x hx => by have := h x hx; simp; omega)
theorem One.not (h : One t S) {to : Nat} (hto : to < t) : Go.Proofs.Ytjmbadadelelfaa.due to S = [] ∧ late to S = S :=
  ⟨List.filter_eq_nil_iff.2 (fun x hx => by have := h x hx; simp; omega), List.filter_eq_self.2 (fun x hx => by have := h x hx; simp; omega)⟩
theorem One.ins (h : One t S) (i : Nat) : Go.Proofs.Ytjmbadadelelfaa.ins ⟨i, t⟩ S = S ++ [⟨i, t⟩] ∧ One t (S ++ [⟨i, t⟩]) := by
  constructor
  · unfold Go.Proofs.Ytjmbadadelelfaa.ins
    rw [List.filter_eq_self.2 (fun x hx => by have := h x hx; simp; omega), List.filter_eq_nil_iff.2 (fun x hx => by have := h x hx; simp; omega)]
  · intro x hx
    rcases List.mem_append.1 hx with q | q
    · exact h x q
    · simp at q; rw [q]
theorem One.set (h : One t S) (i : Nat) (hc : setC n S (i : Int) = 0) : setS n S (i : Int) t = S ++ [⟨i, t⟩] := by
  unfold setS
  rw [if_pos hc]
  exact (h.ins i).1
theorem set_id {id : Int} (hc : setC n S id ≠ 0) : setS n S id t = S := by
  unfold setS
  rw [if_neg hc]
theorem iv_snoc (S : List It) (x : It) : iv (spots (S ++ [x])) = iv (spots S) ++ [.int .i64 (x.i : Int)] := by
  rw [spots_append, iv_append]
  simp [iv, spots]
end
end Go.Proofs.Ytjmbadadelelfaa
