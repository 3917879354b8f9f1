/-
  exec: what is needed of programs: Check with a known answer, rows of instructions, the document's Same, what came in.
-/
import Derived.Test.YteknpjjgppmlmaaO3
import Derived.ProofKit
import Derived.Deep.Slices
import Derived.Deep.Strs
import Derived.ChangeOld
import Derived.OpenShut
namespace Go.Proofs.Yteknpjjgppmlmaa
open Go.RowKit Go.Lib Go.Deep Go.ChangeShapes Go.WideShapes Go.ChangeAt
set_option linter.unusedVariables false

theorem Chk.zero {len : Nat} {O R : Nat → Int} {y : Int} (h : Chk len O R 0 y) : 1 ≤ len ∧ len ≤ 64 ∧ (∀ i, i < len → okI len (O i) (R i) = true) ∧ (O (len - 1) = 8 ∨ O (len - 1) = 9) ∧ y = 0 := by
  rcases h with ⟨_, h, _⟩ | ⟨_, _, _, _, _, _, h, _⟩ | ⟨_, _, _, _, _, h, _⟩ | ⟨h1, h2, h3, h4, _, h5⟩
  · omega
  · omega
  · omega
  · exact ⟨h1, h2, h3, h4, h5⟩
theorem Chk.three {len : Nat} {O R : Nat → Int} {x y : Int} (h : Chk len O R x y) (hx : x ≠ 0) : x = 3 := by
  rcases h with ⟨_, h, _⟩ | ⟨_, _, _, _, _, _, h, _⟩ | ⟨_, _, _, _, _, h, _⟩ | ⟨h1, h2, h3, h4, h5, _⟩
  · exact h
  · exact h
  · exact h
  · omega
/-- A right program. -/
def Rt (len : Nat) (O R : Nat → Int) : Prop := ∃ y, Chk len O R 0 y
theorem below_drewN {B : Nat} {w w' : World} (h : Below B w w') (q : Nat) : Below B w (w'.drewN q) := ⟨h.os, h.tape, h.output, h.size, h.block⟩
theorem check_known (w : World) (a : Option Addr) (len cap : Nat) (hlen : len < 9223372036854775808) (O R : Nat → Int) (hp : Prg w a len O R) (x y : Int) (h : Chk len O R x y) :
    Calls Try.prog 23 #[.slice a len cap] w fun e w' => e = .returned (.tuple #[.int .i64 x, .int .i64 y]) ∧ Below w.heap.size w w' :=
  (check_ok w a len cap hlen O R hp).mono fun e w' ⟨x', y', he, hc, hb⟩ => by
    obtain ⟨rfl, rfl⟩ := h.one hc
    exact ⟨he, hb⟩
theorem rcheck_known (w : World) (a : Option Addr) (len cap : Nat) (hlen : len < 9223372036854775808) (O R : Nat → Int) (hp : Prg w a len O R) (x y : Int) (h : Chk len O R x y) :
    Calls Try.prog 19 #[.slice a len cap] w fun e w' => e = .returned (.tuple #[.int .i64 x, .int .i64 y]) ∧ Below w.heap.size w w' :=
  (rcheck_ok w a len cap hlen O R hp).mono fun e w' ⟨x', y', he, hc, hb⟩ => by
    obtain ⟨rfl, rfl⟩ := h.one hc
    exact ⟨he, hb⟩
theorem first_bad (f : Nat → Bool) : ∀ n, (∀ i, i < n → f i = true) ∨ ∃ j, j < n ∧ (∀ i, i < j → f i = true) ∧ f j = false
  | 0 => .inl (fun i hi => by omega)
  | n + 1 => by
    rcases first_bad f n with h | ⟨j, h1, h2, h3⟩
    · cases hk : f n with
      | true =>
        refine .inl (fun i hi => ?_)
        by_cases q : i = n
        · rw [q]; exact hk
        · exact h i (by omega)
      | false => exact .inr ⟨n, by omega, h, hk⟩
    · exact .inr ⟨j, by omega, h2, h3⟩
/-- Check has an answer. -/
theorem chk_total (len : Nat) (O R : Nat → Int) : ∃ x y, Chk len O R x y := by
  by_cases h1 : len < 1 ∨ 64 < len
  · exact ⟨3, 0, .inl ⟨h1, rfl, rfl⟩⟩
  · rcases first_bad (fun i => okI len (O i) (R i)) len with h2 | ⟨j, hj, h2, h3⟩
    · by_cases h3 : O (len - 1) = 8 ∨ O (len - 1) = 9
      · exact ⟨0, 0, .inr (.inr (.inr ⟨by omega, by omega, h2, h3, rfl, rfl⟩))⟩
      · exact ⟨3, _, .inr (.inr (.inl ⟨by omega, by omega, h2, fun q => h3 (.inl q), fun q => h3 (.inr q), rfl, rfl⟩))⟩
    · exact ⟨3, _, .inr (.inl ⟨by omega, by omega, j, hj, h2, h3, rfl, rfl⟩)⟩
/-- The cells of a program, up to a place. -/
def pcells (O R : Nat → Int) : Nat → List Value
  | 0 => []
  | k + 1 => pcells O R k ++ [.int .i64 (O k), .int .i64 (R k)]
theorem pcells_length (O R : Nat → Int) : ∀ k, (pcells O R k).length = k * 2
  | 0 => rfl
  | k + 1 => by simp [pcells, pcells_length O R k]; omega
theorem pcells_at (O R : Nat → Int) : ∀ (k i : Nat), i < k → (pcells O R k)[i * 2]? = some (.int .i64 (O i)) ∧ (pcells O R k)[i * 2 + 1]? = some (.int .i64 (R i))
  | k + 1, i, h => by
    by_cases q : i = k
    · subst q
      simp only [pcells]
      constructor
      · rw [List.getElem?_append_right (by rw [pcells_length]; omega), pcells_length]
        simp
      · rw [List.getElem?_append_right (by rw [pcells_length]; omega), pcells_length]
        simp
    · have := pcells_at O R k i (by omega)
      simp only [pcells]
      rw [List.getElem?_append_left (by rw [pcells_length]; omega), List.getElem?_append_left (by rw [pcells_length]; omega)]
      exact this
theorem pcells_congr {O R O' R' : Nat → Int} : ∀ k, (∀ i, i < k → O i = O' i ∧ R i = R' i) → pcells O R k = pcells O' R' k
  | 0, _ => rfl
  | k + 1, h => by
    simp only [pcells]
    rw [pcells_congr k (fun i hi => h i (by omega)), (h k (by omega)).1, (h k (by omega)).2]
theorem pcells_cells {w : World} {lb off len : Nat} {O R : Nat → Int} (hc : ∀ j, j < len → w.cell? ⟨lb, off + j * 2, none⟩ = some (.int .i64 (O j)) ∧ w.cell? ⟨lb, off + j * 2 + 1, none⟩ = some (.int .i64 (R j))) :
    ∀ jj u, (pcells O R len)[jj]? = some u → w.cell? ((⟨lb, off, none⟩ : Addr).add jj) = some u := by
  intro jj u hu
  have hadd : (⟨lb, off, none⟩ : Addr).add jj = ⟨lb, off + jj, none⟩ := by unfold Addr.add; split <;> simp_all
  rw [hadd]
  have hlt : jj < len * 2 := by
    have := (List.getElem?_eq_some_iff.1 hu).1
    rwa [pcells_length] at this
  obtain ⟨i, hi⟩ : ∃ i, jj = i * 2 ∨ jj = i * 2 + 1 := ⟨jj / 2, by omega⟩
  have hil : i < len := by omega
  obtain ⟨p1, p2⟩ := pcells_at O R len i hil
  obtain ⟨q1, q2⟩ := hc i hil
  rcases hi with rfl | rfl
  · rw [p1] at hu; cases hu; exact q1
  · rw [p2] at hu; cases hu; rw [← Nat.add_assoc]; exact q2
theorem pcells_one (O R : Nat → Int) (k : Nat) : ∀ u ∈ pcells O R k, u.oneCell' = true := by
  induction k with
  | zero => intro u hu; cases hu
  | succ k ih =>
    intro u hu
    simp only [pcells, List.mem_append, List.mem_cons, List.not_mem_nil, or_false] at hu
    rcases hu with hu | rfl | rfl
    · exact ih u hu
    · rfl
    · rfl
/-- A row that the law made, as a program. -/
theorem prg_row {w : World} {base : Nat} {v : Value} {k : Nat} {O R : Nat → Int} (h : w.ownsRow base 28 2 v (k + 1) (pcells O R (k + 1))) : ∃ a cap, v = .slice a (k + 1) cap ∧ Prg w a (k + 1) O R := by
  rcases h.2 with ⟨_, h0⟩ | ⟨g, cap, cur, rfl, _, hb, _, _, _, ht⟩
  · omega
  · refine ⟨_, cap, rfl, .inr ⟨g, 0, rfl, (Array.getElem?_eq_some_iff.1 hb).1, fun j hj => ?_⟩⟩
    obtain ⟨p1, p2⟩ := pcells_at O R (k + 1) j hj
    have hz : ∀ i u, i < (k + 1) * 2 → (pcells O R (k + 1))[i]? = some u → w.cell? ⟨g, 0 + i, none⟩ = some u := by
      intro i u hi hu
      rw [← ht, List.getElem?_take_of_lt hi] at hu
      unfold World.cell?
      simp only [hb]
      simpa using hu
    refine ⟨hz _ _ (by omega) p1, ?_⟩
    have := hz (j * 2 + 1) _ (by omega) p2
    rw [← Nat.add_assoc] at this
    exact this
theorem prg_any {w : World} {base : Nat} {v : Value} {k : Nat} {O R : Nat → Int} (h : w.ownsRow base 28 2 v k (pcells O R k)) : ∃ a cap, v = .slice a k cap ∧ Prg w a k O R := by
  cases k with
  | zero =>
    rcases h.2 with ⟨rfl, _⟩ | ⟨g, cap, cur, rfl, _⟩
    · exact ⟨_, _, rfl, .inl rfl⟩
    · exact ⟨_, _, rfl, .inl rfl⟩
  | succ k => exact prg_row h
set_option maxHeartbeats 1000000 in
theorem psame_walk (w : World) (ga oa gb ob len ca cb : Nat) (O R : Nat → Int) (hl : len ≤ 1024)
    (hca : ∀ j, j < len → w.cell? ⟨ga, oa + j * 2, none⟩ = some (.int .i64 (O j)) ∧ w.cell? ⟨ga, oa + j * 2 + 1, none⟩ = some (.int .i64 (R j))) (hcb : ∀ j, j < len → w.cell? ⟨gb, ob + j * 2, none⟩ = some (.int .i64 (O j)) ∧ w.cell? ⟨gb, ob + j * 2 + 1, none⟩ = some (.int .i64 (R j))) :
    Calls Try.prog 16 #[.slice (some ⟨ga, oa, none⟩) len ca, .slice (some ⟨gb, ob, none⟩) len cb] w fun e w' => e = .returned (.bool true) ∧ ∃ q, w' = w.drewN q := by
  have HA := veil hca
  have HB := veil hcb
  clear hca hcb
  go_enter Try.func16, Try.ntmps16
  go_wp2
  go_loopw [5] (fun i wr => ∃ j q : Nat, j ≤ len ∧ i = .int .i64 j ∧ wr = w.drewN q) (fun i _ => len - (intOf i).toNat)
  case atStart => exact ⟨0, 0, by omega, rfl, rfl⟩
  case round =>
    obtain ⟨j, q, hj, rfl, rfl⟩ := hrel
    by_cases hjl : j < len
    · obtain ⟨e1, e2⟩ := HA.out j hjl
      obtain ⟨e3, e4⟩ := HB.out j hjl
      go_wp2
      go_quiet (fail)
      go_wp2
      go_roundw
      case rel => exact ⟨j + 1, _, by omega, by go_num, rfl⟩
      case measure => simp [intOf]; omega
    · go_wp2
      go_ret
      exact ⟨rfl, _, rfl⟩
theorem info_instr : (Try.prog.info? 28).map (fun i => (i.zero, i.size, i.bytes)) = some (some (.agg #[.int .i64 0, .int .i64 0]), 2, 16) := by kernel_rfl
theorem info_parts {P : Program} {e : TypeId} {z : Value} {n m : Nat} (h : (P.info? e).map (fun i => (i.zero, i.size, i.bytes)) = some (some z, n, m)) : ∃ i, P.info? e = some i ∧ i.zero = some z ∧ i.size = n ∧ i.bytes = m := by
  cases hh : P.info? e with
  | none => rw [hh] at h; cases h
  | some i =>
    rw [hh] at h
    simp at h
    exact ⟨i, rfl, h.1, h.2.1, h.2.2⟩
theorem few_ok (w : World) (a : Option Addr) (len cap : Nat) (hlen : len < 9223372036854775808) (hcap : len ≤ cap) (O R : Nat → Int) (hp : Prg w a len O R) :
    Calls Try.prog 10 #[.slice a len cap] w fun e w' => e = .returned (.slice a (min len 100) cap) ∧ w' = w := by
  by_cases h : 100 < len
  · have h' : 100 < (len : Int) := by omega
    have HM : Hid (min len 100 = 100) := by have : min len 100 = 100 := by omega
                                            exact this
    rcases hp with h0 | ⟨lb, off, rfl, hlb, hc⟩
    · omega
    clear hc
    go_enter Try.func10, Try.ntmps10
    go_wp2
    go_ret
    exact ⟨by rw [HM.out]; rfl, rfl⟩
  · have h' : ¬ 100 < (len : Int) := by omega
    have HM : Hid (min len 100 = len) := by have : min len 100 = len := by omega
                                            exact this
    go_enter Try.func10, Try.ntmps10
    go_wp2
    go_ret
    exact ⟨by rw [HM.out]; rfl, rfl⟩
section
variable {H : Type} {enc : TypeId × Value → H} {w : World} {base : Nat} {spare : Nat → Bool} {held : Bool}
theorem cellsInstr : Try.prog.cellsOf 28 = 2 := by kernel_rfl
theorem cellsOp : Try.prog.cellsOf 26 = 1 := by kernel_rfl
theorem cellsInt : Try.prog.cellsOf 3 = 1 := by kernel_rfl
theorem instr_cells {fuel : Nat} {c0 c1 : Value} {x : DataW H × List MemPlace} (h : DataW.trod enc Try.prog w base spare held fuel 28 [c0, c1] = some x) :
    ∃ (p q : Int), c0 = .int .i64 p ∧ c1 = .int .i64 q ∧ (Lit.int .i64 p).wf = true ∧ (Lit.int .i64 q).wf = true := by
  obtain ⟨y0, y1, n, _, _, h0, h1⟩ := trod_struct2 Try.underlying28 h
  obtain ⟨p, e0, _, w0⟩ := DataW.trod_int Try.underlying26 (by simpa [cellsOp] using h0)
  obtain ⟨q, e1, _, w1⟩ := DataW.trod_int Try.underlying3 (by simpa [cellsInt] using h1)
  simp at e0 e1
  exact ⟨p, q, e0, e1, w0, w1⟩
theorem open_prg {fuel : Nat} {a : Option Addr} {len cap : Nat} {x : DataW H × List MemPlace}
    (h : DataW.trod enc Try.prog w base spare held fuel 22 (Value.slice a len cap).cells.toList = some x) : len < 9223372036854775808 ∧ len ≤ cap ∧ cap < 9223372036854775808 ∧ ∃ (O R : Nat → Int), Prg w a len O R := by
  rcases open_slice Try.underlying22 h with ⟨hcs, _⟩ | ⟨a', len', cap', m, n, D, Pl, hcs, hbb, hl, hm, hmm, hx, hel⟩
  · simp [Value.cells] at hcs
    obtain ⟨rfl, rfl, rfl⟩ := hcs
    exact ⟨by omega, by omega, by omega, fun _ => 0, fun _ => 0, .inl rfl⟩
  · simp [Value.cells] at hcs
    obtain ⟨rfl, rfl, rfl⟩ := hcs
    have hlm : len ≤ m := by rw [hmm]; split <;> omega
    refine ⟨by unfold maxLen at hm; omega, hl, by unfold maxLen at hm; omega, ?_⟩
    have hone : ∀ i, i < len → ∃ r : Int × Int, w.cell? (a'.add (i * 2)) = some (.int .i64 r.1) ∧ w.cell? ((a'.add (i * 2)).add 1) = some (.int .i64 r.2) := by
      intro i hi'
      obtain ⟨cs', h1, h2⟩ := hel i (by omega)
      rw [cellsInstr] at h1
      obtain ⟨_, hlen, hc⟩ := World.cells?_some h1
      match cs', hlen with
      | [c0, c1], _ =>
        obtain ⟨p, q, rfl, rfl, _⟩ := instr_cells h2
        have a0 := hc 0 (by omega)
        have az : ∀ x : Addr, x.add 0 = x := fun x => by unfold Addr.add; split <;> simp_all
        rw [az] at a0
        exact ⟨(p, q), a0, hc 1 (by omega)⟩
    obtain ⟨f, hf⟩ := choose_lt hone
    refine ⟨fun i => (f i).1, fun i => (f i).2, ?_⟩
    by_cases h0 : len = 0
    · exact .inl h0
    · right
      obtain ⟨b, off, spot⟩ := a'
      have hspot : spot = none := by
        have := World.cell?_spot (hf 0 (by omega)).1
        simpa [Addr.add] using this
      subst hspot
      have hlt : b < w.heap.size := by
        have := World.block_lt_of_cell? w _ (hf 0 (by omega)).1
        simpa [Addr.add] using this
      refine ⟨b, off, rfl, hlt, fun i hi' => ?_⟩
      obtain ⟨q1, q2⟩ := hf i hi'
      simp only [Go.WideShapes.add_plain] at q1 q2
      exact ⟨q1, q2⟩
end
end Go.Proofs.Yteknpjjgppmlmaa
