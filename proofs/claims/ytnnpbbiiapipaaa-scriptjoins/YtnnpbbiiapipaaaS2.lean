/-
  script: Equal, Same, within, Right walked.
-/
import Derived.Test.YtnnpbbiiapipaaaS1
namespace Go.Proofs.Ytnnpbbiiapipaaa
open Go.RowKit Go.Lib
set_option linter.unusedVariables false

theorem eqAggI (a b c d : Int) (w : World) : (Op.equalIn 10000 64 (.agg #[.int .i64 a, .int .i64 b]) (.agg #[.int .i64 c, .int .i64 d])).run Try.prog w = .ok (a == c && b == d) w := by
  have u3 := Try.underlying62
  have a3 := Try.isAgg62
  have z3 := Try.sizeOf62
  have u4 := Try.underlying3
  have a4 := Try.isAgg3
  have z4 := Try.sizeOf3
  have hS : Try.prog.underlying 64 = some (.struct (Try.prog.fieldsOf 64)) := by kernel_rfl
  rw [show (10000 : Nat) = 9999 + 1 from rfl, run_equalIn_agg w 9999 64 _ _ hS (by kernel_rfl)]
  simp only [Program.fieldsOf, Try.underlying64]
  go_simp
  by_cases h1 : a = c <;> by_cases h2 : b = d <;> simp [h1, h2]
theorem eqIn (a b c d : Int) (w : World) : (Op.equal 64 (.agg #[.int .i64 a, .int .i64 b]) (.agg #[.int .i64 c, .int .i64 d])).run Try.prog w = .ok (a == c && b == d) w := eqAggI _ _ _ _ w
@[go_sem high] theorem neqI (a b c d : Int) (w : World) : (binOp .neq 64 (.agg #[.int .i64 a, .int .i64 b]) (.agg #[.int .i64 c, .int .i64 d])).run Try.prog w = .ok (.bool (!(a == c && b == d))) w := by
  simp [binOp, go_sem, eqIn]

/-- A program in memory, as a list. -/
def Cod (w : World) (a : Option Addr) (c : List (Int × Int)) : Prop := Prg w a c.length (cO c) (cR c)
theorem Cod.below {w w' : World} {a : Option Addr} {c : List (Int × Int)} (h : Cod w a c) (hb : Below w.heap.size w w') : Cod w' a c := Prg.below h hb
theorem cod_nil (w : World) (a : Option Addr) : Cod w a [] := .inl rfl
theorem c_ne {c d : List (Int × Int)} (hl : c.length = d.length) (h : c ≠ d) : ∃ j, j < c.length ∧ (∀ i, i < j → cO c i = cO d i ∧ cR c i = cR d i) ∧ ¬ (cO c j = cO d j ∧ cR c j = cR d j) := by
  rcases first_bad (fun i => decide (cO c i = cO d i ∧ cR c i = cR d i)) c.length with q | ⟨j, h1, h2, h3⟩
  · exact (h (ext_c hl (fun i hi => by simpa using q i hi))).elim
  · exact ⟨j, h1, fun i hi => by simpa using h2 i hi, by simpa using h3⟩

theorem drewN_two (w : World) (a b : Nat) : (w.drewN a).drewN b = w.drewN (a + b) := by simp [World.drewN, Nat.add_assoc]

set_option maxHeartbeats 1000000 in
theorem eq_len (w : World) (a b : Option Addr) (la lb ca cb : Nat) (hl : la ≠ lb) :
    Calls Try.prog 33 #[.slice a la ca, .slice b lb cb] w fun e w' => e = .returned (.bool false) ∧ ∃ q, w' = w.drewN q := by
  have h1 : ((la : Int) != (lb : Int)) = true := by simpa using (show ¬ (la : Int) = (lb : Int) by omega)
  go_enter Try.func33, Try.ntmps33
  go_wp2
  go_ret
  exact ⟨rfl, 0, rfl⟩
set_option maxHeartbeats 1000000 in
theorem eq_some (w : World) (ga oa gb ob len ca cb : Nat) (O R O' R' : Nat → Int) (J : Nat) (hJ : J ≤ len) (hlen : len < 9223372036854775808)
    (hca : ∀ j, j < len → w.cell? ⟨ga, oa + j * 2, none⟩ = some (.int .i64 (O j)) ∧ w.cell? ⟨ga, oa + j * 2 + 1, none⟩ = some (.int .i64 (R j))) (hcb : ∀ j, j < len → w.cell? ⟨gb, ob + j * 2, none⟩ = some (.int .i64 (O' j)) ∧ w.cell? ⟨gb, ob + j * 2 + 1, none⟩ = some (.int .i64 (R' j)))
    (hs : ∀ i, i < J → O i = O' i ∧ R i = R' i) (hd : J < len → ¬ (O J = O' J ∧ R J = R' J)) :
    Calls Try.prog 33 #[.slice (some ⟨ga, oa, none⟩) len ca, .slice (some ⟨gb, ob, none⟩) len cb] w fun e w' => e = .returned (.bool (decide (J = len))) ∧ ∃ q, w' = w.drewN q := by
  have HA := veil hca
  have HB := veil hcb
  have HS := veil hs
  have HD := veil hd
  have HJ := veil hJ
  clear hca hcb hs hd hJ
  go_enter Try.func33, Try.ntmps33
  go_wp2
  go_loopw [13] (fun i wr => ∃ j q : Nat, j ≤ J ∧ i = .int .i64 j ∧ wr = w.drewN q) (fun i _ => len - (intOf i).toNat)
  case atStart => exact ⟨0, 0, by omega, rfl, rfl⟩
  case round =>
    obtain ⟨j, q, hj, rfl, rfl⟩ := hrel
    by_cases hjl : j < len
    · obtain ⟨e1, e2⟩ := HA.out j hjl
      obtain ⟨e3, e4⟩ := HB.out j hjl
      have hjl' : (j : Int) < (len : Int) := by omega
      by_cases hjJ : j < J
      · obtain ⟨q1, q2⟩ := HS.out j hjJ
        have b1 : (O j == O' j) = true := by simpa using q1
        have b2 : (R j == R' j) = true := by simpa using q2
        have hjJ' := veil hjJ
        clear q1 q2 hjJ hj
        go_wp2
        go_quiet (fail)
        go_wp2
        go_roundw
        case rel => exact ⟨j + 1, _, hjJ'.out, by go_num, rfl⟩
        case measure => simp [intOf]; omega
      · have hJe : j = J := by omega
        have HN : Hid (decide (J = len) = false) := by
          have q : ¬ J = len := by omega
          exact veil (decide_eq_false q)
        have hn : ((O j == O' j) && (R j == R' j)) = false := by
          have := HD.out (by omega)
          rw [← hJe] at this
          simpa using this
        clear hjJ hj hJe
        go_wp2
        go_quiet (fail)
        go_wp2
        go_ret
        exact ⟨by rw [HN.out]; rfl, _, by first | rfl | exact drewN_two _ _ _⟩
    · have hjl' : ¬ (j : Int) < (len : Int) := by omega
      have HN : Hid (decide (J = len) = true) := by
        have q1 := HJ.out
        have q : J = len := by omega
        exact veil (decide_eq_true q)
      clear hj
      go_wp2
      go_ret
      exact ⟨by rw [HN.out]; rfl, _, by first | rfl | exact drewN_two _ _ _⟩
theorem eq_none (w : World) (a b : Option Addr) (ca cb : Nat) :
    Calls Try.prog 33 #[.slice a 0 ca, .slice b 0 cb] w fun e w' => e = .returned (.bool true) ∧ ∃ q, w' = w.drewN q := by
  go_enter Try.func33, Try.ntmps33
  go_wp2
  go_loopw [13] (fun i wr => i = .int .i64 0 ∧ wr = w) (fun i _ => 0)
  case atStart => exact ⟨rfl, rfl⟩
  case round =>
    obtain ⟨rfl, rfl⟩ := hrel
    go_wp2
    go_ret
    exact ⟨rfl, 0, rfl⟩
theorem eq_cod (w : World) (a b : Option Addr) (c d : List (Int × Int)) (ca cb : Nat) (hc : Cod w a c) (hd : Cod w b d) (hl : c.length < 9223372036854775808) :
    Calls Try.prog 33 #[.slice a c.length ca, .slice b d.length cb] w fun e w' => ∃ B : Bool, e = .returned (.bool B) ∧ (B = true ↔ c = d) ∧ ∃ q, w' = w.drewN q := by
  by_cases hlen : c.length = d.length
  · by_cases h0 : c.length = 0
    · have e1 : c = [] := List.length_eq_zero_iff.1 h0
      have e2 : d = [] := List.length_eq_zero_iff.1 (hlen ▸ h0)
      subst e1 e2
      exact (eq_none w a b ca cb).mono fun e w' ⟨he, hq⟩ => ⟨true, he, by simp, hq⟩
    · rcases hc with h | ⟨ga, oa, rfl, _, hca⟩
      · exact absurd h h0
      rcases hd with h | ⟨gb, ob, rfl, _, hcb⟩
      · omega
      by_cases he : c = d
      · subst he
        exact (eq_some w ga oa gb ob c.length ca cb _ _ _ _ c.length (Nat.le_refl _) hl hca hcb (fun _ _ => ⟨rfl, rfl⟩) (fun h => by omega)).mono fun e w' ⟨he, hq⟩ => ⟨true, by simpa using he, by simp, hq⟩
      · obtain ⟨j, h1, h2, h3⟩ := c_ne hlen he
        rw [← hlen] at hcb ⊢
        refine (eq_some w ga oa gb ob c.length ca cb _ _ _ _ j (by omega) hl hca hcb h2 (fun _ => h3)).mono fun e w' ⟨hh, hq⟩ => ⟨false, ?_, by simp [he], hq⟩
        rw [hh, show decide (j = c.length) = false by simp; omega]
  · exact (eq_len w a b _ _ ca cb hlen).mono fun e w' ⟨he, hq⟩ => ⟨false, he, ⟨fun h => (by cases h), fun h => (hlen (by rw [h])).elim⟩, hq⟩
set_option maxHeartbeats 1000000 in
theorem req_len (w : World) (a b : Option Addr) (la lb ca cb : Nat) (hl : la ≠ lb) :
    Calls Try.prog 32 #[.slice a la ca, .slice b lb cb] w fun e w' => e = .returned (.bool false) ∧ ∃ q, w' = w.drewN q := by
  have h1 : ((la : Int) != (lb : Int)) = true := by simpa using (show ¬ (la : Int) = (lb : Int) by omega)
  go_enter Try.func32, Try.ntmps32
  go_wp2
  go_ret
  exact ⟨rfl, 0, rfl⟩
set_option maxHeartbeats 1000000 in
theorem req_some (w : World) (ga oa gb ob len ca cb : Nat) (O R O' R' : Nat → Int) (J : Nat) (hJ : J ≤ len) (hlen : len < 9223372036854775808)
    (hca : ∀ j, j < len → w.cell? ⟨ga, oa + j * 2, none⟩ = some (.int .i64 (O j)) ∧ w.cell? ⟨ga, oa + j * 2 + 1, none⟩ = some (.int .i64 (R j))) (hcb : ∀ j, j < len → w.cell? ⟨gb, ob + j * 2, none⟩ = some (.int .i64 (O' j)) ∧ w.cell? ⟨gb, ob + j * 2 + 1, none⟩ = some (.int .i64 (R' j)))
    (hs : ∀ i, i < J → O i = O' i ∧ R i = R' i) (hd : J < len → ¬ (O J = O' J ∧ R J = R' J)) :
    Calls Try.prog 32 #[.slice (some ⟨ga, oa, none⟩) len ca, .slice (some ⟨gb, ob, none⟩) len cb] w fun e w' => e = .returned (.bool (decide (J = len))) ∧ ∃ q, w' = w.drewN q := by
  have HA := veil hca
  have HB := veil hcb
  have HS := veil hs
  have HD := veil hd
  have HJ := veil hJ
  clear hca hcb hs hd hJ
  go_enter Try.func32, Try.ntmps32
  go_wp2
  go_loopw [5] (fun i wr => ∃ j q : Nat, j ≤ J ∧ i = .int .i64 j ∧ wr = w.drewN q) (fun i _ => len - (intOf i).toNat)
  case atStart => exact ⟨0, 0, by omega, rfl, rfl⟩
  case round =>
    obtain ⟨j, q, hj, rfl, rfl⟩ := hrel
    by_cases hjl : j < len
    · obtain ⟨e1, e2⟩ := HA.out j hjl
      obtain ⟨e3, e4⟩ := HB.out j hjl
      have hjl' : (j : Int) < (len : Int) := by omega
      by_cases hjJ : j < J
      · obtain ⟨q1, q2⟩ := HS.out j hjJ
        have b1 : (O j == O' j) = true := by simpa using q1
        have b2 : (R j == R' j) = true := by simpa using q2
        have hjJ' := veil hjJ
        clear q1 q2 hjJ hj
        go_wp2
        go_quiet (fail)
        go_wp2
        go_roundw
        case rel => exact ⟨j + 1, _, hjJ'.out, by go_num, rfl⟩
        case measure => simp [intOf]; omega
      · have hJe : j = J := by omega
        have HN : Hid (decide (J = len) = false) := by
          have q : ¬ J = len := by omega
          exact veil (decide_eq_false q)
        have hn : ((O j == O' j) && (R j == R' j)) = false := by
          have := HD.out (by omega)
          rw [← hJe] at this
          simpa using this
        clear hjJ hj hJe
        go_wp2
        go_quiet (fail)
        go_wp2
        go_ret
        exact ⟨by rw [HN.out]; rfl, _, by first | rfl | exact drewN_two _ _ _⟩
    · have hjl' : ¬ (j : Int) < (len : Int) := by omega
      have HN : Hid (decide (J = len) = true) := by
        have q1 := HJ.out
        have q : J = len := by omega
        exact veil (decide_eq_true q)
      clear hj
      go_wp2
      go_ret
      exact ⟨by rw [HN.out]; rfl, _, by first | rfl | exact drewN_two _ _ _⟩
theorem req_none (w : World) (a b : Option Addr) (ca cb : Nat) :
    Calls Try.prog 32 #[.slice a 0 ca, .slice b 0 cb] w fun e w' => e = .returned (.bool true) ∧ ∃ q, w' = w.drewN q := by
  go_enter Try.func32, Try.ntmps32
  go_wp2
  go_loopw [5] (fun i wr => i = .int .i64 0 ∧ wr = w) (fun i _ => 0)
  case atStart => exact ⟨rfl, rfl⟩
  case round =>
    obtain ⟨rfl, rfl⟩ := hrel
    go_wp2
    go_ret
    exact ⟨rfl, 0, rfl⟩
theorem req_cod (w : World) (a b : Option Addr) (c d : List (Int × Int)) (ca cb : Nat) (hc : Cod w a c) (hd : Cod w b d) (hl : c.length < 9223372036854775808) :
    Calls Try.prog 32 #[.slice a c.length ca, .slice b d.length cb] w fun e w' => ∃ B : Bool, e = .returned (.bool B) ∧ (B = true ↔ c = d) ∧ ∃ q, w' = w.drewN q := by
  by_cases hlen : c.length = d.length
  · by_cases h0 : c.length = 0
    · have e1 : c = [] := List.length_eq_zero_iff.1 h0
      have e2 : d = [] := List.length_eq_zero_iff.1 (hlen ▸ h0)
      subst e1 e2
      exact (req_none w a b ca cb).mono fun e w' ⟨he, hq⟩ => ⟨true, he, by simp, hq⟩
    · rcases hc with h | ⟨ga, oa, rfl, _, hca⟩
      · exact absurd h h0
      rcases hd with h | ⟨gb, ob, rfl, _, hcb⟩
      · omega
      by_cases he : c = d
      · subst he
        exact (req_some w ga oa gb ob c.length ca cb _ _ _ _ c.length (Nat.le_refl _) hl hca hcb (fun _ _ => ⟨rfl, rfl⟩) (fun h => by omega)).mono fun e w' ⟨he, hq⟩ => ⟨true, by simpa using he, by simp, hq⟩
      · obtain ⟨j, h1, h2, h3⟩ := c_ne hlen he
        rw [← hlen] at hcb ⊢
        refine (req_some w ga oa gb ob c.length ca cb _ _ _ _ j (by omega) hl hca hcb h2 (fun _ => h3)).mono fun e w' ⟨hh, hq⟩ => ⟨false, ?_, by simp [he], hq⟩
        rw [hh, show decide (j = c.length) = false by simp; omega]
  · exact (req_len w a b _ _ ca cb hlen).mono fun e w' ⟨he, hq⟩ => ⟨false, he, ⟨fun h => (by cases h), fun h => (hlen (by rw [h])).elim⟩, hq⟩
theorem within_ok (w : World) (n a b : Int) : Calls Try.prog 24 #[.int .i64 n, .int .i64 a, .int .i64 b] w fun e w' => e = .returned (.bool (decide (a ≤ n ∧ n ≤ b))) ∧ w' = w := by
  by_cases h1 : a ≤ n
  · by_cases h2 : n ≤ b
    · go_enter Try.func24, Try.ntmps24
      go_wp2
      go_ret
      exact ⟨by simp [h1, h2], rfl⟩
    · go_enter Try.func24, Try.ntmps24
      go_wp2
      go_ret
      exact ⟨by simp [h2], rfl⟩
  · go_enter Try.func24, Try.ntmps24
    go_wp2
    go_ret
    exact ⟨by simp; omega, rfl⟩
end Go.Proofs.Ytnnpbbiiapipaaa
