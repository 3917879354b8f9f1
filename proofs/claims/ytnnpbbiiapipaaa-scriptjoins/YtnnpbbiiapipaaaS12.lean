/-
  script: a row of entries; read, whatever the bytes are, on both sides.
-/
import Derived.Test.YtnnpbbiiapipaaaS11
import Derived.Test.YtnnpbbiiapipaaaS11r
import Derived.Test.YtnnpbbiiapipaaaS7
namespace Go.Proofs.Ytnnpbbiiapipaaa
open Go.RowKit Go.Lib
set_option linter.unusedVariables false
/-- An entry's cells. -/
def ec (x : En) (a : Option Addr) (c : Nat) : List Value := [.int .i64 x.d, .int .i64 x.p, .int .u64 (x.dr : Int), .int .i64 x.n, .slice a x.code.length c, .int .u64 (x.bu : Int), .int .u64 (x.pe : Int), .int .i64 x.pr, .int .u8 (x.lv : Int), .int .i64 x.sv]
/-- Entries, with where their programs lie. -/
abbrev Zs := List (En × Option Addr × Nat)
def zcells (Z : Zs) : List Value := Z.flatMap (fun z => ec z.1 z.2.1 z.2.2)
theorem zcells_append (Z Y : Zs) : zcells (Z ++ Y) = zcells Z ++ zcells Y := by simp [zcells]
theorem zcells_one (z : En × Option Addr × Nat) : zcells [z] = ec z.1 z.2.1 z.2.2 := by simp [zcells]
theorem ec_length (x : En) (a : Option Addr) (c : Nat) : (ec x a c).length = 10 := rfl
theorem zcells_length : ∀ Z : Zs, (zcells Z).length = Z.length * 10
  | [] => rfl
  | z :: Z => by
    have := zcells_length Z
    show (ec z.1 z.2.1 z.2.2 ++ zcells Z).length = _
    rw [List.length_append, this, ec_length, List.length_cons]
    omega
theorem zcells_at : ∀ (Z : Zs) (j : Nat) (z : En × Option Addr × Nat), Z[j]? = some z → ∀ i u, (ec z.1 z.2.1 z.2.2)[i]? = some u → (zcells Z)[j * 10 + i]? = some u
  | [], j, z, h => by simp at h
  | y :: Z, 0, z, h => by
    intro i u hu
    simp at h
    subst h
    show (ec y.1 y.2.1 y.2.2 ++ zcells Z)[0 * 10 + i]? = some u
    rw [List.getElem?_append_left (by have := (List.getElem?_eq_some_iff.1 hu).1; omega)]
    simpa using hu
  | y :: Z, j + 1, z, h => by
    intro i u hu
    have := zcells_at Z j z (by simpa using h) i u hu
    show (ec y.1 y.2.1 y.2.2 ++ zcells Z)[(j + 1) * 10 + i]? = some u
    rw [List.getElem?_append_right (by rw [ec_length]; omega), ec_length, show (j + 1) * 10 + i - 10 = j * 10 + i by omega]
    exact this
theorem ec_cell (x : En) (a : Option Addr) (c : Nat) : ∀ u ∈ ec x a c, u.oneCell' = true := by
  intro u hu
  simp only [ec, List.mem_cons, List.not_mem_nil, or_false] at hu
  rcases hu with rfl | rfl | rfl | rfl | rfl | rfl | rfl | rfl | rfl | rfl <;> rfl
structure Rw (w : World) (base : Nat) (T : TypeId) (v : Value) (Z : Zs) : Prop where
  row : w.ownsRow base T 10 v Z.length (zcells Z)
  cod : ∀ z ∈ Z, CRow w base (.slice z.2.1 z.1.code.length z.2.2) z.1.code ∧ z.1.code.length ≤ 64 ∧ WfE z.1
theorem rw_nil (w : World) (base : Nat) (T : TypeId) : Rw w base T (.slice none 0 0) [] := ⟨World.ownsRow_nil _ _ _ _, fun z hz => by cases hz⟩
theorem CRow.below {w w' : World} {base : Nat} {v : Value} {c : List (Int × Int)} (h : CRow w base v c) (hb : Below w.heap.size w w') : CRow w' base v c := row_below h hb
theorem CRow.grown {w w' : World} {b base : Nat} {v v2 : Value} {c : List (Int × Int)} {T : TypeId} {s n : Nat} {xs : List Value} (h : CRow w b v c) (ho : w.ownsRow base T s v2 n xs) (hT : T ≠ 64) (hg : w.grownBy w' v2.ownBlock) : CRow w' b v c := by
  refine ⟨h.1, ?_⟩
  rcases h.2 with hn | ⟨g, cap, cur, rfl, hb, hgg, rest⟩
  · exact .inl hn
  · refine .inr ⟨g, cap, cur, rfl, hb, (hg.block g (Array.getElem?_eq_some_iff.1 hgg).1 (fun q => ?_)).trans hgg, rest⟩
    exact row_ne ho (c := cur) hgg hT q.symm
theorem Rw.below {w w' : World} {base : Nat} {T : TypeId} {v : Value} {Z : Zs} (h : Rw w base T v Z) (hb : Below w.heap.size w w') : Rw w' base T v Z :=
  ⟨row_below h.row hb, fun z hz => ⟨(h.cod z hz).1.below hb, (h.cod z hz).2⟩⟩
theorem Rw.snoc {w w' : World} {base : Nat} {T : TypeId} {v v' : Value} {Z : Zs} (h : Rw w base T v Z) (hT : T ≠ 64) (x : En) (a : Option Addr) (c : Nat) (hx : CRow w base (.slice a x.code.length c) x.code) (h64 : x.code.length ≤ 64) (hw : WfE x)
    (ho : w'.ownsRow base T 10 v' (Z.length + 1) (zcells Z ++ ec x a c)) (hg : w.grownBy w' v.ownBlock) : Rw w' base T v' (Z ++ [(x, a, c)]) := by
  refine ⟨?_, fun z hz => ?_⟩
  · rw [List.length_append, zcells_append, zcells_one]
    exact ho
  · rcases List.mem_append.1 hz with hz | hz
    · exact ⟨(h.cod z hz).1.grown h.row hT hg, (h.cod z hz).2⟩
    · obtain rfl : z = (x, a, c) := by simpa using hz
      exact ⟨hx.grown h.row hT hg, h64, hw⟩
theorem Rw.ens {w : World} {base : Nat} {T : TypeId} {v : Value} {Z : Zs} (h : Rw w base T v Z) : ∃ a cap, v = .slice a Z.length cap ∧ Ens w a (Z.map (·.1)) := by
  rcases h.row.2 with ⟨rfl, h0⟩ | ⟨g, cap, cur, rfl, hb, hgg, hn, hm, hc, ht⟩
  · have : Z = [] := List.length_eq_zero_iff.1 h0
    subst this
    exact ⟨none, 0, rfl, .inl rfl⟩
  · refine ⟨_, cap, rfl, .inr ⟨g, 0, rfl, (Array.getElem?_eq_some_iff.1 hgg).1, fun j x hj => ?_⟩⟩
    rw [List.getElem?_map] at hj
    cases hz : Z[j]? with
    | none => rw [hz] at hj; simp at hj
    | some z =>
      rw [hz] at hj
      simp at hj
      subst hj
      have hcell : ∀ i u, (ec z.1 z.2.1 z.2.2)[i]? = some u → w.cell? ⟨g, 0 + j * 10 + i, none⟩ = some u := by
        intro i u hu
        have q := zcells_at Z j z hz i u hu
        have hi := (List.getElem?_eq_some_iff.1 hu).1
        rw [ec_length] at hi
        have hj' := (List.getElem?_eq_some_iff.1 hz).1
        rw [← ht, List.getElem?_take_of_lt (by omega)] at q
        unfold World.cell?
        simp only [hgg]
        rw [show 0 + j * 10 + i = j * 10 + i by omega]
        simpa using q
      obtain ⟨q1, q2, q3⟩ := h.cod z (List.mem_of_getElem? hz)
      exact ⟨z.2.1, z.2.2, hcell 0 _ rfl, hcell 1 _ rfl, hcell 2 _ rfl, hcell 3 _ rfl, hcell 4 _ rfl, hcell 5 _ rfl, hcell 6 _ rfl, hcell 7 _ rfl, hcell 8 _ rfl, hcell 9 _ rfl, cod_of_row q1, by omega, .inl q2, q3⟩
theorem preads (w : World) (lb off cap : Nat) (l : List Nat) (hB : Bl w lb off l) (hl : l.length = sz l) (hm : l.length < 100000) (hc : l.length ≤ cap) (hc2 : cap < 9223372036854775808) (y : En) (hy : y = rdE l) :
    Calls Try.prog 29 #[.slice (some ⟨lb, off, none⟩) l.length cap] w fun e w' => ∃ ca cc, e = .returned (.agg #[.int .i64 y.d, .int .i64 y.p, .int .u64 (y.dr : Int), .int .i64 y.n, .slice ca y.code.length cc, .int .u64 (y.bu : Int), .int .u64 (y.pe : Int), .int .i64 y.pr, .int .u8 (y.lv : Int), .int .i64 y.sv]) ∧ CRow w' w.heap.size (.slice ca y.code.length cc) y.code ∧ Below w.heap.size w w' := by
  subst hy
  by_cases h1 : l.getD 0 0 = 1
  · have hk : l.length = 10 := by rw [hl]; unfold sz szOf; rw [if_pos h1]
    have e : rdE l = mkStep (l.getD 1 0 : Int) (unbe (l.drop 2)) := by unfold rdE; rw [if_pos h1]
    rw [e, hk]
    exact (pread1 w lb off cap l hB hk (by omega) hc2 h1).mono fun e w' ⟨he, hb⟩ => ⟨none, 0, he, crow_nil _ _, hb⟩
  by_cases h2 : l.getD 0 0 = 2
  · have hk : l.length = 3 := by rw [hl]; unfold sz szOf; rw [if_neg h1, if_pos h2]
    have e : rdE l = mkTick (unbe (l.drop 1) : Int) := by unfold rdE; rw [if_neg h1, if_pos h2]
    rw [e, hk]
    exact (pread2 w lb off cap l hB hk (by omega) hc2 h2).mono fun e w' ⟨he, hb⟩ => ⟨none, 0, he, crow_nil _ _, hb⟩
  by_cases h3 : l.getD 0 0 = 3
  · have hk : 2 ≤ l.length := by rw [hl]; unfold sz szOf; rw [if_neg h1, if_neg h2, if_pos h3]; split <;> omega
    have e : rdE l = mkLoad (rdC (l.drop 1)) := by unfold rdE; rw [if_neg h1, if_neg h2, if_pos h3]
    rw [e]
    exact pread3 w lb off cap l hB hk hm hc hc2 h3
  by_cases h4 : l.getD 0 0 = 4
  · have hk : l.length = 17 := by rw [hl]; unfold sz szOf; rw [if_neg h1, if_neg h2, if_neg h3, if_pos h4]
    have e : rdE l = mkAdmit (unbe ((l.drop 1).take 8)) (unbe (l.drop 9)) := by unfold rdE; rw [if_neg h1, if_neg h2, if_neg h3, if_pos h4]
    rw [e, hk]
    exact (pread4 w lb off cap l hB hk (by omega) hc2 h4).mono fun e w' ⟨he, hb⟩ => ⟨none, 0, he, crow_nil _ _, hb⟩
  by_cases h5 : l.getD 0 0 = 5
  · have hk : l.length = 4 := by rw [hl]; unfold sz szOf; rw [if_neg h1, if_neg h2, if_neg h3, if_neg h4, if_pos h5]
    have e : rdE l = mkStart (l.getD 1 0 : Int) (l.getD 2 0) ((l.getD 3 0 : Int) - 1) := by unfold rdE; rw [if_neg h1, if_neg h2, if_neg h3, if_neg h4, if_pos h5]
    rw [e, hk]
    exact (pread5 w lb off cap l hB hk (by omega) hc2 h5).mono fun e w' ⟨he, hb⟩ => ⟨none, 0, he, crow_nil _ _, hb⟩
  have hk : l.length = 1 := by rw [hl]; unfold sz szOf; rw [if_neg h1, if_neg h2, if_neg h3, if_neg h4, if_neg h5]
  have e : rdE l = ⟨(l.getD 0 0 : Int), 0, 0, 0, [], 0, 0, 0, 0, 0⟩ := by unfold rdE; rw [if_neg h1, if_neg h2, if_neg h3, if_neg h4, if_neg h5]
  rw [e, hk]
  exact (pread0 w lb off cap l hB hk (by omega) hc2 _ rfl h1 h2 h3 h4 h5).mono fun e w' ⟨he, hb⟩ => ⟨none, 0, he, crow_nil _ _, hb⟩
theorem rreads (w : World) (lb off cap : Nat) (l : List Nat) (hB : Bl w lb off l) (hl : l.length = sz l) (hm : l.length < 100000) (hc : l.length ≤ cap) (hc2 : cap < 9223372036854775808) (hh5 : l.getD 0 0 ≤ 5) (hh1 : 1 ≤ l.getD 0 0) (y : En) (hy : y = rdE l) :
    Calls Try.prog 31 #[.slice (some ⟨lb, off, none⟩) l.length cap] w fun e w' => ∃ ca cc, e = .returned (.agg #[.int .i64 y.d, .int .i64 y.p, .int .u64 (y.dr : Int), .int .i64 y.n, .slice ca y.code.length cc, .int .u64 (y.bu : Int), .int .u64 (y.pe : Int), .int .i64 y.pr, .int .u8 (y.lv : Int), .int .i64 y.sv]) ∧ CRow w' w.heap.size (.slice ca y.code.length cc) y.code ∧ Below w.heap.size w w' := by
  subst hy
  by_cases h1 : l.getD 0 0 = 1
  · have hk : l.length = 10 := by rw [hl]; unfold sz szOf; rw [if_pos h1]
    have e : rdE l = mkStep (l.getD 1 0 : Int) (unbe (l.drop 2)) := by unfold rdE; rw [if_pos h1]
    rw [e, hk]
    exact (rread1 w lb off cap l hB hk (by omega) hc2 h1).mono fun e w' ⟨he, hb⟩ => ⟨none, 0, he, crow_nil _ _, hb⟩
  by_cases h2 : l.getD 0 0 = 2
  · have hk : l.length = 3 := by rw [hl]; unfold sz szOf; rw [if_neg h1, if_pos h2]
    have e : rdE l = mkTick (unbe (l.drop 1) : Int) := by unfold rdE; rw [if_neg h1, if_pos h2]
    rw [e, hk]
    exact (rread2 w lb off cap l hB hk (by omega) hc2 h2).mono fun e w' ⟨he, hb⟩ => ⟨none, 0, he, crow_nil _ _, hb⟩
  by_cases h3 : l.getD 0 0 = 3
  · have hk : 2 ≤ l.length := by rw [hl]; unfold sz szOf; rw [if_neg h1, if_neg h2, if_pos h3]; split <;> omega
    have e : rdE l = mkLoad (rdC (l.drop 1)) := by unfold rdE; rw [if_neg h1, if_neg h2, if_pos h3]
    rw [e]
    exact rread3 w lb off cap l hB hk hm hc hc2 h3
  by_cases h4 : l.getD 0 0 = 4
  · have hk : l.length = 17 := by rw [hl]; unfold sz szOf; rw [if_neg h1, if_neg h2, if_neg h3, if_pos h4]
    have e : rdE l = mkAdmit (unbe ((l.drop 1).take 8)) (unbe (l.drop 9)) := by unfold rdE; rw [if_neg h1, if_neg h2, if_neg h3, if_pos h4]
    rw [e, hk]
    exact (rread4 w lb off cap l hB hk (by omega) hc2 h4).mono fun e w' ⟨he, hb⟩ => ⟨none, 0, he, crow_nil _ _, hb⟩
  by_cases h5 : l.getD 0 0 = 5
  · have hk : l.length = 4 := by rw [hl]; unfold sz szOf; rw [if_neg h1, if_neg h2, if_neg h3, if_neg h4, if_pos h5]
    have e : rdE l = mkStart (l.getD 1 0 : Int) (l.getD 2 0) ((l.getD 3 0 : Int) - 1) := by unfold rdE; rw [if_neg h1, if_neg h2, if_neg h3, if_neg h4, if_pos h5]
    rw [e, hk]
    exact (rread5 w lb off cap l hB hk (by omega) hc2 h5).mono fun e w' ⟨he, hb⟩ => ⟨none, 0, he, crow_nil _ _, hb⟩
  omega
end Go.Proofs.Ytnnpbbiiapipaaa
