/-
  ScriptJoins walked.
-/
import Derived.Test.YtnnpbbiiapipaaaS16
import Derived.Deep.DeepCutAuto
namespace Go.Proofs.Ytnnpbbiiapipaaa
open Go.RowKit Go.Lib
set_option linter.unusedVariables false
/-- Entries are answered, with room. -/
def EnsC (w : World) (L : List En) (e : Ending) (w' : World) : Prop := ∃ a' cap', e = .returned (.slice a' L.length cap') ∧ Ens w' a' L ∧ Below w.heap.size w w' ∧ L.length ≤ cap' ∧ cap' < 9223372036854775808 ∧ (a' = none → cap' = 0)
theorem row_cap {w : World} {base : Nat} {T : TypeId} {v : Value} {n s : Nat} {xs : List Value} {a : Option Addr} {m c : Nat} (h : w.ownsRow base T s v n xs) (hv : v = .slice a m c) : n ≤ c ∧ c < 9223372036854775808 ∧ (a = none → c = 0) := by
  rcases h.2 with ⟨rfl, h0⟩ | ⟨g, cap, cur, rfl, _, _, hn, hm, _⟩
  · simp only [Value.slice.injEq] at hv
    exact ⟨by omega, by omega, fun _ => by omega⟩
  · simp only [Value.slice.injEq] at hv
    unfold maxLen at hm
    exact ⟨by omega, by omega, fun h => by rw [h] at hv; simp at hv⟩
set_option maxHeartbeats 4000000 in
theorem few_cap (w : World) (a : Option Addr) (L : List En) (cap : Nat) (hL : L.length < 9223372036854775808) (hE : Ens w a L) :
    Calls Try.prog 10 #[.slice a L.length cap] w (EnsC w (fewE L)) := by
  obtain ⟨i0, hi, hz0, hz1, hz2⟩ := info_parts info_entry
  have HE := veil hE
  clear hE
  go_enter Try.func10, Try.ntmps10
  go_wp2
  go_loopw [3, 4] (fun s i wr => ∃ (Z : Zs) (j : Nat), j ≤ L.length ∧ j ≤ 60 ∧ i = .int .i64 (j : Int) ∧ Z.map (·.1) = fewE (L.take j) ∧ Z.length = j ∧ wr.ownsRow w.heap.size 36 10 s Z.length (zcells Z) ∧ (∀ z ∈ Z, Fit w z) ∧ Below w.heap.size w wr) (fun _ i _ => L.length - (intOf i).toNat)
  case atStart => exact ⟨[], 0, by omega, by omega, rfl, rfl, rfl, World.ownsRow_nil _ _ _ _, (fun z hz => (by cases hz)), Below.refl _ _⟩
  case round =>
    obtain ⟨Z, j, hj, hj6, rfl, hZ, hZl, hown, hfit, hbel⟩ := hrel
    obtain ⟨va, vl, vc, hv⟩ := row_slice hown
    subst hv
    have hsz := hbel.size
    by_cases hjl : j < L.length
    · have hjl' : (j : Int) < (L.length : Int) := by omega
      by_cases hj60 : j < 60
      · have hj60' : (j : Int) < 60 := by omega
        obtain ⟨x, hx⟩ : ∃ x, L[j]? = some x := ⟨L[j], List.getElem?_eq_getElem hjl⟩
        rcases HE.out with h0 | ⟨lb, off, rfl, hlb, hc⟩
        · subst h0; simp at hjl
        obtain ⟨ca, cc, he0⟩ := hc j x hx
        have he := he0.below hlb hbel
        have y0 := he.c0
        have y1 := he.c1
        have y2 := he.c2
        have y3 := he.c3
        have y4 := he.c4
        have y5 := he.c5
        have y6 := he.c6
        have y7 := he.c7
        have y8 := he.c8
        have y9 := he.c9
        have HO := veil hown
        have HB := veil hbel
        have HSN := veil (fewE_snoc hx hj60)
        have HF : Hid (∀ z ∈ Z ++ [(cutE x, ca, cc)], Fit w z) := by
          intro z hz
          rcases List.mem_append.1 hz with hz | hz
          · exact hfit z hz
          · obtain rfl : z = _ := by simpa using hz
            exact fit_cut he0
        have HZ := veil hZ
        have hZ6 : Z.length < 60 := by omega
        by_cases h70 : 70 < x.code.length
        · have h70' : 70 < (x.code.length : Int) := by omega
          have hcc : 70 ≤ (cc : Int) := by
            rcases he.cap with q | q
            · omega
            · omega
          have HCL : Hid ((cutE x).code.length = 70) := by show _ = _; simp [cutE]; omega
          rcases he0.cod with q0 | ⟨cb, co, rfl, _, _⟩
          · omega
          clear hown hbel hfit hc hx he he0 hZ
          go_wp2_with (at_builtin; refine wpList_append_own _ rfl _ _ 22 rfl w.heap.size 36 i0 _ 10 96 Try.underlying22 hi hz0 hz1 hz2 rfl (by decide) (.slice va vl vc) Z.length _ rfl (World.ownsRow.alloc (World.ownsRow.alloc HO.out _) _) ⟨wr.heap.size + 1, 0, none⟩ 1 1 [.int .i64 x.d, .int .i64 x.p, .int .u64 (x.dr : Int), .int .i64 x.n, .slice (some ⟨cb, co, none⟩) 70 cc, .int .u64 (x.bu : Int), .int .u64 (x.pe : Int), .int .i64 x.pr, .int .u8 (x.lv : Int), .int .i64 x.sv] rfl rfl (cells_next wr _ [.int .i64 x.d, .int .i64 x.p, .int .u64 (x.dr : Int), .int .i64 x.n, .slice (some ⟨cb, co, none⟩) 70 cc, .int .u64 (x.bu : Int), .int .u64 (x.pe : Int), .int .i64 x.pr, .int .u8 (x.lv : Int), .int .i64 x.sv] _) (by simp [Value.oneCell']) (by unfold maxLen; omega) (by omega) (by simp; omega) ?_; intro v3 w3 ho3 hg3 _; obtain ⟨va3, vl3, vc3, rfl⟩ := row_slice ho3; have HO3 := veil ho3; have HB3 := veil (((HB.out.alloc hsz _).alloc (by simp; omega) _).grown hg3 (by simp; omega) (fun k hk => (HO.out.lt k hk).1)); clear ho3 hg3)
          refine ⟨⟨Z ++ [(cutE x, some ⟨cb, co, none⟩, cc)], j + 1, by omega, by omega, by go_num, by rw [List.map_append, HZ.out, HSN.out]; rfl, by rw [List.length_append, hZl]; rfl, ?_, HF.out, HB3.out⟩, by simp [intOf]; omega⟩
          refine own_eq HO3.out (by rw [List.length_append]; rfl) ?_
          rw [zcells_append, zcells_one]
          simp only [ec, HCL.out]
          rfl
        · have h70' : ¬ 70 < (x.code.length : Int) := by omega
          have HCL : Hid ((cutE x).code.length = x.code.length) := by show _ = _; simp [cutE]; omega
          clear hown hbel hfit hc hx he he0 hZ
          go_wp2_with (at_builtin; refine wpList_append_own _ rfl _ _ 22 rfl w.heap.size 36 i0 _ 10 96 Try.underlying22 hi hz0 hz1 hz2 rfl (by decide) (.slice va vl vc) Z.length _ rfl (World.ownsRow.alloc (World.ownsRow.alloc HO.out _) _) ⟨wr.heap.size + 1, 0, none⟩ 1 1 [.int .i64 x.d, .int .i64 x.p, .int .u64 (x.dr : Int), .int .i64 x.n, .slice ca x.code.length cc, .int .u64 (x.bu : Int), .int .u64 (x.pe : Int), .int .i64 x.pr, .int .u8 (x.lv : Int), .int .i64 x.sv] rfl rfl (cells_next wr _ [.int .i64 x.d, .int .i64 x.p, .int .u64 (x.dr : Int), .int .i64 x.n, .slice ca x.code.length cc, .int .u64 (x.bu : Int), .int .u64 (x.pe : Int), .int .i64 x.pr, .int .u8 (x.lv : Int), .int .i64 x.sv] _) (by simp [Value.oneCell']) (by unfold maxLen; omega) (by omega) (by simp; omega) ?_; intro v3 w3 ho3 hg3 _; obtain ⟨va3, vl3, vc3, rfl⟩ := row_slice ho3; have HO3 := veil ho3; have HB3 := veil (((HB.out.alloc hsz _).alloc (by simp; omega) _).grown hg3 (by simp; omega) (fun k hk => (HO.out.lt k hk).1)); clear ho3 hg3)
          refine ⟨⟨Z ++ [(cutE x, ca, cc)], j + 1, by omega, by omega, by go_num, by rw [List.map_append, HZ.out, HSN.out]; rfl, by rw [List.length_append, hZl]; rfl, ?_, HF.out, HB3.out⟩, by simp [intOf]; omega⟩
          refine own_eq HO3.out (by rw [List.length_append]; rfl) ?_
          rw [zcells_append, zcells_one]
          simp only [ec, HCL.out]
          rfl
      · have hj60' : ¬ (j : Int) < 60 := by omega
        have HEN : Hid (∃ a' cap', Value.slice va vl vc = .slice a' (fewE L).length cap' ∧ Ens wr a' (fewE L) ∧ (fewE L).length ≤ cap' ∧ cap' < 9223372036854775808 ∧ (a' = none → cap' = 0)) := by
          obtain ⟨a', cap', q1, q2⟩ := ens_of hown hbel hfit
          have q3 := row_cap hown q1
          have e : fewE (L.take j) = fewE L := by
            unfold fewE
            rw [List.take_take, Nat.min_eq_left (by omega)]
          rw [hZ, e] at q2
          have e2 : Z.length = (fewE L).length := by rw [← List.length_map (f := (·.1)), hZ, e]
          rw [e2] at q1 q3
          exact ⟨a', cap', q1, q2, q3⟩
        have HB := veil hbel
        clear hown hbel hfit hZ
        go_wp2
        go_ret
        obtain ⟨a', cap', q1, q2, q3⟩ := HEN.out
        exact ⟨a', cap', by rw [← q1]; rfl, q2, HB.out, q3⟩
    · have hjl' : ¬ (j : Int) < (L.length : Int) := by omega
      have HEN : Hid (∃ a' cap', Value.slice va vl vc = .slice a' (fewE L).length cap' ∧ Ens wr a' (fewE L) ∧ (fewE L).length ≤ cap' ∧ cap' < 9223372036854775808 ∧ (a' = none → cap' = 0)) := by
        obtain ⟨a', cap', q1, q2⟩ := ens_of hown hbel hfit
        have q3 := row_cap hown q1
        have e : fewE (L.take j) = fewE L := by rw [List.take_of_length_le (by omega)]
        rw [hZ, e] at q2
        have e2 : Z.length = (fewE L).length := by rw [← List.length_map (f := (·.1)), hZ, e]
        rw [e2] at q1 q3
        exact ⟨a', cap', q1, q2, q3⟩
      have HB := veil hbel
      clear hown hbel hfit hZ
      go_wp2
      go_ret
      obtain ⟨a', cap', q1, q2, q3⟩ := HEN.out
      exact ⟨a', cap', by rw [← q1]; rfl, q2, HB.out, q3⟩
theorem ens_cells {w : World} {ad : Addr} {L : List En} (h : Ens w (some ad) L) : ∃ Z : Zs, Z.map (·.1) = L ∧ (∀ j u, (zcells Z)[j]? = some u → w.cell? (ad.add j) = some u) ∧ ∀ z ∈ Z, Fit w z := by
  rcases h with rfl | ⟨lb, off, hv, hlb, hc⟩
  · exact ⟨[], rfl, fun j u hu => by simp [zcells] at hu, fun z hz => by cases hz⟩
  · obtain rfl : ad = ⟨lb, off, none⟩ := by simpa using hv
    have key : ∀ (L' : List En) (k : Nat), (∀ j x, L'[j]? = some x → ∃ ca cc, EnAt w lb (off + (k + j) * 10) x ca cc) → ∃ Z : Zs, Z.map (·.1) = L' ∧ (∀ j z, Z[j]? = some z → EnAt w lb (off + (k + j) * 10) z.1 z.2.1 z.2.2) := by
      intro L'
      induction L' with
      | nil => intro k _; exact ⟨[], rfl, fun j z hz => by simp at hz⟩
      | cons x L' ih =>
        intro k hk
        obtain ⟨ca, cc, he⟩ := hk 0 x rfl
        obtain ⟨Z, hZ, hz⟩ := ih (k + 1) (fun j y hj => by
          have := hk (j + 1) y (by simpa using hj)
          rw [show k + 1 + j = k + (j + 1) by omega]
          exact this)
        refine ⟨(x, ca, cc) :: Z, by rw [List.map_cons, hZ], fun j z hj => ?_⟩
        cases j with
        | zero =>
          obtain rfl : (x, ca, cc) = z := by simpa using hj
          exact he
        | succ j =>
          have := hz j z (by simpa using hj)
          rw [show k + (j + 1) = k + 1 + j by omega]
          exact this
    obtain ⟨Z, hZ, hz⟩ := key L 0 (fun j x hj => by rw [Nat.zero_add]; exact hc j x hj)
    refine ⟨Z, hZ, fun j u hu => ?_, fun z hm => ?_⟩
    · have hlen := (List.getElem?_eq_some_iff.1 hu).1
      rw [zcells_length] at hlen
      have hj10 : j / 10 < Z.length := by omega
      have e := hz (j / 10) (Z[j / 10]) (List.getElem?_eq_getElem hj10)
      have hadd : (⟨lb, off, none⟩ : Addr).add j = ⟨lb, off + j, none⟩ := by unfold Addr.add; split <;> simp_all
      rw [hadd]
      have hr : j % 10 < 10 := Nat.mod_lt _ (by omega)
      have hdm : j / 10 * 10 + j % 10 = j := by omega
      generalize hzz : Z[j / 10] = z at e
      have hsome : Z[j / 10]? = some z := by rw [List.getElem?_eq_getElem hj10, hzz]
      have hcell : ∀ i v, (ec z.1 z.2.1 z.2.2)[i]? = some v → w.cell? ⟨lb, off + (0 + j / 10) * 10 + i, none⟩ = some v := by
        intro i v hv'
        match i, hv' with
        | 0, hv' => simp only [ec, List.getElem?_cons_zero] at hv'; rw [← hv']; exact e.c0
        | 1, hv' => simp only [ec, List.getElem?_cons_succ, List.getElem?_cons_zero] at hv'; rw [← hv']; exact e.c1
        | 2, hv' => simp only [ec, List.getElem?_cons_succ, List.getElem?_cons_zero] at hv'; rw [← hv']; exact e.c2
        | 3, hv' => simp only [ec, List.getElem?_cons_succ, List.getElem?_cons_zero] at hv'; rw [← hv']; exact e.c3
        | 4, hv' => simp only [ec, List.getElem?_cons_succ, List.getElem?_cons_zero] at hv'; rw [← hv']; exact e.c4
        | 5, hv' => simp only [ec, List.getElem?_cons_succ, List.getElem?_cons_zero] at hv'; rw [← hv']; exact e.c5
        | 6, hv' => simp only [ec, List.getElem?_cons_succ, List.getElem?_cons_zero] at hv'; rw [← hv']; exact e.c6
        | 7, hv' => simp only [ec, List.getElem?_cons_succ, List.getElem?_cons_zero] at hv'; rw [← hv']; exact e.c7
        | 8, hv' => simp only [ec, List.getElem?_cons_succ, List.getElem?_cons_zero] at hv'; rw [← hv']; exact e.c8
        | 9, hv' => simp only [ec, List.getElem?_cons_succ, List.getElem?_cons_zero] at hv'; rw [← hv']; exact e.c9
        | i + 10, hv' => simp [ec] at hv'
      have hin : (ec z.1 z.2.1 z.2.2)[j % 10]? = some u := by
        have hex : ∃ v, (ec z.1 z.2.1 z.2.2)[j % 10]? = some v := ⟨_, List.getElem?_eq_getElem (by rw [ec_length]; exact hr)⟩
        obtain ⟨v, hv'⟩ := hex
        have := zcells_at Z (j / 10) z hsome (j % 10) v hv'
        rw [hdm, hu] at this
        rw [hv', ← this]
      have := hcell _ _ hin
      rw [show off + (0 + j / 10) * 10 + j % 10 = off + j by omega] at this
      exact this
    · obtain ⟨j, hj⟩ := List.getElem?_of_mem hm
      exact fit_self (hz j z hj)
theorem zcells_cell (Z : Zs) : ∀ u ∈ zcells Z, u.oneCell' = true := by
  intro u hu
  unfold zcells at hu
  rw [List.mem_flatMap] at hu
  obtain ⟨z, _, hu⟩ := hu
  exact ec_cell _ _ _ u hu
theorem strN_append (x y : List Nat) : strN (x ++ y) = strN x ++ strN y := by
  unfold strN strOfNums
  apply ByteArray.ext
  simp
theorem Ens.take {w : World} {a : Option Addr} {L : List En} (h : Ens w a L) (k : Nat) : Ens w a (L.take k) := by
  rcases h with rfl | ⟨lb, off, rfl, hlb, hc⟩
  · exact .inl (by simp)
  · refine .inr ⟨lb, off, rfl, hlb, fun j x hj => hc j x ?_⟩
    have hj' := (List.getElem?_eq_some_iff.1 hj).1
    rw [List.length_take] at hj'
    rwa [List.getElem?_take_of_lt (by omega)] at hj
theorem Ens.none_nil {w : World} {L : List En} (h : Ens w none L) : L = [] := by
  rcases h with h | ⟨_, _, h, _⟩
  · exact h
  · cases h
theorem Encs.mk {w w' : World} {L : List En} {e : Ending} (h : Encs w L e w') : Encs w L e w' := h
theorem wpList_append_nil {P : Program} {w : World} {ops : Array Oper} {rest : List Oper} {o : Oper} {a : Act} {Q : Exit → Act → World → Prop} (hgd : o.guard = none) (s x : Operand) (t : TypeId)
    (ho : o.op = .call { callee := .builtin .append, args := #[s, x], argTypes := #[t, t] })
    (base : Nat) (e : TypeId) (i : TypeInfo) (size : Nat) (ht : P.underlying t = some (.slice e)) (hi : P.info? e = some i)
    (v : Value) (n : Nat) (xs : List Value) (hs : a.eval s = v) (hown : w.ownsRow base e size v n xs) (hx : a.eval x = .slice none 0 0)
    (h : wpList P ops Q rest (a.put o.dst v) w) : wpList P ops Q (o :: rest) a w := by
  refine wpList_plain hgd fun K hK => ?_
  have hr := run_append_owned_none (P := P) w base t o.type e i size ht hi v n xs hown
  unfold Oper.wp execOp
  simp only [ho, resolve, invoke, builtin, Sem.run_bind, Sem.run_pure, Result.andThen_ok, List.map_toArray, List.map_cons, List.map_nil, hs, hx, hr]
  exact hK _ _ h
set_option maxHeartbeats 8000000 in
theorem joins_walk (w : World) (a : Option Addr) (L : List En) (cap : Nat) (hL : L.length < 9223372036854775808) (hE : Ens w a L) (b : Option Addr) (K : List En) (cap' : Nat) (hK : K.length < 9223372036854775808) (hEK : Ens w b K) :
    Calls Try.prog 6 #[.slice a L.length cap, .slice b K.length cap'] w fun e w' => e = .returned (.bool true) ∧ Below w.heap.size w w' := by
  obtain ⟨i0, hi, hz0, hz1, hz2⟩ := info_parts info_entry
  have HF := veil (few_cap w a L cap hL hE)
  have HG := veil (fun W (hb : Below w.heap.size w W) => few_cap W b K cap' hK (hEK.below hb))
  have HV := veil live_ok'
  have h60 := fewE_length L
  have k60 := fewE_length K
  clear hE hL hEK hK
  generalize fewE L = M at *
  generalize fewE K = N at *
  go_enter Try.func6, Try.ntmps6
  go_upto_if 20 with (first
    | (go_at_call 10; have hq := HDONE; refine (HG.out _ HB1.out).mono ?_; rintro e w2 ⟨a2, c2, rfl, hen2, hb2, hl2, hm2, hz2'⟩; have HZ2 := veil hz2'; clear hz2'; have HE2 := veil hen2; have HE2' := veil (HE1.out.below hb2); have HB2 := veil (HB1.out.trans (hb2.mono HB1.out.size)); clear hen2 hb2)
    | (go_at_call 10; refine (HF.out).mono ?_; rintro e w1 ⟨a1, c1, rfl, hen1, hb1, hl1, hm1, hz1'⟩; clear hz1'; have HE1 := veil hen1; have HB1 := veil hb1; have HDONE := trivial; clear hen1 hb1))
  clear HF HG HE1 HB1
  go_cut [5] (fun s W => W = w2 ∧ s = .slice a1 (M.take 30).length c1)
  case first =>
    by_cases hM : 30 < M.length
    · have hM' : 30 < (M.length : Int) := by omega
      have hc1 : 30 ≤ (c1 : Int) := by omega
      obtain ⟨ad, rfl⟩ : ∃ ad, a1 = some ad := by
        cases a1 with
        | none => have := HE2'.out.none_nil; subst this; simp at hM
        | some ad => exact ⟨ad, rfl⟩
      have HT : Hid ((M.take 30).length = 30) := by show _ = _; rw [List.length_take]; omega
      go_wp2_with fail
      go_meet
      exact ⟨rfl, by rw [HT.out]⟩
    · have hM' : ¬ 30 < (M.length : Int) := by omega
      have HT : Hid ((M.take 30).length = M.length) := by show _ = _; rw [List.length_take]; omega
      go_wp2_with fail
      go_meet
      exact ⟨rfl, by rw [HT.out]⟩
  obtain ⟨rfl, rfl⟩ := hcut
  have HEP := veil (HE2'.out.take 30)
  have hP30 : (M.take 30).length ≤ 30 := by rw [List.length_take]; omega
  generalize M.take 30 = P at *
  clear HE2'
  go_upto_if 25 with fail
  go_cut [6] (fun s W => W = wc ∧ s = .slice a2 (N.take 30).length c2)
  case first =>
    by_cases hM : 30 < N.length
    · have hM' : 30 < (N.length : Int) := by omega
      have hc1 : 30 ≤ (c2 : Int) := by omega
      obtain ⟨ad, rfl⟩ : ∃ ad, a2 = some ad := by
        cases a2 with
        | none => have := HE2.out.none_nil; subst this; simp at hM
        | some ad => exact ⟨ad, rfl⟩
      have HT : Hid ((N.take 30).length = 30) := by show _ = _; rw [List.length_take]; omega
      go_wp2_with fail
      go_meet
      exact ⟨rfl, by rw [HT.out]⟩
    · have hM' : ¬ 30 < (N.length : Int) := by omega
      have HT : Hid ((N.take 30).length = N.length) := by show _ = _; rw [List.length_take]; omega
      go_wp2_with fail
      go_meet
      exact ⟨rfl, by rw [HT.out]⟩
  obtain ⟨rfl, rfl⟩ := hcut
  have HEQ := veil (HE2.out.take 30)
  have hQ30 : (N.take 30).length ≤ 30 := by rw [List.length_take]; omega
  generalize N.take 30 = Q at *
  clear HE2
  obtain ⟨S1, d1, hS1⟩ := encS_ex P
  obtain ⟨S2, d2, hS2⟩ := encS_ex Q
  have HEN1 := veil (fun W a c (h : Ens W a P) => (encodes W a P c (by omega) h).mono (fun e w' h => h.says hS1))
  have HEN2 := veil (fun W a c (h : Ens W a Q) => (encodes W a Q c (by omega) h).mono (fun e w' h => h.says hS2))
  go_upto_region 9 with (first
    | (go_at_call 11; have hq := HDN2; refine (HEN2.out _ _ _ HEQ3.out).mono ?_; rintro e w4 ⟨v4, rfl, hs4, hb4⟩; have HS4 := veil hs4; have HS3' := veil (HS3.out.below hb4); have HEP4 := veil (HEP3.out.below hb4); have HEQ4 := veil (HEQ3.out.below hb4); have HB4 := veil (HB3.out.trans (hb4.mono HB3.out.size)); clear hs4 hb4)
    | (go_at_call 11; refine (HEN1.out _ _ _ HEP.out).mono ?_; rintro e w3 ⟨v3, rfl, hs3, hb3⟩; have HS3 := veil hs3; have HEP3 := veil (HEP.out.below hb3); have HEQ3 := veil (HEQ.out.below hb3); have HB3 := veil (HB2.out.trans (hb3.mono HB2.out.size)); have HDN2 := trivial; clear hs3 hb3))
  clear HEN1 HEN2 HEP HEQ HEP3 HEQ3 HS3 HB3 HB2
  obtain ⟨PQ, hPQ⟩ : ∃ PQ, PQ = P ++ Q := ⟨_, rfl⟩
  have HPQ := veil hPQ
  clear hPQ
  go_cut [11] (fun s W => ∃ a6 c6, s = .slice a6 PQ.length c6 ∧ Ens W a6 PQ ∧ Below w4.heap.size w4 W)
  case first =>
    cases a1 with
    | none =>
      have hP := HEP4.out.none_nil
      subst hP
      cases a2 with
      | none =>
        have hQ := HEQ4.out.none_nil
        subst hQ
        go_wp2_with fail
        go_meet
        have e0 : PQ = [] := HPQ.out
        subst e0
        exact ⟨_, _, rfl, .inl rfl, Below.refl _ _⟩
      | some ad2 =>
        obtain ⟨Z2, hZ2, hn2, hf2⟩ := ens_cells HEQ4.out
        have hl2 : Z2.length = Q.length := by rw [← hZ2, List.length_map]
        have HN2 := veil hn2
        have HFin : Hid (∀ v W, W.ownsRow w4.heap.size 36 10 v (0 + Q.length) ([] ++ zcells Z2) → Below w4.heap.size w4 W → ∃ a6 c6, v = .slice a6 PQ.length c6 ∧ Ens W a6 PQ) := fun v W ho hb => by
          obtain ⟨a6, c6, q1, q2⟩ := ens_of (Z := Z2) (own_eq ho (by omega) rfl) hb hf2
          rw [hZ2] at q2
          rw [hl2] at q1
          have e0 : PQ = Q := HPQ.out
          rw [e0]
          exact ⟨a6, c6, q1, q2⟩
        have HLZ : Hid ((zcells Z2).length = Q.length * 10) := by show _ = _; rw [zcells_length, hl2]
        clear hZ2 hn2 hf2
        go_wp2_with (at_builtin; refine wpList_append_own _ rfl _ _ 22 rfl w4.heap.size 36 i0 _ 10 96 Try.underlying22 hi hz0 hz1 hz2 rfl (by decide) (.slice none 0 0) 0 [] rfl (World.ownsRow_nil _ _ _ _) ad2 Q.length c2 (zcells Z2) rfl HLZ.out HN2.out (zcells_cell _) (by unfold maxLen; omega) (by omega) (Nat.le_refl _) ?_; intro v5 w5 ho5 hg5 _; have hb5 := (Below.refl w4.heap.size w4).grown hg5 (Nat.le_refl _) (fun k hk => (by simp [Value.ownBlock] at hk)); obtain ⟨a6, c6, rfl, he6⟩ := HFin.out _ _ ho5 hb5; have HE6 := veil he6; have HB5 := veil hb5; clear ho5 hg5 hb5 he6)
        go_meet
        exact ⟨_, _, rfl, HE6.out, HB5.out⟩
    | some ad1 =>
      obtain ⟨Z1, hZ1, hn1, hf1⟩ := ens_cells HEP4.out
      have hl1' : Z1.length = P.length := by rw [← hZ1, List.length_map]
      have HN1 := veil hn1
      have HLZ1 : Hid ((zcells Z1).length = P.length * 10) := by show _ = _; rw [zcells_length, hl1']
      cases a2 with
      | none =>
        have hQ := HEQ4.out.none_nil
        subst hQ
        have hc2z := HZ2.out rfl
        subst hc2z
        have HFin : Hid (∀ v W, W.ownsRow w4.heap.size 36 10 v (0 + P.length) ([] ++ zcells Z1) → Below w4.heap.size w4 W → ∃ a6 c6, v = .slice a6 PQ.length c6 ∧ Ens W a6 PQ) := fun v W ho hb => by
          obtain ⟨a6, c6, q1, q2⟩ := ens_of (Z := Z1) (own_eq ho (by omega) rfl) hb hf1
          rw [hZ1] at q2
          rw [hl1'] at q1
          have e0 : PQ = P := by rw [HPQ.out, List.append_nil]
          rw [e0]
          exact ⟨a6, c6, q1, q2⟩
        clear hZ1 hn1 hf1
        go_wp2_with (first
          | (at_builtin; refine wpList_append_nil rfl _ _ 22 rfl w4.heap.size 36 i0 10 Try.underlying22 hi _ _ _ rfl HO5.out rfl ?_)
          | (at_builtin; refine wpList_append_own _ rfl _ _ 22 rfl w4.heap.size 36 i0 _ 10 96 Try.underlying22 hi hz0 hz1 hz2 rfl (by decide) (.slice none 0 0) 0 [] rfl (World.ownsRow_nil _ _ _ _) ad1 P.length c1 (zcells Z1) rfl HLZ1.out HN1.out (zcells_cell _) (by unfold maxLen; omega) (by omega) (Nat.le_refl _) ?_; intro v5 w5 ho5 hg5 _; have hb5 := (Below.refl w4.heap.size w4).grown hg5 (Nat.le_refl _) (fun k hk => (by simp [Value.ownBlock] at hk)); obtain ⟨a6, c6, rfl, he6⟩ := HFin.out _ _ ho5 hb5; have HE6 := veil he6; have HB5 := veil hb5; have HO5 := veil ho5; clear ho5 hg5 hb5 he6))
        go_meet
        exact ⟨_, _, rfl, HE6.out, HB5.out⟩
      | some ad2 =>
        obtain ⟨Z2, hZ2, hn2, hf2⟩ := ens_cells HEQ4.out
        have hl2' : Z2.length = Q.length := by rw [← hZ2, List.length_map]
        have HLZ2 : Hid ((zcells Z2).length = Q.length * 10) := by show _ = _; rw [zcells_length, hl2']
        have HN2 : Hid (∀ W, Below w4.heap.size w4 W → ∀ j u, (zcells Z2)[j]? = some u → W.cell? (ad2.add j) = some u) := fun W hb j u hu => by
          have q := hn2 j u hu
          exact (hb.cell (p := ad2.add j) (World.block_lt_of_cell? w4 _ q)).trans q
        have HFin : Hid (∀ v W, W.ownsRow w4.heap.size 36 10 v (0 + P.length + Q.length) ([] ++ zcells Z1 ++ zcells Z2) → Below w4.heap.size w4 W → ∃ a6 c6, v = .slice a6 PQ.length c6 ∧ Ens W a6 PQ) := fun v W ho hb => by
          obtain ⟨a6, c6, q1, q2⟩ := ens_of (Z := Z1 ++ Z2) (own_eq ho (by rw [List.length_append]; omega) (by rw [zcells_append]; rfl)) hb (fun z hz => by
            rcases List.mem_append.1 hz with hz | hz
            · exact hf1 z hz
            · exact hf2 z hz)
          rw [List.map_append, hZ1, hZ2] at q2
          rw [List.length_append, hl1', hl2', ← List.length_append] at q1
          rw [HPQ.out]
          exact ⟨a6, c6, q1, q2⟩
        clear hZ1 hn1 hf1 hZ2 hn2 hf2
        go_wp2_with (first
          | (at_builtin; refine wpList_append_own _ rfl _ _ 22 rfl w4.heap.size 36 i0 _ 10 96 Try.underlying22 hi hz0 hz1 hz2 rfl (by decide) _ _ _ rfl HO5.out ad2 Q.length c2 (zcells Z2) rfl HLZ2.out (HN2.out _ HB5.out) (zcells_cell _) (by unfold maxLen; omega) (by omega) HB5.out.size ?_; intro v6 w6 ho6 hg6 _; have hb6 := HB5.out.grown hg6 HB5.out.size (fun k hk => (HO5.out.lt k hk).1); obtain ⟨a6, c6, rfl, he6⟩ := HFin.out _ _ ho6 hb6; have HE6 := veil he6; have HB6 := veil hb6; clear ho6 hg6 hb6 he6)
          | (at_builtin; refine wpList_append_own _ rfl _ _ 22 rfl w4.heap.size 36 i0 _ 10 96 Try.underlying22 hi hz0 hz1 hz2 rfl (by decide) (.slice none 0 0) 0 [] rfl (World.ownsRow_nil _ _ _ _) ad1 P.length c1 (zcells Z1) rfl HLZ1.out HN1.out (zcells_cell _) (by unfold maxLen; omega) (by omega) (Nat.le_refl _) ?_; intro v5 w5 ho5 hg5 _; have HO5 := veil ho5; have HB5 := veil ((Below.refl w4.heap.size w4).grown hg5 (Nat.le_refl _) (fun k hk => (by simp [Value.ownBlock] at hk))); clear ho5 hg5))
        go_meet
        exact ⟨_, _, rfl, HE6.out, HB6.out⟩
  obtain ⟨a6, c6, rfl, he6, hb6⟩ := hcut
  have HE6 := veil he6
  have HB6 := veil (HB4.out.trans (hb6.mono HB4.out.size))
  have HS4' := veil (HS4.out.below hb6)
  have HS3'' := veil (HS3'.out.below hb6)
  clear he6 hb6 HEP4 HEQ4 HS4 HS3'
  by_cases hr1 : ∀ x ∈ P, RightE x
  · obtain ⟨rfl, rfl⟩ : S1 = strN (all P) ∧ d1 = 0 := by
      rcases hS1 with ⟨_, h⟩ | ⟨h, _⟩
      · exact h
      · exact (h hr1).elim
    by_cases hr2 : ∀ x ∈ Q, RightE x
    · obtain ⟨rfl, rfl⟩ : S2 = strN (all Q) ∧ d2 = 0 := by
        rcases hS2 with ⟨_, h⟩ | ⟨h, _⟩
        · exact h
        · exact (h hr2).elim
      have HEN3 : Hid (∀ W a c, Ens W a PQ → Calls Try.prog 11 #[.slice a PQ.length c] W fun e w' => ∃ v, e = .returned (.tuple #[v, .int .i64 0]) ∧ Says w' v (strN (all P) ++ strN (all Q)) ∧ Below W.heap.size W w') := fun W a c h => (encodes W a PQ c (by rw [HPQ.out, List.length_append]; omega) h).mono (fun e w' h => by
        obtain ⟨v, q1, q2, q3⟩ := h.yes (fun x hx => by
          rw [HPQ.out] at hx
          rcases List.mem_append.1 hx with hx | hx
          · exact hr1 x hx
          · exact hr2 x hx)
        refine ⟨v, q1, ?_, q3⟩
        rw [← strN_append, ← all_append, ← HPQ.out]
        exact says_u8s q2)
      have hsz : ¬ 9223372036854775807 < (strN (all P)).size + (strN (all Q)).size := by
        have q1 := all_le P hr1
        have q2 := all_le Q hr2
        unfold strN
        rw [strOfNums_size, strOfNums_size, List.length_map, List.length_map]
        omega
      clear hS1 hS2 hr1 hr2
      generalize strN (all P) = T1 at *
      generalize strN (all Q) = T2 at *
      go_wp2_with (first
        | (go_at_call 17; refine (HV.out _).mono ?_; rintro e w8 ⟨rfl, hb8⟩; have t1 := HS7.out _ hb8; have t2 := HS3'''.out _ hb8; have t3 := HS4''.out _ hb8; have HB8 := veil (HB7.out.trans (hb8.mono HB7.out.size)); clear hb8)
        | (go_at_call 11; refine (HEN3.out _ _ _ HE6.out).mono ?_; rintro e w7 ⟨v7, rfl, hs7, hb7⟩; have HS7 := veil hs7; have HS3''' := veil (HS3''.out.below hb7); have HS4'' := veil (HS4'.out.below hb7); have HB7 := veil (HB6.out.trans (hb7.mono HB6.out.size)); clear hs7 hb7))
      go_ret
      exact ⟨by simp, HB8.out⟩
    · obtain ⟨rfl, rfl⟩ : S2 = strN [] ∧ d2 = 3 := by
        rcases hS2 with ⟨h, _⟩ | ⟨_, h⟩
        · exact (hr2 h).elim
        · exact h
      have HEN3 := veil (fun W a c (h : Ens W a PQ) => (encodes W a PQ c (by rw [HPQ.out, List.length_append]; omega) h).mono (fun e w' h => h.no (fun q => hr2 (fun x hx => q x (by rw [HPQ.out]; exact List.mem_append.2 (.inr hx))))))
      clear hS1 hS2 hr1 hr2 HS3'' HS4'
      go_wp2_with (first
        | (go_at_call 17; refine (HV.out _).mono ?_; rintro e w8 ⟨rfl, hb8⟩; have HB8 := veil (HB7.out.trans (hb8.mono HB7.out.size)); clear hb8)
        | (go_at_call 11; refine (HEN3.out _ _ _ HE6.out).mono ?_; rintro e w7 ⟨rfl, hb7⟩; have HB7 := veil (HB6.out.trans (hb7.mono HB6.out.size)); clear hb7))
      go_ret
      exact ⟨by simp, HB8.out⟩
  · obtain ⟨rfl, rfl⟩ : S1 = strN [] ∧ d1 = 3 := by
      rcases hS1 with ⟨h, _⟩ | ⟨_, h⟩
      · exact (hr1 h).elim
      · exact h
    have HEN3 := veil (fun W a c (h : Ens W a PQ) => (encodes W a PQ c (by rw [HPQ.out, List.length_append]; omega) h).mono (fun e w' h => h.no (fun q => hr1 (fun x hx => q x (by rw [HPQ.out]; exact List.mem_append.2 (.inl hx))))))
    clear hS1 hS2 hr1 HS3'' HS4'
    go_wp2_with (first
      | (go_at_call 17; refine (HV.out _).mono ?_; rintro e w8 ⟨rfl, hb8⟩; have HB8 := veil (HB7.out.trans (hb8.mono HB7.out.size)); clear hb8)
      | (go_at_call 11; refine (HEN3.out _ _ _ HE6.out).mono ?_; rintro e w7 ⟨rfl, hb7⟩; have HB7 := veil (HB6.out.trans (hb7.mono HB6.out.size)); clear hb7))
    go_ret
    exact ⟨by simp, HB8.out⟩
end Go.Proofs.Ytnnpbbiiapipaaa
