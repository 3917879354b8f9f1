/-
  script: few, ref, refs, live walked.
-/
import Derived.Test.YtnnpbbiiapipaaaS13r
namespace Go.Proofs.Ytnnpbbiiapipaaa
open Go.RowKit Go.Lib
set_option linter.unusedVariables false
/-- What an entry of a row owes besides its cells. -/
def Fit (w : World) (z : En × Option Addr × Nat) : Prop := (∀ W, Below w.heap.size w W → Cod W z.2.1 z.1.code) ∧ z.1.code.length < 9223372036854775808 ∧ (z.1.code.length ≤ 64 ∨ (z.1.code.length ≤ z.2.2 ∧ z.2.2 < 9223372036854775808)) ∧ WfE z.1
theorem ens_of {w0 w : World} {base : Nat} {T : TypeId} {v : Value} {Z : Zs} (hr : w.ownsRow base T 10 v Z.length (zcells Z)) (hb : Below w0.heap.size w0 w) (hf : ∀ z ∈ Z, Fit w0 z) : ∃ a cap, v = .slice a Z.length cap ∧ Ens w a (Z.map (·.1)) := by
  rcases hr.2 with ⟨rfl, h0⟩ | ⟨g, cap, cur, rfl, _, hgg, hn, hm, hc, ht⟩
  · have : Z = [] := List.length_eq_zero_iff.1 h0
    subst this
    exact ⟨none, 0, rfl, .inl rfl⟩
  · refine ⟨_, cap, rfl, .inr ⟨g, 0, rfl, (Array.getElem?_eq_some_iff.1 hgg).1, fun j x hj => ?_⟩⟩
    rw [List.getElem?_map] at hj
    cases hz : Z[j]? with
    | none => rw [hz] at hj; simp at hj
    | some z =>
      rw [hz] at hj
      simp at hj
      subst hj
      have hcell : ∀ i u, (ec z.1 z.2.1 z.2.2)[i]? = some u → w.cell? ⟨g, 0 + j * 10 + i, none⟩ = some u := by
        intro i u hu
        have q := zcells_at Z j z hz i u hu
        have hi := (List.getElem?_eq_some_iff.1 hu).1
        rw [ec_length] at hi
        have hj' := (List.getElem?_eq_some_iff.1 hz).1
        rw [← ht, List.getElem?_take_of_lt (by omega)] at q
        unfold World.cell?
        simp only [hgg]
        rw [show 0 + j * 10 + i = j * 10 + i by omega]
        simpa using q
      obtain ⟨q1, q2, q3, q4⟩ := hf z (List.mem_of_getElem? hz)
      exact ⟨z.2.1, z.2.2, hcell 0 _ rfl, hcell 1 _ rfl, hcell 2 _ rfl, hcell 3 _ rfl, hcell 4 _ rfl, hcell 5 _ rfl, hcell 6 _ rfl, hcell 7 _ rfl, hcell 8 _ rfl, hcell 9 _ rfl, q1 w hb, q2, q3, q4⟩
theorem cells_next (w : World) (o : Obj) (l : List Value) (t : TypeId) : ∀ j u, l[j]? = some u → ((w.alloc o).alloc (.cells l.toArray t)).cell? ((⟨w.heap.size + 1, 0, none⟩ : Addr).add j) = some u := by
  have := cells_new (w.alloc o) l t
  rw [show (w.alloc o).heap.size = w.heap.size + 1 by simp] at this
  exact this
/-- At most so many entries, of not too long programs. -/
def cutE (x : En) : En := { x with code := x.code.take 70 }
def fewE (L : List En) : List En := (L.take 60).map cutE
theorem fewE_length (L : List En) : (fewE L).length ≤ 60 := by simp [fewE]; omega
theorem fewE_snoc {L : List En} {j : Nat} {x : En} (h : L[j]? = some x) (hj : j < 60) : fewE (L.take (j + 1)) = fewE (L.take j) ++ [cutE x] := by
  unfold fewE
  rw [List.take_take, List.take_take, Nat.min_eq_right (by omega), Nat.min_eq_right (by omega), take_one h, List.map_append]
  rfl
theorem fit_cut {w : World} {x : En} {ca : Option Addr} {cc lb o : Nat} (h : EnAt w lb o x ca cc) : Fit w (cutE x, ca, cc) := by
  have hl : (cutE x).code.length ≤ x.code.length := by simp [cutE]; omega
  refine ⟨fun W hb => ?_, by have := h.len; show (cutE x).code.length < _; omega, ?_, ⟨h.wf.dr, h.wf.bu, h.wf.pe, h.wf.lv⟩⟩
  · have q := Prg.cut (h.cod.below hb) hl
    refine prg_congr q (fun i hi => ?_)
    have hi' : i < 70 := by
      have h1 : (cutE x).code.length ≤ 70 := by simp [cutE]; omega
      have h2 : i < (cutE x).code.length := hi
      omega
    simp [cutE, cO, cR, List.getD, List.getElem?_take_of_lt hi']
  · show (cutE x).code.length ≤ 64 ∨ ((cutE x).code.length ≤ cc ∧ cc < _)
    rcases h.cap with q | q
    · exact .inl (by omega)
    · exact .inr ⟨by omega, q.2⟩
theorem fit_self {w : World} {x : En} {ca : Option Addr} {cc lb o : Nat} (h : EnAt w lb o x ca cc) : Fit w (x, ca, cc) := ⟨fun W hb => h.cod.below hb, h.len, h.cap, h.wf⟩
/-- Entries are answered. -/
def EnsA (w : World) (L : List En) (e : Ending) (w' : World) : Prop := ∃ a' cap', e = .returned (.slice a' L.length cap') ∧ Ens w' a' L ∧ Below w.heap.size w w'
set_option maxHeartbeats 4000000 in
theorem few_ok' (w : World) (a : Option Addr) (L : List En) (cap : Nat) (hL : L.length < 9223372036854775808) (hE : Ens w a L) :
    Calls Try.prog 10 #[.slice a L.length cap] w (EnsA w (fewE L)) := by
  obtain ⟨i0, hi, hz0, hz1, hz2⟩ := info_parts info_entry
  have HE := veil hE
  clear hE
  go_enter Try.func10, Try.ntmps10
  go_wp2
  go_loopw [3, 4] (fun s i wr => ∃ (Z : Zs) (j : Nat), j ≤ L.length ∧ j ≤ 60 ∧ i = .int .i64 (j : Int) ∧ Z.map (·.1) = fewE (L.take j) ∧ Z.length = j ∧ wr.ownsRow w.heap.size 36 10 s Z.length (zcells Z) ∧ (∀ z ∈ Z, Fit w z) ∧ Below w.heap.size w wr) (fun _ i _ => L.length - (intOf i).toNat)
  case atStart => exact ⟨[], 0, by omega, by omega, rfl, rfl, rfl, World.ownsRow_nil _ _ _ _, (fun z hz => (by cases hz)), Below.refl _ _⟩
  case round =>
    obtain ⟨Z, j, hj, hj6, rfl, hZ, hZl, hown, hfit, hbel⟩ := hrel
    obtain ⟨va, vl, vc, hv⟩ := row_slice hown
    subst hv
    have hsz := hbel.size
    by_cases hjl : j < L.length
    · have hjl' : (j : Int) < (L.length : Int) := by omega
      by_cases hj60 : j < 60
      · have hj60' : (j : Int) < 60 := by omega
        obtain ⟨x, hx⟩ : ∃ x, L[j]? = some x := ⟨L[j], List.getElem?_eq_getElem hjl⟩
        rcases HE.out with h0 | ⟨lb, off, rfl, hlb, hc⟩
        · subst h0; simp at hjl
        obtain ⟨ca, cc, he0⟩ := hc j x hx
        have he := he0.below hlb hbel
        have y0 := he.c0
        have y1 := he.c1
        have y2 := he.c2
        have y3 := he.c3
        have y4 := he.c4
        have y5 := he.c5
        have y6 := he.c6
        have y7 := he.c7
        have y8 := he.c8
        have y9 := he.c9
        have HO := veil hown
        have HB := veil hbel
        have HSN := veil (fewE_snoc hx hj60)
        have HF : Hid (∀ z ∈ Z ++ [(cutE x, ca, cc)], Fit w z) := by
          intro z hz
          rcases List.mem_append.1 hz with hz | hz
          · exact hfit z hz
          · obtain rfl : z = _ := by simpa using hz
            exact fit_cut he0
        have HZ := veil hZ
        have hZ6 : Z.length < 60 := by omega
        by_cases h70 : 70 < x.code.length
        · have h70' : 70 < (x.code.length : Int) := by omega
          have hcc : 70 ≤ (cc : Int) := by
            rcases he.cap with q | q
            · omega
            · omega
          have HCL : Hid ((cutE x).code.length = 70) := by show _ = _; simp [cutE]; omega
          rcases he0.cod with q0 | ⟨cb, co, rfl, _, _⟩
          · omega
          clear hown hbel hfit hc hx he he0 hZ
          go_wp2_with (at_builtin; refine wpList_append_own _ rfl _ _ 22 rfl w.heap.size 36 i0 _ 10 96 Try.underlying22 hi hz0 hz1 hz2 rfl (by decide) (.slice va vl vc) Z.length _ rfl (World.ownsRow.alloc (World.ownsRow.alloc HO.out _) _) ⟨wr.heap.size + 1, 0, none⟩ 1 1 [.int .i64 x.d, .int .i64 x.p, .int .u64 (x.dr : Int), .int .i64 x.n, .slice (some ⟨cb, co, none⟩) 70 cc, .int .u64 (x.bu : Int), .int .u64 (x.pe : Int), .int .i64 x.pr, .int .u8 (x.lv : Int), .int .i64 x.sv] rfl rfl (cells_next wr _ [.int .i64 x.d, .int .i64 x.p, .int .u64 (x.dr : Int), .int .i64 x.n, .slice (some ⟨cb, co, none⟩) 70 cc, .int .u64 (x.bu : Int), .int .u64 (x.pe : Int), .int .i64 x.pr, .int .u8 (x.lv : Int), .int .i64 x.sv] _) (by simp [Value.oneCell']) (by unfold maxLen; omega) (by omega) (by simp; omega) ?_; intro v3 w3 ho3 hg3 _; obtain ⟨va3, vl3, vc3, rfl⟩ := row_slice ho3; have HO3 := veil ho3; have HB3 := veil (((HB.out.alloc hsz _).alloc (by simp; omega) _).grown hg3 (by simp; omega) (fun k hk => (HO.out.lt k hk).1)); clear ho3 hg3)
          refine ⟨⟨Z ++ [(cutE x, some ⟨cb, co, none⟩, cc)], j + 1, by omega, by omega, by go_num, by rw [List.map_append, HZ.out, HSN.out]; rfl, by rw [List.length_append, hZl]; rfl, ?_, HF.out, HB3.out⟩, by simp [intOf]; omega⟩
          refine own_eq HO3.out (by rw [List.length_append]; rfl) ?_
          rw [zcells_append, zcells_one]
          simp only [ec, HCL.out]
          rfl
        · have h70' : ¬ 70 < (x.code.length : Int) := by omega
          have HCL : Hid ((cutE x).code.length = x.code.length) := by show _ = _; simp [cutE]; omega
          clear hown hbel hfit hc hx he he0 hZ
          go_wp2_with (at_builtin; refine wpList_append_own _ rfl _ _ 22 rfl w.heap.size 36 i0 _ 10 96 Try.underlying22 hi hz0 hz1 hz2 rfl (by decide) (.slice va vl vc) Z.length _ rfl (World.ownsRow.alloc (World.ownsRow.alloc HO.out _) _) ⟨wr.heap.size + 1, 0, none⟩ 1 1 [.int .i64 x.d, .int .i64 x.p, .int .u64 (x.dr : Int), .int .i64 x.n, .slice ca x.code.length cc, .int .u64 (x.bu : Int), .int .u64 (x.pe : Int), .int .i64 x.pr, .int .u8 (x.lv : Int), .int .i64 x.sv] rfl rfl (cells_next wr _ [.int .i64 x.d, .int .i64 x.p, .int .u64 (x.dr : Int), .int .i64 x.n, .slice ca x.code.length cc, .int .u64 (x.bu : Int), .int .u64 (x.pe : Int), .int .i64 x.pr, .int .u8 (x.lv : Int), .int .i64 x.sv] _) (by simp [Value.oneCell']) (by unfold maxLen; omega) (by omega) (by simp; omega) ?_; intro v3 w3 ho3 hg3 _; obtain ⟨va3, vl3, vc3, rfl⟩ := row_slice ho3; have HO3 := veil ho3; have HB3 := veil (((HB.out.alloc hsz _).alloc (by simp; omega) _).grown hg3 (by simp; omega) (fun k hk => (HO.out.lt k hk).1)); clear ho3 hg3)
          refine ⟨⟨Z ++ [(cutE x, ca, cc)], j + 1, by omega, by omega, by go_num, by rw [List.map_append, HZ.out, HSN.out]; rfl, by rw [List.length_append, hZl]; rfl, ?_, HF.out, HB3.out⟩, by simp [intOf]; omega⟩
          refine own_eq HO3.out (by rw [List.length_append]; rfl) ?_
          rw [zcells_append, zcells_one]
          simp only [ec, HCL.out]
          rfl
      · have hj60' : ¬ (j : Int) < 60 := by omega
        have HEN : Hid (∃ a' cap', Value.slice va vl vc = .slice a' (fewE L).length cap' ∧ Ens wr a' (fewE L)) := by
          obtain ⟨a', cap', q1, q2⟩ := ens_of hown hbel hfit
          have e : fewE (L.take j) = fewE L := by
            unfold fewE
            rw [List.take_take, Nat.min_eq_left (by omega)]
          rw [hZ, e] at q2
          have e2 : Z.length = (fewE L).length := by rw [← List.length_map (f := (·.1)), hZ, e]
          rw [e2] at q1
          exact ⟨a', cap', q1, q2⟩
        have HB := veil hbel
        clear hown hbel hfit hZ
        go_wp2
        go_ret
        obtain ⟨a', cap', q1, q2⟩ := HEN.out
        exact ⟨a', cap', by rw [← q1]; rfl, q2, HB.out⟩
    · have hjl' : ¬ (j : Int) < (L.length : Int) := by omega
      have HEN : Hid (∃ a' cap', Value.slice va vl vc = .slice a' (fewE L).length cap' ∧ Ens wr a' (fewE L)) := by
        obtain ⟨a', cap', q1, q2⟩ := ens_of hown hbel hfit
        have e : fewE (L.take j) = fewE L := by rw [List.take_of_length_le (by omega)]
        rw [hZ, e] at q2
        have e2 : Z.length = (fewE L).length := by rw [← List.length_map (f := (·.1)), hZ, e]
        rw [e2] at q1
        exact ⟨a', cap', q1, q2⟩
      have HB := veil hbel
      clear hown hbel hfit hZ
      go_wp2
      go_ret
      obtain ⟨a', cap', q1, q2⟩ := HEN.out
      exact ⟨a', cap', by rw [← q1]; rfl, q2, HB.out⟩
@[go_sem] theorem buildRef (d p dr n bu pe pr lv sv : Int) (a : Option Addr) (l c : Nat) (w : World) : (Instr.build 39 #[(0, .int .i64 d), (1, .int .i64 p), (2, .int .u64 dr), (3, .int .i64 n), (4, .slice a l c), (5, .int .u64 bu), (6, .int .u64 pe), (7, .int .i64 pr), (8, .int .u8 lv), (9, .int .i64 sv)]).run Try.prog w = .ok (.agg #[.int .i64 d, .int .i64 p, .int .u64 dr, .int .i64 n, .slice a l c, .int .u64 bu, .int .u64 pe, .int .i64 pr, .int .u8 lv, .int .i64 sv]) w := run_build w 39 _ _ (by kernel_rfl)
set_option maxHeartbeats 1000000 in
theorem ref_ok (w : World) (x : En) (a : Option Addr) (ca : Nat) (hd : (Lit.int .i64 x.d).wf = true) :
    Calls Try.prog 16 #[.agg #[.int .i64 x.d, .int .i64 x.p, .int .u64 (x.dr : Int), .int .i64 x.n, .slice a x.code.length ca, .int .u64 (x.bu : Int), .int .u64 (x.pe : Int), .int .i64 x.pr, .int .u8 (x.lv : Int), .int .i64 x.sv]] w fun e w' => e = .returned (.agg #[.int .i64 x.d, .int .i64 x.p, .int .u64 (x.dr : Int), .int .i64 x.n, .slice a x.code.length ca, .int .u64 (x.bu : Int), .int .u64 (x.pe : Int), .int .i64 x.pr, .int .u8 (x.lv : Int), .int .i64 x.sv]) ∧ Below w.heap.size w w' := by
  have hd2 : -9223372036854775808 ≤ x.d ∧ x.d < 9223372036854775808 := by
    simp [Lit.wf, IntKind.min, IntKind.max, IntKind.bits, IntKind.signed] at hd
    omega
  obtain ⟨hd3, hd4⟩ := hd2
  clear hd
  have HB : Hid (∀ (c c' : Array Value) (t t' : TypeId), Below w.heap.size w ((w.alloc (.cells c t)).alloc (.cells c' t'))) := fun c c' t t' => below_two w c c' t t'
  go_enter Try.func16, Try.ntmps16
  go_wp2
  simp [bodyPost, results, Try.results16, go_sem]
  exact HB.out _ _ _ _
end Go.Proofs.Ytnnpbbiiapipaaa
