/-
  script: the document's Decode walked.
-/
import Derived.Test.YtnnpbbiiapipaaaS13
import Derived.Test.YtnnpbbiiapipaaaS8r
namespace Go.Proofs.Ytnnpbbiiapipaaa
open Go.RowKit Go.Lib
set_option linter.unusedVariables false
theorem info_rentry : (Try.prog.info? 39).map (fun i => (i.zero, i.size, i.bytes)) = some (some (.agg #[.int .i64 0, .int .i64 0, .int .u64 0, .int .i64 0, .slice none 0 0, .int .u64 0, .int .u64 0, .int .i64 0, .int .u8 0, .int .i64 0]), 10, 96) := by kernel_rfl
theorem bytes_first {x : En} (h : RightE x) (t : List Nat) : 1 ≤ (bytes x ++ t).getD 0 0 ∧ (bytes x ++ t).getD 0 0 ≤ 5 := by
  rcases h with ⟨e, _⟩ | ⟨e, _⟩ | ⟨e, _⟩ | e | ⟨e, _⟩
  · rw [e, bytes_step]; simp
  · rw [e, bytes_tick]; simp
  · rw [e, bytes_load]; simp
  · rw [e, bytes_admit]; simp
  · rw [e, bytes_start]; simp
theorem rsz_zero {r : List Nat} (h : rsz r = 0) : NoE r := by
  rintro x t hx hw rfl
  have h1 := sz_bytes hx hw t
  have h2 := bytes_pos (x := x)
  have h3 := bytes_first hx t
  unfold rsz at h
  rw [if_pos ⟨h3, by rw [h1, List.length_append]; omega⟩] at h
  omega
theorem rsz_pos {r : List Nat} (h : rsz r ≠ 0) : rsz r = sz r ∧ 1 ≤ r.getD 0 0 ∧ r.getD 0 0 ≤ 5 ∧ sz r ≤ r.length := by
  unfold rsz at h ⊢
  split at h
  · rename_i q
    rw [if_pos q]
    exact ⟨rfl, q.1.1, q.1.2, q.2⟩
  · exact absurd rfl h
theorem cells_new_at (w2 : World) (l : List Value) (t : TypeId) : ∀ j u, l[j]? = some u → (w2.alloc (.cells l.toArray t)).cell? ((⟨w2.heap.size, 0, none⟩ : Addr).add j) = some u := cells_new w2 l t
set_option maxHeartbeats 4000000 in
theorem rdec_some (w : World) (lb off cap : Nat) (l0 : List Nat) (hB : Bl w lb off l0) (h0 : 0 < l0.length) (hm : l0.length < 100000) (hc : l0.length ≤ cap) (hc2 : cap < 9223372036854775808) :
    Calls Try.prog 19 #[.slice (some ⟨lb, off, none⟩) l0.length cap] w (Decs w 39 l0) := by
  obtain ⟨i0, hi, hz0, hz1, hz2⟩ := info_parts info_rentry
  have HBL := veil hB
  clear hB
  have hcI : (l0.length : Int) ≤ (cap : Int) := by omega
  go_enter Try.func19, Try.ntmps19
  go_wp2
  go_loopw [5, 6] (fun s5 i wr => ∃ (Z : Zs) (k : Nat), Rights (Z.map (·.1)) ∧ k ≤ l0.length ∧ l0 = all (Z.map (·.1)) ++ l0.drop k ∧ i = .int .i64 (k : Int) ∧ Rw wr w.heap.size 39 s5 Z ∧ Below w.heap.size w wr ∧ Z.length ≤ k) (fun _ i _ => l0.length - (intOf i).toNat)
  case atStart => exact ⟨[], 0, (fun x hx => (by cases hx)), by omega, rfl, rfl, rw_nil _ _ _, Below.refl _ _, Nat.le_refl _⟩
  case round =>
    obtain ⟨Z, k, hRt, hk, hl0, rfl, hRw, hbel, hZk⟩ := hrel
    obtain ⟨va, vl, vc, hv⟩ := row_slice hRw.row
    subst hv
    by_cases hkl : k < l0.length
    · have hkl' : (k : Int) < (l0.length : Int) := by omega
      have hkc : ¬ (cap : Int) = (k : Int) := by omega
      have hkc' : (k : Int) ≤ (cap : Int) := by omega
      have hBr := (HBL.out.below hbel).drop k
      have hsm := HBL.out.small
      have hlen : (l0.drop k).length = l0.length - k := List.length_drop
      have HLN : Hid (Calls Try.prog 30 #[.slice (some ⟨lb, off + k, none⟩) (l0.length - k) (cap - k)] wr fun e w' => e = .returned (.int .i64 (rsz (l0.drop k) : Int)) ∧ w' = wr) := by
        have q := size_ok wr lb (off + k) (cap - k) (l0.drop k) hBr (by omega) (by omega)
        rwa [hlen] at q
      have HV : Hid (vl = Z.length) := by
        rcases hRw.row.2 with ⟨q, q0⟩ | ⟨g, cap', cur, q, _⟩
        · simp only [Value.slice.injEq] at q; show _ = _; omega
        · simp only [Value.slice.injEq] at q; exact q.2.1
      by_cases hsh : rsz (l0.drop k) = 0
      · have HBAD : Hid (Bad l0 (Z.map (·.1))) := ⟨hRt, l0.drop k, by intro q; rw [q] at hlen; simp at hlen; omega, rsz_zero hsh, hl0⟩
        have HBW := veil hbel
        have HVL : Hid (vl = (Z.map (·.1)).length) := by rw [List.length_map]; exact HV.out
        rw [hsh] at HLN
        clear hRt hl0 hRw hbel hBr hsm hsh
        go_wp2_with (go_at_call 30; refine (HLN.out).mono ?_; rintro e w1 ⟨rfl, hw⟩; replace hw := hw.symm; subst hw)
        go_ret3
        exact ⟨HBW.out, .inr ⟨_, HBAD.out, by rw [← HVL.out]; rfl⟩⟩
      · obtain ⟨hrz, hd1, hd5, hle⟩ := rsz_pos hsh
        have hS1 : 1 ≤ sz (l0.drop k) := szOf_pos _ _ _
        have hS0 : ((sz (l0.drop k) : Int) == 0) = false := by simp; omega
        rw [hrz] at HLN
        obtain ⟨y, hy⟩ : ∃ y, y = rdE ((l0.drop k).take (sz (l0.drop k))) := ⟨_, rfl⟩
        have htl : ((l0.drop k).take (sz (l0.drop k))).length = sz (l0.drop k) := by rw [List.length_take]; omega
        have hfst : ((l0.drop k).take (sz (l0.drop k))).getD 0 0 = (l0.drop k).getD 0 0 := by simp [List.getD, List.getElem?_take_of_lt (show 0 < sz (l0.drop k) by omega)]
        have HRD : Hid (Calls Try.prog 31 #[.slice (some ⟨lb, off + k, none⟩) (sz (l0.drop k)) (cap - k)] wr fun e w' => ∃ ca cc, e = .returned (.agg #[.int .i64 y.d, .int .i64 y.p, .int .u64 (y.dr : Int), .int .i64 y.n, .slice ca y.code.length cc, .int .u64 (y.bu : Int), .int .u64 (y.pe : Int), .int .i64 y.pr, .int .u8 (y.lv : Int), .int .i64 y.sv]) ∧ CRow w' wr.heap.size (.slice ca y.code.length cc) y.code ∧ Below wr.heap.size wr w') := by
          have q := rreads wr lb (off + k) (cap - k) ((l0.drop k).take (sz (l0.drop k))) (hBr.take _) (by rw [sz_take hle, htl]) (by omega) (by omega) (by omega) (by rw [hfst]; exact hd5) (by rw [hfst]; exact hd1) y hy
          rwa [htl] at q
        have hys : y.code.length < 9223372036854775808 := by rw [hy]; exact rdE_small _
        have hsz := hbel.size
        have hSc : (k : Int) + (sz (l0.drop k) : Int) ≤ (cap : Int) := by omega
        have hSk : (k : Int) ≤ (k : Int) + (sz (l0.drop k) : Int) := by omega
        have HSS : Hid (k + sz (l0.drop k) - k = sz (l0.drop k)) := by show _ = _; omega
        by_cases hrt : RightE y
        · have HRT := veil (fun W ca cc (h : Cod W ca y.code) => rright_yes' W y ca cc h hys hrt)
          obtain ⟨q1, q2, q3, q4⟩ := step_on hkl hsm hRt hl0 hle (hy ▸ hrt)
          rw [← hy] at q1 q2 q4
          have HON : Hid (Rights (Z.map (·.1) ++ [y]) ∧ l0 = all (Z.map (·.1) ++ [y]) ++ l0.drop (k + sz (l0.drop k)) ∧ k + sz (l0.drop k) ≤ l0.length ∧ WfE y ∧ y.code.length ≤ 64) := ⟨q1, q2, q3, q4, by rw [hy]; exact rdE_64 (hy ▸ hrt)⟩
          have HRW := veil hRw
          have HBW := veil hbel
          have hZ : Z.length < 100000 := by omega
          have HE1 : Hid (Z.length + 1 ≤ k + sz (l0.drop k)) := by show _ ≤ _; omega
          have hSm : k + sz (l0.drop k) ≤ 100000 := by omega
          clear q1 q2 q3 q4 hRt hl0 hRw hbel hBr hsm hsh hrt hy htl hle hfst hd1 hd5 hrz
          generalize hSd : sz (l0.drop k) = S at *
          clear hSd
          go_wp2_with (first
            | (at_builtin; refine wpList_append_own _ rfl _ _ 29 rfl w.heap.size 39 i0 _ 10 96 Try.underlying29 hi hz0 hz1 hz2 rfl (by decide) (.slice va vl vc) Z.length _ rfl (World.ownsRow.alloc HRW2.out.row _) ⟨w2.heap.size, 0, none⟩ 1 1 (ec y ca cc) rfl rfl (cells_new w2 (ec y ca cc) _) (ec_cell _ _ _) (by unfold maxLen; omega) (by omega) (by simp; omega) ?_; intro v3 w3 ho3 hg3 _; obtain ⟨va3, vl3, vc3, rfl⟩ := row_slice ho3; have HRW4 := veil (Rw.snoc (HRW2.out.below ((Below.refl w2.heap.size w2).alloc (Nat.le_refl _) _)) (by decide) y ca cc (HCR2.out.below ((Below.refl w2.heap.size w2).alloc (Nat.le_refl _) _)) HON.out.2.2.2.2 HON.out.2.2.2.1 ho3 hg3); have HBW4 := veil ((HBW2.out.alloc hs2 _).grown hg3 (by simp; omega) (fun k hk => (HRW2.out.row.lt k hk).1)); clear ho3 hg3)
            | (go_at_call 15; refine (HRT.out _ _ _ HCD.out).mono ?_; rintro e w2 ⟨rfl, hb⟩; have z0 := box_cell hb 0 _ rfl; have z1 := box_cell hb 1 _ rfl; have z2 := box_cell hb 2 _ rfl; have z3 := box_cell hb 3 _ rfl; have z4 := box_cell hb 4 _ rfl; have z5 := box_cell hb 5 _ rfl; have z6 := box_cell hb 6 _ rfl; have z7 := box_cell hb 7 _ rfl; have z8 := box_cell hb 8 _ rfl; have z9 := box_cell hb 9 _ rfl; have HBW2 := veil (HBW1.out.trans (hb.mono hs1)); have HRW2 := veil (HRW1.out.below hb); have HCR2 := veil (HCR1.out.below hb); have hs2 := HBW2.out.size; clear hb)
            | (go_at_call 31; rw [HSS.out]; refine (HRD.out).mono ?_; rintro e w1 ⟨ca, cc, rfl, hcr, hb⟩; have hal := (Below.refl w1.heap.size w1).alloc (Nat.le_refl _) (.cells #[.int .i64 y.d, .int .i64 y.p, .int .u64 (y.dr : Int), .int .i64 y.n, .slice ca y.code.length cc, .int .u64 (y.bu : Int), .int .u64 (y.pe : Int), .int .i64 y.pr, .int .u8 (y.lv : Int), .int .i64 y.sv] 39); have HCR1 := veil ((hcr.low hsz).below hal); have HCD := veil (cod_of_row (hcr.below hal)); have HRW1 := veil ((HRW.out.below hb).below hal); have HBW1 := veil ((HBW.out.trans (hb.mono hsz)).trans (hal.mono (by have := hb.size; omega))); have hs1 := HBW1.out.size; clear hb hcr hal)
            | (go_at_call 30; refine (HLN.out).mono ?_; rintro e w1 ⟨rfl, hw⟩; replace hw := hw.symm; subst hw))
          refine ⟨⟨Z ++ [(y, ca, cc)], k + S, by rw [List.map_append]; exact HON.out.1, HON.out.2.2.1, by rw [List.map_append]; exact HON.out.2.1, by go_num, HRW4.out, HBW4.out, by rw [List.length_append]; exact HE1.out⟩, by simp [intOf]; omega⟩
        · have HRT := veil (fun W ca cc (h : Cod W ca y.code) => rright_no' W y ca cc h hys hrt)
          have HBAD : Hid (Bad l0 (Z.map (·.1))) := ⟨hRt, l0.drop k, by intro q; rw [q] at hlen; simp at hlen; omega, no_wrong hle (hy ▸ hrt), hl0⟩
          have HBW := veil hbel
          have HVL : Hid (vl = (Z.map (·.1)).length) := by rw [List.length_map]; exact HV.out
          have hSm : k + sz (l0.drop k) ≤ 100000 := by omega
          clear hRt hl0 hRw hbel hBr hsm hsh hrt hy htl hle hfst hd1 hd5 hrz
          generalize hSd : sz (l0.drop k) = S at *
          clear hSd
          go_wp2_with (first
            | (go_at_call 15; refine (HRT.out _ _ _ HCD.out).mono ?_; rintro e w2 ⟨rfl, hb⟩; have HBW2 := veil (HBW1.out.trans (hb.mono hs1)); clear hb)
            | (go_at_call 31; rw [HSS.out]; refine (HRD.out).mono ?_; rintro e w1 ⟨ca, cc, rfl, hcr, hb⟩; have hal := (Below.refl w1.heap.size w1).alloc (Nat.le_refl _) (.cells #[.int .i64 y.d, .int .i64 y.p, .int .u64 (y.dr : Int), .int .i64 y.n, .slice ca y.code.length cc, .int .u64 (y.bu : Int), .int .u64 (y.pe : Int), .int .i64 y.pr, .int .u8 (y.lv : Int), .int .i64 y.sv] 39); have HCD := veil (cod_of_row (hcr.below hal)); have HBW1 := veil ((HBW.out.trans (hb.mono hsz)).trans (hal.mono (by have := hb.size; omega))); have hs1 := HBW1.out.size; clear hb hcr hal)
            | (go_at_call 30; refine (HLN.out).mono ?_; rintro e w1 ⟨rfl, hw⟩; replace hw := hw.symm; subst hw))
          go_ret3
          exact ⟨HBW2.out, .inr ⟨_, HBAD.out, by rw [← HVL.out]; rfl⟩⟩
    · have hkl' : ¬ (k : Int) < (l0.length : Int) := by omega
      have HG : Hid (Good l0 (Z.map (·.1))) := by
        refine ⟨hRt, ?_⟩
        have q : l0.drop k = [] := List.drop_eq_nil_of_le (by omega)
        rw [q, List.append_nil] at hl0
        exact hl0
      have HRW := veil hRw
      have HBW := veil hbel
      clear hRt hl0 hRw hbel hkl
      go_wp2
      go_ret3
      exact ⟨HBW.out, .inl ⟨Z, _, HG.out, rfl, HRW.out⟩⟩
theorem dec_none (w : World) (a : Option Addr) (cap : Nat) : Calls Try.prog 18 #[.slice a 0 cap] w (Decs w 36 []) := by
  have HG : Hid (Good [] (List.map (·.1) ([] : Zs))) := ⟨fun x hx => (by cases hx), rfl⟩
  go_enter Try.func18, Try.ntmps18
  go_wp2
  refine wp_scope_jumps 0 (fun _ _ => False) (fun _ _ => 0) rfl ?_ (fun _ _ h => h.elim)
  go_wp2
  go_loopw [0, 5] (fun s0 s5 wr => s0 = .slice a 0 cap ∧ s5 = .slice none 0 0 ∧ wr = w) (fun _ _ _ => 0)
  case atStart => exact ⟨rfl, rfl, rfl⟩
  case round =>
    obtain ⟨rfl, rfl, rfl⟩ := hrel
    go_wp2
    simp only [Exit.jump]
    go_ret3
    exact ⟨Below.refl _ _, .inl ⟨[], _, HG.out, rfl, rw_nil _ _ _⟩⟩
theorem dec_ok (w : World) (a : Option Addr) (len cap : Nat) (X : Nat → Nat) (hB : Byt w a len X) (hm : len < 100000) (hc : len ≤ cap) (hc2 : cap < 9223372036854775808) (l : List Nat) (hl : l = (List.range len).map X) :
    Calls Try.prog 18 #[.slice a len cap] w (Decs w 36 l) := by
  have hlen : l.length = len := by rw [hl]; simp
  have hat : ∀ j, j < len → l.getD j 0 = X j := fun j hj => by
    rw [hl]
    simp [List.getD, List.getElem?_range hj]
  rcases hB with h0 | ⟨lb, off, rfl, hlb, hx⟩
  · subst h0
    have : l = [] := List.length_eq_zero_iff.1 hlen
    rw [this]
    exact dec_none w a cap
  · by_cases h0 : len = 0
    · subst h0
      have : l = [] := List.length_eq_zero_iff.1 hlen
      rw [this]
      exact dec_none w _ cap
    · have hb : Bl w lb off l := ⟨hlb, fun j hj => by rw [hat j (by omega)]; exact (hx j (by omega)).1, fun y hy => by
        rw [hl] at hy
        simp only [List.mem_map, List.mem_range] at hy
        obtain ⟨j, hj, rfl⟩ := hy
        exact (hx j hj).2⟩
      have q := dec_some w lb off cap l hb (by omega) (by omega) (by omega) hc2
      rw [hlen] at q
      exact q
theorem rdec_none (w : World) (a : Option Addr) (cap : Nat) : Calls Try.prog 19 #[.slice a 0 cap] w (Decs w 39 []) := by
  have HG : Hid (Good [] (List.map (·.1) ([] : Zs))) := ⟨fun x hx => (by cases hx), rfl⟩
  go_enter Try.func19, Try.ntmps19
  go_wp2
  go_loopw [5, 6] (fun s5 s6 wr => s5 = .slice none 0 0 ∧ s6 = .int .i64 0 ∧ wr = w) (fun _ _ _ => 0)
  case atStart => exact ⟨rfl, rfl, rfl⟩
  case round =>
    obtain ⟨rfl, rfl, rfl⟩ := hrel
    go_wp2
    go_ret3
    exact ⟨Below.refl _ _, .inl ⟨[], _, HG.out, rfl, rw_nil _ _ _⟩⟩
theorem rdec_ok (w : World) (a : Option Addr) (len cap : Nat) (X : Nat → Nat) (hB : Byt w a len X) (hm : len < 100000) (hc : len ≤ cap) (hc2 : cap < 9223372036854775808) (l : List Nat) (hl : l = (List.range len).map X) :
    Calls Try.prog 19 #[.slice a len cap] w (Decs w 39 l) := by
  have hlen : l.length = len := by rw [hl]; simp
  have hat : ∀ j, j < len → l.getD j 0 = X j := fun j hj => by
    rw [hl]
    simp [List.getD, List.getElem?_range hj]
  rcases hB with h0 | ⟨lb, off, rfl, hlb, hx⟩
  · subst h0
    have : l = [] := List.length_eq_zero_iff.1 hlen
    rw [this]
    exact rdec_none w a cap
  · by_cases h0 : len = 0
    · subst h0
      have : l = [] := List.length_eq_zero_iff.1 hlen
      rw [this]
      exact rdec_none w _ cap
    · have hb : Bl w lb off l := ⟨hlb, fun j hj => by rw [hat j (by omega)]; exact (hx j (by omega)).1, fun y hy => by
        rw [hl] at hy
        simp only [List.mem_map, List.mem_range] at hy
        obtain ⟨j, hj, rfl⟩ := hy
        exact (hx j hj).2⟩
      have q := rdec_some w lb off cap l hb (by omega) (by omega) (by omega) hc2
      rw [hlen] at q
      exact q
end Go.Proofs.Ytnnpbbiiapipaaa
