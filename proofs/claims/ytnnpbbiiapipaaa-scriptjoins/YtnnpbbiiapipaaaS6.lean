/-
  script: tell walked.
-/
import Derived.Test.YtnnpbbiiapipaaaS5
namespace Go.Proofs.Ytnnpbbiiapipaaa
open Go.RowKit Go.Lib
set_option linter.unusedVariables false
theorem own_eq {W : World} {base : Nat} {e : TypeId} {s : Nat} {v : Value} {n n' : Nat} {xs xs' : List Value} (ho : W.ownsRow base e s v n xs) (hn : n = n') (hx : xs = xs') : W.ownsRow base e s v n' xs' := by
  subst hn hx
  exact ho
theorem cells_new (w : World) (l : List Value) (t : TypeId) : ∀ j u, l[j]? = some u → (w.alloc (.cells l.toArray t)).cell? ((⟨w.heap.size, 0, none⟩ : Addr).add j) = some u := by
  intro j u hu
  exact World.news_of_block (cs := l.toArray) ((MapKept.heap_alloc w _).1) j u (by simpa using hu)
theorem cell_one_next (w : World) (o : Obj) (v : Value) (t : TypeId) : ∀ j u, [v][j]? = some u → ((w.alloc o).alloc (.cells #[v] t)).cell? ((⟨w.heap.size + 1, 0, none⟩ : Addr).add j) = some u := by
  have := cell_one_new (w.alloc o) v t
  rw [show (w.alloc o).heap.size = w.heap.size + 1 by simp] at this
  exact this
theorem u8s_one (ys : List Nat) : ∀ u ∈ u8s ys, u.oneCell' = true := by
  intro u hu
  simp only [u8s, List.mem_map] at hu
  obtain ⟨x, _, rfl⟩ := hu
  rfl
theorem u8s_append (a b : List Nat) : u8s (a ++ b) = u8s a ++ u8s b := by simp [u8s]
theorem u8s_cons (x : Nat) (b : List Nat) : u8s (x :: b) = .int .u8 (x : Int) :: u8s b := rfl
theorem u8s_length (a : List Nat) : (u8s a).length = a.length := by simp [u8s]
set_option maxHeartbeats 2000000 in
theorem tell1_ok (w : World) (base : Nat) (v : Value) (n : Nat) (xs : List Value) (hn : n < 900000) (h : w.ownsRow base 5 1 v n xs) (hb : base ≤ w.heap.size) (a : Option Addr) (ca : Nat) (p dr : Nat) (hp : p < 256) (hdr : dr < 18446744073709551616) :
    Calls Try.prog 22 #[v, .agg #[.int .i64 1, .int .i64 (p : Int), .int .u64 (dr : Int), .int .i64 0, .slice a 0 ca, .int .u64 0, .int .u64 0, .int .i64 0, .int .u8 0, .int .i64 0]] w fun e w' => ∃ v', e = .returned v' ∧ w'.ownsRow base 5 1 v' (n + (1 :: p :: be 8 dr).length) (xs ++ u8s (1 :: p :: be 8 dr)) ∧ Below base w w' := by
  obtain ⟨i0, hi, hz0, hz1, hz2⟩ := info_parts info_u8
  have HO := veil h
  have HG0 : Hid (∀ (o : Obj) (w1 : World), ((w.alloc (.cells #[.int .i64 1, .int .i64 (p : Int), .int .u64 (dr : Int), .int .i64 0, .slice a 0 ca, .int .u64 0, .int .u64 0, .int .i64 0, .int .u8 0, .int .i64 0] 36)).alloc o).grownBy w1 v.ownBlock → Bx w1 w.heap.size #[.int .i64 1, .int .i64 (p : Int), .int .u64 (dr : Int), .int .i64 0, .slice a 0 ca, .int .u64 0, .int .u64 0, .int .i64 0, .int .u8 0, .int .i64 0] 36 ∧ Below base w w1 ∧ base ≤ w1.heap.size) := by
    intro o w1 hg
    have hB : Below base w w1 := (((Below.refl base w).alloc hb (.cells #[.int .i64 1, .int .i64 (p : Int), .int .u64 (dr : Int), .int .i64 0, .slice a 0 ca, .int .u64 0, .int .u64 0, .int .i64 0, .int .u8 0, .int .i64 0] 36)).alloc (by simp; omega) o).grown hg (by simp; omega) (fun k hk => (h.lt k hk).1)
    exact ⟨((bx_new w #[.int .i64 1, .int .i64 (p : Int), .int .u64 (dr : Int), .int .i64 0, .slice a 0 ca, .int .u64 0, .int .u64 0, .int .i64 0, .int .u8 0, .int .i64 0] 36).alloc o).grown hg (own_ne h), hB, Nat.le_trans hb hB.size⟩
  clear h
  have HT : Hid (∀ W v' xs', W.ownsRow base 5 1 v' (n + 1 + 1) xs' → base ≤ W.heap.size → Calls Try.prog 34 #[v', .int .u64 (dr : Int), .int .i64 8] W fun e w' => ∃ v2, e = .returned v2 ∧ w'.ownsRow base 5 1 v2 (n + 1 + 1 + 8) (xs' ++ u8s (be 8 dr)) ∧ Below base W w' ∧ Keeps W w') := fun W v' xs' hh hs => tellN_ok W base v' _ xs' (by omega) hh hs dr hdr 8 (by omega)
  go_enter Try.func22, Try.ntmps22
  go_wp2_with (first
    | (go_at_call 34; refine (HT.out _ _ _ HO2.out hs2).mono ?_; rintro e w3 ⟨v3, rfl, ho3, hl3, hkp3⟩; have HO3 := veil ho3; have HL3 := veil (HL2.out.trans hl3); clear ho3 hl3 hkp3)
    | (at_builtin; refine wpList_append_own _ rfl _ _ 24 rfl base 5 i0 (.int .u8 0) 1 1 Try.underlying24 hi hz0 hz1 hz2 rfl (by decide) _ _ _ rfl (World.ownsRow.alloc HO1.out _) ⟨w1.heap.size, 0, none⟩ 1 1 [_] rfl rfl (cell_one_new _ _ _) (by simp [Value.oneCell']) (by unfold maxLen; omega) (by omega) (by simp; omega) ?_; intro v2 w2 ho2 hg2 _; have HO2 := veil ho2; have HX2 := veil ((HX1.out.alloc _).grown hg2 (row_ne HO1.out HX1.out (by decide))); have HL2 := veil ((HL1.out.alloc hs1 _).grown hg2 (by simp; omega) (fun k hk => (HO1.out.lt k hk).1)); have hs2 := Nat.le_trans hb HL2.out.size; have y22 := HX2.out.cell 2 _ rfl; clear ho2 hg2)
    | (at_builtin; refine wpList_append_own _ rfl _ _ 24 rfl base 5 i0 (.int .u8 0) 1 1 Try.underlying24 hi hz0 hz1 hz2 rfl (by decide) _ _ _ rfl (World.ownsRow.alloc (World.ownsRow.alloc HO.out _) _) ⟨w.heap.size + 1, 0, none⟩ 1 1 [_] rfl rfl (cell_one_next _ _ _ _) (by simp [Value.oneCell']) (by unfold maxLen; omega) (by omega) (by simp; omega) ?_; intro v1 w1 ho1 hg1 _; have HO1 := veil ho1; obtain ⟨hx1, hl1, hs1⟩ := HG0.out _ _ hg1; have HX1 := veil hx1; have HL1 := veil hl1; have y01 := HX1.out.cell 0 _ rfl; have y11 := HX1.out.cell 1 _ rfl; clear ho1 hg1 hx1 hl1))
  go_ret
  refine ⟨_, rfl, own_eq HO3.out (by simp [be_length]) ?_, HL3.out⟩
  simp [u8s]
set_option maxHeartbeats 2000000 in
theorem tell2_ok (w : World) (base : Nat) (v : Value) (n : Nat) (xs : List Value) (hn : n < 900000) (h : w.ownsRow base 5 1 v n xs) (hb : base ≤ w.heap.size) (a : Option Addr) (ca : Nat) (k : Nat) (hk : k < 65536) :
    Calls Try.prog 22 #[v, .agg #[.int .i64 2, .int .i64 0, .int .u64 0, .int .i64 (k : Int), .slice a 0 ca, .int .u64 0, .int .u64 0, .int .i64 0, .int .u8 0, .int .i64 0]] w fun e w' => ∃ v', e = .returned v' ∧ w'.ownsRow base 5 1 v' (n + (2 :: be 2 k).length) (xs ++ u8s (2 :: be 2 k)) ∧ Below base w w' := by
  obtain ⟨i0, hi, hz0, hz1, hz2⟩ := info_parts info_u8
  have HO := veil h
  have HG0 : Hid (∀ (o : Obj) (w1 : World), ((w.alloc (.cells #[.int .i64 2, .int .i64 0, .int .u64 0, .int .i64 (k : Int), .slice a 0 ca, .int .u64 0, .int .u64 0, .int .i64 0, .int .u8 0, .int .i64 0] 36)).alloc o).grownBy w1 v.ownBlock → Bx w1 w.heap.size #[.int .i64 2, .int .i64 0, .int .u64 0, .int .i64 (k : Int), .slice a 0 ca, .int .u64 0, .int .u64 0, .int .i64 0, .int .u8 0, .int .i64 0] 36 ∧ Below base w w1 ∧ base ≤ w1.heap.size) := by
    intro o w1 hg
    have hB : Below base w w1 := (((Below.refl base w).alloc hb (.cells #[.int .i64 2, .int .i64 0, .int .u64 0, .int .i64 (k : Int), .slice a 0 ca, .int .u64 0, .int .u64 0, .int .i64 0, .int .u8 0, .int .i64 0] 36)).alloc (by simp; omega) o).grown hg (by simp; omega) (fun k hk => (h.lt k hk).1)
    exact ⟨((bx_new w #[.int .i64 2, .int .i64 0, .int .u64 0, .int .i64 (k : Int), .slice a 0 ca, .int .u64 0, .int .u64 0, .int .i64 0, .int .u8 0, .int .i64 0] 36).alloc o).grown hg (own_ne h), hB, Nat.le_trans hb hB.size⟩
  clear h
  have HT : Hid (∀ W v' xs', W.ownsRow base 5 1 v' (n + 1) xs' → base ≤ W.heap.size → Calls Try.prog 34 #[v', .int .u64 (k : Int), .int .i64 2] W fun e w' => ∃ v2, e = .returned v2 ∧ w'.ownsRow base 5 1 v2 (n + 1 + 2) (xs' ++ u8s (be 2 k)) ∧ Below base W w' ∧ Keeps W w') := fun W v' xs' hh hs => tellN_ok W base v' _ xs' (by omega) hh hs k (by omega) 2 (by omega)
  go_enter Try.func22, Try.ntmps22
  go_wp2_with (first
    | (go_at_call 34; refine (HT.out _ _ _ HO1.out hs1).mono ?_; rintro e w3 ⟨v3, rfl, ho3, hl3, hkp3⟩; have HO3 := veil ho3; have HL3 := veil (HL1.out.trans hl3); clear ho3 hl3 hkp3)
    | (at_builtin; refine wpList_append_own _ rfl _ _ 24 rfl base 5 i0 (.int .u8 0) 1 1 Try.underlying24 hi hz0 hz1 hz2 rfl (by decide) _ _ _ rfl (World.ownsRow.alloc (World.ownsRow.alloc HO.out _) _) ⟨w.heap.size + 1, 0, none⟩ 1 1 [_] rfl rfl (cell_one_next _ _ _ _) (by simp [Value.oneCell']) (by unfold maxLen; omega) (by omega) (by simp; omega) ?_; intro v1 w1 ho1 hg1 _; have HO1 := veil ho1; obtain ⟨hx1, hl1, hs1⟩ := HG0.out _ _ hg1; have HX1 := veil hx1; have HL1 := veil hl1; have y01 := HX1.out.cell 0 _ rfl; have y31 := HX1.out.cell 3 _ rfl; clear ho1 hg1 hx1 hl1))
  go_ret
  refine ⟨_, rfl, own_eq HO3.out (by simp [be_length]) ?_, HL3.out⟩
  simp [u8s]
set_option maxHeartbeats 2000000 in
theorem tell3_ok (w : World) (base : Nat) (v : Value) (n : Nat) (xs : List Value) (hn : n < 900000) (h : w.ownsRow base 5 1 v n xs) (hb : base ≤ w.heap.size) (a : Option Addr) (ca : Nat) (code : List (Int × Int)) (hr : RtC code) (hc : ∀ W, Below base w W → Cod W a code) :
    Calls Try.prog 22 #[v, .agg #[.int .i64 3, .int .i64 0, .int .u64 0, .int .i64 0, .slice a code.length ca, .int .u64 0, .int .u64 0, .int .i64 0, .int .u8 0, .int .i64 0]] w fun e w' => ∃ v', e = .returned v' ∧ w'.ownsRow base 5 1 v' (n + (3 :: encC code).length) (xs ++ u8s (3 :: encC code)) ∧ Below base w w' := by
  obtain ⟨i0, hi, hz0, hz1, hz2⟩ := info_parts info_u8
  have HO := veil h
  have HG0 : Hid (∀ (o : Obj) (w1 : World), ((w.alloc (.cells #[.int .i64 3, .int .i64 0, .int .u64 0, .int .i64 0, .slice a code.length ca, .int .u64 0, .int .u64 0, .int .i64 0, .int .u8 0, .int .i64 0] 36)).alloc o).grownBy w1 v.ownBlock → Bx w1 w.heap.size #[.int .i64 3, .int .i64 0, .int .u64 0, .int .i64 0, .slice a code.length ca, .int .u64 0, .int .u64 0, .int .i64 0, .int .u8 0, .int .i64 0] 36 ∧ Below base w w1 ∧ base ≤ w1.heap.size) := by
    intro o w1 hg
    have hB : Below base w w1 := (((Below.refl base w).alloc hb (.cells #[.int .i64 3, .int .i64 0, .int .u64 0, .int .i64 0, .slice a code.length ca, .int .u64 0, .int .u64 0, .int .i64 0, .int .u8 0, .int .i64 0] 36)).alloc (by simp; omega) o).grown hg (by simp; omega) (fun k hk => (h.lt k hk).1)
    exact ⟨((bx_new w #[.int .i64 3, .int .i64 0, .int .u64 0, .int .i64 0, .slice a code.length ca, .int .u64 0, .int .u64 0, .int .i64 0, .int .u8 0, .int .i64 0] 36).alloc o).grown hg (own_ne h), hB, Nat.le_trans hb hB.size⟩
  clear h
  have hlen := (rtc_facts hr).2.1
  have HE : Hid (∀ W, Below base w W → Calls Try.prog 35 #[.slice a code.length ca] W fun e w' => ∃ g cap, e = .returned (.tuple #[.slice (some ⟨g, 0, none⟩) (1 + 4 * code.length) cap, .int .i64 0]) ∧ (∀ j u, (u8s (encC code))[j]? = some u → w'.cell? ((⟨g, 0, none⟩ : Addr).add j) = some u) ∧ Below W.heap.size W w') := by
    intro W hbW
    refine (encode_yes W a code.length ca (by omega) (cO code) (cR code) (hc W hbW) hr).mono fun e w' hh => ?_
    obtain ⟨v', he, hrow, hbel⟩ := hh
    rw [encN_enc _ (fun i hi => by have := (rtc_facts hr).2.2 i hi; omega)] at hrow
    rcases hrow.2 with ⟨_, h0⟩ | ⟨g, cap, cur, rfl, _⟩
    · omega
    · exact ⟨g, cap, he, hrow.cells rfl, hbel⟩
  have HLE : Hid ((u8s (encC code)).length = (1 + 4 * code.length) * 1) := by
    show _ = _
    rw [u8s_length, encC_length]
    omega
  clear hc
  go_enter Try.func22, Try.ntmps22
  go_wp2_with (first
    | (at_builtin; refine wpList_append_own _ rfl _ _ 24 rfl base 5 i0 (.int .u8 0) 1 1 Try.underlying24 hi hz0 hz1 hz2 rfl (by decide) _ _ _ rfl (HO2.out) ⟨g, 0, none⟩ (1 + 4 * code.length) cap (u8s (encC code)) rfl HLE.out HN2.out (u8s_one _) (by unfold maxLen; omega) (by omega) (hs2) ?_; intro v3 w3 ho3 hg3 _; have HO3 := veil ho3; have HL3 := veil (HL2.out.grown hg3 hs2 (fun k hk => (HO2.out.lt k hk).1)); clear ho3 hg3)
    | (go_at_call 35; refine (HE.out _ HL1.out).mono ?_; rintro e w2 ⟨g, cap, rfl, hn2, hl2⟩; have HN2 := veil hn2; have HL2 := veil (HL1.out.trans (hl2.mono hs1)); have hs2 := Nat.le_trans hb HL2.out.size; have HO2 := veil (row_below HO1.out hl2); clear hn2 hl2)
    | (at_builtin; refine wpList_append_own _ rfl _ _ 24 rfl base 5 i0 (.int .u8 0) 1 1 Try.underlying24 hi hz0 hz1 hz2 rfl (by decide) _ _ _ rfl (World.ownsRow.alloc (World.ownsRow.alloc HO.out _) _) ⟨w.heap.size + 1, 0, none⟩ 1 1 [_] rfl rfl (cell_one_next _ _ _ _) (by simp [Value.oneCell']) (by unfold maxLen; omega) (by omega) (by simp; omega) ?_; intro v1 w1 ho1 hg1 _; have HO1 := veil ho1; obtain ⟨hx1, hl1, hs1⟩ := HG0.out _ _ hg1; have HX1 := veil hx1; have HL1 := veil hl1; have y01 := HX1.out.cell 0 _ rfl; have y41 := HX1.out.cell 4 _ rfl; clear ho1 hg1 hx1 hl1))
  go_ret
  refine ⟨_, rfl, own_eq HO3.out (by simp [encC_length]; omega) ?_, HL3.out⟩
  simp [u8s]
set_option maxHeartbeats 2000000 in
theorem tell4_ok (w : World) (base : Nat) (v : Value) (n : Nat) (xs : List Value) (hn : n < 900000) (h : w.ownsRow base 5 1 v n xs) (hb : base ≤ w.heap.size) (a : Option Addr) (ca : Nat) (bu pe : Nat) (hbu : bu < 18446744073709551616) (hpe : pe < 18446744073709551616) :
    Calls Try.prog 22 #[v, .agg #[.int .i64 4, .int .i64 0, .int .u64 0, .int .i64 0, .slice a 0 ca, .int .u64 (bu : Int), .int .u64 (pe : Int), .int .i64 0, .int .u8 0, .int .i64 0]] w fun e w' => ∃ v', e = .returned v' ∧ w'.ownsRow base 5 1 v' (n + (4 :: (be 8 bu ++ be 8 pe)).length) (xs ++ u8s (4 :: (be 8 bu ++ be 8 pe))) ∧ Below base w w' := by
  obtain ⟨i0, hi, hz0, hz1, hz2⟩ := info_parts info_u8
  have HO := veil h
  have HG0 : Hid (∀ (o : Obj) (w1 : World), ((w.alloc (.cells #[.int .i64 4, .int .i64 0, .int .u64 0, .int .i64 0, .slice a 0 ca, .int .u64 (bu : Int), .int .u64 (pe : Int), .int .i64 0, .int .u8 0, .int .i64 0] 36)).alloc o).grownBy w1 v.ownBlock → Bx w1 w.heap.size #[.int .i64 4, .int .i64 0, .int .u64 0, .int .i64 0, .slice a 0 ca, .int .u64 (bu : Int), .int .u64 (pe : Int), .int .i64 0, .int .u8 0, .int .i64 0] 36 ∧ Below base w w1 ∧ base ≤ w1.heap.size) := by
    intro o w1 hg
    have hB : Below base w w1 := (((Below.refl base w).alloc hb (.cells #[.int .i64 4, .int .i64 0, .int .u64 0, .int .i64 0, .slice a 0 ca, .int .u64 (bu : Int), .int .u64 (pe : Int), .int .i64 0, .int .u8 0, .int .i64 0] 36)).alloc (by simp; omega) o).grown hg (by simp; omega) (fun k hk => (h.lt k hk).1)
    exact ⟨((bx_new w #[.int .i64 4, .int .i64 0, .int .u64 0, .int .i64 0, .slice a 0 ca, .int .u64 (bu : Int), .int .u64 (pe : Int), .int .i64 0, .int .u8 0, .int .i64 0] 36).alloc o).grown hg (own_ne h), hB, Nat.le_trans hb hB.size⟩
  clear h
  have HT : Hid (∀ W v' xs', W.ownsRow base 5 1 v' (n + 1) xs' → base ≤ W.heap.size → Calls Try.prog 34 #[v', .int .u64 (bu : Int), .int .i64 8] W fun e w' => ∃ v2, e = .returned v2 ∧ w'.ownsRow base 5 1 v2 (n + 1 + 8) (xs' ++ u8s (be 8 bu)) ∧ Below base W w' ∧ Keeps W w') := fun W v' xs' hh hs => tellN_ok W base v' _ xs' (by omega) hh hs bu hbu 8 (by omega)
  have HU : Hid (∀ W v' xs', W.ownsRow base 5 1 v' (n + 1 + 8) xs' → base ≤ W.heap.size → Calls Try.prog 34 #[v', .int .u64 (pe : Int), .int .i64 8] W fun e w' => ∃ v2, e = .returned v2 ∧ w'.ownsRow base 5 1 v2 (n + 1 + 8 + 8) (xs' ++ u8s (be 8 pe)) ∧ Below base W w' ∧ Keeps W w') := fun W v' xs' hh hs => tellN_ok W base v' _ xs' (by omega) hh hs pe hpe 8 (by omega)
  go_enter Try.func22, Try.ntmps22
  go_wp2_with (first
    | (go_at_call 34; refine (HU.out _ _ _ HO2.out hs2).mono ?_; rintro e w3 ⟨v3, rfl, ho3, hl3, hkp3⟩; have HO3 := veil ho3; have HL3 := veil (HL2.out.trans hl3); clear ho3 hl3 hkp3)
    | (go_at_call 34; refine (HT.out _ _ _ HO1.out hs1).mono ?_; rintro e w2 ⟨v2, rfl, ho2, hl2, hkp2⟩; have HO2 := veil ho2; have HL2 := veil (HL1.out.trans hl2); have hs2 := Nat.le_trans hb HL2.out.size; have y62 := (hkp2 _ _ _ (by decide) HX1.out).cell 6 _ rfl; clear ho2 hl2 hkp2 HT)
    | (at_builtin; refine wpList_append_own _ rfl _ _ 24 rfl base 5 i0 (.int .u8 0) 1 1 Try.underlying24 hi hz0 hz1 hz2 rfl (by decide) _ _ _ rfl (World.ownsRow.alloc (World.ownsRow.alloc HO.out _) _) ⟨w.heap.size + 1, 0, none⟩ 1 1 [_] rfl rfl (cell_one_next _ _ _ _) (by simp [Value.oneCell']) (by unfold maxLen; omega) (by omega) (by simp; omega) ?_; intro v1 w1 ho1 hg1 _; have HO1 := veil ho1; obtain ⟨hx1, hl1, hs1⟩ := HG0.out _ _ hg1; have HX1 := veil hx1; have HL1 := veil hl1; have y01 := HX1.out.cell 0 _ rfl; have y51 := HX1.out.cell 5 _ rfl; have y61 := HX1.out.cell 6 _ rfl; clear ho1 hg1 hx1 hl1))
  go_ret
  refine ⟨_, rfl, own_eq HO3.out (by simp [be_length]) ?_, HL3.out⟩
  simp [u8s]
set_option maxHeartbeats 2000000 in
theorem tell5_ok (w : World) (base : Nat) (v : Value) (n : Nat) (xs : List Value) (hn : n < 900000) (h : w.ownsRow base 5 1 v n xs) (hb : base ≤ w.heap.size) (a : Option Addr) (ca : Nat) (pr lv s : Nat) (hpr : pr < 256) (hlv : lv < 256) (hs : s < 256) :
    Calls Try.prog 22 #[v, .agg #[.int .i64 5, .int .i64 0, .int .u64 0, .int .i64 0, .slice a 0 ca, .int .u64 0, .int .u64 0, .int .i64 (pr : Int), .int .u8 (lv : Int), .int .i64 ((s : Int) - 1)]] w fun e w' => ∃ v', e = .returned v' ∧ w'.ownsRow base 5 1 v' (n + ([5, pr, lv, s]).length) (xs ++ u8s ([5, pr, lv, s])) ∧ Below base w w' := by
  obtain ⟨i0, hi, hz0, hz1, hz2⟩ := info_parts info_u8
  have HO := veil h
  have HG0 : Hid (∀ (o : Obj) (w1 : World), ((w.alloc (.cells #[.int .i64 5, .int .i64 0, .int .u64 0, .int .i64 0, .slice a 0 ca, .int .u64 0, .int .u64 0, .int .i64 (pr : Int), .int .u8 (lv : Int), .int .i64 ((s : Int) - 1)] 36)).alloc o).grownBy w1 v.ownBlock → Bx w1 w.heap.size #[.int .i64 5, .int .i64 0, .int .u64 0, .int .i64 0, .slice a 0 ca, .int .u64 0, .int .u64 0, .int .i64 (pr : Int), .int .u8 (lv : Int), .int .i64 ((s : Int) - 1)] 36 ∧ Below base w w1 ∧ base ≤ w1.heap.size) := by
    intro o w1 hg
    have hB : Below base w w1 := (((Below.refl base w).alloc hb (.cells #[.int .i64 5, .int .i64 0, .int .u64 0, .int .i64 0, .slice a 0 ca, .int .u64 0, .int .u64 0, .int .i64 (pr : Int), .int .u8 (lv : Int), .int .i64 ((s : Int) - 1)] 36)).alloc (by simp; omega) o).grown hg (by simp; omega) (fun k hk => (h.lt k hk).1)
    exact ⟨((bx_new w #[.int .i64 5, .int .i64 0, .int .u64 0, .int .i64 0, .slice a 0 ca, .int .u64 0, .int .u64 0, .int .i64 (pr : Int), .int .u8 (lv : Int), .int .i64 ((s : Int) - 1)] 36).alloc o).grown hg (own_ne h), hB, Nat.le_trans hb hB.size⟩
  clear h
  go_enter Try.func22, Try.ntmps22
  go_wp2_with (first
    | (at_builtin; refine wpList_append_own _ rfl _ _ 24 rfl base 5 i0 (.int .u8 0) 1 1 Try.underlying24 hi hz0 hz1 hz2 rfl (by decide) _ _ _ rfl (World.ownsRow.alloc HO1.out _) ⟨w1.heap.size, 0, none⟩ 3 3 [.int .u8 (pr : Int), .int .u8 (lv : Int), .int .u8 (s : Int)] rfl rfl (cells_new _ [.int .u8 (pr : Int), .int .u8 (lv : Int), .int .u8 (s : Int)] _) (by simp [Value.oneCell']) (by unfold maxLen; omega) (by omega) (by simp; omega) ?_; intro v2 w2 ho2 hg2 _; have HO2 := veil ho2; have HL2 := veil ((HL1.out.alloc hs1 _).grown hg2 (by simp; omega) (fun k hk => (HO1.out.lt k hk).1)); clear ho2 hg2)
    | (at_builtin; refine wpList_append_own _ rfl _ _ 24 rfl base 5 i0 (.int .u8 0) 1 1 Try.underlying24 hi hz0 hz1 hz2 rfl (by decide) _ _ _ rfl (World.ownsRow.alloc (World.ownsRow.alloc HO.out _) _) ⟨w.heap.size + 1, 0, none⟩ 1 1 [_] rfl rfl (cell_one_next _ _ _ _) (by simp [Value.oneCell']) (by unfold maxLen; omega) (by omega) (by simp; omega) ?_; intro v1 w1 ho1 hg1 _; have HO1 := veil ho1; obtain ⟨hx1, hl1, hs1⟩ := HG0.out _ _ hg1; have HX1 := veil hx1; have HL1 := veil hl1; have y01 := HX1.out.cell 0 _ rfl; have y71 := HX1.out.cell 7 _ rfl; have y81 := HX1.out.cell 8 _ rfl; have y91 := HX1.out.cell 9 _ rfl; clear ho1 hg1 hx1 hl1))
  go_ret
  refine ⟨_, rfl, own_eq HO2.out (by simp) ?_, HL2.out⟩
  simp [u8s]
/-- The bytes of an entry that is right. -/
theorem tell_ok (w : World) (base : Nat) (v : Value) (n : Nat) (xs : List Value) (hn : n < 900000) (h : w.ownsRow base 5 1 v n xs) (hb : base ≤ w.heap.size) (x : En) (a : Option Addr) (ca : Nat) (hr : RightE x) (hw : WfE x) (hc : ∀ W, Below base w W → Cod W a x.code) :
    Calls Try.prog 22 #[v, .agg #[.int .i64 x.d, .int .i64 x.p, .int .u64 (x.dr : Int), .int .i64 x.n, .slice a x.code.length ca, .int .u64 (x.bu : Int), .int .u64 (x.pe : Int), .int .i64 x.pr, .int .u8 (x.lv : Int), .int .i64 x.sv]] w fun e w' => ∃ v', e = .returned v' ∧ w'.ownsRow base 5 1 v' (n + (bytes x).length) (xs ++ u8s (bytes x)) ∧ Below base w w' := by
  obtain ⟨w1, w2, w3, w4⟩ := hw
  obtain ⟨d, p, dr, nn, code, bu, pe, pr, lv, sv⟩ := x
  simp only at w1 w2 w3 w4 hc
  rcases hr with ⟨e, h1, h2⟩ | ⟨e, h1, h2⟩ | ⟨e, h1⟩ | e | ⟨e, h1, h2, h3, h4⟩
  · simp only [mkStep, En.mk.injEq] at e h1 h2
    obtain ⟨rfl, -, -, rfl, rfl, rfl, rfl, rfl, rfl, rfl⟩ := e
    obtain ⟨p, rfl⟩ := Int.eq_ofNat_of_zero_le h1
    exact tell1_ok w base v n xs hn h hb a ca p dr (by omega) w1
  · simp only [mkTick, En.mk.injEq] at e h1 h2
    obtain ⟨rfl, rfl, rfl, -, rfl, rfl, rfl, rfl, rfl, rfl⟩ := e
    obtain ⟨k, rfl⟩ := Int.eq_ofNat_of_zero_le (show 0 ≤ nn by omega)
    exact tell2_ok w base v n xs hn h hb a ca k (by omega)
  · simp only [mkLoad, En.mk.injEq] at e h1
    obtain ⟨rfl, rfl, rfl, rfl, -, rfl, rfl, rfl, rfl, rfl⟩ := e
    exact tell3_ok w base v n xs hn h hb a ca code h1 hc
  · simp only [mkAdmit, En.mk.injEq] at e
    obtain ⟨rfl, rfl, rfl, rfl, rfl, -, -, rfl, rfl, rfl⟩ := e
    exact tell4_ok w base v n xs hn h hb a ca bu pe w2 w3
  · simp only [mkStart, En.mk.injEq] at e h1 h2 h3 h4
    obtain ⟨rfl, rfl, rfl, rfl, rfl, rfl, rfl, -, -, -⟩ := e
    obtain ⟨pr, rfl⟩ := Int.eq_ofNat_of_zero_le h1
    obtain ⟨s, hs⟩ : ∃ s : Nat, sv = (s : Int) - 1 := ⟨(sv + 1).toNat, by omega⟩
    subst hs
    have q := tell5_ok w base v n xs hn h hb a ca pr lv s (by omega) w4 (by omega)
    have e : bytes ⟨5, 0, 0, 0, [], 0, 0, (pr : Int), lv, (s : Int) - 1⟩ = [5, pr, lv, s] := by
      show [5, ((pr : Int)).toNat, lv, ((s : Int) - 1 + 1).toNat] = _
      rw [Int.toNat_natCast, show ((s : Int) - 1 + 1).toNat = s by omega]
    rw [e]
    exact q
end Go.Proofs.Ytnnpbbiiapipaaa
