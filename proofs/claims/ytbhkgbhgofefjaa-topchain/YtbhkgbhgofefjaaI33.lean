/- slices.Clone of lines, threads, locks; Waiters. -/
import Derived.Test.YtbhkgbhgofefjaaI32
import Derived.Deep.AppendLies
namespace Go.Proofs.Ytbhkgbhgofefjaa
open Go.RowKit Go.Lib Go.Shelf
set_option linter.unusedVariables false
theorem eqNoI (w : World) (g n cp : Nat) : (binOp BinOp.eql 31 (.slice (some ⟨g, 0, none⟩) n cp) (.slice none 0 0)).run Try.prog w = .ok (.bool false) w := by kernel_rfl
theorem eqYesI (w : World) : (binOp BinOp.eql 31 (.slice none 0 0) (.slice none 0 0)).run Try.prog w = .ok (.bool true) w := by kernel_rfl
set_option maxHeartbeats 2000000 in
theorem cloneSomeI (w : World) (g n cp : Nat) (xs : List Value) (hn : n ≤ 2000) (hl : xs.length = n * 1) (hc : ∀ j u, xs[j]? = some u → w.cell? ((⟨g, 0, none⟩ : Addr).add j) = some u) (h1 : ∀ u ∈ xs, u.oneCell' = true) (hg : g < w.heap.size) :
    Calls Try.prog 44 #[.slice (some ⟨g, 0, none⟩) n cp] w fun e w' => ∃ v', e = .returned v' ∧ w'.ownsRow w.heap.size 3 1 v' n xs ∧ Below w.heap.size w w' := by
  obtain ⟨i0, hi, hz0, hz1, hz2⟩ := info_parts infoInt
  have HC : Hid (∀ j u, xs[j]? = some u → (w.alloc (.cells #[] 3)).cell? ((⟨g, 0, none⟩ : Addr).add j) = some u) := by
    intro j u hu
    have hadd : (⟨g, 0, none⟩ : Addr).add j = ⟨g, j, none⟩ := by unfold Addr.add; split <;> simp_all
    have := hc j u hu
    rw [hadd] at this ⊢
    rw [World.cell?_alloc_lt _ _ _ (by simpa using hg)]
    exact this
  have HL : Hid ((w.alloc (.cells #[] 3)).ownsRow w.heap.size 3 1 (.slice (some ⟨w.heap.size, 0, none⟩) 0 0) 0 []) := by
    have := World.ownsRow_lit (base := w.heap.size) (e := 3) (size := 1) w #[] 0 (Nat.le_refl _) (by simp [maxLen]) rfl
    exact this
  have H1 := veil h1
  have hnil := fun w => eqNoI w g n cp
  clear hc h1
  go_enter Try.func44, Try.ntmps44
  go_wp2_with (at_builtin; refine wpList_append_own _ rfl _ _ 31 rfl w.heap.size 3 i0 (.int .i64 0) 1 8 Try.underlying31 hi hz0 hz1 hz2 rfl (by omega) _ 0 [] (by rfl) HL.out ⟨g, 0, none⟩ n cp xs (by rfl) hl HC.out H1.out (by unfold maxLen; omega) (by omega) (by simp) ?_; intro v' w1 hown hgrow _; have HO := veil hown; have HG := veil (hgrow : World.grownBy _ _ (Value.slice (some ⟨w.heap.size, 0, none⟩) 0 0).ownBlock); clear hown hgrow)
  go_ret
  refine ⟨v', rfl, by simpa using HO.out, ?_⟩
  exact ((Below.refl _ _).alloc (Nat.le_refl _) _).grown HG.out (by simp) (fun k hk => by simp [Value.ownBlock] at hk; omega)
theorem cloneNoneI (w : World) : Calls Try.prog 44 #[.slice none 0 0] w fun e w' => e = .returned (.slice none 0 0) ∧ w' = w := by
  have hnil := eqYesI
  go_enter Try.func44, Try.ntmps44
  go_wp2
  go_ret
  exact ⟨rfl, rfl⟩
theorem cloneRowI {w : World} {base n : Nat} {v : Value} {xs : List Value} (h : w.ownsRow base 3 1 v n xs) (hn : n ≤ 2000) (h1 : ∀ u ∈ xs, u.oneCell' = true) : Calls Try.prog 44 #[v] w fun e w' => ∃ v', e = .returned v' ∧ w'.ownsRow w.heap.size 3 1 v' n xs ∧ Below w.heap.size w w' := by
  have hown := h
  rcases h.2 with ⟨e, e0⟩ | ⟨g, cap, cur, e, h0, hg, _⟩
  · subst e
    subst e0
    refine (cloneNoneI w).mono ?_
    rintro e w' ⟨rfl, rfl⟩
    have hx : xs = [] := List.length_eq_zero_iff.1 (by simpa using h.1)
    subst hx
    exact ⟨_, rfl, World.ownsRow_nil _ _ _ _, Below.refl _ _⟩
  · subst e
    refine cloneSomeI w g n cap xs hn h.1 ?_ h1 (Array.getElem?_eq_some_iff.1 hg).1
    intro j u hu
    have hadd : (⟨g, 0, none⟩ : Addr).add j = ⟨g, j, none⟩ := by unfold Addr.add; split <;> simp_all
    rw [hadd, hown.cellAt j (by have := (List.getElem?_eq_some_iff.1 hu).1; rw [h.1] at this; exact this)]
    exact hu
theorem eqNoT (w : World) (g n cp : Nat) : (binOp BinOp.eql 69 (.slice (some ⟨g, 0, none⟩) n cp) (.slice none 0 0)).run Try.prog w = .ok (.bool false) w := by kernel_rfl
theorem eqYesT (w : World) : (binOp BinOp.eql 69 (.slice none 0 0) (.slice none 0 0)).run Try.prog w = .ok (.bool true) w := by kernel_rfl
set_option maxHeartbeats 2000000 in
theorem cloneSomeT (w : World) (g n cp : Nat) (xs : List Value) (hn : n ≤ 2000) (hl : xs.length = n * 4) (hc : ∀ j u, xs[j]? = some u → w.cell? ((⟨g, 0, none⟩ : Addr).add j) = some u) (h1 : ∀ u ∈ xs, u.oneCell' = true) (hg : g < w.heap.size) :
    Calls Try.prog 52 #[.slice (some ⟨g, 0, none⟩) n cp] w fun e w' => ∃ v', e = .returned v' ∧ w'.ownsRow w.heap.size 75 4 v' n xs ∧ Below w.heap.size w w' := by
  obtain ⟨i0, hi, hz0, hz1, hz2⟩ := info_parts infoTh
  have HC : Hid (∀ j u, xs[j]? = some u → (w.alloc (.cells #[] 75)).cell? ((⟨g, 0, none⟩ : Addr).add j) = some u) := by
    intro j u hu
    have hadd : (⟨g, 0, none⟩ : Addr).add j = ⟨g, j, none⟩ := by unfold Addr.add; split <;> simp_all
    have := hc j u hu
    rw [hadd] at this ⊢
    rw [World.cell?_alloc_lt _ _ _ (by simpa using hg)]
    exact this
  have HL : Hid ((w.alloc (.cells #[] 75)).ownsRow w.heap.size 75 4 (.slice (some ⟨w.heap.size, 0, none⟩) 0 0) 0 []) := by
    have := World.ownsRow_lit (base := w.heap.size) (e := 75) (size := 4) w #[] 0 (Nat.le_refl _) (by simp [maxLen]) rfl
    exact this
  have H1 := veil h1
  have hnil := fun w => eqNoT w g n cp
  clear hc h1
  go_enter Try.func52, Try.ntmps52
  go_wp2_with (at_builtin; refine wpList_append_own _ rfl _ _ 69 rfl w.heap.size 75 i0 thZero 4 32 Try.underlying69 hi hz0 hz1 hz2 rfl (by omega) _ 0 [] (by rfl) HL.out ⟨g, 0, none⟩ n cp xs (by rfl) hl HC.out H1.out (by unfold maxLen; omega) (by omega) (by simp) ?_; intro v' w1 hown hgrow _; have HO := veil hown; have HG := veil (hgrow : World.grownBy _ _ (Value.slice (some ⟨w.heap.size, 0, none⟩) 0 0).ownBlock); clear hown hgrow)
  go_ret
  refine ⟨v', rfl, by simpa using HO.out, ?_⟩
  exact ((Below.refl _ _).alloc (Nat.le_refl _) _).grown HG.out (by simp) (fun k hk => by simp [Value.ownBlock] at hk; omega)
theorem cloneNoneT (w : World) : Calls Try.prog 52 #[.slice none 0 0] w fun e w' => e = .returned (.slice none 0 0) ∧ w' = w := by
  have hnil := eqYesT
  go_enter Try.func52, Try.ntmps52
  go_wp2
  go_ret
  exact ⟨rfl, rfl⟩
theorem cloneRowT {w : World} {base n : Nat} {v : Value} {xs : List Value} (h : w.ownsRow base 75 4 v n xs) (hn : n ≤ 2000) (h1 : ∀ u ∈ xs, u.oneCell' = true) : Calls Try.prog 52 #[v] w fun e w' => ∃ v', e = .returned v' ∧ w'.ownsRow w.heap.size 75 4 v' n xs ∧ Below w.heap.size w w' := by
  have hown := h
  rcases h.2 with ⟨e, e0⟩ | ⟨g, cap, cur, e, h0, hg, _⟩
  · subst e
    subst e0
    refine (cloneNoneT w).mono ?_
    rintro e w' ⟨rfl, rfl⟩
    have hx : xs = [] := List.length_eq_zero_iff.1 (by simpa using h.1)
    subst hx
    exact ⟨_, rfl, World.ownsRow_nil _ _ _ _, Below.refl _ _⟩
  · subst e
    refine cloneSomeT w g n cap xs hn h.1 ?_ h1 (Array.getElem?_eq_some_iff.1 hg).1
    intro j u hu
    have hadd : (⟨g, 0, none⟩ : Addr).add j = ⟨g, j, none⟩ := by unfold Addr.add; split <;> simp_all
    rw [hadd, hown.cellAt j (by have := (List.getElem?_eq_some_iff.1 hu).1; rw [h.1] at this; exact this)]
    exact hu
theorem eqNoL (w : World) (g n cp : Nat) : (binOp BinOp.eql 70 (.slice (some ⟨g, 0, none⟩) n cp) (.slice none 0 0)).run Try.prog w = .ok (.bool false) w := by kernel_rfl
theorem eqYesL (w : World) : (binOp BinOp.eql 70 (.slice none 0 0) (.slice none 0 0)).run Try.prog w = .ok (.bool true) w := by kernel_rfl
set_option maxHeartbeats 2000000 in
theorem cloneSomeL (w : World) (g n cp : Nat) (xs : List Value) (hn : n ≤ 2000) (hl : xs.length = n * 2) (hc : ∀ j u, xs[j]? = some u → w.cell? ((⟨g, 0, none⟩ : Addr).add j) = some u) (h1 : ∀ u ∈ xs, u.oneCell' = true) (hg : g < w.heap.size) :
    Calls Try.prog 53 #[.slice (some ⟨g, 0, none⟩) n cp] w fun e w' => ∃ v', e = .returned v' ∧ w'.ownsRow w.heap.size 68 2 v' n xs ∧ Below w.heap.size w w' := by
  obtain ⟨i0, hi, hz0, hz1, hz2⟩ := info_parts infoLk
  have HC : Hid (∀ j u, xs[j]? = some u → (w.alloc (.cells #[] 68)).cell? ((⟨g, 0, none⟩ : Addr).add j) = some u) := by
    intro j u hu
    have hadd : (⟨g, 0, none⟩ : Addr).add j = ⟨g, j, none⟩ := by unfold Addr.add; split <;> simp_all
    have := hc j u hu
    rw [hadd] at this ⊢
    rw [World.cell?_alloc_lt _ _ _ (by simpa using hg)]
    exact this
  have HL : Hid ((w.alloc (.cells #[] 68)).ownsRow w.heap.size 68 2 (.slice (some ⟨w.heap.size, 0, none⟩) 0 0) 0 []) := by
    have := World.ownsRow_lit (base := w.heap.size) (e := 68) (size := 2) w #[] 0 (Nat.le_refl _) (by simp [maxLen]) rfl
    exact this
  have H1 := veil h1
  have hnil := fun w => eqNoL w g n cp
  clear hc h1
  go_enter Try.func53, Try.ntmps53
  go_wp2_with (at_builtin; refine wpList_append_own _ rfl _ _ 70 rfl w.heap.size 68 i0 lkZero 2 32 Try.underlying70 hi hz0 hz1 hz2 rfl (by omega) _ 0 [] (by rfl) HL.out ⟨g, 0, none⟩ n cp xs (by rfl) hl HC.out H1.out (by unfold maxLen; omega) (by omega) (by simp) ?_; intro v' w1 hown hgrow _; have HO := veil hown; have HG := veil (hgrow : World.grownBy _ _ (Value.slice (some ⟨w.heap.size, 0, none⟩) 0 0).ownBlock); clear hown hgrow)
  go_ret
  refine ⟨v', rfl, by simpa using HO.out, ?_⟩
  exact ((Below.refl _ _).alloc (Nat.le_refl _) _).grown HG.out (by simp) (fun k hk => by simp [Value.ownBlock] at hk; omega)
theorem cloneNoneL (w : World) : Calls Try.prog 53 #[.slice none 0 0] w fun e w' => e = .returned (.slice none 0 0) ∧ w' = w := by
  have hnil := eqYesL
  go_enter Try.func53, Try.ntmps53
  go_wp2
  go_ret
  exact ⟨rfl, rfl⟩
theorem cloneRowL {w : World} {base n : Nat} {v : Value} {xs : List Value} (h : w.ownsRow base 68 2 v n xs) (hn : n ≤ 2000) (h1 : ∀ u ∈ xs, u.oneCell' = true) : Calls Try.prog 53 #[v] w fun e w' => ∃ v', e = .returned v' ∧ w'.ownsRow w.heap.size 68 2 v' n xs ∧ Below w.heap.size w w' := by
  have hown := h
  rcases h.2 with ⟨e, e0⟩ | ⟨g, cap, cur, e, h0, hg, _⟩
  · subst e
    subst e0
    refine (cloneNoneL w).mono ?_
    rintro e w' ⟨rfl, rfl⟩
    have hx : xs = [] := List.length_eq_zero_iff.1 (by simpa using h.1)
    subst hx
    exact ⟨_, rfl, World.ownsRow_nil _ _ _ _, Below.refl _ _⟩
  · subst e
    refine cloneSomeL w g n cap xs hn h.1 ?_ h1 (Array.getElem?_eq_some_iff.1 hg).1
    intro j u hu
    have hadd : (⟨g, 0, none⟩ : Addr).add j = ⟨g, j, none⟩ := by unfold Addr.add; split <;> simp_all
    rw [hadd, hown.cellAt j (by have := (List.getElem?_eq_some_iff.1 hu).1; rw [h.1] at this; exact this)]
    exact hu
/-- Those that wait for a lock. -/
def waitersOf (L : List Lk) (m : Int) : List Nat := if inL L m then ((L[m.toNat]?).map (·.l)).getD [] else []
theorem ints_oneCell (l : List Nat) : ∀ u ∈ ints l, u.oneCell' = true := by
  intro u hu
  unfold ints at hu
  obtain ⟨x, _, rfl⟩ := List.mem_map.1 hu
  rfl
theorem ints_eq (l : List Nat) : ints l = (l.map (fun (t : Nat) => (t : Int))).map (Value.int .i64) := by unfold ints; rw [List.map_map]; rfl
theorem Fine.short {T : List Th} {L : List Lk} (f : Fine T L) {y : Lk} (hy : y ∈ L) : y.l.length ≤ T.length := by
  have hok := f.lk y hy
  have hsub : y.l ⊆ List.range T.length := fun t ht => List.mem_range.2 (hok.2.2.1 t ht)
  have := hok.2.2.2.1.length_le_of_subset hsub
  simpa using this
section
variable {w : World} {base s : Nat} {vt vl : Value} {V : List Value} {T : List Th} {L : List Lk}
theorem waiters_ok (h : IsG w base s vt vl V T L) (m : Int) : Calls Try.prog 19 #[.pointer (some ⟨s, 0, none⟩), .int .i64 m] w fun e w' => ∃ v, e = .returned v ∧ IL w' w.heap.size v ((waitersOf L m).map (fun (t : Nat) => (t : Int))) ∧ Below w.heap.size w w' := by
  have HH := veil (hasL_ok h m)
  unfold waitersOf
  cases hm : inL L m with
  | true =>
    rw [hm] at HH
    obtain ⟨k, y, rfl, hk, hy, e⟩ := inL_yes hm
    rw [if_pos rfl, Int.toNat_natCast, hy]
    simp only [Option.map_some, Option.getD_some]
    obtain ⟨v, hv⟩ := h.line hk
    have hline := h.lin k y v hy hv
    have hsh := h.f.short (List.mem_of_getElem? hy)
    have ht2 := h.f.t2
    have HC := veil (cloneRowI hline (by omega) (ints_oneCell _))
    obtain ⟨va, vc, rfl, _, _⟩ := form_of hline
    obtain ⟨g, cap, rfl, hc1, hc2, hg, hgs, _, hc⟩ := h.lform (by omega)
    obtain ⟨y0, y1⟩ := hc k y _ hy hv
    have c1 := h.c1
    have hk' : (k : Int) < (L.length : Int) := by omega
    clear h hc hm e hline
    go_enter Try.func19, Try.ntmps19
    go_wp2_with (first
      | (go_at_call 43; refine (HH.out).mono ?_; rintro e w1 ⟨rfl, hw⟩; replace hw := hw.symm; subst hw)
      | (go_at_call 44; refine (HC.out).mono ?_; rintro e w1 ⟨v', rfl, ho, hb⟩; replace ho := veil ho; replace hb := veil hb))
    go_ret
    refine ⟨v', rfl, ?_, hb.out⟩
    unfold IL
    rw [← ints_eq, List.length_map]
    exact ho.out
  | false =>
    rw [hm] at HH
    rw [if_neg (by simp)]
    clear h hm
    go_enter Try.func19, Try.ntmps19
    go_wp2_with (go_at_call 43; refine (HH.out).mono ?_; rintro e w1 ⟨rfl, hw⟩; replace hw := hw.symm; subst hw)
    go_ret
    exact ⟨_, rfl, World.ownsRow_nil _ _ _ _, Below.refl _ _⟩
end
theorem PG.waiters {w : World} {b s : Nat} {O : Nat → Prop} {M : Md} (h : PG w b O s M) (m : Int) : Calls Try.prog 19 #[.pointer (some ⟨s, 0, none⟩), .int .i64 m] w fun e w' => ∃ v, e = .returned v ∧ IL w' w.heap.size v ((waitersOf M.L m).map (fun (t : Nat) => (t : Int))) ∧ Below w.heap.size w w' := by
  obtain ⟨vt, vl, V, hg, ho⟩ := h
  exact waiters_ok hg m
/-- A new graph. -/
def newM (n m : Nat) : Md := ⟨newT n, newL m⟩
theorem pnew_ok (n m : Nat) (w : World) (h1 : 1 ≤ n) (h2 : n ≤ 1024) (h3 : m ≤ 32) :
    Calls Try.prog 31 #[.int .i64 n, .int .i64 m] w fun e w' => ∃ s O, e = .returned (.pointer (some ⟨s, 0, none⟩)) ∧ PG w' w.heap.size O s (newM n m) ∧ Below w.heap.size w w' := by
  refine (gnew_ok n m w h1 h2 h3).mono ?_
  rintro e w' ⟨s, gt, gl, rfl, hn⟩
  exact ⟨s, _, rfl, ⟨_, _, _, IsG.new hn h1 h2 h3, fun k => Iff.rfl⟩, hn.be⟩
end Go.Proofs.Ytbhkgbhgofefjaa
