/-
  script: what Encode and Decode answer, told apart; refs, live walked.
-/
import Derived.Test.YtnnpbbiiapipaaaS14
namespace Go.Proofs.Ytnnpbbiiapipaaa
open Go.RowKit Go.Lib
set_option linter.unusedVariables false
def strN (ys : List Nat) : ByteArray := strOfNums (ys.map fun (x : Nat) => (x : Int))
theorem says_u8s {w : World} {base : Nat} {v : Value} {n : Nat} {ys : List Nat} (h : w.ownsRow base 5 1 v n (u8s ys)) : Says w v (strN ys) := by
  refine says_row (base := base) (n := n) ?_
  have : (ys.map fun (x : Nat) => (x : Int)).map (Value.int .u8) = u8s ys := by simp [u8s]
  rw [this]
  exact h
/-- Encode's answer where all are right. -/
def EncY (w : World) (L : List En) (e : Ending) (w' : World) : Prop := ∃ v, e = .returned (.tuple #[v, .int .i64 0]) ∧ w'.ownsRow w.heap.size 5 1 v (all L).length (u8s (all L)) ∧ Below w.heap.size w w'
theorem Encs.yes {w w' : World} {L : List En} {e : Ending} (h : Encs w L e w') (hr : ∀ x ∈ L, RightE x) : EncY w L e w' := by
  obtain ⟨hb, ⟨_, v, he, ho⟩ | ⟨hn, _⟩⟩ := h
  · exact ⟨v, he, ho, hb⟩
  · exact (hn hr).elim
theorem Encs.no {w w' : World} {L : List En} {e : Ending} (h : Encs w L e w') (hr : ¬ ∀ x ∈ L, RightE x) : e = .returned (.tuple #[.slice none 0 0, .int .i64 3]) ∧ Below w.heap.size w w' := by
  obtain ⟨hb, ⟨hy, _⟩ | ⟨_, he⟩⟩ := h
  · exact (hr hy).elim
  · exact ⟨he, hb⟩
/-- Encode's answer, either way: what its bytes say, and its code. -/
def encS (L : List En) (S : ByteArray) (c : Int) : Prop := ((∀ x ∈ L, RightE x) ∧ S = strN (all L) ∧ c = 0) ∨ ((¬ ∀ x ∈ L, RightE x) ∧ S = strN [] ∧ c = 3)
theorem encS_ex (L : List En) : ∃ S c, encS L S c := by
  by_cases h : ∀ x ∈ L, RightE x
  · exact ⟨_, _, .inl ⟨h, rfl, rfl⟩⟩
  · exact ⟨_, _, .inr ⟨h, rfl, rfl⟩⟩
theorem Encs.says {w w' : World} {L : List En} {e : Ending} {S : ByteArray} {c : Int} (h : Encs w L e w') (hS : encS L S c) : ∃ v, e = .returned (.tuple #[v, .int .i64 c]) ∧ Says w' v S ∧ Below w.heap.size w w' := by
  rcases hS with ⟨hr, rfl, rfl⟩ | ⟨hr, rfl, rfl⟩
  · obtain ⟨v, he, ho, hb⟩ := h.yes hr
    exact ⟨v, he, says_u8s ho, hb⟩
  · obtain ⟨he, hb⟩ := h.no hr
    exact ⟨_, he, says_u8s (ys := []) (World.ownsRow_nil w' w'.heap.size _ _), hb⟩
/-- Decode's answer where the bytes are of right ones; where they are not. -/
def DecY (w : World) (T : TypeId) (L : List En) (e : Ending) (w' : World) : Prop := ∃ Z v, Z.map (·.1) = L ∧ e = .returned (.tuple #[v, .int .i64 0, .int .i64 0]) ∧ Rw w' w.heap.size T v Z ∧ Below w.heap.size w w'
theorem Decs.good {w w' : World} {T : TypeId} {l : List Nat} {L : List En} {e : Ending} (h : Decs w T l e w') (hg : Good l L) : DecY w T L e w' := by
  obtain ⟨hb, ⟨Z, v, hG, he, hR⟩ | ⟨M, hB, _⟩⟩ := h
  · exact ⟨Z, v, good_one hG hg, he, hR, hb⟩
  · exact (good_bad hg hB).elim
theorem Decs.bad {w w' : World} {T : TypeId} {l : List Nat} {L : List En} {e : Ending} (h : Decs w T l e w') (hg : Bad l L) : e = .returned (.tuple #[.slice none 0 0, .int .i64 3, .int .i64 (L.length : Int)]) ∧ Below w.heap.size w w' := by
  obtain ⟨hb, ⟨Z, v, hG, he, hR⟩ | ⟨M, hB, he⟩⟩ := h
  · exact (good_bad hG hg).elim
  · rw [bad_one hg hB]
    exact ⟨he, hb⟩
theorem Decs.either {w w' : World} {T : TypeId} {l : List Nat} {e : Ending} (h : Decs w T l e w') : (∃ L, Good l L) ∨ ∃ L, Bad l L := by
  obtain ⟨_, ⟨Z, v, hG, _⟩ | ⟨M, hB, _⟩⟩ := h
  · exact .inl ⟨_, hG⟩
  · exact .inr ⟨_, hB⟩
theorem all_small {L : List En} (h : Rights L) : ∀ y ∈ all L, y < 256 := by
  intro y hy
  unfold all at hy
  rw [List.mem_flatMap] at hy
  obtain ⟨x, hx, hy⟩ := hy
  exact bytes_small (h x hx).1 (h x hx).2 y hy
/-- Decode of a row of bytes. -/
theorem dec_row (W : World) (base : Nat) (v : Value) (ys : List Nat) (h : W.ownsRow base 5 1 v ys.length (u8s ys)) (hs : ∀ y ∈ ys, y < 256) (hm : ys.length < 100000) :
    Calls Try.prog 18 #[v] W (Decs W 36 ys) := by
  by_cases h0 : ys.length = 0
  · have : ys = [] := List.length_eq_zero_iff.1 h0
    subst this
    rcases h.2 with ⟨rfl, _⟩ | ⟨g, cap, cur, rfl, _⟩
    · exact dec_none W _ _
    · exact dec_none W _ _
  · obtain ⟨g, cap, rfl, q1, q2, _, q4, q5⟩ := byt_row h (by omega) hs
    exact dec_some W g 0 cap ys ⟨q4, fun j hj => (q5 j hj).1, hs⟩ (by omega) hm q1 (by unfold maxLen at q2; omega)
set_option maxHeartbeats 4000000 in
theorem refs_ok (w : World) (a : Option Addr) (L : List En) (cap : Nat) (hL : L.length ≤ 100) (hE : Ens w a L) (hD : ∀ x ∈ L, (Lit.int .i64 x.d).wf = true) :
    Calls Try.prog 13 #[.slice a L.length cap] w (EnsA w L) := by
  obtain ⟨i0, hi, hz0, hz1, hz2⟩ := info_parts info_rentry
  have HE := veil hE
  have HD := veil hD
  clear hE hD
  go_enter Try.func13, Try.ntmps13
  go_wp2
  go_loopw [3, 4] (fun s i wr => ∃ (Z : Zs) (j : Nat), j ≤ L.length ∧ i = .int .i64 (j : Int) ∧ Z.map (·.1) = L.take j ∧ Z.length = j ∧ wr.ownsRow w.heap.size 39 10 s Z.length (zcells Z) ∧ (∀ z ∈ Z, Fit w z) ∧ Below w.heap.size w wr) (fun _ i _ => L.length - (intOf i).toNat)
  case atStart => exact ⟨[], 0, by omega, rfl, rfl, rfl, World.ownsRow_nil _ _ _ _, (fun z hz => (by cases hz)), Below.refl _ _⟩
  case round =>
    obtain ⟨Z, j, hj, rfl, hZ, hZl, hown, hfit, hbel⟩ := hrel
    obtain ⟨va, vl, vc, hv⟩ := row_slice hown
    subst hv
    have hsz := hbel.size
    by_cases hjl : j < L.length
    · have hjl' : (j : Int) < (L.length : Int) := by omega
      have hj60' : (j : Int) < 100 := by omega
      obtain ⟨x, hx⟩ : ∃ x, L[j]? = some x := ⟨L[j], List.getElem?_eq_getElem hjl⟩
      rcases HE.out with h0 | ⟨lb, off, rfl, hlb, hc⟩
      · subst h0; simp at hjl
      obtain ⟨ca, cc, he0⟩ := hc j x hx
      have he := he0.below hlb hbel
      have y0 := he.c0
      have y1 := he.c1
      have y2 := he.c2
      have y3 := he.c3
      have y4 := he.c4
      have y5 := he.c5
      have y6 := he.c6
      have y7 := he.c7
      have y8 := he.c8
      have y9 := he.c9
      have HRF := veil (fun W => ref_ok W x ca cc (HD.out x (List.mem_of_getElem? hx)))
      have HO := veil hown
      have HB := veil hbel
      have HSN := veil (take_one hx)
      have HF : Hid (∀ z ∈ Z ++ [(x, ca, cc)], Fit w z) := by
        intro z hz
        rcases List.mem_append.1 hz with hz | hz
        · exact hfit z hz
        · obtain rfl : z = _ := by simpa using hz
          exact fit_self he0
      have HZ := veil hZ
      have hZ6 : Z.length < 100 := by omega
      clear hown hbel hfit hc hx he he0 hZ
      go_wp2_with (first
        | (at_builtin; refine wpList_append_own _ rfl _ _ 29 rfl w.heap.size 39 i0 _ 10 96 Try.underlying29 hi hz0 hz1 hz2 rfl (by decide) (.slice va vl vc) Z.length _ rfl (World.ownsRow.alloc HO1.out _) ⟨w1.heap.size, 0, none⟩ 1 1 [.int .i64 x.d, .int .i64 x.p, .int .u64 (x.dr : Int), .int .i64 x.n, .slice ca x.code.length cc, .int .u64 (x.bu : Int), .int .u64 (x.pe : Int), .int .i64 x.pr, .int .u8 (x.lv : Int), .int .i64 x.sv] rfl rfl (cells_new w1 [.int .i64 x.d, .int .i64 x.p, .int .u64 (x.dr : Int), .int .i64 x.n, .slice ca x.code.length cc, .int .u64 (x.bu : Int), .int .u64 (x.pe : Int), .int .i64 x.pr, .int .u8 (x.lv : Int), .int .i64 x.sv] _) (by simp [Value.oneCell']) (by unfold maxLen; omega) (by omega) (by simp; omega) ?_; intro v3 w3 ho3 hg3 _; obtain ⟨va3, vl3, vc3, rfl⟩ := row_slice ho3; have HO3 := veil ho3; have HB3 := veil ((HB1.out.alloc hs1 _).grown hg3 (by simp; omega) (fun k hk => (HO1.out.lt k hk).1)); clear ho3 hg3)
        | (go_at_call 16; refine (HRF.out _).mono ?_; rintro e w1 ⟨rfl, hb⟩; have HO1 := veil (row_below HO.out hb); have HB1 := veil (HB.out.trans (hb.mono hsz)); have hs1 := HB1.out.size; clear hb))
      refine ⟨⟨Z ++ [(x, ca, cc)], j + 1, by omega, by go_num, by rw [List.map_append, HZ.out, HSN.out]; rfl, by rw [List.length_append, hZl]; rfl, ?_, HF.out, HB3.out⟩, by simp [intOf]; omega⟩
      refine own_eq HO3.out (by rw [List.length_append]; rfl) ?_
      rw [zcells_append, zcells_one]
      rfl
    · have hjl' : ¬ (j : Int) < (L.length : Int) := by omega
      have HEN : Hid (∃ a' cap', Value.slice va vl vc = .slice a' L.length cap' ∧ Ens wr a' L) := by
        obtain ⟨a', cap', q1, q2⟩ := ens_of hown hbel hfit
        have e : L.take j = L := List.take_of_length_le (by omega)
        rw [hZ, e] at q2
        have e2 : Z.length = L.length := by rw [← List.length_map (f := (·.1)), hZ, e]
        rw [e2] at q1
        exact ⟨a', cap', q1, q2⟩
      have HB := veil hbel
      clear hown hbel hfit hZ
      go_wp2
      go_ret
      obtain ⟨a', cap', q1, q2⟩ := HEN.out
      exact ⟨a', cap', by rw [← q1]; rfl, q2, HB.out⟩
theorem tick1_right : RightE (mkTick 1) := .inr (.inl ⟨rfl, by decide, by decide⟩)
theorem tick1_rights : Rights [mkTick 1] := fun x hx => by
  obtain rfl : x = mkTick 1 := by simpa using hx
  exact ⟨tick1_right, ⟨by decide, by decide, by decide, by decide⟩⟩
@[go_sem] theorem buildLive (w : World) : (Instr.build 36 #[(0, .int .i64 2), (3, .int .i64 1)]).run Try.prog w = .ok (.agg #[.int .i64 2, .int .i64 0, .int .u64 0, .int .i64 1, .slice none 0 0, .int .u64 0, .int .u64 0, .int .i64 0, .int .u8 0, .int .i64 0]) w := run_build w 36 _ _ (by kernel_rfl)
theorem ens_three {w : World} {a : Option Addr} (h : Ens w a [mkTick 1]) : ∃ lb off, a = some ⟨lb, off, none⟩ ∧ w.cell? ⟨lb, off + 3, none⟩ = some (.int .i64 1) := by
  rcases h with h | ⟨lb, off, rfl, _, hx⟩
  · cases h
  · obtain ⟨ca, cc, he⟩ := hx 0 (mkTick 1) rfl
    refine ⟨lb, off, rfl, ?_⟩
    have := he.c3
    rw [Nat.zero_mul, Nat.add_zero] at this
    exact this
set_option maxHeartbeats 1000000 in
theorem live_ok' (w : World) : Calls Try.prog 17 #[] w fun e w' => e = .returned (.bool true) ∧ Below w.heap.size w w' := by
  have hE : Ens (w.alloc (.cells #[.int .i64 2, .int .i64 0, .int .u64 0, .int .i64 1, .slice none 0 0, .int .u64 0, .int .u64 0, .int .i64 0, .int .u8 0, .int .i64 0] 36)) (some ⟨w.heap.size, 0, none⟩) [mkTick 1] := by
    refine .inr ⟨w.heap.size, 0, rfl, by simp, fun j x hj => ?_⟩
    have h1 := (List.getElem?_eq_some_iff.1 hj).1
    obtain rfl : j = 0 := by simp at h1; omega
    obtain rfl : mkTick 1 = x := by simpa using hj
    have b := bx_new w #[.int .i64 2, .int .i64 0, .int .u64 0, .int .i64 1, .slice none 0 0, .int .u64 0, .int .u64 0, .int .i64 0, .int .u8 0, .int .i64 0] 36
    exact ⟨none, 0, b.cell 0 _ rfl, b.cell 1 _ rfl, b.cell 2 _ rfl, b.cell 3 _ rfl, b.cell 4 _ rfl, b.cell 5 _ rfl, b.cell 6 _ rfl, b.cell 7 _ rfl, b.cell 8 _ rfl, b.cell 9 _ rfl, cod_nil _ _, by decide, .inl (by decide), (tick1_rights _ (by simp)).2⟩
  have HN := veil ((encodes _ _ [mkTick 1] 1 (by simp) hE).mono (fun e w' h => h.yes (fun x hx => (tick1_rights x hx).1)))
  have HD := veil (fun W v (h : W.ownsRow (w.alloc (.cells #[.int .i64 2, .int .i64 0, .int .u64 0, .int .i64 1, .slice none 0 0, .int .u64 0, .int .u64 0, .int .i64 0, .int .u8 0, .int .i64 0] 36)).heap.size 5 1 v (all [mkTick 1]).length (u8s (all [mkTick 1]))) => (dec_row W _ v (all [mkTick 1]) h (all_small tick1_rights) (by decide)).mono (fun e w' h => h.good ⟨tick1_rights, rfl⟩))
  have hs3 : ((strN (all [mkTick 1])).toList == [2, 0, 1]) = true := by decide +kernel
  have hs4 : (strN (all [mkTick 1]) == (⟨#[2, 0, 1]⟩ : ByteArray)) = true := by decide +kernel
  clear hE
  go_enter Try.func17, Try.ntmps17
  go_wp2_with (first
    | (go_at_call 18; refine (HD.out _ _ HO.out).mono ?_; rintro e w2 ⟨Z, v2, hZ, rfl, hR, hb⟩; have hst := HSY.out _ hb; obtain ⟨za, zc, hz1, hz2⟩ := hR.ens; have HZL := veil hZ; have hz3 : Z.length = 1 := (by rw [← List.length_map (f := (·.1)), hZ]; rfl); rw [hz3] at hz1; subst hz1; rw [hZ] at hz2; obtain ⟨zb, zo, rfl, zcell⟩ := ens_three hz2; have HB2 := veil (HB.out.trans (hb.mono HB.out.size)); clear hZ hR hb hz2 hz3)
    | (go_at_call 11; refine (HN.out).mono ?_; rintro e w1 ⟨v1, rfl, ho, hb⟩; have HO := veil ho; have HSY := veil (says_u8s ho); have HB := veil (((Below.refl w.heap.size w).alloc (Nat.le_refl _) _).trans (hb.mono (by simp))); clear ho hb))
  go_ret
  exact ⟨rfl, HB2.out⟩
end Go.Proofs.Ytnnpbbiiapipaaa
