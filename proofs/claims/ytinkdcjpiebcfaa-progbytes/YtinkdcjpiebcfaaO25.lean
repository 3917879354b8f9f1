/- ProgBytes, walked. -/
import Derived.Test.YtinkdcjpiebcfaaO24
namespace Go.Proofs.Ytinkdcjpiebcfaa
open Go.RowKit Go.Lib
set_option linter.unusedVariables false
theorem conv0 (w : World) (ad : Option Addr) (cap : Nat) : (convert 29 9 (.slice ad 0 cap)).run Try.prog w = .ok (.string (strOfNums [])) w := by
  cases ad with
  | none => exact run_convert_bytes_nil w _ _ Try.underlying29 Try.underlying5 0 cap _ Try.underlying9
  | some ad =>
    rw [run_convert_bytes_string w _ _ _ _ 0 cap Try.underlying29 Try.underlying5 Try.underlying9]
    have hl : (loadCells ad 0).run Try.prog w = .ok #[] w := by
      have := run_loadCells_list (P := Try.prog) w ad [] (fun j v hj => by simp at hj)
      simpa using this
    simp [Conv.bytesToString, go_sem]
    rfl
theorem says_arg {w : World} {a : Option Addr} {len cap : Nat} {X : Nat → Nat} (h : Byt w a len X) : Says w (.slice a len cap) (strOfNums ((List.range len).map fun j => (X j : Int))) := by
  intro W hb
  rcases h with rfl | ⟨lb, off, rfl, hlb, hx⟩
  · simpa using conv0 W a cap
  · refine run_convert_bytes_arg W _ _ Try.underlying29 Try.underlying5 lb off len cap _ (by simp) (fun i hi => ?_) _ Try.underlying9
    rw [(hb.cell (p := ⟨lb, off + i, none⟩) hlb).trans (hx i hi).1]
    simp [List.getD, hi]
def byteCells (X : Nat → Nat) (len : Nat) : List Value := ((List.range len).map fun j => (X j : Int)).map (Value.int .u8)
theorem byteCells_one (X : Nat → Nat) (len : Nat) : ∀ u ∈ byteCells X len, u.oneCell' = true := by
  intro u hu
  simp [byteCells] at hu
  obtain ⟨j, _, rfl⟩ := hu
  rfl
theorem own_byt {w : World} {base : Nat} {v : Value} {len : Nat} {X : Nat → Nat} (h : w.ownsRow base 5 1 v len (byteCells X len)) (hX : ∀ j, j < len → X j < 256) : ∃ a cap, v = .slice a len cap ∧ len ≤ cap ∧ cap ≤ maxLen ∧ Byt w a len X := by
  rcases h.2 with ⟨rfl, rfl⟩ | ⟨g, cap, cur, rfl, hb, hgg, hn, hm, hc, ht⟩
  · exact ⟨none, 0, rfl, by omega, by unfold maxLen; omega, .inl rfl⟩
  · refine ⟨_, cap, rfl, hn, hm, .inr ⟨g, 0, rfl, (Array.getElem?_eq_some_iff.1 hgg).1, fun j hj => ⟨?_, hX j hj⟩⟩⟩
    rw [Nat.zero_add, h.cellAt j (by omega)]
    simp [byteCells, hj]
theorem lit_none (w : World) (t : TypeId) : (w.alloc (.cells #[] t)).ownsRow w.heap.size t 1 (.slice (some ⟨w.heap.size, 0, none⟩) 0 0) 0 [] :=
  ⟨rfl, .inr ⟨w.heap.size, 0, #[], rfl, Nat.le_refl _, (MapKept.heap_alloc w _).1, Nat.le_refl _, by unfold maxLen; omega, rfl, rfl⟩⟩
theorem byt_news {w W : World} {ad : Addr} {len : Nat} {X : Nat → Nat} (h : Byt w (some ad) len X) (hb : Below w.heap.size w W) : ∀ j u, (byteCells X len)[j]? = some u → W.cell? (ad.add j) = some u := by
  intro j u hu
  have hj : j < len := by
    have := (List.getElem?_eq_some_iff.1 hu).1
    simpa [byteCells] using this
  rcases h with h | ⟨lb, off, e, hlb, hx⟩
  · omega
  · simp at e
    subst e
    have e2 : (⟨lb, off, none⟩ : Addr).add j = ⟨lb, off + j, none⟩ := by unfold Addr.add; split <;> simp_all
    rw [e2, (hb.cell (p := ⟨lb, off + j, none⟩) hlb).trans (hx j hj).1]
    simp [byteCells, hj] at hu
    rw [← hu]
theorem bytes_rest (w : World) (a0 : Option Addr) (m cap0 : Nat) (hm : m < 9223372036854775808) (O R : Nat → Int) (hp : Prg w a0 m O R) (a1 : Option Addr) (len1 cap1 : Nat) (X : Nat → Nat) (c1 : len1 ≤ cap1) (m1 : cap1 < 9223372036854775808) (w1 : Byt w a1 len1 X) (z1 : len1 ≤ 140737488351232) (hnil : a1 = none → len1 = 0 ∧ cap1 = 0) (hX : ∀ j, j < len1 → X j < 256)
    (a0' : Option Addr) (m' cap0' : Nat) (HF : Calls Try.prog 12 #[.slice a0' m' cap0'] w fun e w'' => e = .returned (.slice a0 m cap0) ∧ w'' = w) :
    Calls Try.prog 4 #[.slice a0' m' cap0', .slice a1 len1 cap1] w fun e w' => e = .returned (.bool true) ∧ Below w.heap.size w w' := by
  have HF := veil HF
  obtain ⟨S, c, hE1, hE2⟩ := enc_says m O R hm
  obtain ⟨d, hD1, hD2⟩ := dec_got X len1
  have HE1 : Hid (∀ w', Below w.heap.size w w' → Calls Try.prog 16 #[.slice a0 m cap0] w' fun e w'' => ∃ v, e = .returned (.tuple #[v, .int .i64 c]) ∧ Says w'' v S ∧ Below w'.heap.size w' w'') := fun w' hb => hE1 w' a0 cap0 (hp.below hb)
  have HE2 : Hid (∀ w', Below w.heap.size w w' → Calls Try.prog 17 #[.slice a0 m cap0] w' fun e w'' => ∃ v, e = .returned (.tuple #[v, .int .i64 c]) ∧ Says w'' v S ∧ Below w'.heap.size w' w'') := fun w' hb => hE2 w' a0 cap0 (hp.below hb)
  have HD1 := veil hD1
  have HD2 : Hid (∀ w', Below w.heap.size w w' → Calls Try.prog 19 #[.slice a1 len1 cap1] w' fun e w'' => ∃ v, e = .returned (.tuple #[v, .int .i64 d]) ∧ Got w'' X len1 v ∧ Below w'.heap.size w' w'') := fun w' hb => hD2 w' a1 cap1 (w1.below hb) c1 m1
  have HS2 : Hid (∀ w', Below w.heap.size w w' → (convert 29 9 (.slice a1 len1 cap1)).run Try.prog w' = .ok (.string (strOfNums ((List.range len1).map fun j => (X j : Int)))) w') := fun w' hb => (says_arg w1) w' hb
  have HOB : Hid (∀ (w' : World) (v : Value), w'.ownsRow w.heap.size 5 1 v len1 (byteCells X len1) → (∃ a cap, v = .slice a len1 cap ∧ len1 ≤ cap ∧ cap ≤ maxLen ∧ Byt w' a len1 X) ∧ Says w' v (strOfNums ((List.range len1).map fun j => (X j : Int)))) := fun w' v h => ⟨own_byt h hX, says_row h⟩
  have HL := veil live_ok
  have HSG : Hid (∀ (w' : World) (v v' : Value), Got w' X len1 v → Got w' X len1 v' → Calls Try.prog 20 #[v, v'] w' fun e w'' => e = .returned (.bool true) ∧ Below w'.heap.size w' w'') := fun w' v v' h h' => same_got h h'
  clear hE1 hE2 hD1 hD2 hp
  generalize strOfNums ((List.range len1).map fun j => (X j : Int)) = T at HS2 HOB
  obtain ⟨i0, hi, hz0, hz1, hz2⟩ := info_parts info_u8
  have HB0 : Hid (Below w.heap.size w (w.alloc (.cells #[] 5))) := (Below.refl _ _).alloc (Nat.le_refl _) _
  cases a1 with
  | none =>
    obtain ⟨rfl, rfl⟩ := hnil rfl
    have hob := HOB.out (w.alloc (.cells #[] 5)) (.slice (some ⟨w.heap.size, 0, none⟩) 0 0) (lit_none w _)
    obtain ⟨⟨ao, co, e, k1, k2, hbyt⟩, hsay⟩ := hob
    simp at e
    obtain ⟨rfl, rfl⟩ := e
    have HBY := veil hbyt
    have HSY := veil hsay
    have HBa := HB0
    have k2' : 0 < 9223372036854775808 := by omega
    clear hbyt hsay HOB w1
    go_enter Try.func4, Try.ntmps4
    go_wp2_with (first
      | (go_at_call 12; refine (HF.out).mono ?_; rintro e w0 ⟨rfl, hw⟩; replace hw := hw.symm; subst hw)
      | (go_at_call 16; refine (HE1.out _ HBa.out).mono ?_; rintro e w3 ⟨v3, rfl, hs, hb⟩; have HX3 := veil hs; have HB3 := veil (HBa.out.trans (hb.mono HBa.out.size)); have HBY3 := veil (HBY.out.below hb); have HSY3 := veil (HSY.out.below hb); clear hs hb HBY HSY)
      | (go_at_call 17; refine (HE2.out _ HB3.out).mono ?_; rintro e w4 ⟨v4, rfl, hs, hb⟩; have HX4 := veil (HX3.out.below hb); have HY4 := veil hs; have HB4 := veil (HB3.out.trans (hb.mono HB3.out.size)); have HBY4 := veil (HBY3.out.below hb); have HSY4 := veil (HSY3.out.below hb); clear hs hb HX3 HBY3 HSY3)
      | (go_at_call 18; refine (HD1.out _ _ _ HBY4.out k1 k2').mono ?_; rintro e w5 ⟨v5, rfl, hg, hb⟩; have HG5 := veil hg; have HX5 := veil (HX4.out.below hb); have HY5 := veil (HY4.out.below hb); have HB5 := veil (HB4.out.trans (hb.mono HB4.out.size)); have HSY5 := veil (HSY4.out.below hb); clear hg hb HX4 HY4 HBY4 HSY4)
      | (go_at_call 19; refine (HD2.out _ HB5.out).mono ?_; rintro e w6 ⟨v6, rfl, hg, hb⟩; have HG6 := veil (HG5.out.below hb); have HG6' := veil hg; have HX6 := veil (HX5.out.below hb); have HY6 := veil (HY5.out.below hb); have HB6 := veil (HB5.out.trans (hb.mono HB5.out.size)); have HSY6 := veil (HSY5.out.below hb); clear hg hb HX5 HY5 HG5 HSY5)
      | (go_at_call 15; refine (HL.out _).mono ?_; rintro e w7 ⟨rfl, hb⟩; have hx7 := HX6.out _ hb; have hy7 := HY6.out _ hb; have HG7 := veil (HG6.out.below hb); have HG7' := veil (HG6'.out.below hb); have HB7 := veil (HB6.out.trans (hb.mono HB6.out.size)); have HSY7 := veil (HSY6.out.below hb); clear hb HG6 HG6' HSY6 HX6 HY6)
      | (go_at_call 20; refine (HSG.out _ _ _ HG7.out HG7'.out).mono ?_; rintro e w8 ⟨rfl, hb⟩; have hs8 := HSY7.out _ hb; have HB8 := veil (HB7.out.trans (hb.mono HB7.out.size)); have ht8 := HS2.out _ HB8.out; clear hb HG7 HG7' HSY7))
    go_ret
    exact ⟨by simp, HB8.out⟩
  | some ad =>
    have HN := veil (fun (W : World) (hb : Below w.heap.size w W) => byt_news w1 hb)
    have HAFT : Hid (∀ (v2 : Value) (w2 : World), w2.ownsRow w.heap.size 5 1 v2 (0 + len1) ([] ++ byteCells X len1) → (w.alloc (.cells #[] 5)).grownBy w2 (Value.ownBlock (.slice (some ⟨w.heap.size, 0, none⟩) 0 0)) → ∃ ao co, v2 = .slice ao len1 co ∧ len1 ≤ co ∧ co < 9223372036854775808 ∧ Byt w2 ao len1 X ∧ Says w2 v2 T ∧ Below w.heap.size w w2) := by
      intro v2 w2 ho2 hg2
      rw [Nat.zero_add, List.nil_append] at ho2
      obtain ⟨⟨ao, co, e, k1, k2, hbyt⟩, hsay⟩ := HOB.out w2 v2 ho2
      refine ⟨ao, co, e, k1, ?_, hbyt, hsay, ?_⟩
      · unfold maxLen at k2
        omega
      · refine HB0.out.grown hg2 (by simp) (fun k hk => ?_)
        simp [Value.ownBlock] at hk
        omega
    go_enter Try.func4, Try.ntmps4
    go_wp2_with (first
      | (go_at_call 12; refine (HF.out).mono ?_; rintro e w0 ⟨rfl, hw⟩; replace hw := hw.symm; subst hw)
      | (at_builtin; refine wpList_append_own _ rfl _ _ 29 rfl w.heap.size 5 i0 (.int .u8 0) 1 1 Try.underlying29 hi hz0 hz1 hz2 rfl (by decide) (.slice (some ⟨w.heap.size, 0, none⟩) 0 0) 0 [] rfl (lit_none w _) ad len1 cap1 (byteCells X len1) rfl (by simp [byteCells]) (HN.out _ HB0.out) (byteCells_one X len1) (by unfold maxLen; omega) (by omega) (by simp) ?_; intro v2 w2 ho2 hg2 _; obtain ⟨ao, co, rfl, k1, k2', hbyt, hsay, hba⟩ := HAFT.out v2 w2 ho2 hg2; have HBY := veil hbyt; have HSY := veil hsay; have HBa := veil hba; clear hbyt hsay hba ho2 hg2)
      | (go_at_call 16; refine (HE1.out _ HBa.out).mono ?_; rintro e w3 ⟨v3, rfl, hs, hb⟩; have HX3 := veil hs; have HB3 := veil (HBa.out.trans (hb.mono HBa.out.size)); have HBY3 := veil (HBY.out.below hb); have HSY3 := veil (HSY.out.below hb); clear hs hb HBY HSY)
      | (go_at_call 17; refine (HE2.out _ HB3.out).mono ?_; rintro e w4 ⟨v4, rfl, hs, hb⟩; have HX4 := veil (HX3.out.below hb); have HY4 := veil hs; have HB4 := veil (HB3.out.trans (hb.mono HB3.out.size)); have HBY4 := veil (HBY3.out.below hb); have HSY4 := veil (HSY3.out.below hb); clear hs hb HX3 HBY3 HSY3)
      | (go_at_call 18; refine (HD1.out _ _ _ HBY4.out k1 k2').mono ?_; rintro e w5 ⟨v5, rfl, hg, hb⟩; have HG5 := veil hg; have HX5 := veil (HX4.out.below hb); have HY5 := veil (HY4.out.below hb); have HB5 := veil (HB4.out.trans (hb.mono HB4.out.size)); have HSY5 := veil (HSY4.out.below hb); clear hg hb HX4 HY4 HBY4 HSY4)
      | (go_at_call 19; refine (HD2.out _ HB5.out).mono ?_; rintro e w6 ⟨v6, rfl, hg, hb⟩; have HG6 := veil (HG5.out.below hb); have HG6' := veil hg; have HX6 := veil (HX5.out.below hb); have HY6 := veil (HY5.out.below hb); have HB6 := veil (HB5.out.trans (hb.mono HB5.out.size)); have HSY6 := veil (HSY5.out.below hb); clear hg hb HX5 HY5 HG5 HSY5)
      | (go_at_call 15; refine (HL.out _).mono ?_; rintro e w7 ⟨rfl, hb⟩; have hx7 := HX6.out _ hb; have hy7 := HY6.out _ hb; have HG7 := veil (HG6.out.below hb); have HG7' := veil (HG6'.out.below hb); have HB7 := veil (HB6.out.trans (hb.mono HB6.out.size)); have HSY7 := veil (HSY6.out.below hb); clear hb HG6 HG6' HSY6 HX6 HY6)
      | (go_at_call 20; refine (HSG.out _ _ _ HG7.out HG7'.out).mono ?_; rintro e w8 ⟨rfl, hb⟩; have hs8 := HSY7.out _ hb; have HB8 := veil (HB7.out.trans (hb.mono HB7.out.size)); have ht8 := HS2.out _ HB8.out; clear hb HG7 HG7' HSY7))
    go_ret
    exact ⟨by simp, HB8.out⟩
end Go.Proofs.Ytinkdcjpiebcfaa
