/- PimutexRefuses' walk. -/
import Derived.Test.YtbhkgbhgofefjaaR17
import Derived.Test.YtbhkgbhgofefjaaR18
namespace Go.Proofs.Ytbhkgbhgofefjaa
open Go.RowKit
set_option linter.unusedVariables false
theorem lockR_no {M : Md} {t m : Int} (h : (lockR M t m).1.2 ≠ 0) : (lockR M t m).2 = M := by
  revert h
  unfold lockR
  split
  · exact fun _ => rfl
  · split
    · split
      · exact fun _ => rfl
      · split
        · exact fun h => absurd rfl h
        · split
          · exact fun _ => rfl
          · exact fun h => absurd rfl h
    · exact fun _ => rfl
theorem unlR_no {M : Md} {t m : Int} (h : (unlR M t m).1.2 ≠ 0) : (unlR M t m).2 = M := by
  revert h
  unfold unlR
  split
  · exact fun _ => rfl
  · split
    · split
      · exact fun _ => rfl
      · split
        · exact fun h => absurd rfl h
        · exact fun h => absurd rfl h
    · exact fun _ => rfl
set_option maxHeartbeats 4000000 in
theorem Refuses_walk (m : Nat) (hm : m < 256) (a : Option Addr) (len cap : Nat) (L : Nat → Dp) (hlen : len < 9223372036854775808) (w : World) (hd : Dps w a len L) (x : Dp) (hx : x.ok) :
    Calls Try.prog 8 #[.int .u8 m, .slice a len cap, .agg #[.int .i64 x.k, .int .i64 x.p, .int .i64 x.i, .bool x.e, .int .u64 x.d, .int .u8 x.l]] w fun e w' => e = .returned (.bool true) ∧ Below w.heap.size w w' := by
  have HD0 : Hid (DB (w.alloc (.cells #[.int .i64 x.k, .int .i64 x.p, .int .i64 x.i, .bool x.e, .int .u64 x.d, .int .u8 x.l] 38)) w.heap.size x) := World.alloc_heap_new w _
  have HB0 : Hid (Below w.heap.size w (w.alloc (.cells #[.int .i64 x.k, .int .i64 x.p, .int .i64 x.i, .bool x.e, .int .u64 x.d, .int .u8 x.l] 38))) := (Below.refl _ _).alloc (Nat.le_refl _) _
  have HP := veil (play_ok _ m hm a len cap hlen L (hd.deed (.cells #[.int .i64 x.k, .int .i64 x.p, .int .i64 x.i, .bool x.e, .int .u64 x.d, .int .u8 x.l] 38)))
  clear hd
  go_enter Try.func8, Try.ntmps8
  go_wp2_with (first
    | (go_at_call 14; refine (HP.out).mono ?_; rintro e w1 ⟨g, r, O, D, M, rfl, hB, hsz, hL⟩; have HB := veil hB; have HL := veil hL; clear hB hL hsz)
    | (go_at_call 15; refine (live_ok _).mono ?_; rintro e w2 ⟨rfl, hb2⟩; have HB2 := veil (HB.out.below hb2); have HL2 := veil (HL.out.trans (hb2.mono HL.out.size)); clear hb2)
    | (go_at_call 27; refine (HB2.out.p.fork).mono ?_; rintro e w3 ⟨f, Of, rfl, hPf, hb3⟩; have HB3 := veil (HB2.out.below hb3); have HL3 := veil (HL2.out.trans (hb3.mono HL2.out.size)); have HD3 := veil (HD0.out.below HL3.out); obtain ⟨c0, c1, c2, c3, c4, c5⟩ := HD3.out.cells; have HPf := veil (hPf.low HL2.out.size); have HOO : Hid (∀ k, Of k → ¬ O k ∧ ¬ D k) := (fun k hk => by have q := hPf.ge hk; exact ⟨fun q1 => by have := HB2.out.p.lt q1; omega, fun q1 => by have := HB2.out.r.lt q1; omega⟩); clear hPf hb3))
  have hno := lockR_no (M := M) (t := x.p) (m := x.i)
  have hlk := HB3.out.p.lock x.p x.i
  generalize lockR M x.p x.i = q at hno hlk
  obtain ⟨⟨ga, ge⟩, M1⟩ := q
  dsimp only at hno hlk
  have HNo := veil hno
  have HLk := veil hlk
  clear hno hlk
  by_cases hge : ge = 0
  · subst hge
    clear HNo
    go_wp2_with (first
      | (go_at_call 28; refine (HLk.out).mono ?_; rintro e' w4 ⟨rfl, hs⟩; obtain ⟨O4, hso, hf, hn⟩ := HB3.out.solo.step hs; have HS4 := veil hso; have HF4 : Hid (Both w4 _ Of D f r M) := ⟨HPf.out.frame hf (fun k hk => (HOO.out k hk).1), hso.r, fun k hk => (HOO.out k hk).2⟩; have HL4 := veil (HL3.out.trans (hf.below HL3.out.size (fun k hk => HB3.out.p.ge hk))); have HD4 := veil (HD0.out.below HL4.out); obtain ⟨d0, d1, d2, d3, d4, d5⟩ := HD4.out.cells; clear hs hso hf hn))
    have uno := unlR_no (M := M) (t := x.p) (m := x.i)
    have ulk := HF4.out.p.unlock x.p x.i
    generalize unlR M x.p x.i = q at uno ulk
    obtain ⟨⟨ua, ue⟩, M2⟩ := q
    dsimp only at uno ulk
    have HUo := veil uno
    have HUl := veil ulk
    clear uno ulk
    by_cases hue : ue = 0
    · subst hue
      go_wp2_with (first
        | (go_at_call 26; refine (HUl.out).mono ?_; rintro e' w6 ⟨rfl, hs⟩; obtain ⟨O6, hso, hf, hn⟩ := HF4.out.solo.step hs; have HL6 := veil (HL4.out.trans (hf.below HL4.out.size (fun k hk => HF4.out.p.ge hk))); clear hs hso hf hn))
      go_ret
      exact ⟨rfl, HB0.out.trans (HL6.out.mono HB0.out.size)⟩
    · have hun : (ue == 0) = false := by simpa using hue
      have eM := (HUo.out hue).symm
      subst eM
      clear HUo
      go_wp2_with (first
        | (go_at_call 26; refine (HUl.out).mono ?_; rintro e' w6 ⟨rfl, hs⟩; obtain ⟨O6, hso, hf, hn⟩ := HF4.out.solo.step hs; have HL6 := veil (HL4.out.trans (hf.below HL4.out.size (fun k hk => HF4.out.p.ge hk))); have HS6 := veil hso.both; clear hs hso hf hn)
        | (go_at_call 16; refine (same_ok HS6.out).mono ?_; rintro e w7 ⟨rfl, hb⟩; have HL7 := veil (HL6.out.trans (hb.mono HL6.out.size)); clear hb))
      go_ret
      exact ⟨rfl, HB0.out.trans (HL7.out.mono HB0.out.size)⟩
  · have hgn : (ge != 0) = true := by simpa using hge
    have eM := (HNo.out hge).symm
    subst eM
    clear HNo
    go_wp2_with (first
      | (go_at_call 28; refine (HLk.out).mono ?_; rintro e' w4 ⟨rfl, hs⟩; obtain ⟨O4, hso, hf, hn⟩ := HB3.out.solo.step hs; have HS4 := veil hso; have HF4 : Hid (Both w4 _ Of D f r M) := ⟨HPf.out.frame hf (fun k hk => (HOO.out k hk).1), hso.r, fun k hk => (HOO.out k hk).2⟩; have HL4 := veil (HL3.out.trans (hf.below HL3.out.size (fun k hk => HB3.out.p.ge hk))); have HD4 := veil (HD0.out.below HL4.out); obtain ⟨d0, d1, d2, d3, d4, d5⟩ := HD4.out.cells; clear hs hso hf hn)
      | (go_at_call 16; (have hh := HS4.out; clear hh); refine (same_ok HS4.out.both).mono ?_; rintro e w5 ⟨rfl, hb⟩; have HF5 := veil (HF4.out.below hb); have HL5 := veil (HL4.out.trans (hb.mono HL4.out.size)); have HD5 := veil (HD0.out.below HL5.out); clear c0 c1 c2 c3 c4 c5 d0 d1 d2 d3 d4 d5; obtain ⟨d0, d1, d2, d3, d4, d5⟩ := HD5.out.cells; clear hb HS4))
    have uno := unlR_no (M := M) (t := x.p) (m := x.i)
    have ulk := HF5.out.p.unlock x.p x.i
    generalize unlR M x.p x.i = q at uno ulk
    obtain ⟨⟨ua, ue⟩, M2⟩ := q
    dsimp only at uno ulk
    have HUo := veil uno
    have HUl := veil ulk
    clear uno ulk
    by_cases hue : ue = 0
    · subst hue
      go_wp2_with (first
        | (go_at_call 26; refine (HUl.out).mono ?_; rintro e' w6 ⟨rfl, hs⟩; obtain ⟨O6, hso, hf, hn⟩ := HF5.out.solo.step hs; have HL6 := veil (HL5.out.trans (hf.below HL5.out.size (fun k hk => HF5.out.p.ge hk))); clear hs hso hf hn))
      go_ret
      exact ⟨rfl, HB0.out.trans (HL6.out.mono HB0.out.size)⟩
    · have hun : (ue == 0) = false := by simpa using hue
      have eM := (HUo.out hue).symm
      subst eM
      clear HUo
      go_wp2_with (first
        | (go_at_call 26; refine (HUl.out).mono ?_; rintro e' w6 ⟨rfl, hs⟩; obtain ⟨O6, hso, hf, hn⟩ := HF5.out.solo.step hs; have HL6 := veil (HL5.out.trans (hf.below HL5.out.size (fun k hk => HF5.out.p.ge hk))); have HS6 := veil hso.both; clear hs hso hf hn)
        | (go_at_call 16; refine (same_ok HS6.out).mono ?_; rintro e w7 ⟨rfl, hb⟩; have HL7 := veil (HL6.out.trans (hb.mono HL6.out.size)); clear hb))
      go_ret
      exact ⟨rfl, HB0.out.trans (HL7.out.mono HB0.out.size)⟩
end Go.Proofs.Ytbhkgbhgofefjaa
