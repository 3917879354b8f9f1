/- What must be whatever is asked: live. -/
import Derived.Test.YtbhkgbhgofefjaaI33
namespace Go.Proofs.Ytbhkgbhgofefjaa
open Go.RowKit Go.Lib Go.Shelf
set_option linter.unusedVariables false
def k5 : K := ⟨true, 5, 0⟩
def mA : Md := ⟨[⟨fixK 0, -1⟩, ⟨fixK 0, -1⟩, ⟨fixK 0, -1⟩], [⟨0, []⟩, ⟨-1, []⟩]⟩
def mB : Md := ⟨[⟨fixK 0, -1⟩, ⟨k5, -1⟩, ⟨fixK 0, -1⟩], [⟨0, []⟩, ⟨-1, []⟩]⟩
def mC : Md := ⟨[⟨fixK 0, -1⟩, ⟨k5, 0⟩, ⟨fixK 0, -1⟩], [⟨0, [1]⟩, ⟨-1, []⟩]⟩
def mD : Md := ⟨[⟨fixK 0, -1⟩, ⟨k5, -1⟩, ⟨fixK 0, -1⟩], [⟨1, []⟩, ⟨-1, []⟩]⟩
theorem live1 : lockR (newM 3 2) 0 0 = ((true, 0), mA) := by
  have e : mayE (newM 3 2).T (newM 3 2).L 0 0 = 0 := by decide
  unfold lockR
  rw [if_neg (by simpa using e)]
  rfl
theorem live2 : baseR mA 1 k5 = (0, mB) := rfl
theorem no_lead {L : List Lk} (h : ∀ y ∈ L, y.l = []) {a b : Nat} (hl : Leads L a b) : a = b := by
  cases hl with
  | here => rfl
  | on e _ =>
    obtain ⟨y, hy, hin, _⟩ := e
    rw [h y hy] at hin
    simp at hin
theorem live3 : lockR mB 1 0 = ((false, 0), mC) := by
  have e : mayE mB.T mB.L 1 0 = 0 := by decide
  have hn : ¬ Leads mB.L 0 1 := fun h => by
    have := no_lead (by simp [mB]) h
    omega
  unfold lockR
  rw [if_neg (by simpa using e)]
  show (if _ then _ else _) = _
  rw [if_neg (by decide)]
  show (if _ then _ else _) = _
  rw [if_neg (by decide)]
  refine Eq.trans (if_neg hn) ?_
  rfl
theorem keyC1 (h : Acyc mC.L) : keyOf mC.T mC.L 1 = k5 := by rw [keyOf_eq h]; rfl
theorem live4 (h : Acyc mC.L) : keyA mC.T mC.L 0 = k5 := by
  have e : inT mC.T 0 = true := by decide
  unfold keyA
  rw [e, if_pos rfl]
  show keyOf mC.T mC.L 0 = _
  rw [keyOf_eq h]
  show maxK (fixK 0) (keyOf mC.T mC.L 1) = _
  rw [keyC1 h]
  rfl
theorem live5 : unlR mC 0 0 = ((1, 0), mD) := by
  have e : mayE mC.T mC.L 0 0 = 0 := by decide
  have hp : nextP mC ⟨0, [1]⟩ = 0 := by
    unfold nextP
    show (foreTo _ [1] 1).1 = 0
    rw [foreTo, if_pos (.inl rfl)]
    rfl
  unfold unlR
  rw [if_neg (by simpa using e)]
  show (if _ then _ else _) = _
  rw [if_neg (by decide)]
  rw [hp]
  rfl
set_option maxHeartbeats 2000000 in
theorem live_ok (w : World) : Calls Try.prog 15 #[] w fun e w' => e = .returned (.bool true) ∧ Below w.heap.size w w' := by
  have H1 := veil (fun w b O s (h : PG w b O s (newM 3 2)) => by have := h.lock 0 0; rw [live1] at this; exact this)
  have H2 := veil (fun w b O s (h : PG w b O s mA) => by have := h.base 1 k5 ⟨⟨by decide, by decide⟩, by decide, by decide⟩; rw [live2] at this; exact this)
  have H3 := veil (fun w b O s (h : PG w b O s mB) => by have := h.lock 1 0; rw [live3] at this; exact this)
  have H4 := veil (fun w b O s (h : PG w b O s mC) => by have := h.key 0; rw [live4 h.f.ac] at this; exact this)
  have H5 := veil (fun w b O s (h : PG w b O s mC) => by have := h.unlock 0 0; rw [live5] at this; exact this)
  have H6 := veil (fun w b O s (h : PG w b O s mD) => by have := h.owner 0; rw [show ownerOf mD.L 0 = 1 by decide] at this; exact this)
  have H0 := veil (pnew_ok 3 2 w (by decide) (by decide) (by decide))
  go_enter Try.func15, Try.ntmps15
  go_wp2_with (first
    | (go_at_call 31; refine (H0.out).mono ?_; rintro e w1 ⟨s, O, rfl, hg, hb⟩; have HP1 := veil hg; have HB1 := veil hb; clear hg hb)
    | (go_at_call 28; (have hh := HP3.out; clear hh); refine (H3.out _ _ _ _ HP3.out).mono ?_; rintro e w4 ⟨rfl, O4, hg, hf, hn⟩; have HP4 := veil hg; have HB4 := veil (HB3.out.trans (hf.below HB3.out.size (fun k hk => HP3.out.ge hk))); clear hg hf hn)
    | (go_at_call 28; refine (H1.out _ _ _ _ HP1.out).mono ?_; rintro e w2 ⟨rfl, O2, hg, hf, hn⟩; have HP2 := veil hg; have HB2 := veil (HB1.out.trans (hf.below HB1.out.size (fun k hk => HP1.out.ge hk))); clear hg hf hn)
    | (go_at_call 21; refine (H2.out _ _ _ _ HP2.out).mono ?_; rintro e w3 ⟨rfl, O3, hg, hf, hn⟩; have HP3 := veil hg; have HB3 := veil (HB2.out.trans (hf.below HB2.out.size (fun k hk => HP2.out.ge hk))); clear hg hf hn)
    | (go_at_call 24; refine (H4.out _ _ _ _ HP4.out).mono ?_; rintro e w5 ⟨rfl, hb⟩; have HP5 := veil (HP4.out.below hb); have HB5 := veil (HB4.out.trans (hb.mono HB4.out.size)); clear hb)
    | (go_at_call 26; have HP6 := veil (HP5.out.below ((Below.refl _ w5).alloc (Nat.le_refl _) (.cells #[.bool k5.e, .int .u64 k5.d, .int .u8 k5.l] 36))); have HB6 := veil (HB5.out.alloc HB5.out.size (.cells #[.bool k5.e, .int .u64 k5.d, .int .u8 k5.l] 36)); refine (H5.out _ _ _ _ HP6.out).mono ?_; rintro e w7 ⟨rfl, O7, hg, hf, hn⟩; have HP7 := veil hg; have hkb : KBox w7 w5.heap.size k5 := ((hf.block _ (by simp) (fun q => absurd (HP5.out.lt q) (Nat.lt_irrefl _))).trans (World.alloc_heap_new w5 _)); have q0 := hkb.at.1; have q1 := hkb.at.2.1; have q2 := hkb.at.2.2; have HB7 := veil (HB6.out.trans (hf.below HB6.out.size (fun k hk => HP6.out.ge hk))); clear hg hf hn hkb)
    | (go_at_call 18; refine (H6.out _ _ _ _ HP7.out).mono ?_; rintro e w8 ⟨rfl, hw⟩; replace hw := hw.symm; subst hw))
  go_ret
  exact ⟨rfl, HB7.out⟩
end Go.Proofs.Ytbhkgbhgofefjaa
