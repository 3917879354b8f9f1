/- PimutexMeet's walk. -/
import Derived.Test.YtbhkgbhgofefjaaR14
namespace Go.Proofs.Ytbhkgbhgofefjaa
open Go.RowKit
set_option linter.unusedVariables false
section
variable {M : Md} {i j : Nat} {x : Th} {y : Lk}
theorem may_zero (hx : M.T[i]? = some x) (hu : x.u = -1) (hy : M.L[j]? = some y) : mayE M.T M.L (i : Int) (j : Int) = 0 := by
  have hi := (List.getElem?_eq_some_iff.1 hx).1
  have hj := (List.getElem?_eq_some_iff.1 hy).1
  have e1 : inT M.T (i : Int) = true := by unfold inT; simp; omega
  have e2 : inL M.L (j : Int) = true := by unfold inL; simp; omega
  have e3 : waitsOf M.T (i : Int) = -1 := by
    unfold waitsOf
    rw [if_pos e1, Int.toNat_natCast, hx]
    exact hu
  unfold mayE
  rw [e1, e2, e3]
  rfl
theorem lockR_free (hx : M.T[i]? = some x) (hu : x.u = -1) (hy : M.L[j]? = some y) (hh : y.h = -1) : lockR M (i : Int) (j : Int) = ((true, 0), ⟨M.T, M.L.set j ⟨(i : Int), y.l⟩⟩) := by
  unfold lockR
  rw [if_neg (by simpa using may_zero hx hu hy)]
  simp only [Int.toNat_natCast, hx, hy]
  rw [if_neg (by omega), if_pos hh]
theorem lockR_wait (hx : M.T[i]? = some x) (hu : x.u = -1) (hy : M.L[j]? = some y) {o : Nat} (hh : y.h = (o : Int)) (ho : o ≠ i) (hn : ¬ Leads M.L o i) : lockR M (i : Int) (j : Int) = ((false, 0), ⟨M.T.set i ⟨x.k, (j : Int)⟩, M.L.set j ⟨y.h, y.l ++ [i]⟩⟩) := by
  unfold lockR
  rw [if_neg (by simpa using may_zero hx hu hy)]
  simp only [Int.toNat_natCast, hx, hy]
  rw [if_neg (by omega), if_neg (by omega), if_neg (by rw [hh, Int.toNat_natCast]; exact hn)]
theorem lockR_ring (hx : M.T[i]? = some x) (hu : x.u = -1) (hy : M.L[j]? = some y) {o : Nat} (hh : y.h = (o : Int)) (ho : o ≠ i) (hn : Leads M.L o i) : lockR M (i : Int) (j : Int) = ((false, 8), M) := by
  unfold lockR
  rw [if_neg (by simpa using may_zero hx hu hy)]
  simp only [Int.toNat_natCast, hx, hy]
  rw [if_neg (by omega), if_neg (by omega), if_pos (by rw [hh, Int.toNat_natCast]; exact hn)]
end
theorem newT_at {n i : Nat} (h : i < n) : (newT n)[i]? = some ⟨fixK 0, -1⟩ := by simp [newT, h]
theorem newL_at {n i : Nat} (h : i < n) : (newL n)[i]? = some ⟨-1, []⟩ := by simp [newL, h]
def mt1 (s x : Nat) : Md := ⟨newT 6, (newL 5).set x ⟨(s : Int), []⟩⟩
def mt2 (s t x y : Nat) : Md := ⟨newT 6, ((newL 5).set x ⟨(s : Int), []⟩).set y ⟨(t : Int), []⟩⟩
def mt3 (s t x y : Nat) : Md := ⟨(newT 6).set s ⟨fixK 0, (y : Int)⟩, (((newL 5).set x ⟨(s : Int), []⟩).set y ⟨(t : Int), []⟩).set y ⟨(t : Int), [s]⟩⟩
section
variable {s t x y : Nat}
theorem meet1 (hs : s < 6) (hx : x < 5) : lockR (newM 6 5) (s : Int) (x : Int) = ((true, 0), mt1 s x) := lockR_free (M := newM 6 5) (newT_at hs) rfl (newL_at hx) rfl
theorem meet2 (ht : t < 6) (hy : y < 5) (hxy : x ≠ y) : lockR (mt1 s x) (t : Int) (y : Int) = ((true, 0), mt2 s t x y) :=
  lockR_free (M := mt1 s x) (newT_at ht) rfl (y := ⟨-1, []⟩) (by show ((newL 5).set x _)[y]? = _; rw [List.getElem?_set_ne hxy]; exact newL_at hy) rfl
theorem nl5 : (newL 5).length = 5 := by simp [newL]
theorem meet3 (hs : s < 6) (hy : y < 5) (hst : s ≠ t) : lockR (mt2 s t x y) (s : Int) (y : Int) = ((false, 0), mt3 s t x y) :=
  lockR_wait (M := mt2 s t x y) (newT_at hs) rfl (y := ⟨(t : Int), []⟩) (by show (((newL 5).set x _).set y _)[y]? = _; simp [nl5, hy]) rfl (Ne.symm hst) (fun h => hst (no_lead (fun z hz => by
    have hz' : z ∈ ((newL 5).set x ⟨(s : Int), []⟩).set y ⟨(t : Int), []⟩ := hz
    rcases List.mem_or_eq_of_mem_set hz' with q | q
    · rcases List.mem_or_eq_of_mem_set q with q | q
      · simp [newL] at q; rw [q]
      · rw [q]
    · rw [q]) h).symm)
theorem meet4 (ht : t < 6) (hx : x < 5) (hy : y < 5) (hst : s ≠ t) (hxy : x ≠ y) : lockR (mt3 s t x y) (t : Int) (x : Int) = ((false, 8), mt3 s t x y) :=
  lockR_ring (M := mt3 s t x y) (x := ⟨fixK 0, -1⟩) (by show ((newT 6).set s _)[t]? = _; rw [List.getElem?_set_ne hst]; exact newT_at ht) rfl (y := ⟨(s : Int), []⟩)
    (by show ((((newL 5).set x _).set y _).set y _)[x]? = _; rw [List.getElem?_set_ne (Ne.symm hxy), List.getElem?_set_ne (Ne.symm hxy)]; simp [nl5, hx]) rfl hst
    (.on ⟨⟨(t : Int), [s]⟩, by
      have : (mt3 s t x y).L[y]? = some ⟨(t : Int), [s]⟩ := by show ((((newL 5).set x _).set y _).set y _)[y]? = _; simp [nl5, hy]
      exact List.mem_of_getElem? this, by simp, rfl⟩ (.here t))
theorem meet5 (hs : s < 6) : waitsOf (mt3 s t x y).T (s : Int) = (y : Int) := by
  unfold waitsOf
  rw [if_pos (by unfold inT mt3; simp [newT]; omega), Int.toNat_natCast]
  simp [mt3, newT, hs]
theorem meet6 (ht : t < 6) (hst : s ≠ t) : waitsOf (mt3 s t x y).T (t : Int) = -1 := by
  unfold waitsOf
  rw [if_pos (by unfold inT mt3; simp [newT]; omega), Int.toNat_natCast]
  have : (mt3 s t x y).T[t]? = some ⟨fixK 0, -1⟩ := by show ((newT 6).set s _)[t]? = _; rw [List.getElem?_set_ne hst]; exact newT_at ht
  rw [this]
  rfl
end
set_option maxHeartbeats 2000000 in
theorem Meet_walk (p q m n : Nat) (hp : p < 256) (hq : q < 256) (hm : m < 256) (hn : n < 256) (w : World) :
    Calls Try.prog 12 #[.agg #[.int .u8 p, .int .u8 q], .int .u8 m, .int .u8 n] w fun e w' => e = .returned (.bool true) ∧ Below w.heap.size w w' := by
  have c0 : (w.alloc (.cells #[.int .u8 p, .int .u8 q] 56)).cell? ⟨w.heap.size, 0, none⟩ = some (.int .u8 p) := by unfold World.cell?; rw [World.alloc_heap_new w _]; rfl
  have c1 : (w.alloc (.cells #[.int .u8 p, .int .u8 q] 56)).cell? ⟨w.heap.size, 1, none⟩ = some (.int .u8 q) := by unfold World.cell?; rw [World.alloc_heap_new w _]; rfl
  go_enter Try.func12, Try.ntmps12
  go_wp2
  go_quiet (fail)
  rw [show ((p : Int) % 6) = ((p % 6 : Nat) : Int) from rfl, show ((q : Int) % 6) = ((q % 6 : Nat) : Int) from rfl, show ((m : Int) % 5) = ((m % 5 : Nat) : Int) from rfl, show ((n : Int) % 5) = ((n % 5 : Nat) : Int) from rfl]
  have HB0 : Hid (Below w.heap.size w ((w.alloc (.cells #[.int .u8 p, .int .u8 q] 56)).drewN nq)) := below_drewN ((Below.refl _ _).alloc (Nat.le_refl _) _) _
  have hs := Nat.mod_lt p (show 0 < 6 by decide)
  have ht := Nat.mod_lt q (show 0 < 6 by decide)
  have hx := Nat.mod_lt m (show 0 < 5 by decide)
  have hy := Nat.mod_lt n (show 0 < 5 by decide)
  generalize p % 6 = s at *
  generalize q % 6 = t at *
  generalize m % 5 = x at *
  generalize n % 5 = y at *
  clear c0 c1 hp hq hm hn
  generalize (w.alloc (.cells #[.int .u8 p, .int .u8 q] 56)).drewN nq = w0 at *
  have HN := veil (pnew_ok 6 5 w0 (by decide) (by decide) (by decide))
  by_cases hd : s = t ∨ x = y
  · have hss : ((s : Int) == (t : Int) || (x : Int) == (y : Int)) = true := by rcases hd with rfl | rfl <;> simp
    clear hd
    go_wp2_with (first
      | (go_at_call 31; refine (HN.out).mono ?_; rintro e w1 ⟨g, O, rfl, hg, hb⟩; have HP1 := veil hg; have HB1 := veil hb; clear hg hb)
      | (go_at_call 15; refine (live_ok _).mono ?_; rintro e w2 ⟨rfl, hb2⟩; have HB2 := veil (HB1.out.trans (hb2.mono HB1.out.size)); clear hb2))
    all_goals
      go_ret
      exact ⟨rfl, HB0.out.trans (HB2.out.mono HB0.out.size)⟩
  · have hst : s ≠ t := fun q => hd (.inl q)
    have hxy : x ≠ y := fun q => hd (.inr q)
    have hss : ((s : Int) == (t : Int)) = false := by simp; omega
    have hss2 : ((x : Int) == (y : Int)) = false := by simp; omega
    have H1 := veil (fun w b O s' (h : PG w b O s' (newM 6 5)) => by have := h.lock s x; rw [meet1 hs hx] at this; exact this)
    have H2 := veil (fun w b O s' (h : PG w b O s' (mt1 s x)) => by have := h.lock t y; rw [meet2 ht hy hxy] at this; exact this)
    have H3 := veil (fun w b O s' (h : PG w b O s' (mt2 s t x y)) => by have := h.lock s y; rw [meet3 hs hy hst] at this; exact this)
    have H4 := veil (fun w b O s' (h : PG w b O s' (mt3 s t x y)) => by have := h.lock t x; rw [meet4 ht hx hy hst hxy] at this; exact this)
    have H5 := veil (fun w b O s' (h : PG w b O s' (mt3 s t x y)) => by have := h.waits s; rw [meet5 hs] at this; exact this)
    have H6 := veil (fun w b O s' (h : PG w b O s' (mt3 s t x y)) => by have := h.waits t; rw [meet6 ht hst] at this; exact this)
    have hyy : ((y : Int) == (y : Int)) = true := by simp
    clear hd hst hxy
    go_wp2_with (first
      | (go_at_call 31; refine (HN.out).mono ?_; rintro e w1 ⟨g, O, rfl, hg, hb⟩; have HP1 := veil hg; have HB1 := veil hb; clear hg hb)
      | (go_at_call 28; (have hh := HP4.out; clear hh); refine (H4.out _ _ _ _ HP4.out).mono ?_; rintro e w5 ⟨rfl, O5, hg, hf, hn⟩; have HP5 := veil hg; have HB5 := veil (HB4.out.trans (hf.below HB4.out.size (fun k hk => HP4.out.ge hk))); clear hg hf hn)
      | (go_at_call 28; (have hh := HP3.out; clear hh); refine (H3.out _ _ _ _ HP3.out).mono ?_; rintro e w4 ⟨rfl, O4, hg, hf, hn⟩; have HP4 := veil hg; have HB4 := veil (HB3.out.trans (hf.below HB3.out.size (fun k hk => HP3.out.ge hk))); clear hg hf hn)
      | (go_at_call 28; (have hh := HP2.out; clear hh); refine (H2.out _ _ _ _ HP2.out).mono ?_; rintro e w3 ⟨rfl, O3, hg, hf, hn⟩; have HP3 := veil hg; have HB3 := veil (HB2.out.trans (hf.below HB2.out.size (fun k hk => HP2.out.ge hk))); clear hg hf hn)
      | (go_at_call 28; (have hh := HP1.out; clear hh); refine (H1.out _ _ _ _ HP1.out).mono ?_; rintro e w2 ⟨rfl, O2, hg, hf, hn⟩; have HP2 := veil hg; have HB2 := veil (HB1.out.trans (hf.below HB1.out.size (fun k hk => HP1.out.ge hk))); clear hg hf hn)
      | (go_at_call 15; refine (live_ok _).mono ?_; rintro e w6 ⟨rfl, hb2⟩; have HP6 := veil (HP5.out.below hb2); have HB6 := veil (HB5.out.trans (hb2.mono HB5.out.size)); clear hb2)
      | (go_at_call 20; (have hh := HW1.out; clear hh); refine (H6.out _ _ _ _ HP6.out).mono ?_; rintro e wx ⟨rfl, hw⟩; replace hw := hw.symm; subst hw)
      | (go_at_call 20; refine (H5.out _ _ _ _ HP6.out).mono ?_; rintro e wx ⟨rfl, hw⟩; replace hw := hw.symm; subst hw; have HW1 := veil trivial))
    go_ret
    exact ⟨rfl, HB0.out.trans (HB6.out.mono HB0.out.size)⟩
end Go.Proofs.Ytbhkgbhgofefjaa
