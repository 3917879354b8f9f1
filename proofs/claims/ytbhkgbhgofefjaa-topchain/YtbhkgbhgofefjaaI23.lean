/- Key of any number; foremost. -/
import Derived.Test.YtbhkgbhgofefjaaI22
import Derived.Laws.EntriesVeiled
namespace Go.Proofs.Ytbhkgbhgofefjaa
open Go.RowKit Go.Lib
set_option linter.unusedVariables false
/-- A thread's key; of no thread none. -/
noncomputable def keyA (T : List Th) (L : List Lk) (t : Int) : K := if inT T t then keyOf T L t.toNat else fixK 0
section
variable {w : World} {base s : Nat} {vt vl : Value} {V : List Value} {T : List Th} {L : List Lk} {n0 gt ct cap : Nat} {a : Option Addr} {ln : Nat → Option Addr × Nat}
theorem hasT_v (h : Vw n0 w s gt ct a cap ln T L) (t : Int) : Calls Try.prog 41 #[.pointer (some ⟨s, 0, none⟩), .int .i64 t] w fun e w' => e = .returned (.bool (inT T t)) ∧ w' = w := by
  have c0 := h.t.c0
  have hle := h.t.le
  clear h
  unfold inT
  by_cases h0 : 0 ≤ t
  · go_enter Try.func41, Try.ntmps41
    go_wp2
    go_ret
    exact ⟨by simp [h0], rfl⟩
  · go_enter Try.func41, Try.ntmps41
    go_wp2
    go_ret
    exact ⟨by simp; omega, rfl⟩
theorem key_no (h : Vw n0 w s gt ct a cap ln T L) (hn : n0 ≤ w.heap.size) (t : Int) (ht : inT T t = false) : Calls Try.prog 24 #[.pointer (some ⟨s, 0, none⟩), .int .i64 t] w fun e w' => e = .returned (.agg #[.bool (fixK 0).e, .int .u64 (fixK 0).d, .int .u8 (fixK 0).l]) ∧ Below w.heap.size w w' := by
  have HT := veil (fun w' (hb : Below w.heap.size w w') => hasT_v (h.below (hb.mono hn)) t)
  simp only [ht] at HT
  clear h ht hn
  go_enter Try.func24, Try.ntmps24
  go_wp2_with (go_at_call 41; refine (HT.out _ (by first | exact Below.refl _ _ | exact (Below.refl _ _).alloc (Nat.le_refl _) _ | exact ((Below.refl _ _).alloc (Nat.le_refl _) _).alloc (by simp) _)).mono ?_; rintro e w1 ⟨rfl, hw⟩; subst hw)
  simp [bodyPost, results, Try.results24, go_sem, fixK]
  exact ((Below.refl _ _).alloc (Nat.le_refl _) _).alloc (by simp) _
theorem key_yes (h : Vw n0 w s gt ct a cap ln T L) (f : Vf T L) (hn : n0 ≤ w.heap.size) (t : Nat) (ht : t < T.length) : Calls Try.prog 24 #[.pointer (some ⟨s, 0, none⟩), .int .i64 (t : Int)] w fun e w' => e = .returned (.agg #[.bool (keyOf T L t).e, .int .u64 (keyOf T L t).d, .int .u8 (keyOf T L t).l]) ∧ Below w.heap.size w w' := by
  have ht' : inT T (t : Int) = true := by unfold inT; simp; omega
  have HT := veil (fun w' (hb : Below w.heap.size w w') => hasT_v (h.below (hb.mono hn)) (t : Int))
  simp only [ht'] at HT
  obtain ⟨B, r, hb, hr⟩ := f.ac
  have HM := veil (fun B1 B2 W' (hb : Below w.heap.size w W') h1 h2 => callsIn_wide.1 (most_in s gt ct a cap ln T L f r hr (r t + 1) t (by omega) ht n0 B1 B2 W' (Nat.le_trans hn hb.size) (h.below (hb.mono hn)) h1 h2))
  clear h ht' hn hb hr
  have HB1 := veil (((Boxed.new w 23 (.pointer (some ⟨s, 0, none⟩))).alloc (.cells #[.bool false, .int .u64 0, .int .u8 0] 36)).alloc (.cells #[.func (.func 47) #[] #[.pointer (some ⟨w.heap.size, 0, none⟩), .pointer (some ⟨w.heap.size + 1 + 1, 0, none⟩)]] 42))
  have HB2 : Hid (Boxed (((w.alloc (.cells #[.pointer (some ⟨s, 0, none⟩)] 23)).alloc (.cells #[.bool false, .int .u64 0, .int .u8 0] 36)).alloc (.cells #[.func (.func 47) #[] #[.pointer (some ⟨w.heap.size, 0, none⟩), .pointer (some ⟨w.heap.size + 1 + 1, 0, none⟩)]] 42)) (w.heap.size + 1 + 1) 42 (.func (.func 47) #[] #[.pointer (some ⟨w.heap.size, 0, none⟩), .pointer (some ⟨w.heap.size + 1 + 1, 0, none⟩)])) := by
    have := Boxed.new ((w.alloc (.cells #[.pointer (some ⟨s, 0, none⟩)] 23)).alloc (.cells #[.bool false, .int .u64 0, .int .u8 0] 36)) 42 (.func (.func 47) #[] #[.pointer (some ⟨w.heap.size, 0, none⟩), .pointer (some ⟨w.heap.size + 1 + 1, 0, none⟩)])
    simp only [World.size_alloc] at this
    exact this
  have hbe : Below w.heap.size w (((w.alloc (.cells #[.pointer (some ⟨s, 0, none⟩)] 23)).alloc (.cells #[.bool false, .int .u64 0, .int .u8 0] 36)).alloc (.cells #[.func (.func 47) #[] #[.pointer (some ⟨w.heap.size, 0, none⟩), .pointer (some ⟨w.heap.size + 1 + 1, 0, none⟩)]] 42)) := (((Below.refl _ w).alloc (Nat.le_refl _) _).alloc (by simp) _).alloc (by simp; omega) _
  have HBE := veil hbe
  have HRB : Hid (KBox (((w.alloc (.cells #[.pointer (some ⟨s, 0, none⟩)] 23)).alloc (.cells #[.bool false, .int .u64 0, .int .u8 0] 36)).alloc (.cells #[.func (.func 47) #[] #[.pointer (some ⟨w.heap.size, 0, none⟩), .pointer (some ⟨w.heap.size + 1 + 1, 0, none⟩)]] 42)) (w.heap.size + 1) (fixK 0)) := by
    refine KBox.alloc ?_ _
    have := World.alloc_heap_new (w.alloc (.cells #[.pointer (some ⟨s, 0, none⟩)] 23)) (.cells #[.bool false, .int .u64 0, .int .u8 0] 36)
    rw [World.size_alloc] at this
    exact this
  have HM2 := veil (HM.out w.heap.size (w.heap.size + 1 + 1) _ hbe HB1.out HB2.out)
  clear hbe HM HB1 HB2
  go_enter Try.func24, Try.ntmps24
  go_wp2_with (first
    | (go_at_call 41; refine (HT.out _ (by first | exact Below.refl _ _ | exact (Below.refl _ _).alloc (Nat.le_refl _) _ | exact ((Below.refl _ _).alloc (Nat.le_refl _) _).alloc (by simp) _)).mono ?_; rintro e w1 ⟨rfl, hw⟩; subst hw)
    | (go_at_call 47; refine (HM2.out).mono ?_; rintro e w1 ⟨rfl, hb1⟩; have hkb := HRB.out.below hb1; have r0 := hkb.at.1; have r1 := hkb.at.2.1; have r2 := hkb.at.2.2; have fz := hkb.frozen; replace hb1 := veil hb1; replace hkb := veil hkb))
  have hset := (hkb.out.set (keyOf T L t)).at
  have d0 := hset.1
  have d1 := hset.2.1
  have d2 := hset.2.2
  simp [bodyPost, results, Try.results24, go_sem, d0, d1, d2]
  have hb3 : Below w.heap.size w w1 := HBE.out.trans (hb1.out.mono HBE.out.size)
  exact ((hb3.setCell (p := ⟨w.heap.size + 1, 0, none⟩) (by simp) _).setCell (p := ⟨w.heap.size + 1, 1, none⟩) (by simp) _).setCell (p := ⟨w.heap.size + 1, 2, none⟩) (by simp) _
theorem key_v (h : Vw n0 w s gt ct a cap ln T L) (f : Vf T L) (hn : n0 ≤ w.heap.size) (t : Int) : Calls Try.prog 24 #[.pointer (some ⟨s, 0, none⟩), .int .i64 t] w fun e w' => e = .returned (.agg #[.bool (keyA T L t).e, .int .u64 (keyA T L t).d, .int .u8 (keyA T L t).l]) ∧ Below w.heap.size w w' := by
  unfold keyA
  cases ht : inT T t with
  | false => exact key_no h hn t ht
  | true =>
    obtain ⟨k, x, rfl, hk, _⟩ := inT_yes ht
    exact key_yes h f hn k hk
theorem key_ok (h : IsG w base s vt vl V T L) (t : Int) : Calls Try.prog 24 #[.pointer (some ⟨s, 0, none⟩), .int .i64 t] w fun e w' => e = .returned (.agg #[.bool (keyA T L t).e, .int .u64 (keyA T L t).d, .int .u8 (keyA T L t).l]) ∧ Below w.heap.size w w' := by
  obtain ⟨gt, ct, a, cap, _, _, hv⟩ := h.vw
  exact key_v hv h.f.vf (Nat.le_refl _) t
end
end Go.Proofs.Ytbhkgbhgofefjaa
