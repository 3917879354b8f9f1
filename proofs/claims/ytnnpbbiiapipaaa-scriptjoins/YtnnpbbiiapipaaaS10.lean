/-
  script: how long an entry's bytes are, walked, on both sides.
-/
import Derived.Test.YtnnpbbiiapipaaaS9
namespace Go.Proofs.Ytnnpbbiiapipaaa
open Go.RowKit Go.Lib
set_option linter.unusedVariables false
theorem len_ok (w : World) (lb off cap : Nat) (l : List Nat) (h : Bl w lb off l) (h0 : 0 < l.length) (hm : l.length < 100000) :
    Calls Try.prog 28 #[.slice (some ⟨lb, off, none⟩) l.length cap] w fun e w' => e = .returned (.int .i64 (sz l : Int)) ∧ w' = w := by
  have y0 := h.at_ 0 h0
  have hx : l.getD 0 0 < 256 := h.small _ (getD_mem h0)
  have h0' : 0 < (l.length : Int) := by omega
  simp only [Nat.add_zero] at y0
  by_cases h1 : l.getD 0 0 = 1
  · have HS : Hid (sz l = 10) := by show _ = _; unfold sz szOf; rw [if_pos h1]
    rw [h1] at y0
    clear h1 h hx
    go_enter Try.func28, Try.ntmps28
    go_wp2
    go_ret
    exact ⟨by rw [HS.out]; rfl, rfl⟩
  by_cases h2 : l.getD 0 0 = 2
  · have HS : Hid (sz l = 3) := by show _ = _; unfold sz szOf; rw [if_neg h1, if_pos h2]
    rw [h2] at y0
    clear h1 h2 h hx
    go_enter Try.func28, Try.ntmps28
    go_wp2
    go_ret
    exact ⟨by rw [HS.out]; rfl, rfl⟩
  by_cases h3 : l.getD 0 0 = 3
  · by_cases hl : 2 ≤ l.length
    · have y1 := h.at_ 1 (by omega)
      have hx1 : l.getD 1 0 < 256 := h.small _ (getD_mem (by omega))
      have HS : Hid (sz l = 2 + 4 * l.getD 1 0) := by show _ = _; unfold sz szOf; rw [if_neg h1, if_neg h2, if_pos h3, if_pos hl]
      rw [h3] at y0
      generalize l.getD 1 0 = b at *
      have hl' : 2 ≤ (l.length : Int) := by omega
      clear h1 h2 h3 h hx
      go_enter Try.func28, Try.ntmps28
      go_wp2
      go_ret
      refine ⟨?_, rfl⟩
      rw [HS.out]
      show Ending.returned (.int .i64 _) = _
      congr 2
      omega
    · have HS : Hid (sz l = 2) := by show _ = _; unfold sz szOf; rw [if_neg h1, if_neg h2, if_pos h3, if_neg hl]
      rw [h3] at y0
      have hl' : ¬ 2 ≤ (l.length : Int) := by omega
      clear h1 h2 h3 h hx
      go_enter Try.func28, Try.ntmps28
      go_wp2
      go_ret
      exact ⟨by rw [HS.out]; rfl, rfl⟩
  by_cases h4 : l.getD 0 0 = 4
  · have HS : Hid (sz l = 17) := by show _ = _; unfold sz szOf; rw [if_neg h1, if_neg h2, if_neg h3, if_pos h4]
    rw [h4] at y0
    clear h1 h2 h3 h4 h hx
    go_enter Try.func28, Try.ntmps28
    go_wp2
    go_ret
    exact ⟨by rw [HS.out]; rfl, rfl⟩
  by_cases h5 : l.getD 0 0 = 5
  · have HS : Hid (sz l = 4) := by show _ = _; unfold sz szOf; rw [if_neg h1, if_neg h2, if_neg h3, if_neg h4, if_pos h5]
    rw [h5] at y0
    clear h1 h2 h3 h4 h5 h hx
    go_enter Try.func28, Try.ntmps28
    go_wp2
    go_ret
    exact ⟨by rw [HS.out]; rfl, rfl⟩
  have HS : Hid (sz l = 1) := by show _ = _; unfold sz szOf; rw [if_neg h1, if_neg h2, if_neg h3, if_neg h4, if_neg h5]
  generalize l.getD 0 0 = b at *
  have e1 : ((b : Int) == 1) = false := by simp; omega
  have e2 : ((b : Int) == 2) = false := by simp; omega
  have e3 : ((b : Int) == 3) = false := by simp; omega
  have e4 : ((b : Int) == 4) = false := by simp; omega
  have e5 : ((b : Int) == 5) = false := by simp; omega
  clear h1 h2 h3 h4 h5 h
  go_enter Try.func28, Try.ntmps28
  go_wp2
  go_ret
  exact ⟨by rw [HS.out]; rfl, rfl⟩
/-- What the document's size answers. -/
def rsz (l : List Nat) : Nat := if (1 ≤ l.getD 0 0 ∧ l.getD 0 0 ≤ 5) ∧ sz l ≤ l.length then sz l else 0
theorem size_ok (w : World) (lb off cap : Nat) (l : List Nat) (h : Bl w lb off l) (h0 : 0 < l.length) (hm : l.length < 100000) :
    Calls Try.prog 30 #[.slice (some ⟨lb, off, none⟩) l.length cap] w fun e w' => e = .returned (.int .i64 (rsz l : Int)) ∧ w' = w := by
  have y0 := h.at_ 0 h0
  have hx : l.getD 0 0 < 256 := h.small _ (getD_mem h0)
  have h0' : 0 < (l.length : Int) := by omega
  simp only [Nat.add_zero] at y0
  by_cases h1 : l.getD 0 0 = 1
  · have hz : sz l = 10 := by unfold sz szOf; rw [if_pos h1]
    rw [h1] at y0
    by_cases hk : 10 ≤ l.length
    · have HS : Hid (rsz l = 10) := by show _ = _; unfold rsz; rw [if_pos ⟨by omega, by rw [hz]; exact hk⟩, hz]
      have hk' : ¬ (l.length : Int) < 10 := by omega
      clear h1 h hx hz hk
      go_enter Try.func30, Try.ntmps30
      go_wp2
      go_ret
      exact ⟨by rw [HS.out]; rfl, rfl⟩
    · have HS : Hid (rsz l = 0) := by show _ = _; unfold rsz; rw [if_neg (by rw [hz]; exact fun q => hk q.2)]
      have hk' : (l.length : Int) < 10 := by omega
      clear h1 h hx hz hk
      go_enter Try.func30, Try.ntmps30
      go_wp2
      go_ret
      exact ⟨by rw [HS.out]; rfl, rfl⟩
  by_cases h2 : l.getD 0 0 = 2
  · have hz : sz l = 3 := by unfold sz szOf; rw [if_neg h1, if_pos h2]
    rw [h2] at y0
    by_cases hk : 3 ≤ l.length
    · have HS : Hid (rsz l = 3) := by show _ = _; unfold rsz; rw [if_pos ⟨by omega, by rw [hz]; exact hk⟩, hz]
      have hk' : ¬ (l.length : Int) < 3 := by omega
      clear h1 h2 h hx hz hk
      go_enter Try.func30, Try.ntmps30
      go_wp2
      go_ret
      exact ⟨by rw [HS.out]; rfl, rfl⟩
    · have HS : Hid (rsz l = 0) := by show _ = _; unfold rsz; rw [if_neg (by rw [hz]; exact fun q => hk q.2)]
      have hk' : (l.length : Int) < 3 := by omega
      clear h1 h2 h hx hz hk
      go_enter Try.func30, Try.ntmps30
      go_wp2
      go_ret
      exact ⟨by rw [HS.out]; rfl, rfl⟩
  by_cases h3 : l.getD 0 0 = 3
  · by_cases hl : 2 ≤ l.length
    · have y1 := h.at_ 1 (by omega)
      have hx1 : l.getD 1 0 < 256 := h.small _ (getD_mem (by omega))
      have hz : sz l = 2 + 4 * l.getD 1 0 := by unfold sz szOf; rw [if_neg h1, if_neg h2, if_pos h3, if_pos hl]
      have hl' : 1 < (l.length : Int) := by omega
      by_cases hk : 2 + 4 * l.getD 1 0 ≤ l.length
      · have HS : Hid (rsz l = 2 + 4 * l.getD 1 0) := by show _ = _; unfold rsz; rw [if_pos ⟨by omega, by rw [hz]; exact hk⟩, hz]
        rw [h3] at y0
        generalize l.getD 1 0 = b at *
        have hk' : ¬ (l.length : Int) < 2 + 4 * (b : Int) := by omega
        clear h1 h2 h3 h hx hz hk
        go_enter Try.func30, Try.ntmps30
        go_wp2
        go_ret
        refine ⟨?_, rfl⟩
        rw [HS.out]
        show Ending.returned (.int .i64 _) = _
        congr 2
      · have HS : Hid (rsz l = 0) := by show _ = _; unfold rsz; rw [if_neg (by rw [hz]; exact fun q => hk q.2)]
        rw [h3] at y0
        generalize l.getD 1 0 = b at *
        have hk' : (l.length : Int) < 2 + 4 * (b : Int) := by omega
        clear h1 h2 h3 h hx hz hk
        go_enter Try.func30, Try.ntmps30
        go_wp2
        go_ret
        exact ⟨by rw [HS.out]; rfl, rfl⟩
    · have hz : sz l = 2 := by unfold sz szOf; rw [if_neg h1, if_neg h2, if_pos h3, if_neg hl]
      have HS : Hid (rsz l = 0) := by show _ = _; unfold rsz; rw [if_neg (by rw [hz]; exact fun q => hl q.2)]
      rw [h3] at y0
      have hl' : ¬ 1 < (l.length : Int) := by omega
      clear h1 h2 h3 h hx hz
      go_enter Try.func30, Try.ntmps30
      go_wp2
      go_ret
      exact ⟨by rw [HS.out]; rfl, rfl⟩
  by_cases h4 : l.getD 0 0 = 4
  · have hz : sz l = 17 := by unfold sz szOf; rw [if_neg h1, if_neg h2, if_neg h3, if_pos h4]
    rw [h4] at y0
    by_cases hk : 17 ≤ l.length
    · have HS : Hid (rsz l = 17) := by show _ = _; unfold rsz; rw [if_pos ⟨by omega, by rw [hz]; exact hk⟩, hz]
      have hk' : ¬ (l.length : Int) < 17 := by omega
      clear h1 h2 h3 h4 h hx hz hk
      go_enter Try.func30, Try.ntmps30
      go_wp2
      go_ret
      exact ⟨by rw [HS.out]; rfl, rfl⟩
    · have HS : Hid (rsz l = 0) := by show _ = _; unfold rsz; rw [if_neg (by rw [hz]; exact fun q => hk q.2)]
      have hk' : (l.length : Int) < 17 := by omega
      clear h1 h2 h3 h4 h hx hz hk
      go_enter Try.func30, Try.ntmps30
      go_wp2
      go_ret
      exact ⟨by rw [HS.out]; rfl, rfl⟩
  by_cases h5 : l.getD 0 0 = 5
  · have hz : sz l = 4 := by unfold sz szOf; rw [if_neg h1, if_neg h2, if_neg h3, if_neg h4, if_pos h5]
    rw [h5] at y0
    by_cases hk : 4 ≤ l.length
    · have HS : Hid (rsz l = 4) := by show _ = _; unfold rsz; rw [if_pos ⟨by omega, by rw [hz]; exact hk⟩, hz]
      have hk' : ¬ (l.length : Int) < 4 := by omega
      clear h1 h2 h3 h4 h5 h hx hz hk
      go_enter Try.func30, Try.ntmps30
      go_wp2
      go_ret
      exact ⟨by rw [HS.out]; rfl, rfl⟩
    · have HS : Hid (rsz l = 0) := by show _ = _; unfold rsz; rw [if_neg (by rw [hz]; exact fun q => hk q.2)]
      have hk' : (l.length : Int) < 4 := by omega
      clear h1 h2 h3 h4 h5 h hx hz hk
      go_enter Try.func30, Try.ntmps30
      go_wp2
      go_ret
      exact ⟨by rw [HS.out]; rfl, rfl⟩
  have HS : Hid (rsz l = 0) := by
    have h6 : ¬ (1 ≤ l.getD 0 0 ∧ l.getD 0 0 ≤ 5) := by omega
    show _ = _; unfold rsz; rw [if_neg (fun q => h6 q.1)]
  generalize l.getD 0 0 = b at *
  have e1 : ((b : Int) == 1) = false := by simp; omega
  have e2 : ((b : Int) == 2) = false := by simp; omega
  have e3 : ((b : Int) == 3) = false := by simp; omega
  have e4 : ((b : Int) == 4) = false := by simp; omega
  have e5 : ((b : Int) == 5) = false := by simp; omega
  clear h1 h2 h3 h4 h5 h
  go_enter Try.func30, Try.ntmps30
  go_wp2
  go_ret
  exact ⟨by rw [HS.out]; rfl, rfl⟩
end Go.Proofs.Ytnnpbbiiapipaaa
