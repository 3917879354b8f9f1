/- The walk of untie. -/
import Derived.Test.YtjmbadadelelfaaWa5
namespace Go.Proofs.Ytjmbadadelelfaa
open Go.RowKit
set_option linter.unusedVariables false
set_option linter.unusedSimpArgs false
attribute [local go_sem ↓] Go.wp_at_zero Go.wp_at_succ
section
variable {w : World} {b g n nw ct f l x ah be : Nat} {fm : Value} {F L A B E : Nat → Nat} {T : Nat → Bool}
set_option maxRecDepth 100000 in
set_option maxHeartbeats 2000000 in
theorem untie_00 (h : Rep w b g n nw ct fm F L A B E T) (hx : x ≤ n) (hA : A x = ah) (hB : B x = be) (ha : ah = 0) (hb : be = 0) :
    Calls Try.prog 47 #[.pointer (some ⟨b, 0, none⟩), .agg #[.int .i64 (f : Int), .int .i64 (l : Int)], .int .i64 (x : Int)] w fun e w' =>
      e = .returned (.agg #[.int .i64 0, .int .i64 0]) ∧ Rep w' b g n nw ct fm F L (upd A x 0) (upd B x 0) (upd E x 0) (upd T x false) ∧ Only b g w w' := by
  subst ha
  subst hb
  obtain ⟨cp, e0⟩ := h.en
  have n0 := h.ea x hx; have n1 := h.eb x hx; have n2 := h.ee x hx; have n3 := h.et x hx
  rw [hA] at n0
  rw [hB] at n1
  have n0' : w.cell? ⟨g, x * 4, none⟩ = some (.int .i64 0) := n0
  have n1' : w.cell? ⟨g, x * 4 + 1, none⟩ = some (.int .i64 0) := n1
  clear n0 n1 hA hB
  have fg := h.fg
  have hbb := h.lt_b
  have hgg := h.lt_g
  have y1 : ¬ b = w.heap.size := by omega
  have y2 : ¬ g = w.heap.size := by omega
  have y3 : ¬ b = w.heap.size + 1 := by omega
  have y4 : ¬ g = w.heap.size + 1 := by omega
  have y5 : b < w.heap.size + 1 := by omega
  have y6 : g < w.heap.size + 1 := by omega
  have y7 : b < w.heap.size + 1 + 1 := by omega
  have y8 : g < w.heap.size + 1 + 1 := by omega
  have xl : x < n + 1 := by omega
  have HR := veil h
  clear h
  go_enter Try.func47, Try.ntmps47
  go_wp2
  simp [bodyPost, results, Try.results47, go_sem]
  exact ⟨(((((((HR.out.setA x hx 0).setB x hx 0).setE x hx 0).setT x hx false).alloc _).alloc _).alloc _), (((((((((Only.refl b g w).set _ _ (Or.inr rfl)).set _ _ (Or.inr rfl)).set _ _ (Or.inr rfl)).set _ _ (Or.inr rfl)).alloc _).alloc _).alloc _))⟩
set_option maxRecDepth 100000 in
set_option maxHeartbeats 2000000 in
theorem untie_01 (h : Rep w b g n nw ct fm F L A B E T) (hx : x ≤ n) (hA : A x = ah) (hB : B x = be) (ha : ah = 0) (hb : be ≠ 0) (hb1 : be ≤ n) (hbx : be ≠ x) :
    Calls Try.prog 47 #[.pointer (some ⟨b, 0, none⟩), .agg #[.int .i64 (f : Int), .int .i64 (l : Int)], .int .i64 (x : Int)] w fun e w' =>
      e = .returned (.agg #[.int .i64 (be : Int), .int .i64 (l : Int)]) ∧ Rep w' b g n nw ct fm F L (upd (upd A be 0) x 0) (upd B x 0) (upd E x 0) (upd T x false) ∧ Only b g w w' := by
  subst ha
  obtain ⟨cp, e0⟩ := h.en
  have n0 := h.ea x hx; have n1 := h.eb x hx; have n2 := h.ee x hx; have n3 := h.et x hx
  rw [hA] at n0
  rw [hB] at n1
  have n0' : w.cell? ⟨g, x * 4, none⟩ = some (.int .i64 0) := n0
  have n1' : w.cell? ⟨g, x * 4 + 1, none⟩ = some (.int .i64 (be : Int)) := n1
  clear n0 n1 hA hB
  have fg := h.fg
  have hbb := h.lt_b
  have hgg := h.lt_g
  have y1 : ¬ b = w.heap.size := by omega
  have y2 : ¬ g = w.heap.size := by omega
  have y3 : ¬ b = w.heap.size + 1 := by omega
  have y4 : ¬ g = w.heap.size + 1 := by omega
  have y5 : b < w.heap.size + 1 := by omega
  have y6 : g < w.heap.size + 1 := by omega
  have y7 : b < w.heap.size + 1 + 1 := by omega
  have y8 : g < w.heap.size + 1 + 1 := by omega
  have xl : x < n + 1 := by omega
  have hb' : ¬ (be : Int) = 0 := by omega
  have bl : be < n + 1 := by omega
  have c0 := h.ea be hb1
  have HR := veil h
  clear h
  go_enter Try.func47, Try.ntmps47
  obtain ⟨W6, hW6⟩ : ∃ W6, W6 = w.setCell ⟨g, be * 4, none⟩ (.int .i64 0) := ⟨_, rfl⟩
  have HRW6 : Hid (Rep W6 b g n nw ct fm F L (upd A be 0) B E T) := by rw [hW6]; exact HR.out.setA be hb1 0
  have HOW6 : Hid (Only b g w W6) := by rw [hW6]; exact (Only.refl b g w).set _ _ (Or.inr rfl)
  have HSW6 : Hid (W6.heap.size = w.heap.size) := by rw [hW6]; show _ = _; simp
  have HWW6 := veil hW6
  clear hW6
  go_upto_region 7 with fail
  go_region
  go_upto_region 8 with fail
  rw [← HWW6.out]
  have hs6 := HSW6.out
  have fg6 := HRW6.out.fg
  obtain ⟨cp6, e06⟩ := HRW6.out.en
  have k0 := HRW6.out.ea x hx; have k1 := HRW6.out.eb x hx; have k2 := HRW6.out.ee x hx; have k3 := HRW6.out.et x hx
  clear HWW6 c0 n0' n1' n2 n3 e0 fg
  go_wp2
  simp [bodyPost, results, Try.results47, go_sem, hs6]
  exact ⟨(((((((HRW6.out.setA x hx 0).setB x hx 0).setE x hx 0).setT x hx false).alloc _).alloc _).alloc _).drew, ((((((((HOW6.out.set _ _ (Or.inr rfl)).set _ _ (Or.inr rfl)).set _ _ (Or.inr rfl)).set _ _ (Or.inr rfl)).alloc _).alloc _).alloc _)).drew⟩
set_option maxRecDepth 100000 in
set_option maxHeartbeats 2000000 in
theorem untie_10 (h : Rep w b g n nw ct fm F L A B E T) (hx : x ≤ n) (hA : A x = ah) (hB : B x = be) (ha : ah ≠ 0) (ha1 : ah ≤ n) (hax : ah ≠ x) (hb : be = 0) :
    Calls Try.prog 47 #[.pointer (some ⟨b, 0, none⟩), .agg #[.int .i64 (f : Int), .int .i64 (l : Int)], .int .i64 (x : Int)] w fun e w' =>
      e = .returned (.agg #[.int .i64 (f : Int), .int .i64 (ah : Int)]) ∧ Rep w' b g n nw ct fm F L (upd A x 0) (upd (upd B ah 0) x 0) (upd E x 0) (upd T x false) ∧ Only b g w w' := by
  subst hb
  obtain ⟨cp, e0⟩ := h.en
  have n0 := h.ea x hx; have n1 := h.eb x hx; have n2 := h.ee x hx; have n3 := h.et x hx
  rw [hA] at n0
  rw [hB] at n1
  have n0' : w.cell? ⟨g, x * 4, none⟩ = some (.int .i64 (ah : Int)) := n0
  have n1' : w.cell? ⟨g, x * 4 + 1, none⟩ = some (.int .i64 0) := n1
  clear n0 n1 hA hB
  have fg := h.fg
  have hbb := h.lt_b
  have hgg := h.lt_g
  have y1 : ¬ b = w.heap.size := by omega
  have y2 : ¬ g = w.heap.size := by omega
  have y3 : ¬ b = w.heap.size + 1 := by omega
  have y4 : ¬ g = w.heap.size + 1 := by omega
  have y5 : b < w.heap.size + 1 := by omega
  have y6 : g < w.heap.size + 1 := by omega
  have y7 : b < w.heap.size + 1 + 1 := by omega
  have y8 : g < w.heap.size + 1 + 1 := by omega
  have xl : x < n + 1 := by omega
  have ha' : ¬ (ah : Int) = 0 := by omega
  have al : ah < n + 1 := by omega
  have c1 := h.eb ah ha1
  have HR := veil h
  clear h
  go_enter Try.func47, Try.ntmps47
  obtain ⟨W5, hW5⟩ : ∃ W5, W5 = w.setCell ⟨g, ah * 4 + 1, none⟩ (.int .i64 0) := ⟨_, rfl⟩
  have HRW5 : Hid (Rep W5 b g n nw ct fm F L A (upd B ah 0) E T) := by rw [hW5]; exact HR.out.setB ah ha1 0
  have HOW5 : Hid (Only b g w W5) := by rw [hW5]; exact (Only.refl b g w).set _ _ (Or.inr rfl)
  have HSW5 : Hid (W5.heap.size = w.heap.size) := by rw [hW5]; show _ = _; simp
  have HWW5 := veil hW5
  clear hW5
  go_upto_region 4 with fail
  go_region
  go_upto_region 5 with fail
  rw [← HWW5.out]
  have hs5 := HSW5.out
  have fg5 := HRW5.out.fg
  obtain ⟨cp5, e05⟩ := HRW5.out.en
  have m0 := HRW5.out.ea x hx; have m1 := HRW5.out.eb x hx; have m2 := HRW5.out.ee x hx; have m3 := HRW5.out.et x hx
  clear HWW5 n0' n1' n2 n3 e0 fg c1
  go_wp2
  simp [bodyPost, results, Try.results47, go_sem, hs5]
  exact ⟨(((((((HRW5.out.setA x hx 0).setB x hx 0).setE x hx 0).setT x hx false).alloc _).alloc _).alloc _).drew, ((((((((HOW5.out.set _ _ (Or.inr rfl)).set _ _ (Or.inr rfl)).set _ _ (Or.inr rfl)).set _ _ (Or.inr rfl)).alloc _).alloc _).alloc _)).drew⟩
set_option maxRecDepth 100000 in
set_option maxHeartbeats 2000000 in
theorem untie_11 (h : Rep w b g n nw ct fm F L A B E T) (hx : x ≤ n) (hA : A x = ah) (hB : B x = be) (ha : ah ≠ 0) (ha1 : ah ≤ n) (hax : ah ≠ x) (hb : be ≠ 0) (hb1 : be ≤ n) (hbx : be ≠ x) :
    Calls Try.prog 47 #[.pointer (some ⟨b, 0, none⟩), .agg #[.int .i64 (f : Int), .int .i64 (l : Int)], .int .i64 (x : Int)] w fun e w' =>
      e = .returned (.agg #[.int .i64 (f : Int), .int .i64 (l : Int)]) ∧ Rep w' b g n nw ct fm F L (upd (upd A be ah) x 0) (upd (upd B ah be) x 0) (upd E x 0) (upd T x false) ∧ Only b g w w' := by
  obtain ⟨cp, e0⟩ := h.en
  have n0 := h.ea x hx; have n1 := h.eb x hx; have n2 := h.ee x hx; have n3 := h.et x hx
  rw [hA] at n0
  rw [hB] at n1
  have n0' : w.cell? ⟨g, x * 4, none⟩ = some (.int .i64 (ah : Int)) := n0
  have n1' : w.cell? ⟨g, x * 4 + 1, none⟩ = some (.int .i64 (be : Int)) := n1
  clear n0 n1 hA hB
  have fg := h.fg
  have hbb := h.lt_b
  have hgg := h.lt_g
  have y1 : ¬ b = w.heap.size := by omega
  have y2 : ¬ g = w.heap.size := by omega
  have y3 : ¬ b = w.heap.size + 1 := by omega
  have y4 : ¬ g = w.heap.size + 1 := by omega
  have y5 : b < w.heap.size + 1 := by omega
  have y6 : g < w.heap.size + 1 := by omega
  have y7 : b < w.heap.size + 1 + 1 := by omega
  have y8 : g < w.heap.size + 1 + 1 := by omega
  have xl : x < n + 1 := by omega
  have ha' : ¬ (ah : Int) = 0 := by omega
  have al : ah < n + 1 := by omega
  have c1 := h.eb ah ha1
  have hb' : ¬ (be : Int) = 0 := by omega
  have bl : be < n + 1 := by omega
  have HR := veil h
  clear h
  go_enter Try.func47, Try.ntmps47
  obtain ⟨W5, hW5⟩ : ∃ W5, W5 = w.setCell ⟨g, ah * 4 + 1, none⟩ (.int .i64 (be : Int)) := ⟨_, rfl⟩
  have HRW5 : Hid (Rep W5 b g n nw ct fm F L A (upd B ah be) E T) := by rw [hW5]; exact HR.out.setB ah ha1 be
  have HOW5 : Hid (Only b g w W5) := by rw [hW5]; exact (Only.refl b g w).set _ _ (Or.inr rfl)
  have HSW5 : Hid (W5.heap.size = w.heap.size) := by rw [hW5]; show _ = _; simp
  have HWW5 := veil hW5
  clear hW5
  go_upto_region 4 with fail
  go_region
  go_upto_region 5 with fail
  rw [← HWW5.out]
  have hs5 := HSW5.out
  have fg5 := HRW5.out.fg
  obtain ⟨cp5, e05⟩ := HRW5.out.en
  have m0 := HRW5.out.ea x hx; have m1 := HRW5.out.eb x hx; have m2 := HRW5.out.ee x hx; have m3 := HRW5.out.et x hx
  clear HWW5 n0' n1' n2 n3 e0 fg c1
  obtain ⟨W6, hW6⟩ : ∃ W6, W6 = W5.setCell ⟨g, be * 4, none⟩ (.int .i64 (ah : Int)) := ⟨_, rfl⟩
  have HRW6 : Hid (Rep W6 b g n nw ct fm F L (upd A be ah) (upd B ah be) E T) := by rw [hW6]; exact HRW5.out.setA be hb1 ah
  have HOW6 : Hid (Only b g w W6) := by rw [hW6]; exact HOW5.out.set _ _ (Or.inr rfl)
  have HSW6 : Hid (W6.heap.size = w.heap.size) := by rw [hW6]; show _ = _; simp; exact HSW5.out
  have HWW6 := veil hW6
  clear hW6
  have c0 := HRW5.out.ea be hb1
  go_upto_region 7 with fail
  go_region
  go_upto_region 8 with fail
  rw [← HWW6.out]
  have hs6 := HSW6.out
  have fg6 := HRW6.out.fg
  obtain ⟨cp6, e06⟩ := HRW6.out.en
  have k0 := HRW6.out.ea x hx; have k1 := HRW6.out.eb x hx; have k2 := HRW6.out.ee x hx; have k3 := HRW6.out.et x hx
  clear HWW6 c0 m0 m1 m2 m3 e05 fg5 hs5
  go_wp2
  simp [bodyPost, results, Try.results47, go_sem, hs6]
  exact ⟨(((((((HRW6.out.setA x hx 0).setB x hx 0).setE x hx 0).setT x hx false).alloc _).alloc _).alloc _).drew.drew, ((((((((HOW6.out.set _ _ (Or.inr rfl)).set _ _ (Or.inr rfl)).set _ _ (Or.inr rfl)).set _ _ (Or.inr rfl)).alloc _).alloc _).alloc _)).drew.drew⟩
theorem untie_ok (h : Rep w b g n nw ct fm F L A B E T) (hx : x ≤ n) (hA : A x = ah) (hB : B x = be) (ha1 : ah ≤ n) (hb1 : be ≤ n) (hax : ah ≠ x) (hbx : be ≠ x) :
    Calls Try.prog 47 #[.pointer (some ⟨b, 0, none⟩), .agg #[.int .i64 (f : Int), .int .i64 (l : Int)], .int .i64 (x : Int)] w fun e w' =>
      e = .returned (.agg #[.int .i64 ((if ah = 0 then be else f : Nat) : Int), .int .i64 ((if be = 0 then ah else l : Nat) : Int)]) ∧ Rep w' b g n nw ct fm F L (upd (updz A be ah) x 0) (upd (updz B ah be) x 0) (upd E x 0) (upd T x false) ∧ Only b g w w' := by
  unfold updz
  by_cases ha : ah = 0
  · by_cases hb : be = 0
    · rw [if_pos ha, if_pos hb, if_pos ha, if_pos hb]
      refine (untie_00 h hx hA hB ha hb).mono ?_
      rintro e w' ⟨rfl, q⟩
      subst ha hb
      exact ⟨rfl, q⟩
    · rw [if_pos ha, if_neg hb, if_pos ha, if_neg hb]
      refine (untie_01 h hx hA hB ha hb hb1 hbx).mono ?_
      rintro e w' ⟨rfl, q⟩
      subst ha
      exact ⟨rfl, q⟩
  · by_cases hb : be = 0
    · rw [if_neg ha, if_pos hb, if_neg ha, if_pos hb]
      refine (untie_10 h hx hA hB ha ha1 hax hb).mono ?_
      rintro e w' ⟨rfl, q⟩
      subst hb
      exact ⟨rfl, q⟩
    · rw [if_neg ha, if_neg hb, if_neg ha, if_neg hb]
      exact untie_11 h hx hA hB ha ha1 hax hb hb1 hbx
end
end Go.Proofs.Ytjmbadadelelfaa
