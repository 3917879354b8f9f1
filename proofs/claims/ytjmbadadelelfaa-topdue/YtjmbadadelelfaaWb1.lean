/- slices.Sort of at most twelve times. -/
import Derived.Test.YtjmbadadelelfaaWa9
namespace Go.Proofs.Ytjmbadadelelfaa
open Go.RowKit
set_option linter.unusedVariables false
set_option linter.unusedSimpArgs false
attribute [local go_sem ↓] Go.wp_at_zero Go.wp_at_succ
/-- Block r holds the numbers D. -/
def RowU (W : World) (r cap n : Nat) (D : Nat → Nat) : Prop := ∃ cur : Array Value, W.heap[r]? = some (.cells cur 30 (0, 0)) ∧ cur.size = cap ∧ ∀ j, j < n → cur[j]? = some (.int .u64 (D j : Int))
def swp (D : Nat → Nat) (j : Nat) : Nat → Nat := upd (upd D j (D (j - 1))) (j - 1) (D j)
section
variable {W W' : World} {r cap n : Nat} {D D' : Nat → Nat}
theorem RowU.lt (h : RowU W r cap n D) : r < W.heap.size := by obtain ⟨cur, h1, _⟩ := h; exact (Array.getElem?_eq_some_iff.1 h1).1
theorem RowU.cell (h : RowU W r cap n D) (j : Nat) (hj : j < n) : W.cell? ⟨r, j, none⟩ = some (.int .u64 (D j : Int)) := by
  obtain ⟨cur, h1, _, h3⟩ := h
  unfold World.cell?
  simp only [h1]
  simpa using h3 j hj
theorem RowU.frozen (h : RowU W r cap n D) (j : Nat) : W.frozen? ⟨r, j, none⟩ = false := by
  obtain ⟨cur, h1, _⟩ := h
  unfold World.frozen?
  simp only [h1]
  simp
theorem RowU.kept (h : RowU W r cap n D) (hb : W'.heap[r]? = W.heap[r]?) : RowU W' r cap n D := by
  obtain ⟨cur, h1, h2⟩ := h
  exact ⟨cur, by rw [hb]; exact h1, h2⟩
theorem RowU.set (h : RowU W r cap n D) (j v : Nat) (hj : j < n) : RowU (W.setCell ⟨r, j, none⟩ (.int .u64 (v : Int))) r cap n (upd D j v) := by
  obtain ⟨cur, h1, h2, h3⟩ := h
  refine ⟨_, Go.Joins.block_setCell h1 _, by simpa using h2, fun k hk => ?_⟩
  have hjc : j < cur.size := by
    have := h3 j hj
    exact (Array.getElem?_eq_some_iff.1 this).1
  by_cases e : k = j
  · subst e
    rw [upd_same, Array.getElem?_setIfInBounds_self_of_lt hjc]
  · rw [upd_other _ _ _ _ e, Array.getElem?_setIfInBounds_ne (fun q => e q.symm)]
    exact h3 k hk
end
/-- Sorted but for the one at j, which is below all behind it. -/
structure Half (n i j : Nat) (D0 D : Nat → Nat) : Prop where
  inj : ∀ a c, a < n → c < n → D a = D c → a = c
  mem : ∀ v, (∃ a, a < n ∧ D a = v) ↔ ∃ a, a < n ∧ D0 a = v
  srt : ∀ a c, a < c → c ≤ i → a ≠ j → c ≠ j → D a < D c
  low : ∀ c, j < c → c ≤ i → D j < D c
theorem Half.step {n i j : Nat} {D0 D : Nat → Nat} (h : Half n i j D0 D) (hi : i < n) (hj : 0 < j) (hji : j ≤ i) (hlt : D j < D (j - 1)) : Half n i (j - 1) D0 (swp D j) := by
  have e1 : swp D j (j - 1) = D j := upd_same _ _ _
  have e2 : swp D j j = D (j - 1) := by unfold swp; rw [upd_other _ _ _ _ (by omega), upd_same]
  have e3 : ∀ a, a ≠ j → a ≠ j - 1 → swp D j a = D a := fun a h1 h2 => by unfold swp; rw [upd_other _ _ _ _ h2, upd_other _ _ _ _ h1]
  have hcase : ∀ a, a = j ∨ a = j - 1 ∨ (a ≠ j ∧ a ≠ j - 1) := fun a => by omega
  refine ⟨fun a c ha hc e => ?_, fun v => ?_, fun a c hac hci ha hc => ?_, fun c hc hci => ?_⟩
  · rcases hcase a with rfl | rfl | ⟨a1, a2⟩ <;> rcases hcase c with rfl | rfl | ⟨c1, c2⟩
    · rfl
    · rw [e1, e2] at e; have := h.inj _ _ hc ha e; omega
    · rw [e2, e3 c c1 c2] at e; have := h.inj _ _ (by omega) hc e; omega
    · rw [e1, e2] at e; have := h.inj _ _ hc ha e; omega
    · rfl
    · rw [e1, e3 c c1 c2] at e; have := h.inj _ _ (by omega) hc e; omega
    · rw [e2, e3 a a1 a2] at e; have := h.inj _ _ ha (by omega) e; omega
    · rw [e1, e3 a a1 a2] at e; have := h.inj _ _ ha (by omega) e; omega
    · rw [e3 a a1 a2, e3 c c1 c2] at e; exact h.inj _ _ ha hc e
  · rw [← h.mem v]
    constructor
    · rintro ⟨a, ha, e⟩
      rcases hcase a with rfl | rfl | ⟨a1, a2⟩
      · exact ⟨a - 1, by omega, by rw [← e, e2]⟩
      · exact ⟨j, by omega, by rw [← e, e1]⟩
      · exact ⟨a, ha, by rw [← e, e3 a a1 a2]⟩
    · rintro ⟨a, ha, e⟩
      rcases hcase a with rfl | rfl | ⟨a1, a2⟩
      · exact ⟨a - 1, by omega, by rw [← e]; exact e1⟩
      · exact ⟨j, by omega, by rw [← e, e2]⟩
      · exact ⟨a, ha, by rw [← e, e3 a a1 a2]⟩
  · rcases hcase a with rfl | q | ⟨a1, a2⟩
    · rw [e2, e3 c (by omega) (by omega)]; exact h.srt _ _ (by omega) hci (by omega) (by omega)
    · exact absurd q ha
    · rcases hcase c with rfl | q | ⟨c1, c2⟩
      · rw [e2, e3 a a1 a2]; exact h.srt _ _ (by omega) (by omega) a1 (by omega)
      · exact absurd q hc
      · rw [e3 a a1 a2, e3 c c1 c2]; exact h.srt _ _ hac hci a1 c1
  · rw [e1]
    by_cases e : c = j
    · subst e; rw [e2]; exact hlt
    · rw [e3 c e (by omega)]; exact h.low c (by omega) hci
theorem Half.done {n i j : Nat} {D0 D : Nat → Nat} (h : Half n i j D0 D) (hi : i < n) (hji : j ≤ i) (hj : j = 0 ∨ ¬ D j < D (j - 1)) : ∀ a c, a < c → c ≤ i → D a < D c := by
  intro a c hac hci
  by_cases h1 : a = j
  · subst h1; exact h.low c hac hci
  · by_cases h2 : c = j
    · subst h2
      rcases hj with q | q
      · omega
      · have hne : D (c - 1) ≠ D c := fun e => by have := h.inj _ _ (by omega) (by omega) e; omega
        by_cases h3 : a = c - 1
        · subst h3; omega
        · have := h.srt a (c - 1) (by omega) (by omega) h1 (by omega); omega
    · exact h.srt a c hac hci h1 h2
theorem isNaN_ok (x : Int) (W : World) : Calls Try.prog 82 #[.int .u64 x] W fun e w' => e = .returned (.bool false) ∧ w' = W := by
  go_enter Try.func82, Try.ntmps82
  go_wp2
  go_ret
  exact ⟨by simp, rfl⟩
theorem less_ok (x y : Int) (W : World) : Calls Try.prog 72 #[.int .u64 x, .int .u64 y] W fun e w' => e = .returned (.bool (decide (x < y))) ∧ w' = W := by
  have H := veil (fun x W => isNaN_ok x W)
  go_enter Try.func72, Try.ntmps72
  go_wp2_with (first
    | (go_at_call 82; refine (H.out _ _).mono ?_; rintro e w1 ⟨rfl, hw⟩; subst hw))
  go_ret
  exact ⟨rfl, rfl⟩
set_option maxRecDepth 100000 in
set_option maxHeartbeats 4000000 in
theorem insertion_ok (W : World) (r cap n : Nat) (D : Nat → Nat) (h : RowU W r cap n D) (hn : n ≤ 100000) (hinj : ∀ a c, a < n → c < n → D a = D c → a = c) :
    Calls Try.prog 66 #[.slice (some ⟨r, 0, none⟩) n cap, .int .i64 0, .int .i64 (n : Int)] W fun e w' => e = .returned (.tuple #[]) ∧ ∃ D', RowU w' r cap n D' ∧ (∀ v, (∃ a, a < n ∧ D' a = v) ↔ ∃ a, a < n ∧ D a = v) ∧ (∀ a c, a < c → c < n → D' a < D' c) ∧ Fr (fun k => k = r) W w' := by
  have HL := veil (fun x y W => less_ok x y W)
  have HI0 := veil hinj
  have H0 := veil h
  clear h hinj
  go_enter Try.func66, Try.ntmps66
  go_wp2
  go_loopw [6] (fun iv wr => ∃ (i : Nat) (D' : Nat → Nat), 1 ≤ i ∧ (i ≤ n ∨ i = 1) ∧ iv = .int .i64 (i : Int) ∧ RowU wr r cap n D' ∧ (∀ a c, a < n → c < n → D' a = D' c → a = c) ∧ (∀ v, (∃ a, a < n ∧ D' a = v) ↔ ∃ a, a < n ∧ D a = v) ∧ (∀ a c, a < c → c < i → c < n → D' a < D' c) ∧ Fr (fun k => k = r) W wr) (fun iv _ => n - (intOf iv).toNat)
  case atStart => exact ⟨1, D, by omega, .inr rfl, rfl, H0.out, HI0.out, fun v => Iff.rfl, fun a c h1 h2 _ => by omega, Fr.refl _ _⟩
  case round =>
    obtain ⟨i, D1, h1, h2, rfl, hrow, hinj, hmem, hsrt, hfr⟩ := hrel
    by_cases hin : i < n
    · have hin' : (i : Int) < (n : Int) := by omega
      have HF0 := veil hfr
      have HH : Hid (Half n i i D D1) := ⟨hinj, hmem, fun a c hac hci ha hc => hsrt a c hac (by omega) (by omega), fun c hc hci => by omega⟩
      have HRw := veil hrow
      clear hrow hinj hmem hsrt hfr H0 HI0
      go_wp2
      go_loopw [7] (fun jv wq => ∃ (j : Nat) (D2 : Nat → Nat), j ≤ i ∧ jv = .int .i64 (j : Int) ∧ RowU wq r cap n D2 ∧ Half n i j D D2 ∧ Fr (fun k => k = r) W wq) (fun jv _ => (intOf jv).toNat)
      case atStart => exact ⟨i, D1, by omega, rfl, HRw.out, HH.out, HF0.out⟩
      case round =>
        obtain ⟨j, D2, hji, rfl, hrow, hh, hfr⟩ := hrel
        clear HRw HH HF0
        by_cases hj0 : j = 0
        · subst hj0
          have hd := hh.done hin hji (.inl rfl)
          have HD := veil hd
          have HRw := veil hrow
          have HHf := veil hh
          have HFr := veil hfr
          clear hd hh hfr
          go_wp2
          go_quiet (fail)
          go_wp2
          go_roundw
          case rel => exact ⟨i + 1, D2, by omega, .inl (by omega), by go_num, HRw.out.kept rfl, HHf.out.inj, HHf.out.mem, fun a c q1 q2 q3 => HD.out a c q1 (by omega), HFr.out.drewN _⟩
          case measure => simp [intOf]; omega
        · obtain ⟨k, rfl⟩ : ∃ k, j = k + 1 := ⟨j - 1, by omega⟩
          have c1 := hrow.cell (k + 1) (by omega)
          have c0 := hrow.cell k (by omega)
          have fz := hrow.frozen
          have hjv : ((k + 1 : Nat) : Int) = (k : Int) + 1 := by omega
          rw [hjv]
          have hk1 : k + 1 < n := by omega
          have hk0 : k < n := by omega
          have hkb : k ≤ 100000 := by omega
          have hg0 : decide (0 < (k : Int) + 1) = true := decide_eq_true (by omega)
          have hx1 : (k : Int) + 1 < (n : Int) := by omega
          have hx0 : (k : Int) < (n : Int) := by omega
          have hx2 : (0 : Int) ≤ (k : Int) + 1 := by omega
          have hx3 : (0 : Int) ≤ (k : Int) := by omega
          have hx4 : ((k : Int) + 1).toNat = k + 1 := by omega
          have hx5 : IntKind.i64.wrap ((k : Int) + 1 - 1) = (k : Int) := by simp [IntKind.wrap, IntKind.bits, IntKind.signed]; omega
          have hx6 : IntKind.i64.wrap (k : Int) = (k : Int) := by simp [IntKind.wrap, IntKind.bits, IntKind.signed]; omega
          have hdn := fun q => hh.done hin hji (.inr q)
          have hst := fun q => hh.step hin (by omega) hji q
          have HDN := veil hdn
          have HST := veil hst
          have HRw := veil hrow
          have HHf := veil hh
          have HFr := veil hfr
          have HLs := veil (fun W => HL.out (D2 (k + 1) : Int) (D2 k : Int) W)
          have hlts := hrow.lt
          clear hdn hst hh hfr hj0 hjv HL hrow
          by_cases hlt : D2 (k + 1) < D2 k
          · have hlt' : decide ((D2 (k + 1) : Int) < (D2 k : Int)) = true := by simp; omega
            rw [hlt'] at HLs
            go_wp2
            go_region_held3 (fun w' => w'.cell? ⟨r, k + 1, none⟩ = some (.int .u64 (D2 (k + 1) : Int)) ∧ w'.cell? ⟨r, k, none⟩ = some (.int .u64 (D2 k : Int))) (go_keep)
              (first
                | (go_at_call 72; refine (HLs.out _).mono ?_; rintro e w1 ⟨rfl, hw⟩; subst hw))
            go_wp2
            go_region
            go_wp2
            go_roundw
            case rel =>
              refine ⟨k, swp D2 (k + 1), by omega, rfl, ?_, HST.out (by simpa using hlt), ?_⟩
              · exact RowU.kept ((HRw.out.set (k + 1) (D2 k) (by omega)).set k (D2 (k + 1)) (by omega)) rfl
              · exact (((HFr.out.setCell (a := ⟨r, k + 1, none⟩) rfl _).setCell (a := ⟨r, k, none⟩) rfl _).drew).drew
            case measure => simp [intOf]
          · have hlt' : decide ((D2 (k + 1) : Int) < (D2 k : Int)) = false := by simp; omega
            rw [hlt'] at HLs
            have HD := veil (HDN.out (by simpa using hlt))
            go_wp2
            go_region_held3 (fun w' => w'.cell? ⟨r, k + 1, none⟩ = some (.int .u64 (D2 (k + 1) : Int)) ∧ w'.cell? ⟨r, k, none⟩ = some (.int .u64 (D2 k : Int))) (go_keep)
              (first
                | (go_at_call 72; refine (HLs.out _).mono ?_; rintro e w1 ⟨rfl, hw⟩; subst hw))
            go_wp2
            go_roundw
            case rel => exact ⟨i + 1, D2, by omega, .inl (by omega), by go_num, HRw.out.kept rfl, HHf.out.inj, HHf.out.mem, fun a c q1 q2 q3 => HD.out a c q1 (by omega), HFr.out.drew⟩
            case measure => simp [intOf]; omega
    · have hin' : ¬ (i : Int) < (n : Int) := by omega
      have HE := veil (And.intro hrow (And.intro hmem (And.intro (fun a c (q1 : a < c) (q2 : c < n) => hsrt a c q1 (by omega) q2) hfr)))
      clear hrow hinj hmem hsrt hfr H0 HI0
      go_wp2
      go_end0
      exact ⟨rfl, D1, HE.out⟩
set_option maxRecDepth 100000 in
set_option maxHeartbeats 4000000 in
theorem pdq_ok (W : World) (r cap n : Nat) (D : Nat → Nat) (q : Int) (h : RowU W r cap n D) (hn : n ≤ 12) (hinj : ∀ a c, a < n → c < n → D a = D c → a = c) :
    Calls Try.prog 63 #[.slice (some ⟨r, 0, none⟩) n cap, .int .i64 0, .int .i64 (n : Int), .int .i64 q] W fun e w' => e = .returned (.tuple #[]) ∧ ∃ D', RowU w' r cap n D' ∧ (∀ v, (∃ a, a < n ∧ D' a = v) ↔ ∃ a, a < n ∧ D a = v) ∧ (∀ a c, a < c → c < n → D' a < D' c) ∧ Fr (fun k => k = r) W w' := by
  have HI := veil (insertion_ok W r cap n D h (by omega) hinj)
  have hn' : (n : Int) ≤ 12 := by omega
  clear h hinj
  go_enter Try.func63, Try.ntmps63
  go_wp2
  go_loopw [1, 2] (fun av bv wr => av = .int .i64 0 ∧ bv = .int .i64 (n : Int) ∧ wr = W) (fun _ _ _ => 0)
  case atStart => exact ⟨rfl, rfl, rfl⟩
  case round =>
    obtain ⟨rfl, rfl, rfl⟩ := hrel
    go_wp2_with (first
      | (go_at_call 66; refine (HI.out).mono ?_; rintro e w1 ⟨rfl, hx⟩; have HX := veil hx; clear hx))
    simp [bodyPost, results, Try.results63, go_sem]
    exact HX.out
/-- What Sort makes of at most m numbers, no two the same. -/
def Sorts (m : Nat) : Prop := ∀ (W : World) (r cap n : Nat) (D : Nat → Nat), RowU W r cap n D → n ≤ m → (∀ a c, a < n → c < n → D a = D c → a = c) →
  Calls Try.prog 58 #[.slice (some ⟨r, 0, none⟩) n cap] W fun e w' => e = .returned (.tuple #[]) ∧ ∃ D', RowU w' r cap n D' ∧ (∀ v, (∃ a, a < n ∧ D' a = v) ↔ ∃ a, a < n ∧ D a = v) ∧ (∀ a c, a < c → c < n → D' a < D' c) ∧ Fr (fun k => k = r) W w'
end Go.Proofs.Ytjmbadadelelfaa
