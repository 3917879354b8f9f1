/- siftDownOrdered. -/
import Derived.Test.YtjmbadadelelfaaWf3
namespace Go.Proofs.Ytjmbadadelelfaa
open Go.RowKit
set_option linter.unusedVariables false
set_option linter.unusedSimpArgs false
attribute [local go_sem ↓] Go.wp_at_zero Go.wp_at_succ
def Kid (p c : Nat) : Prop := c = 2 * p + 1 ∨ c = 2 * p + 2
/-- From lo on each is not below its two. -/
def Hp (f hi lo : Nat) (D : Nat → Nat) : Prop := ∀ p c, lo ≤ p → Kid p c → c < hi → D (f + c) ≤ D (f + p)
structure Sift (f hi lo root : Nat) (D : Nat → Nat) : Prop where
  oth : ∀ p c, lo ≤ p → p ≠ root → Kid p c → c < hi → D (f + c) ≤ D (f + p)
  two : ∀ p c, lo ≤ p → Kid p root → Kid root c → c < hi → D (f + c) ≤ D (f + p)
theorem Sift.done {f hi lo root : Nat} {D : Nat → Nat} (h : Sift f hi lo root D) (hd : hi ≤ 2 * root + 1 ∨ ∃ c, Kid root c ∧ (∀ c', Kid root c' → c' < hi → D (f + c') ≤ D (f + c)) ∧ ¬ D (f + root) < D (f + c)) : Hp f hi lo D := by
  intro p c h1 h2 h3
  by_cases e : p = root
  · subst e
    rcases hd with q | ⟨c1, q1, q2, q3⟩
    · unfold Kid at h2; omega
    · have := q2 c h2 h3; omega
  · exact h.oth p c h1 e h2 h3
theorem Sift.step {f hi lo root k : Nat} {D : Nat → Nat} (h : Sift f hi lo root D) (hk : Kid root k) (hkh : k < hi) (hlt : D (f + root) < D (f + k)) (hmx : ∀ c, Kid root c → c < hi → D (f + c) ≤ D (f + k)) (hlo : lo ≤ root) {u v : Nat} (huv : u = f + root ∧ v = f + k) : Sift f hi lo k (sw D u v) := by
  obtain ⟨rfl, rfl⟩ := huv
  have hrk : root < k := by unfold Kid at hk; omega
  have e1 : sw D (f + root) (f + k) (f + root) = D (f + k) := by rw [sw_at, if_neg (by omega), if_pos rfl]
  have e2 : sw D (f + root) (f + k) (f + k) = D (f + root) := by rw [sw_at, if_pos rfl]
  have e3 : ∀ x, x ≠ root → x ≠ k → sw D (f + root) (f + k) (f + x) = D (f + x) := fun x q1 q2 => by rw [sw_at, if_neg (by omega), if_neg (by omega)]
  constructor
  · intro p c h1 h2 h3 h4
    by_cases p1 : p = root
    · subst p1
      rw [e1]
      by_cases c1 : c = k
      · rw [c1, e2]; omega
      · rw [e3 c (by unfold Kid at h3; omega) c1]; exact hmx c h3 h4
    · rw [e3 p p1 h2]
      by_cases c1 : c = root
      · subst c1; rw [e1]; exact h.two p k h1 h3 hk hkh
      · have c2 : c ≠ k := fun e => by subst e; unfold Kid at h3 hk; omega
        rw [e3 c c1 c2]; exact h.oth p c h1 p1 h3 h4
  · intro p c h1 h2 h3 h4
    have : p = root := by unfold Kid at h2 hk; omega
    subst this
    rw [e1, e3 c (by unfold Kid at h3; omega) (by unfold Kid at h3; omega)]
    exact h.oth k c (by omega) (by omega) h3 h4
set_option maxRecDepth 100000 in
set_option maxHeartbeats 8000000 in
theorem sift_ok (W : World) (r cap n : Nat) (D : Nat → Nat) (lo hi f : Nat) (h : RowU W r cap n D) (hf : f + hi ≤ n) (hn : n ≤ 100000) (hlh : lo < hi ∨ lo ≤ n) (hs : Sift f hi lo lo D) :
    Calls Try.prog 77 #[.slice (some ⟨r, 0, none⟩) n cap, .int .i64 (lo : Int), .int .i64 (hi : Int), .int .i64 (f : Int)] W fun e w' => e = .returned (.tuple #[]) ∧ ∃ D', RowU w' r cap n D' ∧ Prm f (f + hi) D D' ∧ Hp f hi lo D' ∧ Fr (fun k => k = r) W w' := by
  have HL := veil (fun x y W => less_ok x y W)
  have H0 := veil h
  have HS0 := veil hs
  clear h hs
  go_enter Try.func77, Try.ntmps77
  go_wp2
  go_loopw [8] (fun rv wr => ∃ (root : Nat) (D' : Nat → Nat), lo ≤ root ∧ root ≤ 200000 ∧ rv = .int .i64 (root : Int) ∧ RowU wr r cap n D' ∧ Prm f (f + hi) D D' ∧ Sift f hi lo root D' ∧ Fr (fun k => k = r) W wr) (fun rv _ => hi + 200000 - (intOf rv).toNat)
  case atStart => exact ⟨lo, D, by omega, by omega, rfl, H0.out, Prm.refl _ _ _, HS0.out, Fr.refl _ _⟩
  case round =>
    obtain ⟨root, D1, hlo, hroot, rfl, hrow, hprm, hsi, hfr⟩ := hrel
    clear H0 HS0
    obtain ⟨c, hc⟩ : ∃ c : Nat, 2 * (root : Int) + 1 = (c : Int) := ⟨2 * root + 1, by omega⟩
    by_cases hch : hi ≤ c
    · have hch' : (hi : Int) ≤ (c : Int) := by omega
      have HE := veil (And.intro hrow (And.intro hprm (And.intro (hsi.done (.inl (by omega))) hfr)))
      clear hrow hprm hsi hfr
      go_wp2
      go_end0
      exact ⟨rfl, D1, HE.out⟩
    · have hch' : ¬ (hi : Int) ≤ (c : Int) := by omega
      obtain ⟨u, hu⟩ : ∃ u : Nat, (f : Int) + (root : Int) = (u : Int) := ⟨f + root, by omega⟩
      obtain ⟨v, hv⟩ : ∃ v : Nat, (f : Int) + (c : Int) = (v : Int) := ⟨f + c, by omega⟩
      have cu := hrow.cell u (by omega)
      have cv := hrow.cell v (by omega)
      have fz := hrow.frozen
      have hlts := hrow.lt
      have ku : (u : Int) < (n : Int) := by omega
      have kv : (v : Int) < (n : Int) := by omega
      have hw_u : IntKind.i64.wrap (u : Int) = (u : Int) := by simp [IntKind.wrap, IntKind.bits, IntKind.signed]; omega
      have hw_v : IntKind.i64.wrap (v : Int) = (v : Int) := by simp [IntKind.wrap, IntKind.bits, IntKind.signed]; omega
      have HRw := veil hrow
      have HPr := veil hprm
      have HFr := veil hfr
      have HSI := veil hsi
      by_cases hc1 : c + 1 < hi
      · obtain ⟨c1, hcc⟩ : ∃ c1 : Nat, (c : Int) + 1 = (c1 : Int) := ⟨c + 1, by omega⟩
        obtain ⟨v1, hvv⟩ : ∃ v1 : Nat, (v : Int) + 1 = (v1 : Int) := ⟨v + 1, by omega⟩
        have hfc : (f : Int) + (c1 : Int) = (v1 : Int) := by omega
        have cv1 := hrow.cell v1 (by omega)
        have kv1 : (v1 : Int) < (n : Int) := by omega
        have kc1 : (c1 : Int) < (hi : Int) := by omega
        have hw_c1 : IntKind.i64.wrap (c1 : Int) = (c1 : Int) := by simp [IntKind.wrap, IntKind.bits, IntKind.signed]; omega
        have hw_v1 : IntKind.i64.wrap (v1 : Int) = (v1 : Int) := by simp [IntKind.wrap, IntKind.bits, IntKind.signed]; omega
        have kd1 : decide ((c1 : Int) < (hi : Int)) = true := decide_eq_true kc1
        have HLs1 := veil (fun W => HL.out (D1 v : Int) (D1 v1 : Int) W)
        clear hrow hprm hfr hsi
        by_cases hlv : D1 v < D1 v1
        · have hlv' : decide ((D1 v : Int) < (D1 v1 : Int)) = true := by simp; omega
          rw [hlv'] at HLs1
          have HMX : Hid (∀ x, Kid root x → x < hi → D1 (f + x) ≤ D1 (f + c1)) := fun x hx _ => by
            have : x = c ∨ x = c1 := by unfold Kid at hx; omega
            rcases this with e | e
            · rw [show f + x = v by omega, show f + c1 = v1 by omega]; omega
            · rw [e]; exact Nat.le_refl _
          have HLs2 := veil (fun W => HL.out (D1 u : Int) (D1 v1 : Int) W)
          by_cases hlt : D1 u < D1 v1
          · have hlt' : decide ((D1 u : Int) < (D1 v1 : Int)) = true := by simp; omega
            rw [hlt'] at HLs2
            have HST : Hid (Sift f hi lo c1 (sw D1 u v1)) := HSI.out.step (by unfold Kid; omega) (by omega) (by show D1 (f + root) < D1 (f + c1); rw [show f + root = u by omega, show f + c1 = v1 by omega]; exact hlt) HMX.out (by omega) (by omega)
            go_wp2
            go_region_held3 (fun w' => w'.cell? ⟨r, v, none⟩ = some (.int .u64 (D1 v : Int)) ∧ w'.cell? ⟨r, v1, none⟩ = some (.int .u64 (D1 v1 : Int))) (go_keep)
              (first | (go_at_call 72; refine (HLs1.out _).mono ?_; rintro e w1 ⟨rfl, hw⟩; subst hw))
            go_wp2
            go_region_held3 (fun w' => w'.cell? ⟨r, u, none⟩ = some (.int .u64 (D1 u : Int)) ∧ w'.cell? ⟨r, v1, none⟩ = some (.int .u64 (D1 v1 : Int))) (go_keep)
              (first | (go_at_call 72; refine (HLs2.out _).mono ?_; rintro e w1 ⟨rfl, hw⟩; subst hw))
            go_wp2
            go_region
            go_wp2
            go_roundw
            case rel =>
              refine ⟨c1, sw D1 u v1, by omega, by omega, rfl, ?_, HPr.out.trans (Prm.swap (by omega) (by omega)), HST.out, ?_⟩
              · exact RowU.kept (HRw.out.swap u v1 (by omega) (by omega)) rfl
              · exact ((HFr.out.setCell (a := ⟨r, u, none⟩) rfl _).setCell (a := ⟨r, v1, none⟩) rfl _).drew.drew.drew
            case measure => simp [intOf]; omega
          · have hlt' : decide ((D1 u : Int) < (D1 v1 : Int)) = false := by simp; omega
            rw [hlt'] at HLs2
            have HDN : Hid (Hp f hi lo D1) := HSI.out.done (.inr ⟨c1, by unfold Kid; omega, HMX.out, by show ¬ D1 (f + root) < D1 (f + c1); rw [show f + root = u by omega, show f + c1 = v1 by omega]; exact hlt⟩)
            go_wp2
            go_region_held3 (fun w' => w'.cell? ⟨r, v, none⟩ = some (.int .u64 (D1 v : Int)) ∧ w'.cell? ⟨r, v1, none⟩ = some (.int .u64 (D1 v1 : Int))) (go_keep)
              (first | (go_at_call 72; refine (HLs1.out _).mono ?_; rintro e w1 ⟨rfl, hw⟩; subst hw))
            go_wp2
            go_region_held3 (fun w' => w'.cell? ⟨r, u, none⟩ = some (.int .u64 (D1 u : Int)) ∧ w'.cell? ⟨r, v1, none⟩ = some (.int .u64 (D1 v1 : Int))) (go_keep)
              (first | (go_at_call 72; refine (HLs2.out _).mono ?_; rintro e w1 ⟨rfl, hw⟩; subst hw))
            go_wp2
            refine bodyPost_ret (v := .tuple #[]) (by simp [results, Try.results77, go_sem]) rfl ?_
            exact ⟨rfl, D1, HRw.out.kept rfl, HPr.out, HDN.out, HFr.out.drew.drew⟩
        · have hlv' : decide ((D1 v : Int) < (D1 v1 : Int)) = false := by simp; omega
          rw [hlv'] at HLs1
          have HMX : Hid (∀ x, Kid root x → x < hi → D1 (f + x) ≤ D1 (f + c)) := fun x hx _ => by
            have : x = c ∨ x = c1 := by unfold Kid at hx; omega
            rcases this with e | e
            · rw [e]; exact Nat.le_refl _
            · rw [show f + x = v1 by omega, show f + c = v by omega]; omega
          have HLs2 := veil (fun W => HL.out (D1 u : Int) (D1 v : Int) W)
          by_cases hlt : D1 u < D1 v
          · have hlt' : decide ((D1 u : Int) < (D1 v : Int)) = true := by simp; omega
            rw [hlt'] at HLs2
            have HST : Hid (Sift f hi lo c (sw D1 u v)) := HSI.out.step (by unfold Kid; omega) (by omega) (by show D1 (f + root) < D1 (f + c); rw [show f + root = u by omega, show f + c = v by omega]; exact hlt) HMX.out (by omega) (by omega)
            go_wp2
            go_region_held3 (fun w' => w'.cell? ⟨r, v, none⟩ = some (.int .u64 (D1 v : Int)) ∧ w'.cell? ⟨r, v1, none⟩ = some (.int .u64 (D1 v1 : Int))) (go_keep)
              (first | (go_at_call 72; refine (HLs1.out _).mono ?_; rintro e w1 ⟨rfl, hw⟩; subst hw))
            go_wp2
            go_region_held3 (fun w' => w'.cell? ⟨r, u, none⟩ = some (.int .u64 (D1 u : Int)) ∧ w'.cell? ⟨r, v, none⟩ = some (.int .u64 (D1 v : Int))) (go_keep)
              (first | (go_at_call 72; refine (HLs2.out _).mono ?_; rintro e w1 ⟨rfl, hw⟩; subst hw))
            go_wp2
            go_region
            go_wp2
            go_roundw
            case rel =>
              refine ⟨c, sw D1 u v, by omega, by omega, rfl, ?_, HPr.out.trans (Prm.swap (by omega) (by omega)), HST.out, ?_⟩
              · exact RowU.kept (HRw.out.swap u v (by omega) (by omega)) rfl
              · exact ((HFr.out.setCell (a := ⟨r, u, none⟩) rfl _).setCell (a := ⟨r, v, none⟩) rfl _).drew.drew.drew
            case measure => simp [intOf]; omega
          · have hlt' : decide ((D1 u : Int) < (D1 v : Int)) = false := by simp; omega
            rw [hlt'] at HLs2
            have HDN : Hid (Hp f hi lo D1) := HSI.out.done (.inr ⟨c, by unfold Kid; omega, HMX.out, by show ¬ D1 (f + root) < D1 (f + c); rw [show f + root = u by omega, show f + c = v by omega]; exact hlt⟩)
            go_wp2
            go_region_held3 (fun w' => w'.cell? ⟨r, v, none⟩ = some (.int .u64 (D1 v : Int)) ∧ w'.cell? ⟨r, v1, none⟩ = some (.int .u64 (D1 v1 : Int))) (go_keep)
              (first | (go_at_call 72; refine (HLs1.out _).mono ?_; rintro e w1 ⟨rfl, hw⟩; subst hw))
            go_wp2
            go_region_held3 (fun w' => w'.cell? ⟨r, u, none⟩ = some (.int .u64 (D1 u : Int)) ∧ w'.cell? ⟨r, v, none⟩ = some (.int .u64 (D1 v : Int))) (go_keep)
              (first | (go_at_call 72; refine (HLs2.out _).mono ?_; rintro e w1 ⟨rfl, hw⟩; subst hw))
            go_wp2
            refine bodyPost_ret (v := .tuple #[]) (by simp [results, Try.results77, go_sem]) rfl ?_
            exact ⟨rfl, D1, HRw.out.kept rfl, HPr.out, HDN.out, HFr.out.drew.drew⟩
      · obtain ⟨c1, hcc⟩ : ∃ c1 : Nat, (c : Int) + 1 = (c1 : Int) := ⟨c + 1, by omega⟩
        have kc1 : ¬ (c1 : Int) < (hi : Int) := by omega
        have kn1 : ¬ c1 < hi := by omega
        have hw_c1 : IntKind.i64.wrap (c1 : Int) = (c1 : Int) := by simp [IntKind.wrap, IntKind.bits, IntKind.signed]; omega
        have HMX : Hid (∀ x, Kid root x → x < hi → D1 (f + x) ≤ D1 (f + c)) := fun x hx hxh => by
          have : x = c := by unfold Kid at hx; omega
          rw [this]; exact Nat.le_refl _
        clear hrow hprm hfr hsi
        have HLs2 := veil (fun W => HL.out (D1 u : Int) (D1 v : Int) W)
        by_cases hlt : D1 u < D1 v
        · have hlt' : decide ((D1 u : Int) < (D1 v : Int)) = true := by simp; omega
          rw [hlt'] at HLs2
          have HST : Hid (Sift f hi lo c (sw D1 u v)) := HSI.out.step (by unfold Kid; omega) (by omega) (by show D1 (f + root) < D1 (f + c); rw [show f + root = u by omega, show f + c = v by omega]; exact hlt) HMX.out (by omega) (by omega)
          go_wp2
          go_quiet (fail)
          go_wp2
          go_region_held3 (fun w' => w'.cell? ⟨r, u, none⟩ = some (.int .u64 (D1 u : Int)) ∧ w'.cell? ⟨r, v, none⟩ = some (.int .u64 (D1 v : Int))) (go_keep)
            (first | (go_at_call 72; refine (HLs2.out _).mono ?_; rintro e w1 ⟨rfl, hw⟩; subst hw))
          go_wp2
          go_region
          go_wp2
          go_roundw
          case rel =>
            refine ⟨c, sw D1 u v, by omega, by omega, rfl, ?_, HPr.out.trans (Prm.swap (by omega) (by omega)), HST.out, ?_⟩
            · exact RowU.kept (HRw.out.swap u v (by omega) (by omega)) rfl
            · exact (((HFr.out.setCell (a := ⟨r, u, none⟩) rfl _).setCell (a := ⟨r, v, none⟩) rfl _).drewN _).drew.drew
          case measure => simp [intOf]; omega
        · have hlt' : decide ((D1 u : Int) < (D1 v : Int)) = false := by simp; omega
          rw [hlt'] at HLs2
          have HDN : Hid (Hp f hi lo D1) := HSI.out.done (.inr ⟨c, by unfold Kid; omega, HMX.out, by show ¬ D1 (f + root) < D1 (f + c); rw [show f + root = u by omega, show f + c = v by omega]; exact hlt⟩)
          go_wp2
          go_quiet (fail)
          go_wp2
          go_region_held3 (fun w' => w'.cell? ⟨r, u, none⟩ = some (.int .u64 (D1 u : Int)) ∧ w'.cell? ⟨r, v, none⟩ = some (.int .u64 (D1 v : Int))) (go_keep)
            (first | (go_at_call 72; refine (HLs2.out _).mono ?_; rintro e w1 ⟨rfl, hw⟩; subst hw))
          go_wp2
          refine bodyPost_ret (v := .tuple #[]) (by simp [results, Try.results77, go_sem]) rfl ?_
          exact ⟨rfl, D1, HRw.out.kept rfl, HPr.out, HDN.out, (HFr.out.drewN _).drew⟩
end Go.Proofs.Ytjmbadadelelfaa
