/- pdqsortOrdered, whole; Sort. -/
import Derived.Test.YtjmbadadelelfaaWf9
namespace Go.Proofs.Ytjmbadadelelfaa
open Go.RowKit
set_option linter.unusedVariables false
set_option linter.unusedSimpArgs false
attribute [local go_sem ↓] Go.wp_at_zero Go.wp_at_succ
/-- What stands outside of a part stands as it should. -/
def Out (a b i j : Nat) (D : Nat → Nat) : Prop := ∀ x y, a ≤ x → x < y → y < b → (x < i ∨ j ≤ y) → D x < D y
section
variable {a b i j m : Nat} {D D' : Nat → Nat}
theorem Out.all (a b : Nat) (D : Nat → Nat) : Out a b a b D := fun x y h1 h2 h3 h4 => by omega
theorem Out.prm (h : Out a b i j D) (hi : a ≤ i) (hj : j ≤ b) (hp : Prm i j D D') : Out a b i j D' := fun x y h1 h2 h3 h4 => by
  by_cases hx : i ≤ x ∧ x < j
  · have hy : j ≤ y := by omega
    rw [hp.out y (.inr hy)]
    exact hp.all (p := fun v => v < D y) (fun z z1 z2 => h z y (by omega) (by omega) h3 (.inr hy)) x hx.1 hx.2
  · by_cases hy : i ≤ y ∧ y < j
    · rw [hp.out x (by omega)]
      exact hp.all (p := fun v => D x < v) (fun z z1 z2 => h x z h1 (by omega) (by omega) (.inl (by omega))) y hy.1 hy.2
    · rw [hp.out x (by omega), hp.out y (by omega)]
      exact h x y h1 h2 h3 h4
theorem Out.done (h : Out a b i j D) (ha : Asn i j D) : Asn a b D := fun x y h1 h2 h3 => by
  by_cases hq : x < i ∨ j ≤ y
  · exact h x y h1 h2 h3 hq
  · exact ha x y (by omega) h2 (by omega)
theorem Fore.prm (h : Fore i j D) (hp : Prm i j D D') : Fore i j D' := by
  by_cases e : i = 0
  · exact .inl e
  · right
    have h := h.resolve_left e
    intro x h1 h2
    rw [hp.out (i - 1) (by omega)]
    exact hp.all (p := fun v => D (i - 1) < v) h x h1 h2
theorem Dif.prm (h : Dif i j D) (hp : Prm i j D D') : Dif i j D' := hp.inj h
theorem Dif.sub (h : Dif i j D) {i' j' : Nat} (h1 : i ≤ i') (h2 : j' ≤ j) : Dif i' j' D := fun x y q1 q2 q3 q4 e => h x y (by omega) (by omega) (by omega) (by omega) e
theorem Fore.left (h : Fore i j D) (hm : m ≤ j) : Fore i m D := by
  rcases h with h | h
  · exact .inl h
  · exact .inr (fun x h1 h2 => h x h1 (by omega))
theorem Res.fore (h : Res i j m D) : Fore (m + 1) j D := .inr (fun x h1 h2 => by
  have := h.hi x (by omega) h2
  simpa using this)
/-- The left side is sorted: the right one is left. -/
theorem Out.toRight (h : Out a b i j D) (hi : a ≤ i) (hj : j ≤ b) (hr : Res i j m D) (hp : Prm i m D D') (hs : Asn i m D') : Out a b (m + 1) j D' := fun x y h1 h2 h3 h4 => by
  have hm := hr.mb
  have ham := hr.am
  have hO := h.prm hi hj (hp.wide (Nat.le_refl _) (Nat.le_of_lt hm))
  by_cases hx : x < i
  · exact hO x y h1 h2 h3 (.inl hx)
  · by_cases hy : j ≤ y
    · exact hO x y h1 h2 h3 (.inr hy)
    · have hxm : x ≤ m := by omega
      by_cases hym : y < m
      · exact hs x y (by omega) h2 hym
      · rw [hp.out y (by omega)]
        by_cases hx2 : x < m
        · refine hp.all (p := fun v => v < D y) (fun z z1 z2 => ?_) x (by omega) hx2
          by_cases e : y = m
          · rw [e]; exact hr.lo z z1 z2
          · have l1 := hr.lo z z1 z2
            have l2 := hr.hi y (by omega) (by omega)
            omega
        · have e : x = m := by omega
          rw [e, hp.out m (by omega)]
          exact hr.hi y (by omega) (by omega)
theorem Out.toLeft (h : Out a b i j D) (hi : a ≤ i) (hj : j ≤ b) (hr : Res i j m D) (hp : Prm (m + 1) j D D') (hs : Asn (m + 1) j D') : Out a b i m D' := fun x y h1 h2 h3 h4 => by
  have hm := hr.mb
  have ham := hr.am
  have hO := h.prm hi hj (hp.wide (by omega) (Nat.le_refl _))
  by_cases hx : x < i
  · exact hO x y h1 h2 h3 (.inl hx)
  · by_cases hy : j ≤ y
    · exact hO x y h1 h2 h3 (.inr hy)
    · have hym : m ≤ y := by omega
      by_cases hxm : m < x
      · exact hs x y (by omega) h2 (by omega)
      · rw [hp.out x (by omega)]
        by_cases e : y = m
        · rw [e, hp.out m (by omega)]
          exact hr.lo x (by omega) (by omega)
        · refine hp.all (p := fun v => D x < v) (fun z z1 z2 => ?_) y (by omega) (by omega)
          by_cases e2 : x = m
          · rw [e2]; exact hr.hi z (by omega) z2
          · have l1 := hr.lo x (by omega) (by omega)
            have l2 := hr.hi z (by omega) z2
            omega
theorem Fore.toRight (hr : Res i j m D) (hp : Prm i m D D') : Fore (m + 1) j D' := .inr (fun x h1 h2 => by
  rw [hp.out x (by omega), show m + 1 - 1 = m by omega, hp.out m (by omega)]
  exact hr.hi x (by omega) h2)
theorem Fore.toLeft (h : Fore i j D) (hr : Res i j m D) (hp : Prm (m + 1) j D D') : Fore i m D' := by
  have hm := hr.mb
  have ham := hr.am
  rcases h with h | h
  · exact .inl h
  · by_cases e : i = 0
    · exact .inl e
    · refine .inr (fun x h1 h2 => ?_)
      rw [hp.out x (by omega), hp.out (i - 1) (by omega)]
      exact h x h1 (by omega)
end
def IsB (s : Value) : Prop := ∃ t : Bool, s = .bool t
/-- What pdqsort leaves. -/
def Srts (W : World) (r cap n : Nat) (D : Nat → Nat) (a b : Nat) (e : Ending) (w' : World) : Prop := e = .returned (.tuple #[]) ∧ ∃ D', RowU w' r cap n D' ∧ Prm a b D D' ∧ Asn a b D' ∧ Fr (fun k => k = r) W w'
/-- What the loop keeps. -/
structure Lp (W wr : World) (r cap n : Nat) (D : Nat → Nat) (a b i j lim : Nat) (D1 : Nat → Nat) : Prop where
  ai : a ≤ i
  ij : i ≤ j
  jb : j ≤ b
  lm : lim ≤ 100
  row : RowU wr r cap n D1
  prm : Prm a b D D1
  out : Out a b i j D1
  dif : Dif i j D1
  fore : Fore i j D1
  fr : Fr (fun k => k = r) W wr
theorem Lp.turn {W wr w' : World} {r cap n : Nat} {D : Nat → Nat} {a b i j lim : Nat} {D1 D2 : Nat → Nat} (h : Lp W wr r cap n D a b i j lim D1) (hp : Prm i j D1 D2) (hrow : RowU w' r cap n D2) (hf : Fr (fun k => k = r) wr w') : Lp W w' r cap n D a b i j lim D2 :=
  ⟨h.ai, h.ij, h.jb, h.lm, hrow, h.prm.trans (hp.wide h.ai h.jb), h.out.prm h.ai h.jb hp, h.dif.prm hp, h.fore.prm hp, h.fr.trans hf⟩
theorem Lp.less {W wr : World} {r cap n : Nat} {D : Nat → Nat} {a b i j lim : Nat} {D1 : Nat → Nat} (h : Lp W wr r cap n D a b i j lim D1) {l : Nat} (hl : l ≤ lim) : Lp W wr r cap n D a b i j l D1 :=
  ⟨h.ai, h.ij, h.jb, by have := h.lm; omega, h.row, h.prm, h.out, h.dif, h.fore, h.fr⟩
theorem Lp.kept {W wr w' : World} {r cap n : Nat} {D : Nat → Nat} {a b i j lim : Nat} {D1 : Nat → Nat} (h : Lp W wr r cap n D a b i j lim D1) (hb : Below wr.heap.size wr w') : Lp W w' r cap n D a b i j lim D1 :=
  ⟨h.ai, h.ij, h.jb, h.lm, h.row.kept (hb.block r h.row.lt), h.prm, h.out, h.dif, h.fore, h.fr.trans (Fr.of_below' hb)⟩
theorem Lp.drew {W wr : World} {r cap n : Nat} {D : Nat → Nat} {a b i j lim : Nat} {D1 : Nat → Nat} (h : Lp W wr r cap n D a b i j lim D1) : Lp W wr.drew r cap n D a b i j lim D1 :=
  ⟨h.ai, h.ij, h.jb, h.lm, h.row.kept rfl, h.prm, h.out, h.dif, h.fore, h.fr.drew⟩
theorem Lp.fin {W wr w' : World} {r cap n : Nat} {D : Nat → Nat} {a b i j lim : Nat} {D1 D2 : Nat → Nat} (h : Lp W wr r cap n D a b i j lim D1) (hp : Prm i j D1 D2) (ha : Asn i j D2) (hrow : RowU w' r cap n D2) (hf : Fr (fun k => k = r) wr w') : Srts W r cap n D a b (.returned (.tuple #[])) w' :=
  ⟨rfl, D2, hrow, h.prm.trans (hp.wide h.ai h.jb), (h.out.prm h.ai h.jb hp).done ha, h.fr.trans hf⟩
theorem Lp.right {W wr w' : World} {r cap n : Nat} {D : Nat → Nat} {a b i j lim m : Nat} {D1 D2 : Nat → Nat} (h : Lp W wr r cap n D a b i j lim D1) (hr : Res i j m D1) (hp : Prm i m D1 D2) (ha : Asn i m D2) (hrow : RowU w' r cap n D2) (hf : Fr (fun k => k = r) wr w') : Lp W w' r cap n D a b (m + 1) j lim D2 :=
  ⟨by have := h.ai; have := hr.am; omega, hr.mb, h.jb, h.lm, hrow, h.prm.trans (hp.wide h.ai (by have := h.jb; have := hr.mb; omega)), h.out.toRight h.ai h.jb hr hp ha, (h.dif.prm (hp.wide (Nat.le_refl _) (Nat.le_of_lt hr.mb))).sub (by have := hr.am; omega) (Nat.le_refl _), Fore.toRight hr hp, h.fr.trans hf⟩
theorem Lp.left {W wr w' : World} {r cap n : Nat} {D : Nat → Nat} {a b i j lim m : Nat} {D1 D2 : Nat → Nat} (h : Lp W wr r cap n D a b i j lim D1) (hr : Res i j m D1) (hp : Prm (m + 1) j D1 D2) (ha : Asn (m + 1) j D2) (hrow : RowU w' r cap n D2) (hf : Fr (fun k => k = r) wr w') : Lp W w' r cap n D a b i m lim D2 :=
  ⟨h.ai, hr.am, by have := h.jb; have := hr.mb; omega, h.lm, hrow, h.prm.trans (hp.wide (by have := h.ai; have := hr.am; omega) h.jb), h.out.toLeft h.ai h.jb hr hp ha, (h.dif.prm (hp.wide (by have := hr.am; omega) (Nat.le_refl _))).sub (Nat.le_refl _) (Nat.le_of_lt hr.mb), h.fore.toLeft hr hp, h.fr.trans hf⟩
set_option maxRecDepth 100000 in
set_option maxHeartbeats 8000000 in
theorem pdq_any : ∀ (k : Nat) (W : World) (r cap n : Nat) (D : Nat → Nat) (a b lim : Nat), b - a ≤ k → RowU W r cap n D → a ≤ b → b ≤ n → n ≤ 100000 → Dif a b D → Fore a b D → lim ≤ 100 →
    Calls Try.prog 63 #[.slice (some ⟨r, 0, none⟩) n cap, .int .i64 (a : Int), .int .i64 (b : Int), .int .i64 (lim : Int)] W fun e w' => Srts W r cap n D a b e w'
  | k, W, r, cap, n, D, a, b, lim, hk, h, hab, hb, hn, hdif, hfore, hlim => by
    have HREC : Hid (∀ (k' : Nat), k' < k → ∀ (W : World) (D : Nat → Nat) (a b lim : Nat), b - a ≤ k' → RowU W r cap n D → a ≤ b → b ≤ n → Dif a b D → Fore a b D → lim ≤ 100 →
      Calls Try.prog 63 #[.slice (some ⟨r, 0, none⟩) n cap, .int .i64 (a : Int), .int .i64 (b : Int), .int .i64 (lim : Int)] W fun e w' => Srts W r cap n D a b e w') := fun k' hk' W D a b lim h1 h2 h3 h4 h5 h6 h7 => pdq_any k' W r cap n D a b lim h1 h2 h3 h4 hn h5 h6 h7
    have HL0 : Hid (Lp W W r cap n D a b a b lim D) := ⟨Nat.le_refl _, hab, Nat.le_refl _, hlim, h, Prm.refl _ _ _, Out.all _ _ _, hdif, hfore, Fr.refl _ _⟩
    clear h hdif hfore
    go_enter Try.func63, Try.ntmps63
    go_wp2
    go_loopw [1, 2, 3, 8, 9] (fun av bv lv pv qv wr => ∃ (i j l : Nat) (p q : Bool) (D1 : Nat → Nat), av = .int .i64 (i : Int) ∧ bv = .int .i64 (j : Int) ∧ lv = .int .i64 (l : Int) ∧ pv = .bool p ∧ qv = .bool q ∧ Lp W wr r cap n D a b i j l D1) (fun av bv _ _ _ _ => (intOf bv - intOf av).toNat)
    case atStart => exact ⟨a, b, lim, true, true, D, rfl, rfl, rfl, rfl, rfl, HL0.out⟩
    case round =>
      obtain ⟨i, j, l, p, q, D1, rfl, rfl, rfl, rfl, rfl, hlp⟩ := hrel
      clear HL0
      have HLp := veil hlp
      have hai := hlp.ai
      have hij := hlp.ij
      have hjb := hlp.jb
      have hlm := hlp.lm
      clear hlp
      obtain ⟨c, hc⟩ : ∃ c : Nat, (j : Int) - (i : Int) = (c : Int) := ⟨j - i, by omega⟩
      by_cases h12 : c ≤ 12
      · have h12' : (c : Int) ≤ 12 := by omega
        have HI := veil (insert_ok wr r cap n D1 i j HLp.out.row (by omega) (by omega) hn HLp.out.dif)
        go_wp2_with (first
          | (go_at_call 66; refine (HI.out).mono ?_; rintro e w1 ⟨rfl, hx⟩; have HX := veil hx; clear hx))
        simp [bodyPost, results, Try.results63, go_sem]
        obtain ⟨D2, g1, g2, g3, g4⟩ := HX.out
        exact HLp.out.fin g2 g3 g1 g4
      · have h12' : ¬ (c : Int) ≤ 12 := by omega
        by_cases hl0 : l = 0
        · have hl0' : (l : Int) = 0 := by omega
          have hl0b : ((l : Int) == 0) = true := by simp [hl0']
          have HI := veil (heap_ok wr r cap n D1 i j HLp.out.row (by omega) (by omega) hn HLp.out.dif)
          go_wp2_with (first
            | (go_at_call 67; refine (HI.out).mono ?_; rintro e w1 ⟨rfl, hx⟩; have HX := veil hx; clear hx))
          simp [bodyPost, results, Try.results63, go_sem]
          obtain ⟨D2, g1, g2, g3, g4⟩ := HX.out
          exact HLp.out.fin g2 g3 g1 g4
        · have hl0' : ¬ (l : Int) = 0 := by omega
          have hl0b : ((l : Int) == 0) = false := by simp [hl0]
          go_upto_if 35 with fail
          go_cut [3] from 36 to 41 (fun s Wc => ∃ (l2 : Nat) (D2 : Nat → Nat), s = .int .i64 (l2 : Int) ∧ Lp W Wc r cap n D a b i j l2 D2)
          case first =>
            have HB := veil (break_ok wr r cap n D1 i j HLp.out.row (by omega) (by omega) hn)
            cases p with
            | true =>
              go_wp2
              go_meet
              exact ⟨l, D1, rfl, HLp.out⟩
            | false =>
              obtain ⟨l1, hl1⟩ : ∃ l1 : Nat, (l : Int) - 1 = (l1 : Int) := ⟨l - 1, by omega⟩
              go_wp2_with (first
                | (go_at_call 68; refine (HB.out).mono ?_; rintro e w1 ⟨rfl, hx⟩; have HX := veil hx; clear hx))
              go_meet
              obtain ⟨D2, g1, g2, g3⟩ := HX.out
              exact ⟨l1, D2, rfl, (HLp.out.turn g2 g1 g3).less (by omega)⟩
          obtain ⟨l2, D2, rfl, hlp⟩ := hcut
          clear HLp hl0 hl0' hl0b hlm
          have HLp := veil hlp
          have hlm := hlp.lm
          have HC := veil (choose_ok wc r cap n D2 i j hlp.row (by omega) (by omega) hn)
          clear hlp
          go_upto_if 50 with (first
            | (go_at_call 69; refine (HC.out).mono ?_; rintro e w1 ⟨p1, q1, rfl, hp1, hp2, hb1⟩; have HL1 := veil (HLp.out.kept hb1); clear hb1))
          go_cut [11, 12] from 51 to 60 (fun s t Wc => ∃ (p2 : Nat) (q2 : Int) (D3 : Nat → Nat), s = .int .i64 (p2 : Int) ∧ t = .int .i64 q2 ∧ i ≤ p2 ∧ p2 < j ∧ Lp W Wc r cap n D a b i j l2 D3)
          case first =>
            by_cases hq2 : q1 = 2
            · subst hq2
              have HV := veil (reverse_ok w1 r cap n D2 i j HL1.out.row (by omega) (by omega) hn)
              obtain ⟨j1, hj1⟩ : ∃ j1 : Nat, (j : Int) - 1 = (j1 : Int) := ⟨j - 1, by omega⟩
              obtain ⟨pi, hpi⟩ : ∃ pi : Nat, (p1 : Int) - (i : Int) = (pi : Int) := ⟨p1 - i, by omega⟩
              obtain ⟨p2, hp2'⟩ : ∃ p2 : Nat, (j1 : Int) - (pi : Int) = (p2 : Int) := ⟨j1 - pi, by omega⟩
              go_wp2_with (first
                | (go_at_call 70; refine (HV.out).mono ?_; rintro e w2 ⟨rfl, hx⟩; have HX := veil hx; clear hx))
              go_meet
              obtain ⟨D3, g1, g2, g3⟩ := HX.out
              exact ⟨p2, _, D3, rfl, rfl, by omega, by omega, HL1.out.turn g2 g1 g3⟩
            · have hqb : (q1 == 2) = false := by simp [hq2]
              go_wp2
              go_meet
              exact ⟨p1, q1, D2, rfl, rfl, hp1, hp2, HL1.out⟩
          obtain ⟨p2, q2, D3, rfl, rfl, hp1', hp2', hlp⟩ := hcut
          clear HLp HL1 HC hp1 hp2
          have HLp := veil hlp
          clear hlp
          go_upto_region 15 with fail
          go_cut [68] from 61 to 68 (fun s Wc => IsB s ∧ Lp W Wc r cap n D a b i j l2 D3)
          case first =>
            cases p <;> cases q <;> go_wp2 <;> go_meet <;> exact ⟨⟨_, rfl⟩, HLp.out⟩
          obtain ⟨⟨t, rfl⟩, hlp⟩ := hcut
          clear HLp
          have HLp := veil hlp
          clear hlp
          go_upto_if 68 with fail
          go_cut [] from 69 to 72 (fun Wc => ∃ D4, Lp W Wc r cap n D a b i j l2 D4)
          case first =>
            cases t with
            | false =>
              go_wp2
              go_meet
              exact ⟨D3, HLp.out⟩
            | true =>
              have HPI := veil (partial_ok _ r cap n D3 i j HLp.out.row (by omega) (by omega) hn HLp.out.dif HLp.out.fore)
              go_wp2_with (first
                | (go_at_call 71; refine (HPI.out).mono ?_; rintro e w2 ⟨t2, D4, rfl, g1, g2, g3, g4⟩; have HG1 := veil g1; have HG2 := veil g2; have HG3 := veil g3; have HG4 := veil g4; clear g1 g2 g3 g4))
              · have g3 := HG3.out (by first | rfl | assumption)
                simp [bodyPost, results, Try.results63, go_sem]
                exact HLp.out.fin HG2.out g3 HG1.out HG4.out
              · go_meet
                exact ⟨D4, HLp.out.turn HG2.out HG1.out HG4.out⟩
          obtain ⟨D4, hlp⟩ := hcut
          clear HLp
          have HLp := veil hlp
          clear hlp
          go_upto_region 17 with fail
          rename_i wc4 _
          go_cut [87] from 73 to 87 (fun s Wc => s = .bool false ∧ Lp W Wc r cap n D a b i j l2 D4)
          case first =>
            have HL := veil (fun x y W => less_ok x y W)
            by_cases hi0 : i = 0
            · have hi0' : ¬ (0 : Int) < (i : Int) := by omega
              have hi0d : decide ((0 : Int) < (i : Int)) = false := by simp [hi0]
              have hi0n : decide (0 < i) = false := by simp [hi0]
              clear hi0
              go_quiet (fail)
              go_wp2
              go_meet
              first | exact ⟨rfl, HLp.out⟩ | exact ⟨rfl, HLp.out.drew⟩ | exact ⟨rfl, HLp.out.kept (below_drewN (Below.refl _ _) _)⟩ | exact ⟨rfl, HLp.out.kept (below_post (Below.refl _ _) rfl rfl rfl rfl)⟩
            · have hi0' : (0 : Int) < (i : Int) := by omega
              have hi0d : decide ((0 : Int) < (i : Int)) = true := by simp; omega
              have hi0n : decide (0 < i) = true := by simp; omega
              obtain ⟨i1, hi1⟩ : ∃ i1 : Nat, (i : Int) - 1 = (i1 : Int) := ⟨i - 1, by omega⟩
              have hw1 : IntKind.i64.wrap (i1 : Int) = (i1 : Int) := by simp [IntKind.wrap, IntKind.bits, IntKind.signed]; omega
              have cx := HLp.out.row.cell i1 (by omega)
              have cy := HLp.out.row.cell p2 (by omega)
              have kx : (i1 : Int) < (n : Int) := by omega
              have ky : (p2 : Int) < (n : Int) := by omega
              have hlt' : decide ((D4 i1 : Int) < (D4 p2 : Int)) = true := by
                have := HLp.out.fore.resolve_left hi0 p2 hp1' hp2'
                rw [show i - 1 = i1 by omega] at this
                simp; omega
              have HLs := veil (fun W => HL.out (D4 i1 : Int) (D4 p2 : Int) W)
              rw [hlt'] at HLs
              clear hlt' HL
              go_region_held3 (fun w' => w'.cell? ⟨r, i1, none⟩ = some (.int .u64 (D4 i1 : Int)) ∧ w'.cell? ⟨r, p2, none⟩ = some (.int .u64 (D4 p2 : Int))) (go_keep)
                (first | (go_at_call 72; refine (HLs.out _).mono ?_; rintro e w1 ⟨rfl, hw⟩; subst hw))
              go_wp2
              go_meet
              exact ⟨rfl, HLp.out.drew⟩
          obtain ⟨rfl, hlp⟩ := hcut
          clear HLp
          have HLp := veil hlp
          have HPT := veil (partition_ok _ r cap n D4 i j p2 hlp.row hp1' hp2' (by omega) hn hlp.dif)
          clear hlp
          obtain ⟨c8, hc8⟩ : ∃ c8 : Nat, (c : Int).tdiv 8 = (c8 : Int) := ⟨c / 8, by rw [Int.tdiv_eq_ediv_of_nonneg (by omega)]; omega⟩
          have HC8 := veil hc8
          clear hc8
          go_upto_region 24 with (first
            | (go_at_call 74; refine (HPT.out).mono ?_; rintro e w3 ⟨m, t3, D5, rfl, g1, g2, g3, g4⟩; have HL5 := veil (HLp.out.turn g2 g1 g4); have HR5 := veil g3; have hm1 := g3.am; have hm2 := g3.mb; clear g1 g2 g3 g4; obtain ⟨x5, hx5⟩ : ∃ x5 : Nat, (m : Int) - (i : Int) = (x5 : Int) := ⟨m - i, by omega⟩; obtain ⟨y5, hy5⟩ : ∃ y5 : Nat, (j : Int) - (m : Int) = (y5 : Int) := ⟨j - m, by omega⟩; have hc8 := HC8.out))
          clear hc8
          by_cases hxy : x5 < y5
          · have hxy' : (x5 : Int) < (y5 : Int) := by omega
            have HRC := veil (HREC.out (k - 1) (by omega) w3 D5 i m l2 (by omega) HL5.out.row hm1 (by omega) (HL5.out.dif.sub (Nat.le_refl _) (Nat.le_of_lt hm2)) (HL5.out.fore.left (Nat.le_of_lt hm2)) hlm)
            go_wp2_with (first
              | (go_at_call 63; refine (HRC.out).mono ?_; rintro e w4 ⟨rfl, hx⟩; have HX := veil hx; clear hx))
            go_roundw
            case rel =>
              obtain ⟨D6, g1, g2, g3, g4⟩ := HX.out
              exact ⟨m + 1, j, l2, _, _, D6, by go_num, rfl, rfl, rfl, rfl, HL5.out.right HR5.out g2 g3 g1 g4⟩
            case measure => simp [intOf]; omega
          · have hxy' : ¬ (x5 : Int) < (y5 : Int) := by omega
            have HRC : Hid (Calls Try.prog 63 #[.slice (some ⟨r, 0, none⟩) n cap, .int .i64 ((m : Int) + 1), .int .i64 (j : Int), .int .i64 (l2 : Int)] w3 fun e w' => Srts w3 r cap n D5 (m + 1) j e w') := by
              have := HREC.out (k - 1) (by omega) w3 D5 (m + 1) j l2 (by omega) HL5.out.row (by omega) (by omega) (HL5.out.dif.sub (by omega) (Nat.le_refl _)) HR5.out.fore hlm
              rw [show ((m + 1 : Nat) : Int) = (m : Int) + 1 by omega] at this
              exact this
            go_wp2_with (first
              | (go_at_call 63; refine (HRC.out).mono ?_; rintro e w4 ⟨rfl, hx⟩; have HX := veil hx; clear hx))
            go_roundw
            case rel =>
              obtain ⟨D6, g1, g2, g3, g4⟩ := HX.out
              exact ⟨i, m, l2, _, _, D6, rfl, rfl, rfl, rfl, rfl, HL5.out.left HR5.out g2 g3 g1 g4⟩
            case measure => simp [intOf]; omega
  termination_by k => k
end Go.Proofs.Ytjmbadadelelfaa
