/- YtjlbmmiomfpgiaaGreatDoorGu: of the texts Bd1 Bd2 Bd3 Bd4 Bd5 Bd6 Bd7 what is wanted. -/
import Derived.Test.YtjlbmmiomfpgiaaGreatDoorGs
import Derived.Test.YtjlbmmiomfpgiaaGreatDoorGt
import Derived.Test.YtjlbmmiomfpgiaaGreatDoorGr
import Derived.Deep.DeepCutAuto
namespace Go.Proofs.YtjlbmmiomfpgiaaGreatDoor
set_option maxRecDepth 100000
open Go.RowKit Go.Lib
set_option linter.unusedVariables false
structure Okt (t : Tr) (x v : Nat) : Prop where
  p : t.p = (x : Int)
  g : t.g = 1
  lv : t.lv = v
  lf : t.lf ≤ v
  sv : t.sv = -1
  sn : t.sn = 0
/-- Of c threads with levels lv; m of them run, on the first m processors. -/
structure Rm (n P : Nat) (lv : Nat → Nat) (c m : Nat) (M : Mc) : Prop where
  c8 : c ≤ n
  nw : M.nw = 0
  sv : M.sv = []
  pr : M.pr.length = 1
  tl : M.gr.T.length = n
  nol : ∀ y ∈ M.gr.L, y.l = []
  hd : ∀ y ∈ M.gr.L, y.h = -1
  np : ∀ x, x < c → (M.th x).pg = 0 ∧ (M.th x).ia = 0 ∧ (M.th x).il = 0
  old : ∀ x, c ≤ x → x < n → M.S x = 0 ∧ M.G x = 0
  st : ∀ x, x < c → (M.S x = 1 ∨ M.S x = 2) ∧ M.G x = 1
  th : ∀ x, x < c → Okt (M.th x) x (lv x)
  lvs : ∀ x, x < c → lv x < 256
  en : ∀ z, Ent M.pl z → z.1 < c ∧ M.S z.1 = 1 ∧ z.2 = Ke.fixK (lv z.1 : Int)
  ne : ∀ x, x < c → M.S x = 1 → Ent M.pl (x, Ke.fixK (lv x : Int))
  pm : ∀ p, m ≤ p → p < P → (M.pc p).r = -1
  pc : ∀ p, p < m → ∃ x, x < c ∧ (M.pc p).r = (x : Int) ∧ M.S x = 2
  cn : cnt (fun i => M.S i == 2) c = m
  top : ∀ x y, x < c → y < c → M.S x = 2 → M.S y = 1 → lv y ≤ lv x
section
variable {n P c m : Nat} {lv : Nat → Nat} {M : Mc}
theorem aged0n {M : Mc} {t : Tr} (hn : M.nw = 0) (hs : t.sn = 0) (hl : t.lv < 256) : agedOf M t = (t.lv : Int) := by
  unfold agedOf Ag.levN
  split
  · rfl
  · have e : Ag.subN (M.nw : Int) (t.sn : Int) = 0 := by rw [hn, hs]; decide
    rw [e, Int.zero_ediv]
    split <;> omega
theorem atL_niln (i : Int) : Cb.atL [] i = ⟨0, 0, 0, 0⟩ := by unfold Cb.atL; split <;> rfl
theorem own0n {M : Mc} {n x v : Nat} (hx : x < n) (hn : M.nw = 0) (hsv : M.sv = []) (h : Okt (M.th x) x v) (hv : v < 256) (hG : M.G x = 1) (hS : M.S x = 1 ∨ M.S x = 2) : ownOf M n (M.th x) = Ke.fixK (v : Int) := by
  unfold ownOf
  rw [hsv, atL_niln, if_neg (by simp), stOf_at hx h.p (by rw [h.g, hG]) (by omega)]
  rcases hS with e | e
  · rw [if_pos e, aged0n hn h.sn (by rw [h.lv]; exact hv), h.lv]
  · rw [if_neg (by omega), if_pos e, h.lv]
    have := h.lf
    rw [show max ((v : Int)) ((M.th x).lf : Int) = (v : Int) by omega]
theorem Rm.own (h : Rm n P lv c m M) {x : Nat} (hx : x < c) : ownOf M n (M.th x) = Ke.fixK (lv x : Int) :=
  own0n (by have := h.c8; omega) h.nw h.sv (h.th x hx) (h.lvs x hx) (h.st x hx).2 (h.st x hx).1
theorem Rm.gr (h : Rm n P lv c m M) {g : Pi.Md} (h1 : g.T.length = n) (h2 : g.L = M.gr.L) : Rm n P lv c m { M with gr := g } :=
  ⟨h.c8, h.nw, h.sv, h.pr, h1, fun y hy => h.nol y (by rw [← h2]; exact hy), fun y hy => h.hd y (by rw [← h2]; exact hy), h.np, h.old, h.st, h.th, h.lvs, h.en, h.ne, h.pm, h.pc, h.cn, h.top⟩
theorem Rm.settle (h : Rm n P lv c m M) : Rm n P lv c m (Go.Proofs.YtjlbmmiomfpgiaaGreatDoor.settle M n) := by
  obtain ⟨g, e, h1, h2, _⟩ := settle_quiet (κ := fun x => Ke.fixK (lv x : Int)) h.tl h.nol (fun x hx hs => by
    have hc : x < c := by
      rcases Nat.lt_or_ge x c with q | q
      · exact q
      · exact absurd (h.old x q hx).1 hs
    exact ⟨h.own hc, rfl⟩) (fun z hz => (h.en z hz).2.2)
  rw [e]
  exact h.gr h1 h2
/-- One more thread. -/
theorem Rm.start {q : Nat} (h : Rm n P lv c 0 M) (hP : 1 ≤ P) (hpl : M.pl.length = P + 1) (hc : c < n) (hv : lv c < 256) : Rm n P lv (c + 1) 0 (startM P n q M c 0 (lv c) (-1)) := by
  have hno : ∀ x, x < c → M.S x = 1 := fun x hx => by
    rcases (h.st x hx).1 with e | e
    · exact e
    · exfalso
      have := cnt_lt (f := fun _ => false) (g := fun i => M.S i == 2) (x := x) c (fun i _ q => by cases q) hx rfl (by simp [e])
      rw [h.cn] at this
      omega
  unfold startM
  refine Rm.settle ?_
  obtain ⟨e0, e0'⟩ := h.old c (Nat.le_refl _) hc
  unfold beginM
  generalize hM1 : ({ allocM M c with th := Gt.upd M.th c { newTr 0 (lv c) (-1) with p := (c : Int), g := M.G c + 1 } } : Mc) = M1
  have t1 : M1.th c = ⟨(c : Int), 1, 0, lv c, 0, -1, 0, 0, 0, 0⟩ := by
    rw [← hM1]
    show Gt.upd M.th c _ c = _
    rw [Gt.upd_same, e0']
    rfl
  have s1 : M1.S c = 1 := by rw [← hM1]; exact Gt.upd_same _ _ _
  have g1 : M1.G c = 1 := by rw [← hM1]; show Gt.upd M.G c _ c = 1; rw [Gt.upd_same, e0']
  have hm : moveS n M1.G M1.S (M1.th c).p (M1.th c).g 1 = M1.S := by
    have := moveS_no (n := n) (G := M1.G) (S := M1.S) (x := c) (s := 1) (by rw [s1]; decide)
    rw [t1]
    rw [g1] at this
    exact this
  have hst : stOf M1 n (M1.th c) = 1 := by
    rw [stOf_at (x := c) hc (by rw [t1]) (by rw [t1, g1]) (by rw [s1]; omega), s1]
  have hsv1 : M1.sv = [] := by rw [← hM1]; exact h.sv
  have hnw1 : M1.nw = 0 := by rw [← hM1]; exact h.nw
  have hr2 : ready2 n M1 c = { M1 with th := Gt.upd M1.th c { M1.th c with sn := 0, lf := 0 } } := by
    unfold ready2 ready1
    rw [hst, if_neg (by omega), hm, hsv1, hnw1]
    have : Cb.wakL [] (M1.th c).sv 0 = [] := by unfold Cb.wakL; split <;> rfl
    rw [this]
  -- the machine ahead of the Put
  have hR2 : ∃ g, ready3 n M1 c = { { M1 with th := Gt.upd M1.th c { M1.th c with sn := 0, lf := 0 } } with gr := g } ∧ g.T.length = n ∧ g.L = M.gr.L ∧ Pi.keyA g.T g.L (c : Int) = Ke.fixK (lv c : Int) := by
    unfold ready3
    rw [hr2]
    have A : ∀ x, x < n → Gt.upd M.S c 1 x ≠ 0 → x < c ∨ x = c := fun x hx hs => by
      by_cases e : x = c
      · exact .inr e
      · rw [Gt.upd_other _ _ _ _ e] at hs
        rcases Nat.lt_or_ge x c with q | q
        · exact .inl q
        · exact absurd (h.old x q hx).1 hs
    obtain ⟨g, e, h1, h2, h3⟩ := settle_quiet (n := n) (M := { M1 with th := Gt.upd M1.th c { M1.th c with sn := 0, lf := 0 } }) (κ := fun x => Ke.fixK (lv x : Int)) (by rw [← hM1]; exact h.tl) (by rw [← hM1]; exact h.nol) (fun x hx hs => by
      refine ⟨?_, rfl⟩
      rw [← hM1] at hs
      rcases A x hx hs with q | q
      · refine own0n hx hnw1 hsv1 ?_ (h.lvs x q) ?_ ?_
        · show Okt (Gt.upd M1.th c _ x) x (lv x)
          rw [Gt.upd_other _ _ _ _ (by omega), ← hM1]
          show Okt (Gt.upd M.th c _ x) x (lv x)
          rw [Gt.upd_other _ _ _ _ (by omega)]
          exact h.th x q
        · rw [← hM1]; show Gt.upd M.G c _ x = 1; rw [Gt.upd_other _ _ _ _ (by omega)]; exact (h.st x q).2
        · rw [← hM1]; show Gt.upd M.S c _ x = 1 ∨ Gt.upd M.S c _ x = 2; rw [Gt.upd_other _ _ _ _ (by omega)]; exact (h.st x q).1
      · subst q
        refine own0n hx hnw1 hsv1 ?_ hv g1 (.inl s1)
        show Okt (Gt.upd M1.th x _ x) x (lv x)
        rw [Gt.upd_same, t1]
        exact ⟨rfl, rfl, rfl, Nat.zero_le _, rfl, rfl⟩) (fun z hz => by
      rw [← hM1] at hz
      exact (h.en z hz).2.2)
    refine ⟨g, e, h1, by rw [h2, ← hM1]; rfl, h3 c hc (by rw [show ({ M1 with th := Gt.upd M1.th c { M1.th c with sn := 0, lf := 0 } } : Mc).S = M1.S from rfl, s1]; omega)⟩
  obtain ⟨g, e3, h1, h2, hk⟩ := hR2
  unfold ready
  rw [e3]
  show Rm n P lv (c + 1) 0 { { { M1 with th := Gt.upd M1.th c { M1.th c with sn := 0, lf := 0 } } with gr := g } with pl := pputG P n q (gh M1.pl) 0 (c : Int) (Pi.keyA g.T g.L (c : Int)) }
  rw [hk]
  have hpl1 : M1.pl = M.pl := by rw [← hM1]; rfl
  rw [hpl1]
  have hput := fun z => put_iff (q := q) hpl (p := 0) (by omega) (id := c) (n := n) hc (k := Ke.fixK (lv c : Int)) rfl (fun z hz => by have := (h.en z hz).1; omega) z
  have S1 : ∀ x, x ≠ c → M1.S x = M.S x := fun x hx => by rw [← hM1]; exact Gt.upd_other _ _ _ _ hx
  have G1 : ∀ x, x ≠ c → M1.G x = M.G x := fun x hx => by rw [← hM1]; exact Gt.upd_other _ _ _ _ hx
  refine ⟨by omega, hnw1, hsv1, by rw [← hM1]; exact h.pr, h1, fun y hy => h.nol y (by rw [← h2]; exact hy), fun y hy => h.hd y (by rw [← h2]; exact hy), ?_, ?_, ?_, ?_, ?_, ?_, ?_, ?_, ?_, ?_, ?_⟩
  · intro x hx
    show (Gt.upd M1.th c _ x).pg = 0 ∧ (Gt.upd M1.th c _ x).ia = 0 ∧ (Gt.upd M1.th c _ x).il = 0
    by_cases e : x = c
    · subst e; rw [Gt.upd_same, t1]; exact ⟨rfl, rfl, rfl⟩
    · rw [Gt.upd_other _ _ _ _ e, ← hM1]
      show (Gt.upd M.th c _ x).pg = 0 ∧ (Gt.upd M.th c _ x).ia = 0 ∧ (Gt.upd M.th c _ x).il = 0
      rw [Gt.upd_other _ _ _ _ e]
      exact h.np x (by omega)
  · intro x hx hx8
    exact ⟨(S1 x (by omega)).trans (h.old x (by omega) hx8).1, (G1 x (by omega)).trans (h.old x (by omega) hx8).2⟩
  · intro x hx
    by_cases e : x = c
    · subst e; exact ⟨.inl s1, g1⟩
    · show (M1.S x = 1 ∨ M1.S x = 2) ∧ M1.G x = 1
      rw [S1 x e, G1 x e]; exact h.st x (by omega)
  · intro x hx
    show Okt (Gt.upd M1.th c _ x) x (lv x)
    by_cases e : x = c
    · subst e; rw [Gt.upd_same, t1]; exact ⟨rfl, rfl, rfl, Nat.zero_le _, rfl, rfl⟩
    · rw [Gt.upd_other _ _ _ _ e, ← hM1]
      show Okt (Gt.upd M.th c _ x) x (lv x)
      rw [Gt.upd_other _ _ _ _ e]
      exact h.th x (by omega)
  · intro x hx
    by_cases e : x = c
    · subst e; exact hv
    · exact h.lvs x (by omega)
  · intro z hz
    rcases (hput z).1 hz with q | q
    · subst q; exact ⟨by simp, s1, rfl⟩
    · obtain ⟨a1, a2, a3⟩ := h.en z q
      exact ⟨by omega, (S1 _ (by omega)).trans a2, a3⟩
  · intro x hx hs
    by_cases e : x = c
    · subst e; exact (hput _).2 (.inl rfl)
    · exact (hput _).2 (.inr (h.ne x (by omega) ((S1 x e).symm.trans hs)))
  · intro p hp hp2
    show (M1.pc p).r = -1
    rw [← hM1]; exact h.pm p hp hp2
  · intro p hp; omega
  · refine cnt_none _ (fun i hi => ?_)
    show (M1.S i == 2) = false
    by_cases e : i = c
    · subst e; rw [s1]; rfl
    · rw [S1 i e, hno i (by omega)]; rfl
  · intro x y hx hy hs _
    exfalso
    have hs' : M1.S x = 2 := hs
    by_cases e : x = c
    · subst e; rw [s1] at hs'; omega
    · rw [S1 x e, hno x (by omega)] at hs'; omega
theorem Rm.free (h : Rm n P lv c m M) (hc : c < n) : freeOf M n = some c :=
  freeOf_at hc (fun x hx => by have := (h.st x hx).1; omega) (h.old c (Nat.le_refl _) hc).1
theorem Rm.gok (h : Rm n P lv c m M) : Go.Proofs.YtjlbmmiomfpgiaaGreatDoor.gok M n := fun x hx => by
  rcases Nat.lt_or_ge x c with q | q
  · rw [(h.st x q).2]; omega
  · rw [(h.old x q hx).2]; omega
/-- A processor that runs nothing takes what is best. -/
theorem Rm.disp {w : World} {O : Nat → Prop} {pb q T : Nat} (h : Rm n P lv c m M) (hq : PQ w O pb n P q T M.pl) (hm : m < P) (d : Int) (hb : (bb P (gh M.pl) (m : Int) d).isSome = true) :
    ∃ x : Nat, x < n ∧ bI (gh M.pl) (bb P (gh M.pl) (m : Int) d) = (x : Int) ∧ Rm n P lv c (m + 1) (Go.Proofs.YtjlbmmiomfpgiaaGreatDoor.settle (dispM P n M m x d) n) := by
  obtain ⟨x, k, hx, hbi, hE, htop, htk⟩ := take_iff hq hb
  obtain ⟨hxc, hxs, hxk⟩ := h.en _ hE
  refine ⟨x, hx, hbi, Rm.settle ?_⟩
  have hxc' : x < c := hxc
  have hxs' : M.S x = 1 := hxs
  obtain rfl : k = Ke.fixK (lv x : Int) := hxk
  have hok := h.th x hxc'
  have hmv : moveS n M.G M.S (M.th x).p (M.th x).g 2 = Gt.upd M.S x 2 := by
    have := moveS_yes (n := n) (G := M.G) (S := M.S) (x := x) (s := 2) hx (by omega) (by rw [hxs']; decide)
    rw [hok.p, hok.g]
    rw [(h.st x hxc').2] at this
    exact this
  have hag : (agedOf M (M.th x)).toNat = lv x := by
    rw [aged0n h.nw hok.sn (by rw [hok.lv]; exact h.lvs x hxc'), hok.lv]
    rfl
  unfold dispM dispB dispA tkM
  rw [hmv, hag]
  refine ⟨h.c8, h.nw, h.sv, h.pr, h.tl, h.nol, h.hd, ?_, ?_, ?_, ?_, h.lvs, ?_, ?_, ?_, ?_, ?_, ?_⟩
  · intro y hy
    show (Gt.upd M.th x _ y).pg = 0 ∧ (Gt.upd M.th x _ y).ia = 0 ∧ (Gt.upd M.th x _ y).il = 0
    by_cases e : y = x
    · subst e; rw [Gt.upd_same]; exact h.np y hy
    · rw [Gt.upd_other _ _ _ _ e]; exact h.np y hy
  · intro y hy hy8
    show Gt.upd M.S x 2 y = 0 ∧ M.G y = 0
    rw [Gt.upd_other _ _ _ _ (by omega)]
    exact h.old y hy hy8
  · intro y hy
    show (Gt.upd M.S x 2 y = 1 ∨ Gt.upd M.S x 2 y = 2) ∧ M.G y = 1
    by_cases e : y = x
    · subst e; rw [Gt.upd_same]; exact ⟨.inr rfl, (h.st y hy).2⟩
    · rw [Gt.upd_other _ _ _ _ e]; exact h.st y hy
  · intro y hy
    show Okt (Gt.upd M.th x _ y) y (lv y)
    by_cases e : y = x
    · subst e; rw [Gt.upd_same]; exact ⟨hok.p, hok.g, hok.lv, Nat.le_refl _, hok.sv, hok.sn⟩
    · rw [Gt.upd_other _ _ _ _ e]; exact h.th y hy
  · intro z hz
    obtain ⟨q1, q2⟩ := (htk z).1 hz
    obtain ⟨a1, a2, a3⟩ := h.en z q1
    refine ⟨a1, ?_, a3⟩
    show Gt.upd M.S x 2 z.1 = 1
    rw [Gt.upd_other _ _ _ _ q2]; exact a2
  · intro y hy hs
    have hs' : Gt.upd M.S x 2 y = 1 := hs
    by_cases e : y = x
    · subst e; rw [Gt.upd_same] at hs'; omega
    · rw [Gt.upd_other _ _ _ _ e] at hs'
      exact (htk _).2 ⟨h.ne y hy hs', e⟩
  · intro p hp hp2
    show (Gt.upd M.pc m _ p).r = -1
    rw [Gt.upd_other _ _ _ _ (by omega)]
    exact h.pm p (by omega) hp2
  · intro p hp
    show ∃ y, y < c ∧ (Gt.upd M.pc m _ p).r = (y : Int) ∧ Gt.upd M.S x 2 y = 2
    by_cases e : p = m
    · subst e
      rw [Gt.upd_same]
      exact ⟨x, hxc', rfl, Gt.upd_same _ _ _⟩
    · rw [Gt.upd_other _ _ _ _ e]
      obtain ⟨y, a1, a2, a3⟩ := h.pc p (by omega)
      refine ⟨y, a1, a2, ?_⟩
      by_cases e2 : y = x
      · subst e2; exact Gt.upd_same _ _ _
      · rw [Gt.upd_other _ _ _ _ e2]; exact a3
  · have := cnt_upd (f := fun i => M.S i == 2) (g := fun i => Gt.upd M.S x 2 i == 2) (x := x) c (fun i _ hi => by show (Gt.upd M.S x 2 i == 2) = _; rw [Gt.upd_other _ _ _ _ hi]) hxc' (by simp [hxs']) (by show (Gt.upd M.S x 2 x == 2) = true; rw [Gt.upd_same]; rfl)
    rw [h.cn] at this
    exact this
  · intro y z hy hz h1 h2
    have h1' : Gt.upd M.S x 2 y = 2 := h1
    have h2' : Gt.upd M.S x 2 z = 1 := h2
    have ez : z ≠ x := fun e => by subst e; rw [Gt.upd_same] at h2'; omega
    rw [Gt.upd_other _ _ _ _ ez] at h2'
    by_cases e : y = x
    · subst e
      have := htop _ (h.ne z hz h2')
      simp [Ke.up, Ke.fixK] at this
      omega
    · rw [Gt.upd_other _ _ _ _ e] at h1'
      exact h.top y z hy hz h1' h2'
end
end Go.Proofs.YtjlbmmiomfpgiaaGreatDoor
namespace Go.Proofs.YtjlbmmiomfpgiaaGreatDoor
set_option maxRecDepth 100000
open Go.RowKit Go.Lib Go.Shelf
set_option linter.unusedVariables false
attribute [local go_sem ↓] Go.wp_at_zero Go.wp_at_succ
theorem startM_pr (P n q : Nat) (M : Mc) (x : Nat) (pg : Int) (lv : Nat) (sv : Int) : (startM P n q M x pg lv sv).pr = M.pr := by
  unfold startM beginM ready ready3 ready2 ready1 settle allocM
  split <;> rfl
section
variable {w wr w' : World} {ad : Ad} {P n q T T' : Nat} {M M' : Mc} {K : Nat → Prop}
theorem AlK.startN {lv : Nat → Nat} {c : Nat} (h : AlK w wr ad P n q T M K) (hR : Rm n P lv c 0 M) (hc : c < n) (hv : lv c < 256) (hT : T ≤ 100000) :
    Calls Tryz.prog 19 #[.pointer (some ⟨ad.m, 0, none⟩), .int .i64 0, .int .u8 (lv c : Int), .int .i64 (-1)] wr fun e w' => ∃ v M', e = .returned (.tuple #[v, .int .i64 0]) ∧ EvL w' wr.heap.size v [⟨9, 0, (c : Int), 1, 0, 0⟩] ∧ (AlK w w' ad P n q (T + n + 1 + n) M' (fun k => K k ∨ v.ownBlock = some k) ∧ ∀ k, K k → w'.heap[k]? = wr.heap[k]?) ∧ Rm n P lv (c + 1) 0 M' ∧ M'.pr = M.pr := by
  obtain ⟨O, hq⟩ := h.pq
  have hn := hq.n1
  have hno : startNo M 0 (-1) = false := by
    unfold startNo hasPg
    rw [hR.pr, hR.sv]
    decide
  have hG : M.G c + 1 = 1 := by rw [(hR.old c (Nat.le_refl _) hc).2]
  have := h.call (R := fun e w' v => e = .returned (.tuple #[v, .int .i64 0])) (fun lab hi => (hi.start_yesV (by omega) hR.gok 0 (lv c) hv (-1) hno c (hR.free hc)).mono (fun e w' ⟨v, he, hv, g⟩ => ⟨v, he, by rw [hG] at hv; exact hv, g⟩))
  refine this.mono ?_
  rintro e w' ⟨v, he, hev, g⟩
  exact ⟨v, _, he, hev, g, hR.start hq.np1.1 hq.len hc hv, startM_pr _ _ _ _ _ _ _ _⟩
/-- The one thread is taken. -/
theorem AlK.disp1 {lv : Nat → Nat} (h : AlK w wr ad P n q T M K) (hR : Rm n P lv 1 0 M) (d : Int) (hd : 0 ≤ d ∧ d < 18446744073709551616) (hT : T ≤ 100000) :
    Calls Tryz.prog 13 #[.pointer (some ⟨ad.m, 0, none⟩), .int .i64 0, .int .u64 d] wr fun e w' => ∃ v M' ev, e = .returned (.tuple #[v, .int .i64 0]) ∧ EvL w' wr.heap.size v [ev] ∧ ev.k = 3 ∧ (AlK w w' ad P n q (T + 1 + n) M' (fun k => K k ∨ v.ownBlock = some k) ∧ ∀ k, K k → w'.heap[k]? = wr.heap[k]?) ∧ Rm n P lv 1 1 M' ∧ M'.pr = M.pr := by
  obtain ⟨O, hq⟩ := h.pq
  have hn := hq.n1
  have hP := hq.np1
  have hk : 0 < P := hP.1
  have hr : (M.pc 0).r = -1 := hR.pm 0 (Nat.le_refl _) hk
  have hS : M.S 0 = 1 := by
    rcases (hR.st 0 (by omega)).1 with e | e
    · exact e
    · exfalso
      have := cnt_lt (f := fun _ => false) (g := fun i => M.S i == 2) (x := 0) 1 (fun i _ q => by cases q) (by omega) rfl (by simp [e])
      rw [hR.cn] at this
      omega
  have hb : (bb P (gh M.pl) ((0 : Nat) : Int) d).isSome = true := by
    cases hb : (bb P (gh M.pl) ((0 : Nat) : Int) d).isSome with
    | true => rfl
    | false => exact absurd (hR.ne 0 (by omega) hS) (take_none hq.len (by omega) hb _)
  obtain ⟨x, hx, hbi, hR'⟩ := hR.disp hq hk d hb
  have := h.call (R := fun e w' v => e = .returned (.tuple #[v, .int .i64 0])) (fun lab hi => (hi.step_ofV (pr := 0) (T' := T + 1) hk d (by omega) (fun W1 O hs => act_takes (P1 := fun V => SX wr W1 V lab ad P n q T M wr.heap.size 0 [] O) (hs.sx.giveWay_not hk d hd (.inl hr)) (fun V hV => hV.takeOne_takes (by simp) hk d hd hr hb x hx hbi))).mono (fun e w' ⟨v, he, hev, g⟩ => ⟨v, he, hev, g⟩))
  refine this.mono ?_
  rintro e w' ⟨v, he, hev, g⟩
  exact ⟨v, _, _, he, hev, rfl, g, hR', rfl⟩
theorem held_nil {T : List Pi.Th} {L : List Pi.Lk} (h : ∀ y ∈ L, y.h = -1) (x : Nat) : Pi.heldA T L (x : Int) = [] := by
  unfold Pi.heldA
  split
  · unfold Pi.heldOf Pi.heldTo
    rw [List.map_eq_nil_iff, List.filter_eq_nil_iff]
    intro m _
    cases hm : L[m]? with
    | none => simp
    | some y =>
      have := h y (List.mem_of_getElem? hm)
      simp [this]
  · rfl
/-- The one thread ends: its program's first instruction is Exit. -/
theorem AlK.exit1 {lv : Nat → Nat} (h : AlK w wr ad P n q T M K) (hR : Rm n P lv 1 1 M) (p : Pm) (hpr : M.pr = [p]) (hp0 : 0 < p.len) (hO : p.O 0 = 9) (d : Int) (hd : 0 ≤ d ∧ d < 18446744073709551616) (hT : T ≤ 100000) :
    Calls Tryz.prog 13 #[.pointer (some ⟨ad.m, 0, none⟩), .int .i64 0, .int .u64 d] wr fun e w' => ∃ v M' e1 e2, e = .returned (.tuple #[v, .int .i64 0]) ∧ EvL w' wr.heap.size v [e1, e2] ∧ e1.k = 5 ∧ e2.k = 10 ∧ (AlK w w' ad P n q (T + n) M' (fun k => K k ∨ v.ownBlock = some k) ∧ ∀ k, K k → w'.heap[k]? = wr.heap[k]?) := by
  obtain ⟨O, hq⟩ := h.pq
  have hn := hq.n1
  have hP := hq.np1
  have hk : 0 < P := hP.1
  have hx : 0 < n := hn.1
  obtain ⟨x, hx1, hr, hS⟩ := hR.pc 0 (by omega)
  obtain rfl : x = 0 := by omega
  have hb : (bb P (gh M.pl) ((0 : Nat) : Int) d).isSome = false := by
    cases hb : (bb P (gh M.pl) ((0 : Nat) : Int) d).isSome with
    | false => rfl
    | true =>
      obtain ⟨y, kk, hy, _, hE, _, _⟩ := take_iff hq hb
      obtain ⟨q1, q2, _⟩ := hR.en _ hE
      have q1' : y < 1 := q1
      have q2' : M.S y = 1 := q2
      obtain rfl : y = 0 := by omega
      rw [hS] at q2'
      cases q2'
  have hth := hR.th 0 (by omega)
  obtain ⟨hpg, hia, hil⟩ := hR.np 0 (by omega)
  have eO : exO p 0 = 9 := by unfold exO Ex.stO Ex.inP; rw [if_pos (by simp; omega)]; exact hO
  have hlt : exL p 0 0 < 9223372036854775808 := by
    have : exL p 0 0 = 0 := by
      unfold exL Ex.stL Ex.lfI
      split
      · rw [if_neg (by show ¬ p.O 0 = 1; rw [hO]; decide)]
      · rfl
    rw [this]; decide
  have := h.call (R := fun e w' v => e = .returned (.tuple #[v, .int .i64 0])) (fun lab hi => (hi.step_ofV (pr := 0) (T' := T) (M' := exitM n (frM M 0 (exN p 0) (exL p 0 0)) 0 0) (l := [⟨5, ((0 : Nat) : Int), (M.th 0).p, (M.th 0).g, 9, 0⟩] ++ [⟨10, ((0 : Nat) : Int), ((0 : Nat) : Int), ((frM M 0 (exN p 0) (exL p 0 0)).th 0).g, 0, 0⟩]) hk d (by omega) (fun W1 O hs => act_all (P1 := fun V => SX wr W1 V lab ad P n q T M wr.heap.size 0 [] O) (P2 := fun V => SX wr W1 V lab ad P n q T M wr.heap.size 0 [] O) (hs.sx.giveWay_not hk d hd (.inr hb)) (fun V hV => hV.takeOne_runs hk d (by rw [hr]; decide)) (fun V hV => by
      have hg := hV.goOn_of (ok := true) (bz := false) (by simp) hk 0 hx hr 0 p (by rw [hpr]; rfl) (by rw [hpg]; rfl) 9 (exR p 0) (exN p 0) (exL p 0 0) hlt T (exitM n (frM M 0 (exN p 0) (exL p 0 0)) 0 0) ([⟨5, ((0 : Nat) : Int), (M.th 0).p, (M.th 0).g, 9, 0⟩] ++ [⟨10, ((0 : Nat) : Int), ((0 : Nat) : Int), ((frM M 0 (exN p 0) (exL p 0 0)).th 0).g, 0, 0⟩]) (fun ap cap V' hp hrt hbl => by
        have := exec_ok (cap := cap) hp hrt 0 0 (by decide) V' hbl
        rw [eO] at this
        rw [hia, hil]
        exact this) (fun q => by cases q) (fun _ V' O' hs' => by
        have eth : ((frM M 0 (exN p 0) (exL p 0 0)).th 0).p = (M.th 0).p ∧ ((frM M 0 (exN p 0) (exL p 0 0)).th 0).g = (M.th 0).g := by unfold frM; show (Gt.upd M.th 0 _ 0).p = _ ∧ (Gt.upd M.th 0 _ 0).g = _; rw [Gt.upd_same]; exact ⟨rfl, rfl⟩
        have he := hs'.do_exit (by simp) 0 hx (exR p 0) (T' := T) (M' := exitM n (frM M 0 (exN p 0) (exL p 0 0)) 0 0) (l' := [⟨5, ((0 : Nat) : Int), (M.th 0).p, (M.th 0).g, 9, 0⟩] ++ [⟨10, ((0 : Nat) : Int), ((0 : Nat) : Int), ((frM M 0 (exN p 0) (exL p 0 0)).th 0).g, 0, 0⟩]) (fun W0 V'' hV'' => hV''.call (R := fun e => e = .returned (.tuple #[])) (fun O'' s'' => by
          have := s''.exit_none (by simp) hk 0 hx (by rw [eth.1, hth.p]) (held_nil hR.hd 0)
          rw [eth.1, hth.p, eth.2] at this ⊢
          exact this))
        exact he)
      exact hg))).mono (fun e w' ⟨v, he, hev, g⟩ => ⟨v, he, hev, g⟩))
  refine this.mono ?_
  rintro e w' ⟨v, he, hev, g⟩
  exact ⟨v, _, _, _, he, hev, rfl, rfl, g⟩
end
end Go.Proofs.YtjlbmmiomfpgiaaGreatDoor
namespace Go.Proofs.YtjlbmmiomfpgiaaGreatDoor
set_option maxRecDepth 100000
open Go.RowKit Go.Lib Go.Shelf
set_option linter.unusedVariables false
attribute [local go_sem ↓] Go.wp_at_zero Go.wp_at_succ
theorem new_rm (P n m qu ag : Nat) (lv : Nat → Nat) (p : Pm) : Rm n P lv 0 0 { newMc P n m qu ag with pr := [p] } := by
  refine ⟨Nat.zero_le _, rfl, rfl, rfl, by simp [newMc, Pi.newM, Pi.newT], ?_, ?_, fun x hx => by omega, fun x _ _ => ⟨rfl, rfl⟩, fun x hx => by omega, fun x hx => by omega, fun x hx => by omega, ?_, fun x hx => by omega, fun p _ _ => rfl, fun p hp => by omega, rfl, fun x y hx => by omega⟩
  · intro y hy
    have : y = ⟨-1, []⟩ := List.eq_of_mem_replicate hy
    rw [this]
  · intro y hy
    have : y = ⟨-1, []⟩ := List.eq_of_mem_replicate hy
    rw [this]
  · rintro z ⟨i, M, hM, hz⟩
    have : M = [] := by
      have hM' : (List.replicate (P + 1) ([] : List En))[i]? = some M := hM
      rw [List.getElem?_replicate] at hM'
      split at hM'
      · injection hM' with q; exact q.symm
      · cases hM'
    rw [this] at hz
    cases hz
theorem ev_at : ∀ (l : List Ev) (i : Nat) (e : Ev), l[i]? = some e → (evCells l)[i * 6]? = some (.int .i64 e.k)
  | [], i, e, h => by simp at h
  | y :: l, 0, e, h => by simp at h; subst h; rfl
  | y :: l, i + 1, e, h => by
    have := ev_at l i e (by simpa using h)
    have e0 : evCells (y :: l) = evOne y ++ evCells l := rfl
    rw [e0, List.getElem?_append_right (by show (evOne y).length ≤ _; simp [evOne]; omega)]
    have e1 : (i + 1) * 6 - (evOne y).length = i * 6 := by simp [evOne]; omega
    rw [e1]
    exact this
theorem EvL.at {w : World} {base : Nat} {v : Value} {l : List Ev} (h : EvL w base v l) {i : Nat} {e : Ev} (hi : l[i]? = some e) : ∃ b c, v = .slice (some ⟨b, 0, none⟩) l.length c ∧ w.cell? ⟨b, i * 6, none⟩ = some (.int .i64 e.k) := by
  have hl := (List.getElem?_eq_some_iff.1 hi).1
  rcases h.2 with ⟨_, e0⟩ | ⟨b, c, cur, e1, h0, hg, hrow⟩
  · omega
  · refine ⟨b, c, e1, ?_⟩
    have hu : (evCells l)[i * 6]? = some (.int .i64 e.k) := ev_at l i e hi
    rw [← hrow.2.2.2, List.getElem?_take] at hu
    split at hu
    · simp only [World.cell?, hg]
      simpa using hu
    · cases hu
def xO (j : Nat) : Int := 9
def xR (j : Nat) : Int := 0
theorem x_rt : Ex.Rt 1 xO xR := by
  refine ⟨0, .inr (.inr (.inr ⟨by decide, by decide, ?_, .inr rfl, rfl, rfl⟩))⟩
  intro i hi
  show Ex.okI ((1 : Nat) : Int) 9 0 = true
  decide
theorem x_prg (w : World) : Ex.Prg (w.alloc (.cells #[.int .i64 9, .int .i64 0] 64)) (some ⟨w.heap.size, 0, none⟩) 1 xO xR := by
  refine .inr ⟨w.heap.size, 0, rfl, by simp, fun j hj => ?_⟩
  match j, hj with
  | 0, _ => exact ⟨newc _ _ _ 0 _ rfl, newc _ _ _ 1 _ rfl⟩
theorem Al.k {w wr : World} {ad : Ad} {P n q T : Nat} {M : Mc} (h : Al w wr ad P n q T M) : AlK w wr ad P n q T M (fun _ => False) := by
  obtain ⟨⟨lab, hi, hl⟩, hb⟩ := h
  exact ⟨⟨lab, hi, hl, fun k q => q.elim⟩, hb⟩
theorem AlK.less {w wr : World} {ad : Ad} {P n q T : Nat} {M : Mc} {K K' : Nat → Prop} (h : AlK w wr ad P n q T M K) (hk : ∀ k, K' k → K k) : AlK w wr ad P n q T M K' := by
  obtain ⟨⟨lab, hi, hl, hz⟩, hb⟩ := h
  exact ⟨⟨lab, hi, hl, fun k q => hz k (hk k q)⟩, hb⟩
set_option maxHeartbeats 8000000 in
theorem live_ok (w : World) (ht : Gt.Tab w) : Calls Tryz.prog 20 #[] w fun e w' => e = .returned (.bool true) ∧ Below w.heap.size w w' := by
  have HN : Hid (Calls Tryz.prog 10 #[.agg #[.int .i64 1, .int .i64 2, .int .i64 2, .int .i64 1, .int .u64 4, .int .u64 9]] w fun e w' => ∃ a, e = .returned (.pointer (some ⟨a.m, 0, none⟩)) ∧ Al w w' a 1 2 2 0 (newMc 1 2 1 4 9)) := new_al 1 2 2 1 4 9 (by decide) (by decide) (by decide) (by decide) (by decide) (by decide) w ht
  have HL : Hid (∀ V ad, Al w V ad 1 2 2 0 (newMc 1 2 1 4 9) → Calls Tryz.prog 17 #[.pointer (some ⟨ad.m, 0, none⟩), .slice (some ⟨V.heap.size, 0, none⟩) 1 1] (V.alloc (.cells #[.int .i64 9, .int .i64 0] 64)) fun e w' => e = .returned (.tuple #[.int .i64 0, .int .i64 0]) ∧ Al w w' ad 1 2 2 0 { newMc 1 2 1 4 9 with pr := [⟨1, xO, xR⟩] }) := fun V ad h => (h.below ((Below.refl V.heap.size V).alloc (Nat.le_refl _) _)).load_yes (some ⟨V.heap.size, 0, none⟩) 1 1 xO xR (x_prg V) x_rt (by show 0 < 16; decide)
  have HS : Hid (∀ V ad, Al w V ad 1 2 2 0 { newMc 1 2 1 4 9 with pr := [⟨1, xO, xR⟩] } → Calls Tryz.prog 19 #[.pointer (some ⟨ad.m, 0, none⟩), .int .i64 0, .int .u8 5, .int .i64 (-1)] V fun e w' => ∃ b c M', e = .returned (.tuple #[.slice (some ⟨b, 0, none⟩) 1 c, .int .i64 0]) ∧ w'.cell? ⟨b, 0, none⟩ = some (.int .i64 9) ∧ AlK w w' ad 1 2 2 5 M' (fun k => k = b) ∧ Rm 2 1 (fun _ => 5) 1 0 M' ∧ M'.pr = [⟨1, xO, xR⟩]) := fun V ad h => by
    refine (h.k.startN (lv := fun _ => 5) (c := 0) (new_rm 1 2 1 4 9 (fun _ => 5) ⟨1, xO, xR⟩) (by decide) (by decide) (by decide)).mono ?_
    rintro e w' ⟨v, M', rfl, hev, ⟨hA, _⟩, hR, hpr⟩
    obtain ⟨b, c, rfl, hc⟩ := hev.at (i := 0) rfl
    exact ⟨b, c, M', rfl, hc, hA.less (fun k hk => .inr (by rw [hk]; rfl)), hR, hpr⟩
  have HD : Hid (∀ V ad M b, AlK w V ad 1 2 2 5 M (fun k => k = b) → Rm 2 1 (fun _ => 5) 1 0 M → M.pr = [⟨1, xO, xR⟩] → V.cell? ⟨b, 0, none⟩ = some (.int .i64 9) → Calls Tryz.prog 13 #[.pointer (some ⟨ad.m, 0, none⟩), .int .i64 0, .int .u64 0] V fun e w' => ∃ b2 c2 M', e = .returned (.tuple #[.slice (some ⟨b2, 0, none⟩) 1 c2, .int .i64 0]) ∧ w'.cell? ⟨b2, 0, none⟩ = some (.int .i64 3) ∧ AlK w w' ad 1 2 2 8 M' (fun k => k = b ∨ k = b2) ∧ Rm 2 1 (fun _ => 5) 1 1 M' ∧ M'.pr = [⟨1, xO, xR⟩] ∧ w'.cell? ⟨b, 0, none⟩ = some (.int .i64 9)) := fun V ad M b h hR hpr hc9 => by
    refine (h.disp1 hR 0 (by decide) (by decide)).mono ?_
    rintro e w' ⟨v, M', ev, rfl, hev, hk, ⟨hA, hkp⟩, hR', hpr'⟩
    obtain ⟨b2, c2, rfl, hc⟩ := hev.at (i := 0) rfl
    rw [hk] at hc
    exact ⟨b2, c2, M', rfl, hc, hA.less (fun k hk => hk.imp id (fun q => by rw [q]; rfl)), hR', hpr'.trans hpr, (World.cell?_of_block (hkp b rfl)).trans hc9⟩
  have HE : Hid (∀ V ad M b b2, AlK w V ad 1 2 2 8 M (fun k => k = b ∨ k = b2) → Rm 2 1 (fun _ => 5) 1 1 M → M.pr = [⟨1, xO, xR⟩] → V.cell? ⟨b, 0, none⟩ = some (.int .i64 9) → V.cell? ⟨b2, 0, none⟩ = some (.int .i64 3) → Calls Tryz.prog 13 #[.pointer (some ⟨ad.m, 0, none⟩), .int .i64 0, .int .u64 0] V fun e w' => ∃ b3 c3, e = .returned (.tuple #[.slice (some ⟨b3, 0, none⟩) 2 c3, .int .i64 0]) ∧ w'.cell? ⟨b3, 6, none⟩ = some (.int .i64 10) ∧ w'.cell? ⟨b, 0, none⟩ = some (.int .i64 9) ∧ w'.cell? ⟨b2, 0, none⟩ = some (.int .i64 3) ∧ Below w.heap.size w w') := fun V ad M b b2 h hR hpr hc9 hc3 => by
    refine (h.exit1 hR ⟨1, xO, xR⟩ hpr (by decide) rfl 0 (by decide) (by decide)).mono ?_
    rintro e w' ⟨v, M', e1, e2, rfl, hev, _, hk, ⟨hA, hkp⟩⟩
    obtain ⟨b3, c3, rfl, hc⟩ := hev.at (i := 1) rfl
    rw [hk] at hc
    exact ⟨b3, c3, rfl, hc, (World.cell?_of_block (hkp b (.inl rfl))).trans hc9, (World.cell?_of_block (hkp b2 (.inr rfl))).trans hc3, hA.bel⟩
  clear ht
  go_enter Tryz.func20, Tryz.ntmps20
  go_wp2_with (first
    | (go_at_call 10; refine (HN.out).mono ?_; rintro e w1 ⟨ad, rfl, hA⟩; have HA := veil hA; clear hA)
    | (go_at_call 17; refine (HL.out _ ad HA.out).mono ?_; rintro e w2 ⟨rfl, hA2⟩; have HA2 := veil hA2; clear hA2)
    | (go_at_call 19; refine (HS.out _ ad HA2.out).mono ?_; rintro e w3 ⟨b, c, M3, rfl, hc9, hA3, hR3, hp3⟩; have HA3 := veil hA3; have HR3 := veil hR3; have HP3 := veil hp3; have HC9 := veil hc9; clear hA3 hR3 hp3 hc9)
    | (go_at_call 13; refine (HD.out w3 ad M3 b HA3.out HR3.out HP3.out HC9.out).mono ?_; rintro e w4 ⟨b2, c2, M4, rfl, hc3, hA4, hR4, hp4, hc9⟩; have HA4 := veil hA4; have HR4 := veil hR4; have HP4 := veil hp4; have HC9b := veil hc9; have HC3 := veil hc3; clear hA4 hR4 hp4 hc9 hc3)
    | (go_at_call 13; refine (HE.out w4 ad M4 b b2 HA4.out HR4.out HP4.out HC9b.out HC3.out).mono ?_; rintro e w5 ⟨b3, c3, rfl, hc10, hc9, hc3, hbel⟩; have HBL := veil hbel; clear hbel))
  go_ret
  exact ⟨rfl, HBL.out⟩
end Go.Proofs.YtjlbmmiomfpgiaaGreatDoor
namespace Go.Proofs.YtjlbmmiomfpgiaaGreatDoor
set_option maxRecDepth 100000
open Go.RowKit Go.Lib Go.Shelf
set_option linter.unusedVariables false
attribute [local go_sem ↓] Go.wp_at_zero Go.wp_at_succ
theorem gnew_any (n : Int) (V : World) : Calls Tryz.prog 31 #[.int .i64 n] V fun e w' => (∃ o, e = .returned (.pointer o)) ∧ Below V.heap.size V w' := by
  by_cases h : n < 1 ∨ 1024 < n
  · exact (Gt.new_not n V h).mono (fun e w' ⟨he, hw⟩ => ⟨⟨_, he⟩, beq hw⟩)
  · obtain ⟨k, rfl⟩ : ∃ k : Nat, n = k := ⟨n.toNat, by omega⟩
    exact (Gt.new_ok k V (by omega) (by omega)).mono (fun e w' ⟨he, _, hb⟩ => ⟨⟨_, he⟩, hb⟩)
theorem cnew_any (n : Int) (V : World) : Calls Tryz.prog 32 #[.int .i64 n] V fun e w' => (∃ o, e = .returned (.pointer o)) ∧ Below V.heap.size V w' := by
  by_cases h : n < 1 ∨ 64 < n
  · exact (Cb.new_not V n h).mono (fun e w' ⟨he, hw⟩ => ⟨⟨_, he⟩, beq hw⟩)
  · obtain ⟨k, rfl⟩ : ∃ k : Nat, n = k := ⟨n.toNat, by omega⟩
    exact (Cb.new_ok V k (by omega) (by omega)).mono (fun e w' ⟨he, hw⟩ => ⟨⟨_, he⟩, by rw [hw]; exact (Below.refl _ _).alloc (Nat.le_refl _) _⟩)
theorem wnew_any (n : Int) (V : World) : Calls Tryz.prog 35 #[.int .i64 n] V fun e w' => (∃ o, e = .returned (.pointer o)) ∧ Below V.heap.size V w' := by
  by_cases h : n < 1 ∨ 1024 < n
  · exact (Wh.new_not n V h).mono (fun e w' ⟨he, hw⟩ => ⟨⟨_, he⟩, beq hw⟩)
  · obtain ⟨k, rfl⟩ : ∃ k : Nat, n = k := ⟨n.toNat, by omega⟩
    exact (Wh.new_isW k V (by omega) (by omega)).mono (fun e w' ⟨_, _, _, he, _, _, hb⟩ => ⟨⟨_, he⟩, hb⟩)
theorem pinew_any (n m : Int) (V : World) : Calls Tryz.prog 33 #[.int .i64 n, .int .i64 m] V fun e w' => (∃ o, e = .returned (.pointer o) ∧ (¬ ((1 ≤ n ∧ n ≤ 1024) ∧ 0 ≤ m ∧ m ≤ 32) → o = none)) ∧ Below V.heap.size V w' := by
  by_cases h : (1 ≤ n ∧ n ≤ 1024) ∧ 0 ≤ m ∧ m ≤ 32
  · obtain ⟨k, rfl⟩ : ∃ k : Nat, n = k := ⟨n.toNat, by omega⟩
    obtain ⟨j, rfl⟩ : ∃ j : Nat, m = j := ⟨m.toNat, by omega⟩
    exact (Pi.pnew_ok k j V (by omega) (by omega) (by omega)).mono (fun e w' ⟨_, _, he, _, hb⟩ => ⟨⟨_, he, fun q => absurd h q⟩, hb⟩)
  · exact (Pi.gnew_not n m V (by omega)).mono (fun e w' ⟨he, hw⟩ => ⟨⟨_, he, fun _ => rfl⟩, beq hw⟩)
theorem prnew_any (P n q : Int) (V : World) : Calls Tryz.prog 34 #[.int .i64 P, .int .i64 n, .int .i64 q] V fun e w' => (∃ o, e = .returned (.pointer o) ∧ (¬ (1 ≤ P ∧ P ≤ 64 ∧ 1 ≤ n ∧ n ≤ 1024 ∧ 1 ≤ q ∧ q ≤ 256) → o = none)) ∧ Below V.heap.size V w' := by
  by_cases h : 1 ≤ P ∧ P ≤ 64 ∧ 1 ≤ n ∧ n ≤ 1024 ∧ 1 ≤ q ∧ q ≤ 256
  · obtain ⟨k, rfl⟩ : ∃ k : Nat, P = k := ⟨P.toNat, by omega⟩
    obtain ⟨j, rfl⟩ : ∃ j : Nat, n = j := ⟨n.toNat, by omega⟩
    obtain ⟨i, rfl⟩ : ∃ i : Nat, q = i := ⟨q.toNat, by omega⟩
    exact (pnew_pq k j i V (by omega) (by omega) (by omega)).mono (fun e w' ⟨_, he, _, _, hb⟩ => ⟨⟨_, he, fun q => absurd h q⟩, hb⟩)
  · exact (pnew_no P n q V h).mono (fun e w' ⟨he, hw⟩ => ⟨⟨_, he, fun _ => rfl⟩, beq hw⟩)
set_option maxHeartbeats 8000000 in
theorem new_no (P n q m : Int) (qu ag : Nat) (w : World) (hno : ¬ ((1 ≤ P ∧ P ≤ 64) ∧ (1 ≤ n ∧ n ≤ 1024) ∧ (1 ≤ q ∧ q ≤ 256) ∧ (0 ≤ m ∧ m ≤ 32) ∧ 1 ≤ qu ∧ 1 ≤ ag)) :
    Calls Tryz.prog 10 #[.agg #[.int .i64 P, .int .i64 n, .int .i64 q, .int .i64 m, .int .u64 (qu : Int), .int .u64 (ag : Int)]] w fun e w' => e = .returned (.pointer none) ∧ Below w.heap.size w w' := by
  obtain ⟨W0, hW0⟩ : ∃ W0, w.alloc (.cells #[.int .i64 P, .int .i64 n, .int .i64 q, .int .i64 m, .int .u64 (qu : Int), .int .u64 (ag : Int)] 30) = W0 := ⟨_, rfl⟩
  obtain ⟨cb, hcb⟩ : ∃ cb, w.heap.size = cb := ⟨_, rfl⟩
  have HB0 : Hid (Below w.heap.size w W0) := by rw [← hW0]; exact (Below.refl _ _).alloc (Nat.le_refl _) _
  have c0 : W0.cell? ⟨cb, 0, none⟩ = some (.int .i64 P) := by rw [← hW0, ← hcb]; exact newc _ _ _ 0 _ rfl
  have c1 : W0.cell? ⟨cb, 1, none⟩ = some (.int .i64 n) := by rw [← hW0, ← hcb]; exact newc _ _ _ 1 _ rfl
  have c2 : W0.cell? ⟨cb, 2, none⟩ = some (.int .i64 q) := by rw [← hW0, ← hcb]; exact newc _ _ _ 2 _ rfl
  have c3 : W0.cell? ⟨cb, 3, none⟩ = some (.int .i64 m) := by rw [← hW0, ← hcb]; exact newc _ _ _ 3 _ rfl
  have c4 : W0.cell? ⟨cb, 4, none⟩ = some (.int .u64 (qu : Int)) := by rw [← hW0, ← hcb]; exact newc _ _ _ 4 _ rfl
  have c5 : W0.cell? ⟨cb, 5, none⟩ = some (.int .u64 (ag : Int)) := by rw [← hW0, ← hcb]; exact newc _ _ _ 5 _ rfl
  have hC : ∀ V, Below W0.heap.size W0 V → V.cell? ⟨cb, 0, none⟩ = some (.int .i64 P) ∧ V.cell? ⟨cb, 1, none⟩ = some (.int .i64 n) ∧ V.cell? ⟨cb, 2, none⟩ = some (.int .i64 q) ∧ V.cell? ⟨cb, 3, none⟩ = some (.int .i64 m) ∧ V.cell? ⟨cb, 4, none⟩ = some (.int .u64 (qu : Int)) ∧ V.cell? ⟨cb, 5, none⟩ = some (.int .u64 (ag : Int)) := fun V hb => ⟨kc hb c0, kc hb c1, kc hb c2, kc hb c3, kc hb c4, kc hb c5⟩
  have HC := veil hC
  have HZ : Hid (Below W0.heap.size W0 W0) := Below.refl _ _
  have HG : Hid (∀ V0 V, Below W0.heap.size W0 V0 → lk V0 V → Calls Tryz.prog 31 #[.int .i64 n] V fun e w' => ∃ o, e = .returned (.pointer o) ∧ Below W0.heap.size W0 w') := fun V0 V h0 hl => (gnew_any n V).mono (fun e w' ⟨⟨o, he⟩, hb⟩ => ⟨o, he, bt h0 (hl.bel hb)⟩)
  have HS : Hid (∀ V0 V, Below W0.heap.size W0 V0 → lk V0 V → Calls Tryz.prog 32 #[.int .i64 P] V fun e w' => ∃ o, e = .returned (.pointer o) ∧ Below W0.heap.size W0 w') := fun V0 V h0 hl => (cnew_any P V).mono (fun e w' ⟨⟨o, he⟩, hb⟩ => ⟨o, he, bt h0 (hl.bel hb)⟩)
  have HWH : Hid (∀ V0 V, Below W0.heap.size W0 V0 → lk V0 V → Calls Tryz.prog 35 #[.int .i64 n] V fun e w' => ∃ o, e = .returned (.pointer o) ∧ Below W0.heap.size W0 w') := fun V0 V h0 hl => (wnew_any n V).mono (fun e w' ⟨⟨o, he⟩, hb⟩ => ⟨o, he, bt h0 (hl.bel hb)⟩)
  have HPI : Hid (∀ V0 V, Below W0.heap.size W0 V0 → lk V0 V → Calls Tryz.prog 33 #[.int .i64 n, .int .i64 m] V fun e w' => ∃ o, e = .returned (.pointer o) ∧ (¬ ((1 ≤ n ∧ n ≤ 1024) ∧ 0 ≤ m ∧ m ≤ 32) → o = none) ∧ Below W0.heap.size W0 w') := fun V0 V h0 hl => (pinew_any n m V).mono (fun e w' ⟨⟨o, he, hx⟩, hb⟩ => ⟨o, he, hx, bt h0 (hl.bel hb)⟩)
  have HPR : Hid (∀ V0 V, Below W0.heap.size W0 V0 → lk V0 V → Calls Tryz.prog 34 #[.int .i64 P, .int .i64 n, .int .i64 q] V fun e w' => ∃ o, e = .returned (.pointer o) ∧ (¬ (1 ≤ P ∧ P ≤ 64 ∧ 1 ≤ n ∧ n ≤ 1024 ∧ 1 ≤ q ∧ q ≤ 256) → o = none) ∧ Below W0.heap.size W0 w') := fun V0 V h0 hl => (prnew_any P n q V).mono (fun e w' ⟨⟨o, he, hx⟩, hb⟩ => ⟨o, he, hx, bt h0 (hl.bel hb)⟩)
  have hbm := buildMa
  have HNO := veil hno
  have HW0 := veil hW0
  have HCB := veil hcb
  clear hno
  go_enter Tryz.func10, Tryz.ntmps10
  go_wp2
  clear HW0 hW0 hcb
  go_region_held3 (fun w' => w'.cell? ⟨cb, 0, none⟩ = some (.int .i64 P) ∧ w'.cell? ⟨cb, 1, none⟩ = some (.int .i64 n) ∧ w'.cell? ⟨cb, 2, none⟩ = some (.int .i64 q) ∧ w'.cell? ⟨cb, 3, none⟩ = some (.int .i64 m) ∧ w'.cell? ⟨cb, 4, none⟩ = some (.int .u64 (qu : Int)) ∧ w'.cell? ⟨cb, 5, none⟩ = some (.int .u64 (ag : Int)))
    (first | exact HC.out _ HB5.out | exact HC.out _ HB4.out | exact HC.out _ HB3.out | exact HC.out _ HB2.out | exact HC.out _ HB1.out | go_keep)
    (first
      | (go_at_call 31; refine (HG.out W0 _ HZ.out (by exact ⟨rfl, rfl, rfl, rfl⟩)).mono ?_; rintro e w1 ⟨o1, rfl, b1'⟩; have HB1 := veil b1'; clear b1')
      | (go_at_call 32; refine (HS.out w1 _ HB1.out (by exact ⟨rfl, rfl, rfl, rfl⟩)).mono ?_; rintro e w2 ⟨o2, rfl, b1'⟩; have HB2 := veil b1'; clear b1')
      | (go_at_call 33; refine (HPI.out w2 _ HB2.out (by exact ⟨rfl, rfl, rfl, rfl⟩)).mono ?_; rintro e w3 ⟨o3, rfl, x3, b1'⟩; have HX3 := veil x3; have HB3 := veil b1'; clear b1' x3)
      | (go_at_call 34; refine (HPR.out w3 _ HB3.out (by exact ⟨rfl, rfl, rfl, rfl⟩)).mono ?_; rintro e w4 ⟨o4, rfl, x4, b1'⟩; have HX4 := veil x4; have HB4 := veil b1'; clear b1' x4)
      | (go_at_call 35; refine (HWH.out w4 _ HB4.out (by exact ⟨rfl, rfl, rfl, rfl⟩)).mono ?_; rintro e w5 ⟨o5, rfl, b1'⟩; have HB5 := veil b1'; clear b1'))
  rename_i hHeld
  clear hHeld
  have hb6 : Below W0.heap.size W0 (w5.alloc (.cells #[.int .u64 (qu : Int), .int .u64 (ag : Int), .slice none 0 0, .slice none 0 0, .slice none 0 0, .pointer o1, .pointer o2, .pointer o3, .pointer o4, .pointer o5] 96)) := bt HB5.out ((Below.refl w5.heap.size w5).alloc (Nat.le_refl _) _)
  have x7 : (w5.alloc (.cells #[.int .u64 (qu : Int), .int .u64 (ag : Int), .slice none 0 0, .slice none 0 0, .slice none 0 0, .pointer o1, .pointer o2, .pointer o3, .pointer o4, .pointer o5] 96)).cell? ⟨w5.heap.size, 7, none⟩ = some (.pointer o3) := newc _ _ _ 7 _ rfl
  have x8 : (w5.alloc (.cells #[.int .u64 (qu : Int), .int .u64 (ag : Int), .slice none 0 0, .slice none 0 0, .slice none 0 0, .pointer o1, .pointer o2, .pointer o3, .pointer o4, .pointer o5] 96)).cell? ⟨w5.heap.size, 8, none⟩ = some (.pointer o4) := newc _ _ _ 8 _ rfl
  generalize (w5.alloc (.cells #[.int .u64 (qu : Int), .int .u64 (ag : Int), .slice none 0 0, .slice none 0 0, .slice none 0 0, .pointer o1, .pointer o2, .pointer o3, .pointer o4, .pointer o5] 96)) = W6 at *
  obtain ⟨d0, d1, _, _, d4, d5⟩ := hC _ hb6
  have HB6 := veil hb6
  have hways : o3 = none ∨ (∃ p3, o3 = some p3 ∧ (o4 = none ∨ ∃ p4, o4 = some p4 ∧ ((qu : Int) < 1 ∨ (¬ (qu : Int) < 1 ∧ (ag : Int) < 1)))) := by
    cases o3 with
    | none => exact .inl rfl
    | some p3 =>
      refine .inr ⟨p3, rfl, ?_⟩
      cases o4 with
      | none => exact .inl rfl
      | some p4 =>
        refine .inr ⟨p4, rfl, ?_⟩
        have q3 : (1 ≤ n ∧ n ≤ 1024) ∧ 0 ≤ m ∧ m ≤ 32 := Classical.not_not.1 (fun q => by have := HX3.out q; cases this)
        have q4 : 1 ≤ P ∧ P ≤ 64 ∧ 1 ≤ n ∧ n ≤ 1024 ∧ 1 ≤ q ∧ q ≤ 256 := Classical.not_not.1 (fun q => by have := HX4.out q; cases this)
        have := HNO.out
        omega
  clear hC c0 c1 c2 c3 c4 c5 hb6
  rcases hways with rfl | ⟨p3, rfl, rfl | ⟨p4, rfl, h1 | ⟨h1, h2⟩⟩⟩
  all_goals
    go_wp2
    go_ret
    exact ⟨rfl, bt HB0.out HB6.out⟩
end Go.Proofs.YtjlbmmiomfpgiaaGreatDoor
namespace Go.Proofs.YtjlbmmiomfpgiaaGreatDoor
set_option maxRecDepth 100000
open Go.RowKit Go.Lib Go.Shelf
set_option linter.unusedVariables false
attribute [local go_sem ↓] Go.wp_at_zero Go.wp_at_succ
theorem nil_load (v : Value) (w : World) : Calls Tryz.prog 17 #[.pointer none, v] w fun e w' => e = .returned (.tuple #[.int .i64 0, .int .i64 1]) ∧ w' = w := by
  go_enter Tryz.func17, Tryz.ntmps17
  go_wp2
  go_ret2
  exact ⟨rfl, rfl⟩
theorem nil_admit (x y : Int) (w : World) : Calls Tryz.prog 12 #[.pointer none, .int .u64 x, .int .u64 y] w fun e w' => e = .returned (.tuple #[.int .i64 0, .int .i64 1]) ∧ w' = w := by
  go_enter Tryz.func12, Tryz.ntmps12
  go_wp2
  go_ret2
  exact ⟨rfl, rfl⟩
theorem nil_start (x y z : Int) (w : World) : Calls Tryz.prog 19 #[.pointer none, .int .i64 x, .int .u8 y, .int .i64 z] w fun e w' => e = .returned (.tuple #[.slice none 0 0, .int .i64 1]) ∧ w' = w := by
  go_enter Tryz.func19, Tryz.ntmps19
  go_wp2
  go_ret2
  exact ⟨rfl, rfl⟩
theorem nil_step (x y : Int) (w : World) : Calls Tryz.prog 13 #[.pointer none, .int .i64 x, .int .u64 y] w fun e w' => e = .returned (.tuple #[.slice none 0 0, .int .i64 1]) ∧ w' = w := by
  go_enter Tryz.func13, Tryz.ntmps13
  go_wp2
  go_ret2
  exact ⟨rfl, rfl⟩
theorem nil_runs (x : Int) (w : World) : Calls Tryz.prog 21 #[.pointer none, .int .i64 x] w fun e w' => e = .returned (.tuple #[.agg #[.int .i64 0, .int .u32 0], .bool false]) ∧ Below w.heap.size w w' := by
  go_enter Tryz.func21, Tryz.ntmps21
  go_wp2
  simp [bodyPost, results, Tryz.results21, go_sem]
  exact (Below.refl _ _).alloc (Nat.le_refl _) _
theorem nil_tick (w : World) : Calls Tryz.prog 16 #[.pointer none] w fun e w' => e = .returned (.slice none 0 0) ∧ w' = w := by
  go_enter Tryz.func16, Tryz.ntmps16
  go_wp2
  go_ret
  exact ⟨rfl, rfl⟩
theorem nil_now (w : World) : Calls Tryz.prog 22 #[.pointer none] w fun e w' => e = .returned (.int .u64 0) ∧ w' = w := by
  go_enter Tryz.func22, Tryz.ntmps22
  go_wp2
  go_ret
  exact ⟨rfl, rfl⟩
theorem nil_threads (w : World) : Calls Tryz.prog 23 #[.pointer none] w fun e w' => e = .returned (.slice none 0 0) ∧ w' = w := by
  go_enter Tryz.func23, Tryz.ntmps23
  go_wp2
  go_ret
  exact ⟨rfl, rfl⟩
theorem nil_waiting (x : Int) (w : World) : Calls Tryz.prog 24 #[.pointer none, .int .i64 x] w fun e w' => e = .returned (.slice none 0 0) ∧ w' = w := by
  go_enter Tryz.func24, Tryz.ntmps24
  go_wp2
  go_ret
  exact ⟨rfl, rfl⟩
theorem nil_owner (x : Int) (w : World) : Calls Tryz.prog 25 #[.pointer none, .int .i64 x] w fun e w' => e = .returned (.int .i64 (-1)) ∧ w' = w := by
  go_enter Tryz.func25, Tryz.ntmps25
  go_wp2
  go_ret
  exact ⟨rfl, rfl⟩
theorem nil_left (x : Int) (w : World) : Calls Tryz.prog 15 #[.pointer none, .int .i64 x] w fun e w' => e = .returned (.int .u64 0) ∧ w' = w := by
  go_enter Tryz.func15, Tryz.ntmps15
  go_wp2
  go_ret
  exact ⟨rfl, rfl⟩
theorem nil_deadline (x : Int) (w : World) : Calls Tryz.prog 26 #[.pointer none, .int .i64 x] w fun e w' => e = .returned (.int .u64 0) ∧ w' = w := by
  go_enter Tryz.func26, Tryz.ntmps26
  go_wp2
  go_ret
  exact ⟨rfl, rfl⟩
theorem nil_fork (w : World) : Calls Tryz.prog 27 #[.pointer none] w fun e w' => e = .returned (.pointer none) ∧ w' = w := by
  go_enter Tryz.func27, Tryz.ntmps27
  go_wp2
  go_ret
  exact ⟨rfl, rfl⟩
theorem few_any (w : World) (a : Option Addr) (len cap : Nat) (hlen : len < 9223372036854775808) (hcap : len ≤ cap) : Calls Tryz.prog 18 #[.slice a len cap] w fun e w' => e = .returned (.slice a (min len 70) cap) ∧ w' = w := by
  by_cases h : 70 < len
  · have h' : (70 : Int) < (len : Int) := by omega
    rw [show min len 70 = 70 by omega]
    go_enter Tryz.func18, Tryz.ntmps18
    go_wp2
    go_ret
    exact ⟨rfl, rfl⟩
  · have h' : ¬ (70 : Int) < (len : Int) := by omega
    rw [show min len 70 = len by omega]
    go_enter Tryz.func18, Tryz.ntmps18
    go_wp2
    go_ret
    exact ⟨rfl, rfl⟩
end Go.Proofs.YtjlbmmiomfpgiaaGreatDoor
namespace Go.Proofs.YtjlbmmiomfpgiaaGreatDoor
set_option maxRecDepth 100000
open Go.RowKit Go.Lib Go.Deep Go.ChangeShapes Go.WideShapes
set_option linter.unusedVariables false
theorem b64 {z : Int} (h : (Lit.int .u64 z).wf = true) : ∃ n : Nat, z = n ∧ n < 18446744073709551616 := by
  simp [Lit.wf, IntKind.min, IntKind.max, IntKind.bits, IntKind.signed] at h
  exact ⟨z.toNat, by omega, by omega⟩
section
variable {H : Type} {enc : TypeId × Value → H} {w : World} {base : Nat} {spare : Nat → Bool} {held : Bool}
theorem cells14 : Tryz.prog.cellsOf 37 = 9 := by kernel_rfl
theorem cellsCf : Tryz.prog.cellsOf 30 = 6 := by kernel_rfl
theorem cellsI4 : Tryz.prog.cellsOf 3 = 1 := by kernel_rfl
theorem cellsU64d : Tryz.prog.cellsOf 25 = 1 := by kernel_rfl
theorem cellsCd : Tryz.prog.cellsOf 35 = 1 := by kernel_rfl
theorem d14_cells {fuel : Nat} {c0 c1 c2 c3 c4 c5 c6 c7 c8 : Value} {x : DataW H × List MemPlace} (h : DataW.trod enc Tryz.prog w base spare held fuel 37 [c0, c1, c2, c3, c4, c5, c6, c7, c8] = some x) :
    ∃ (k p d : Int) (ca : Option Addr) (len cc : Nat) (b e : Int) (g l s : Int), c0 = .int .i64 k ∧ c1 = .int .i64 p ∧ c2 = .int .u64 d ∧ c3 = .slice ca len cc ∧ c4 = .int .u64 b ∧ c5 = .int .u64 e ∧ c6 = .int .i64 g ∧ c7 = .int .u8 l ∧ c8 = .int .i64 s ∧ len < 9223372036854775808 ∧ len ≤ cc := by
  obtain ⟨xs, n, _, _, _, hl, hf⟩ := DataW.trod_struct Tryz.underlying37 h
  match xs, hl with
  | [y0, y1, y2, y3, y4, y5, y6, y7, y8], _ =>
    obtain ⟨z0, e0, _, w0⟩ := DataW.trod_int Tryz.underlying3 (by simpa [cellsI4] using hf 0 _ rfl)
    obtain ⟨z1, e1, _, w1⟩ := DataW.trod_int Tryz.underlying3 (by simpa [cellsI4] using hf 1 _ rfl)
    obtain ⟨z2, e2, _, w2⟩ := DataW.trod_int Tryz.underlying25 (by simpa [cellsU64d] using hf 2 _ rfl)
    obtain ⟨z4, e4, _, w4⟩ := DataW.trod_int Tryz.underlying25 (by simpa [cellsU64d] using hf 4 _ rfl)
    obtain ⟨z5, e5, _, w5⟩ := DataW.trod_int Tryz.underlying25 (by simpa [cellsU64d] using hf 5 _ rfl)
    obtain ⟨z6, e6, _, w6⟩ := DataW.trod_int Tryz.underlying3 (by simpa [cellsI4] using hf 6 _ rfl)
    obtain ⟨z7, e7, _, w7⟩ := DataW.trod_int Tryz.underlying5 (by simpa [cellsU8b] using hf 7 _ rfl)
    obtain ⟨z8, e8, _, w8⟩ := DataW.trod_int Tryz.underlying3 (by simpa [cellsI4] using hf 8 _ rfl)
    have h3 : DataW.trod enc Tryz.prog w base spare held n 35 [c3] = some y3 := by simpa [cellsCd] using hf 3 _ rfl
    simp at e0 e1 e2 e4 e5 e6 e7 e8
    rcases open_slice Tryz.underlying35 h3 with ⟨hcs, _⟩ | ⟨a', len', cap', m, n', D, Pl, hcs, hbb, hl, hm, hmm, hx, hel⟩
    · simp at hcs
      exact ⟨z0, z1, z2, _, _, _, z4, z5, z6, z7, z8, e0, e1, e2, hcs, e4, e5, e6, e7, e8, by omega, by omega⟩
    · simp at hcs
      exact ⟨z0, z1, z2, _, _, _, z4, z5, z6, z7, z8, e0, e1, e2, hcs, e4, e5, e6, e7, e8, by unfold maxLen at hm; omega, hl⟩
theorem open_d14 {r : Reach} {b0 : Nat} {v : Value} {d : DataW H} {p : List MemPlace} (hv : Value.okWide Tryz.prog w r b0 37 v) (h : DataW.Trod enc Tryz.prog w base spare held 37 v d p) :
    ∃ (k p d : Int) (ca : Option Addr) (len cc : Nat) (b e : Int) (g l s : Int), v = .agg #[.int .i64 k, .int .i64 p, .int .u64 d, .slice ca len cc, .int .u64 b, .int .u64 e, .int .i64 g, .int .u8 l, .int .i64 s] ∧ len < 9223372036854775808 ∧ len ≤ cc := by
  obtain ⟨cs, rfl, hsz⟩ := okWide_struct Tryz.underlying37 hv
  rw [cells14] at hsz
  obtain ⟨l⟩ := cs
  match l, hsz with
  | [c0, c1, c2, c3, c4, c5, c6, c7, c8], _ =>
    obtain ⟨fuel, hf⟩ := h
    obtain ⟨k, p, d, ca, len, cc, b, e, g, l, s, rfl, rfl, rfl, rfl, rfl, rfl, rfl, rfl, rfl, q1, q2⟩ := d14_cells (c0 := c0) (c1 := c1) (c2 := c2) (c3 := c3) (c4 := c4) (c5 := c5) (c6 := c6) (c7 := c7) (c8 := c8) (by simpa [Value.cells] using hf)
    exact ⟨k, p, d, ca, len, cc, b, e, g, l, s, rfl, q1, q2⟩
theorem cf_cells {fuel : Nat} {c0 c1 c2 c3 c4 c5 : Value} {x : DataW H × List MemPlace} (h : DataW.trod enc Tryz.prog w base spare held fuel 30 [c0, c1, c2, c3, c4, c5] = some x) :
    ∃ (P n q m : Int) (qu ag : Nat), c0 = .int .i64 P ∧ c1 = .int .i64 n ∧ c2 = .int .i64 q ∧ c3 = .int .i64 m ∧ c4 = .int .u64 (qu : Int) ∧ c5 = .int .u64 (ag : Int) ∧ qu < 18446744073709551616 ∧ ag < 18446744073709551616 := by
  obtain ⟨xs, n, _, _, _, hl, hf⟩ := DataW.trod_struct Tryz.underlying30 h
  match xs, hl with
  | [y0, y1, y2, y3, y4, y5], _ =>
    obtain ⟨z0, e0, _, w0⟩ := DataW.trod_int Tryz.underlying3 (by simpa [cellsI4] using hf 0 _ rfl)
    obtain ⟨z1, e1, _, w1⟩ := DataW.trod_int Tryz.underlying3 (by simpa [cellsI4] using hf 1 _ rfl)
    obtain ⟨z2, e2, _, w2⟩ := DataW.trod_int Tryz.underlying3 (by simpa [cellsI4] using hf 2 _ rfl)
    obtain ⟨z3, e3, _, w3⟩ := DataW.trod_int Tryz.underlying3 (by simpa [cellsI4] using hf 3 _ rfl)
    obtain ⟨z4, e4, _, w4⟩ := DataW.trod_int Tryz.underlying25 (by simpa [cellsU64d] using hf 4 _ rfl)
    obtain ⟨z5, e5, _, w5⟩ := DataW.trod_int Tryz.underlying25 (by simpa [cellsU64d] using hf 5 _ rfl)
    simp at e0 e1 e2 e3 e4 e5
    obtain ⟨n4, rfl, q4⟩ := b64 w4
    obtain ⟨n5, rfl, q5⟩ := b64 w5
    exact ⟨z0, z1, z2, z3, n4, n5, e0, e1, e2, e3, e4, e5, q4, q5⟩
theorem open_cf {r : Reach} {b0 : Nat} {v : Value} {d : DataW H} {p : List MemPlace} (hv : Value.okWide Tryz.prog w r b0 30 v) (h : DataW.Trod enc Tryz.prog w base spare held 30 v d p) :
    ∃ (P n q m : Int) (qu ag : Nat), v = .agg #[.int .i64 P, .int .i64 n, .int .i64 q, .int .i64 m, .int .u64 (qu : Int), .int .u64 (ag : Int)] ∧ qu < 18446744073709551616 ∧ ag < 18446744073709551616 := by
  obtain ⟨cs, rfl, hsz⟩ := okWide_struct Tryz.underlying30 hv
  rw [cellsCf] at hsz
  obtain ⟨l⟩ := cs
  match l, hsz with
  | [c0, c1, c2, c3, c4, c5], _ =>
    obtain ⟨fuel, hf⟩ := h
    obtain ⟨P, n, q, m, qu, ag, rfl, rfl, rfl, rfl, rfl, rfl, q1, q2⟩ := cf_cells (c0 := c0) (c1 := c1) (c2 := c2) (c3 := c3) (c4 := c4) (c5 := c5) (by simpa [Value.cells] using hf)
    exact ⟨P, n, q, m, qu, ag, rfl, q1, q2⟩
end
end Go.Proofs.YtjlbmmiomfpgiaaGreatDoor
namespace Go.Proofs.YtjlbmmiomfpgiaaGreatDoor
set_option maxRecDepth 100000
open Go.RowKit Go.Lib Go.Shelf
set_option linter.unusedVariables false
attribute [local go_sem ↓] Go.wp_at_zero Go.wp_at_succ
/-- Whether a config may be. -/
def cfOk (P n q m : Int) (qu ag : Nat) : Prop := (1 ≤ P ∧ P ≤ 64) ∧ (1 ≤ n ∧ n ≤ 1024) ∧ (1 ≤ q ∧ q ≤ 256) ∧ (0 ≤ m ∧ m ≤ 32) ∧ 1 ≤ qu ∧ 1 ≤ ag
instance (P n q m : Int) (qu ag : Nat) : Decidable (cfOk P n q m qu ag) := by unfold cfOk; infer_instance
theorem new_all (P n q m : Int) (qu ag : Nat) (hqu : qu < 18446744073709551616) (hag : ag < 18446744073709551616) (V : World) (ht : Gt.Tab V) :
    Calls Tryz.prog 10 #[.agg #[.int .i64 P, .int .i64 n, .int .i64 q, .int .i64 m, .int .u64 (qu : Int), .int .u64 (ag : Int)]] V fun e w' => ∃ o, e = .returned (.pointer o) ∧ (o ≠ none ↔ cfOk P n q m qu ag) ∧ Below V.heap.size V w' := by
  by_cases h : cfOk P n q m qu ag
  · have h' := h
    unfold cfOk at h'
    obtain ⟨p, rfl⟩ : ∃ p : Nat, P = p := ⟨P.toNat, by omega⟩
    obtain ⟨k, rfl⟩ : ∃ k : Nat, n = k := ⟨n.toNat, by omega⟩
    obtain ⟨j, rfl⟩ : ∃ j : Nat, q = j := ⟨q.toNat, by omega⟩
    obtain ⟨i, rfl⟩ : ∃ i : Nat, m = i := ⟨m.toNat, by omega⟩
    refine (new_ok p k j i qu ag (by omega) (by omega) (by omega) (by omega) (by omega) (by omega) V ht).mono ?_
    rintro e w' ⟨a, lab, he, _, _, hb⟩
    exact ⟨_, he, ⟨fun _ => h, fun _ q => by cases q⟩, hb⟩
  · refine (new_no P n q m qu ag V h).mono ?_
    rintro e w' ⟨he, hb⟩
    exact ⟨_, he, ⟨fun q => absurd rfl q, fun q => absurd q h⟩, hb⟩
set_option maxHeartbeats 16000000 in
set_option maxRecDepth 20000 in
theorem SchedNone_walk (k p d : Int) (ca : Option Addr) (len cc : Nat) (hlen : len < 9223372036854775808) (hcc : len ≤ cc) (b e g l s P n q m : Int) (qu ag : Nat) (hqu : qu < 18446744073709551616) (hag : ag < 18446744073709551616) (w : World) (ht : Gt.Tab w) :
    Calls Tryz.prog 4 #[.agg #[.int .i64 k, .int .i64 p, .int .u64 d, .slice ca len cc, .int .u64 b, .int .u64 e, .int .i64 g, .int .u8 l, .int .i64 s], .agg #[.int .i64 P, .int .i64 n, .int .i64 q, .int .i64 m, .int .u64 (qu : Int), .int .u64 (ag : Int)]] w fun e w' => e = .returned (.bool true) ∧ Below w.heap.size w w' := by
  have HF := veil (fun V => few_any V ca len cc hlen hcc)
  have H1 := veil nil_load
  have H2 := veil nil_admit
  have H3 := veil nil_start
  have H4 := veil nil_step
  have H5 := veil nil_runs
  obtain ⟨W, hW⟩ : ∃ W, (w.alloc (.cells #[.int .i64 k, .int .i64 p, .int .u64 d, .slice ca len cc, .int .u64 b, .int .u64 e, .int .i64 g, .int .u8 l, .int .i64 s] 37)).alloc (.cells #[.int .i64 P, .int .i64 n, .int .i64 q, .int .i64 m, .int .u64 (qu : Int), .int .u64 (ag : Int)] 30) = W := ⟨_, rfl⟩
  have s1 : (w.alloc (.cells #[.int .i64 k, .int .i64 p, .int .u64 d, .slice ca len cc, .int .u64 b, .int .u64 e, .int .i64 g, .int .u8 l, .int .i64 s] 37)).heap.size = w.heap.size + 1 := by simp
  have hb0 : Below w.heap.size w W := by rw [← hW]; exact ((Below.refl _ _).alloc (Nat.le_refl _) _).alloc (by simp) _
  have hbd : Below (w.alloc (.cells #[.int .i64 k, .int .i64 p, .int .u64 d, .slice ca len cc, .int .u64 b, .int .u64 e, .int .i64 g, .int .u8 l, .int .i64 s] 37)).heap.size (w.alloc (.cells #[.int .i64 k, .int .i64 p, .int .u64 d, .slice ca len cc, .int .u64 b, .int .u64 e, .int .i64 g, .int .u8 l, .int .i64 s] 37)) W := by rw [← hW]; exact (Below.refl _ _).alloc (Nat.le_refl _) _
  have dcell : ∀ i u, (#[.int .i64 k, .int .i64 p, .int .u64 d, .slice ca len cc, .int .u64 b, .int .u64 e, .int .i64 g, .int .u8 l, .int .i64 s] : Array Value)[i]? = some u → W.cell? ⟨w.heap.size, i, none⟩ = some u := fun i u hu => kc hbd (newc _ _ _ i u hu)
  have ccell : ∀ i u, (#[.int .i64 P, .int .i64 n, .int .i64 q, .int .i64 m, .int .u64 (qu : Int), .int .u64 (ag : Int)] : Array Value)[i]? = some u → W.cell? ⟨w.heap.size + 1, i, none⟩ = some u := fun i u hu => by
    rw [← hW, ← s1]
    exact newc _ _ _ i u hu
  have d1 := dcell 1 _ rfl
  have d2 := dcell 2 _ rfl
  have d3 := dcell 3 _ rfl
  have d4 := dcell 4 _ rfl
  have d5 := dcell 5 _ rfl
  have d6 := dcell 6 _ rfl
  have d7 := dcell 7 _ rfl
  have d8 := dcell 8 _ rfl
  have c0 := ccell 0 _ rfl
  have c1 := ccell 1 _ rfl
  have c2 := ccell 2 _ rfl
  have c3 := ccell 3 _ rfl
  have c4 := ccell 4 _ rfl
  have c5 := ccell 5 _ rfl
  have HW := veil hW
  have HB0 := veil hb0
  have HT := veil (ht.below hb0)
  have HLV := veil live_ok
  have HNW := veil (fun V ht => new_all P n q m qu ag hqu hag V ht)
  clear s1 hbd dcell ccell hb0 ht hW
  go_enter Tryz.func4, Tryz.ntmps4
  go_upto_region 1 with fail
  rw [HW.out]
  go_upto_region 7 with (first
    | (go_at_call 18; refine (HF.out _).mono ?_; rintro e w1 ⟨rfl, hw⟩; replace hw := hw.symm; subst hw)
    | (go_at_call 17; refine (H1.out _ _).mono ?_; rintro e w1 ⟨rfl, hw⟩; replace hw := hw.symm; subst hw)
    | (go_at_call 12; refine (H2.out _ _ _).mono ?_; rintro e w1 ⟨rfl, hw⟩; replace hw := hw.symm; subst hw)
    | (go_at_call 19; refine (H3.out _ _ _ _).mono ?_; rintro e w1 ⟨rfl, hw⟩; replace hw := hw.symm; subst hw)
    | (go_at_call 13; refine (H4.out _ _ _).mono ?_; rintro e w1 ⟨rfl, hw⟩; replace hw := hw.symm; subst hw)
    | (go_at_call 21; refine (H5.out _ _).mono ?_; rintro e w1 ⟨rfl, hb1⟩; have HB1 := veil hb1; clear hb1))
  have hX : Below W.heap.size W (w1.alloc (.cells #[.int .i64 0, .int .u32 0] 51)) := bt HB1.out ((Below.refl w1.heap.size w1).alloc (Nat.le_refl _) _)
  have i0 : (w1.alloc (.cells #[.int .i64 0, .int .u32 0] 51)).cell? ⟨w1.heap.size, 0, none⟩ = some (.int .i64 0) := newc _ _ _ 0 _ rfl
  have i1 : (w1.alloc (.cells #[.int .i64 0, .int .u32 0] 51)).cell? ⟨w1.heap.size, 1, none⟩ = some (.int .u32 0) := newc _ _ _ 1 _ rfl
  generalize (w1.alloc (.cells #[.int .i64 0, .int .u32 0] 51)) = X at *
  obtain ⟨ib, hib⟩ : ∃ ib, w1.heap.size = ib := ⟨_, rfl⟩
  rw [hib] at i0 i1 ⊢
  clear hib
  replace c0 := kc hX c0
  replace c1 := kc hX c1
  replace c2 := kc hX c2
  replace c3 := kc hX c3
  replace c4 := kc hX c4
  replace c5 := kc hX c5
  replace d1 := kc hX d1
  have HX := veil hX
  clear hX d2 d3 d4 d5 d6 d7 d8 HF H1 H2 H3 H4 H5 HB1
  go_cut [16] (fun r Wc => Wc = X ∧ r = .bool (decide (cfOk P n q m qu ag)))
  case first =>
    go_wp2
    all_goals go_meet
    all_goals
      case rel =>
        refine ⟨rfl, congrArg Value.bool ?_⟩
        first
          | exact (decide_eq_false (by unfold cfOk; omega)).symm
          | exact decide_eq_decide.2 (by unfold cfOk; omega)
          | exact (decide_eq_true (by unfold cfOk; omega)).symm
  case rest =>
    obtain ⟨rfl, rfl⟩ := hcut
    have HLX := veil (HLV.out _ (HT.out.below HX.out))
    have HTN := veil (fun V hb => (HT.out.below HX.out).below (w' := V) hb)
    clear HLV HT
    have H6 := veil nil_tick
    have H7 := veil nil_now
    have H8 := veil nil_threads
    have H9 := veil nil_waiting
    have H10 := veil nil_owner
    have H11 := veil nil_left
    have H12 := veil nil_deadline
    have H13 := veil nil_fork
    by_cases hcf : cfOk P n q m qu ag
    · have HNY : Hid (∀ V, Gt.Tab V → Calls Tryz.prog 10 #[.agg #[.int .i64 P, .int .i64 n, .int .i64 q, .int .i64 m, .int .u64 (qu : Int), .int .u64 (ag : Int)]] V fun e w' => ∃ x, e = .returned (.pointer (some x)) ∧ Below V.heap.size V w') := fun V ht => (HNW.out V ht).mono (fun e w' ⟨o, he, ho, hb⟩ => by
        cases o with
        | none => exact absurd rfl (ho.2 hcf)
        | some x => exact ⟨x, he, hb⟩)
      have hdc : decide (cfOk P n q m qu ag) = true := decide_eq_true hcf
      rw [hdc]
      clear HNW hdc
      go_wp2_with (first
        | (go_at_call 20; refine (HLX.out).mono ?_; rintro e w2 ⟨rfl, hb⟩; have HB2 := veil hb; replace c0 := kc hb c0; replace c1 := kc hb c1; replace c2 := kc hb c2; replace c3 := kc hb c3; replace c4 := kc hb c4; replace c5 := kc hb c5; replace d1 := kc hb d1; replace i0 := kc hb i0; replace i1 := kc hb i1; have HN2 := veil (HNY.out w2 (HTN.out _ hb)); clear hb)
        | (go_at_call 16; refine (H6.out _).mono ?_; rintro e w3 ⟨rfl, hw⟩; replace hw := hw.symm; subst hw)
        | (go_at_call 22; refine (H7.out _).mono ?_; rintro e w3 ⟨rfl, hw⟩; replace hw := hw.symm; subst hw)
        | (go_at_call 23; refine (H8.out _).mono ?_; rintro e w3 ⟨rfl, hw⟩; replace hw := hw.symm; subst hw)
        | (go_at_call 24; refine (H9.out _ _).mono ?_; rintro e w3 ⟨rfl, hw⟩; replace hw := hw.symm; subst hw)
        | (go_at_call 25; refine (H10.out _ _).mono ?_; rintro e w3 ⟨rfl, hw⟩; replace hw := hw.symm; subst hw)
        | (go_at_call 15; refine (H11.out _ _).mono ?_; rintro e w3 ⟨rfl, hw⟩; replace hw := hw.symm; subst hw)
        | (go_at_call 26; refine (H12.out _ _).mono ?_; rintro e w3 ⟨rfl, hw⟩; replace hw := hw.symm; subst hw)
        | (go_at_call 27; refine (H13.out _).mono ?_; rintro e w3 ⟨rfl, hw⟩; replace hw := hw.symm; subst hw)
        | (go_at_call 10; refine (HN2.out).mono ?_; rintro e w4 ⟨x, rfl, hb⟩; have HB4 := veil hb; clear hb))
      go_ret
      exact ⟨rfl, bt HB0.out (bt HX.out (bt HB2.out HB4.out))⟩
    · have HNY : Hid (∀ V, Gt.Tab V → Calls Tryz.prog 10 #[.agg #[.int .i64 P, .int .i64 n, .int .i64 q, .int .i64 m, .int .u64 (qu : Int), .int .u64 (ag : Int)]] V fun e w' => e = .returned (.pointer none) ∧ Below V.heap.size V w') := fun V ht => (HNW.out V ht).mono (fun e w' ⟨o, he, ho, hb⟩ => by
        cases o with
        | none => exact ⟨he, hb⟩
        | some x => exact absurd (ho.1 (fun q => by cases q)) hcf)
      have hdc : decide (cfOk P n q m qu ag) = false := decide_eq_false hcf
      rw [hdc]
      clear HNW hdc
      go_wp2_with (first
        | (go_at_call 20; refine (HLX.out).mono ?_; rintro e w2 ⟨rfl, hb⟩; have HB2 := veil hb; replace c0 := kc hb c0; replace c1 := kc hb c1; replace c2 := kc hb c2; replace c3 := kc hb c3; replace c4 := kc hb c4; replace c5 := kc hb c5; replace d1 := kc hb d1; replace i0 := kc hb i0; replace i1 := kc hb i1; have HN2 := veil (HNY.out w2 (HTN.out _ hb)); clear hb)
        | (go_at_call 16; refine (H6.out _).mono ?_; rintro e w3 ⟨rfl, hw⟩; replace hw := hw.symm; subst hw)
        | (go_at_call 22; refine (H7.out _).mono ?_; rintro e w3 ⟨rfl, hw⟩; replace hw := hw.symm; subst hw)
        | (go_at_call 23; refine (H8.out _).mono ?_; rintro e w3 ⟨rfl, hw⟩; replace hw := hw.symm; subst hw)
        | (go_at_call 24; refine (H9.out _ _).mono ?_; rintro e w3 ⟨rfl, hw⟩; replace hw := hw.symm; subst hw)
        | (go_at_call 25; refine (H10.out _ _).mono ?_; rintro e w3 ⟨rfl, hw⟩; replace hw := hw.symm; subst hw)
        | (go_at_call 15; refine (H11.out _ _).mono ?_; rintro e w3 ⟨rfl, hw⟩; replace hw := hw.symm; subst hw)
        | (go_at_call 26; refine (H12.out _ _).mono ?_; rintro e w3 ⟨rfl, hw⟩; replace hw := hw.symm; subst hw)
        | (go_at_call 27; refine (H13.out _).mono ?_; rintro e w3 ⟨rfl, hw⟩; replace hw := hw.symm; subst hw)
        | (go_at_call 10; refine (HN2.out).mono ?_; rintro e w4 ⟨rfl, hb⟩; have HB4 := veil hb; clear hb))
      go_ret
      exact ⟨rfl, bt HB0.out (bt HX.out (bt HB2.out HB4.out))⟩
end Go.Proofs.YtjlbmmiomfpgiaaGreatDoor
