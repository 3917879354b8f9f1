/- YtjlbmmiomfpgiaaGreatDoorGu: of the texts Bd1 Bd2 Bd3 what is wanted. -/
import Derived.Test.YtjlbmmiomfpgiaaGreatDoorGs
import Derived.Test.YtjlbmmiomfpgiaaGreatDoorGt
namespace Go.Proofs.YtjlbmmiomfpgiaaGreatDoor
set_option maxRecDepth 100000
open Go.RowKit Go.Lib
set_option linter.unusedVariables false
structure Okt (t : Tr) (x v : Nat) : Prop where
 p : t.p = (x : Int)
 g : t.g = 1
 lv : t.lv = v
 lf : t.lf ≤ v
 sv : t.sv = -1
 sn : t.sn = 0
structure Rm (n P : Nat) (lv : Nat → Nat) (c m : Nat) (M : Mc) : Prop where
 c8 : c ≤ n
 nw : M.nw = 0
 sv : M.sv = []
 pr : M.pr.length = 1
 tl : M.gr.T.length = n
 nol : ∀ y ∈ M.gr.L, y.l = []
 hd : ∀ y ∈ M.gr.L, y.h = -1
 np : ∀ x, x < c → (M.th x).pg = 0 ∧ (M.th x).ia = 0 ∧ (M.th x).il = 0
 old : ∀ x, c ≤ x → x < n → M.S x = 0 ∧ M.G x = 0
 st : ∀ x, x < c → (M.S x = 1 ∨ M.S x = 2) ∧ M.G x = 1
 th : ∀ x, x < c → Okt (M.th x) x (lv x)
 lvs : ∀ x, x < c → lv x < 256
 en : ∀ z, Ent M.pl z → z.1 < c ∧ M.S z.1 = 1 ∧ z.2 = Ke.fixK (lv z.1 : Int)
 ne : ∀ x, x < c → M.S x = 1 → Ent M.pl (x, Ke.fixK (lv x : Int))
 pm : ∀ p, m ≤ p → p < P → (M.pc p).r = -1
 pc : ∀ p, p < m → ∃ x, x < c ∧ (M.pc p).r = (x : Int) ∧ M.S x = 2
 cn : cnt (fun i => M.S i == 2) c = m
 top : ∀ x y, x < c → y < c → M.S x = 2 → M.S y = 1 → lv y ≤ lv x
section
variable {n P c m : Nat} {lv : Nat → Nat} {M : Mc}
theorem aged0n {M : Mc} {t : Tr} (hn : M.nw = 0) (hs : t.sn = 0) (hl : t.lv < 256) : agedOf M t = (t.lv : Int) := by
 unfold agedOf Ag.levN
 split
 ·rfl
 ·have e : Ag.subN (M.nw : Int) (t.sn : Int) = 0 := by rw [hn, hs]; decide
  rw [e, Int.zero_ediv]
  split <;> omega
theorem atL_niln (i : Int) : Cb.atL [] i = ⟨0, 0, 0, 0⟩ := by unfold Cb.atL; split <;> rfl
theorem own0n {M : Mc} {n x v : Nat} (hx : x < n) (hn : M.nw = 0) (hsv : M.sv = []) (h : Okt (M.th x) x v) (hv : v < 256) (hG : M.G x = 1) (hS : M.S x = 1 ∨ M.S x = 2) : ownOf M n (M.th x) = Ke.fixK (v : Int) := by
 unfold ownOf
 rw [hsv, atL_niln, if_neg (by simp), stOf_at hx h.p (by rw [h.g, hG]) (by omega)]
 rcases hS with e | e
 ·rw [if_pos e, aged0n hn h.sn (by rw [h.lv]; exact hv), h.lv]
 ·rw [if_neg (by omega), if_pos e, h.lv]
  have := h.lf
  rw [show max ((v : Int)) ((M.th x).lf : Int) = (v : Int) by omega]
theorem Rm.own (h : Rm n P lv c m M) {x : Nat} (hx : x < c) : ownOf M n (M.th x) = Ke.fixK (lv x : Int) :=
 own0n (by have := h.c8; omega) h.nw h.sv (h.th x hx) (h.lvs x hx) (h.st x hx).2 (h.st x hx).1
theorem Rm.gr (h : Rm n P lv c m M) {g : Pi.Md} (h1 : g.T.length = n) (h2 : g.L = M.gr.L) : Rm n P lv c m { M with gr := g } :=
 ⟨h.c8, h.nw, h.sv, h.pr, h1, fun y hy => h.nol y (by rw [← h2]; exact hy), fun y hy => h.hd y (by rw [← h2]; exact hy), h.np, h.old, h.st, h.th, h.lvs, h.en, h.ne, h.pm, h.pc, h.cn, h.top⟩
theorem Rm.settle (h : Rm n P lv c m M) : Rm n P lv c m (Go.Proofs.YtjlbmmiomfpgiaaGreatDoor.settle M n) := by
 obtain ⟨g, e, h1, h2, _⟩ := settle_quiet (κ := fun x => Ke.fixK (lv x : Int)) h.tl h.nol (fun x hx hs => by
  have hc : x < c := by
   rcases Nat.lt_or_ge x c with q | q
   ·exact q
   ·exact absurd (h.old x q hx).1 hs
  exact ⟨h.own hc, rfl⟩) (fun z hz => (h.en z hz).2.2)
 rw [e]
 exact h.gr h1 h2
theorem Rm.start {q : Nat} (h : Rm n P lv c 0 M) (hP : 1 ≤ P) (hpl : M.pl.length = P + 1) (hc : c < n) (hv : lv c < 256) : Rm n P lv (c + 1) 0 (startM P n q M c 0 (lv c) (-1)) := by
 have hno : ∀ x, x < c → M.S x = 1 := fun x hx => by
  rcases (h.st x hx).1 with e | e
  ·exact e
  ·exfalso
   have := cnt_lt (f := fun _ => false) (g := fun i => M.S i == 2) (x := x) c (fun i _ q => by cases q) hx rfl (by simp [e])
   rw [h.cn] at this
   omega
 unfold startM
 refine Rm.settle ?_
 obtain ⟨e0, e0'⟩ := h.old c (Nat.le_refl _) hc
 unfold beginM
 generalize hM1 : ({ allocM M c with th := Gt.upd M.th c { newTr 0 (lv c) (-1) with p := (c : Int), g := M.G c + 1 } } : Mc) = M1
 have t1 : M1.th c = ⟨(c : Int), 1, 0, lv c, 0, -1, 0, 0, 0, 0⟩ := by
  rw [← hM1]
  show Gt.upd M.th c _ c = _
  rw [Gt.upd_same, e0']
  rfl
 have s1 : M1.S c = 1 := by rw [← hM1]; exact Gt.upd_same _ _ _
 have g1 : M1.G c = 1 := by rw [← hM1]; show Gt.upd M.G c _ c = 1; rw [Gt.upd_same, e0']
 have hm : moveS n M1.G M1.S (M1.th c).p (M1.th c).g 1 = M1.S := by
  have := moveS_no (n := n) (G := M1.G) (S := M1.S) (x := c) (s := 1) (by rw [s1]; decide)
  rw [t1]
  rw [g1] at this
  exact this
 have hst : stOf M1 n (M1.th c) = 1 := by
  rw [stOf_at (x := c) hc (by rw [t1]) (by rw [t1, g1]) (by rw [s1]; omega), s1]
 have hsv1 : M1.sv = [] := by rw [← hM1]; exact h.sv
 have hnw1 : M1.nw = 0 := by rw [← hM1]; exact h.nw
 have hr2 : ready2 n M1 c = { M1 with th := Gt.upd M1.th c { M1.th c with sn := 0, lf := 0 } } := by
  unfold ready2 ready1
  rw [hst, if_neg (by omega), hm, hsv1, hnw1]
  have : Cb.wakL [] (M1.th c).sv 0 = [] := by unfold Cb.wakL; split <;> rfl
  rw [this]
 have hR2 : ∃ g, ready3 n M1 c = { { M1 with th := Gt.upd M1.th c { M1.th c with sn := 0, lf := 0 } } with gr := g } ∧ g.T.length = n ∧ g.L = M.gr.L ∧ Pi.keyA g.T g.L (c : Int) = Ke.fixK (lv c : Int) := by
  unfold ready3
  rw [hr2]
  have A : ∀ x, x < n → Gt.upd M.S c 1 x ≠ 0 → x < c ∨ x = c := fun x hx hs => by
   by_cases e : x = c
   ·exact .inr e
   ·rw [Gt.upd_other _ _ _ _ e] at hs
    rcases Nat.lt_or_ge x c with q | q
    ·exact .inl q
    ·exact absurd (h.old x q hx).1 hs
  obtain ⟨g, e, h1, h2, h3⟩ := settle_quiet (n := n) (M := { M1 with th := Gt.upd M1.th c { M1.th c with sn := 0, lf := 0 } }) (κ := fun x => Ke.fixK (lv x : Int)) (by rw [← hM1]; exact h.tl) (by rw [← hM1]; exact h.nol) (fun x hx hs => by
   refine ⟨?_, rfl⟩
   rw [← hM1] at hs
   rcases A x hx hs with q | q
   ·refine own0n hx hnw1 hsv1 ?_ (h.lvs x q) ?_ ?_
    ·show Okt (Gt.upd M1.th c _ x) x (lv x)
     rw [Gt.upd_other _ _ _ _ (by omega), ← hM1]
     show Okt (Gt.upd M.th c _ x) x (lv x)
     rw [Gt.upd_other _ _ _ _ (by omega)]
     exact h.th x q
    ·rw [← hM1]; show Gt.upd M.G c _ x = 1; rw [Gt.upd_other _ _ _ _ (by omega)]; exact (h.st x q).2
    ·rw [← hM1]; show Gt.upd M.S c _ x = 1 ∨ Gt.upd M.S c _ x = 2; rw [Gt.upd_other _ _ _ _ (by omega)]; exact (h.st x q).1
   ·subst q
    refine own0n hx hnw1 hsv1 ?_ hv g1 (.inl s1)
    show Okt (Gt.upd M1.th x _ x) x (lv x)
    rw [Gt.upd_same, t1]
    exact ⟨rfl, rfl, rfl, Nat.zero_le _, rfl, rfl⟩) (fun z hz => by
   rw [← hM1] at hz
   exact (h.en z hz).2.2)
  refine ⟨g, e, h1, by rw [h2, ← hM1]; rfl, h3 c hc (by rw [show ({ M1 with th := Gt.upd M1.th c { M1.th c with sn := 0, lf := 0 } } : Mc).S = M1.S from rfl, s1]; omega)⟩
 obtain ⟨g, e3, h1, h2, hk⟩ := hR2
 unfold ready
 rw [e3]
 show Rm n P lv (c + 1) 0 { { { M1 with th := Gt.upd M1.th c { M1.th c with sn := 0, lf := 0 } } with gr := g } with pl := pputG P n q (gh M1.pl) 0 (c : Int) (Pi.keyA g.T g.L (c : Int)) }
 rw [hk]
 have hpl1 : M1.pl = M.pl := by rw [← hM1]; rfl
 rw [hpl1]
 have hput := fun z => put_iff (q := q) hpl (p := 0) (by omega) (id := c) (n := n) hc (k := Ke.fixK (lv c : Int)) rfl (fun z hz => by have := (h.en z hz).1; omega) z
 have S1 : ∀ x, x ≠ c → M1.S x = M.S x := fun x hx => by rw [← hM1]; exact Gt.upd_other _ _ _ _ hx
 have G1 : ∀ x, x ≠ c → M1.G x = M.G x := fun x hx => by rw [← hM1]; exact Gt.upd_other _ _ _ _ hx
 refine ⟨by omega, hnw1, hsv1, by rw [← hM1]; exact h.pr, h1, fun y hy => h.nol y (by rw [← h2]; exact hy), fun y hy => h.hd y (by rw [← h2]; exact hy), ?_, ?_, ?_, ?_, ?_, ?_, ?_, ?_, ?_, ?_, ?_⟩
 ·intro x hx
  show (Gt.upd M1.th c _ x).pg = 0 ∧ (Gt.upd M1.th c _ x).ia = 0 ∧ (Gt.upd M1.th c _ x).il = 0
  by_cases e : x = c
  ·subst e; rw [Gt.upd_same, t1]; exact ⟨rfl, rfl, rfl⟩
  ·rw [Gt.upd_other _ _ _ _ e, ← hM1]
   show (Gt.upd M.th c _ x).pg = 0 ∧ (Gt.upd M.th c _ x).ia = 0 ∧ (Gt.upd M.th c _ x).il = 0
   rw [Gt.upd_other _ _ _ _ e]
   exact h.np x (by omega)
 ·intro x hx hx8
  exact ⟨(S1 x (by omega)).trans (h.old x (by omega) hx8).1, (G1 x (by omega)).trans (h.old x (by omega) hx8).2⟩
 ·intro x hx
  by_cases e : x = c
  ·subst e; exact ⟨.inl s1, g1⟩
  ·show (M1.S x = 1 ∨ M1.S x = 2) ∧ M1.G x = 1
   rw [S1 x e, G1 x e]; exact h.st x (by omega)
 ·intro x hx
  show Okt (Gt.upd M1.th c _ x) x (lv x)
  by_cases e : x = c
  ·subst e; rw [Gt.upd_same, t1]; exact ⟨rfl, rfl, rfl, Nat.zero_le _, rfl, rfl⟩
  ·rw [Gt.upd_other _ _ _ _ e, ← hM1]
   show Okt (Gt.upd M.th c _ x) x (lv x)
   rw [Gt.upd_other _ _ _ _ e]
   exact h.th x (by omega)
 ·intro x hx
  by_cases e : x = c
  ·subst e; exact hv
  ·exact h.lvs x (by omega)
 ·intro z hz
  rcases (hput z).1 hz with q | q
  ·subst q; exact ⟨by simp, s1, rfl⟩
  ·obtain ⟨a1, a2, a3⟩ := h.en z q
   exact ⟨by omega, (S1 _ (by omega)).trans a2, a3⟩
 ·intro x hx hs
  by_cases e : x = c
  ·subst e; exact (hput _).2 (.inl rfl)
  ·exact (hput _).2 (.inr (h.ne x (by omega) ((S1 x e).symm.trans hs)))
 ·intro p hp hp2
  show (M1.pc p).r = -1
  rw [← hM1]; exact h.pm p hp hp2
 ·intro p hp; omega
 ·refine cnt_none _ (fun i hi => ?_)
  show (M1.S i == 2) = false
  by_cases e : i = c
  ·subst e; rw [s1]; rfl
  ·rw [S1 i e, hno i (by omega)]; rfl
 ·intro x y hx hy hs _
  exfalso
  have hs' : M1.S x = 2 := hs
  by_cases e : x = c
  ·subst e; rw [s1] at hs'; omega
  ·rw [S1 x e, hno x (by omega)] at hs'; omega
theorem Rm.free (h : Rm n P lv c m M) (hc : c < n) : freeOf M n = some c :=
 freeOf_at hc (fun x hx => by have := (h.st x hx).1; omega) (h.old c (Nat.le_refl _) hc).1
theorem Rm.gok (h : Rm n P lv c m M) : Go.Proofs.YtjlbmmiomfpgiaaGreatDoor.gok M n := fun x hx => by
 rcases Nat.lt_or_ge x c with q | q
 ·rw [(h.st x q).2]; omega
 ·rw [(h.old x q hx).2]; omega
theorem Rm.disp {w : World} {O : Nat → Prop} {pb q T : Nat} (h : Rm n P lv c m M) (hq : PQ w O pb n P q T M.pl) (hm : m < P) (d : Int) (hb : (bb P (gh M.pl) (m : Int) d).isSome = true) :
  ∃ x : Nat, x < n ∧ bI (gh M.pl) (bb P (gh M.pl) (m : Int) d) = (x : Int) ∧ Rm n P lv c (m + 1) (Go.Proofs.YtjlbmmiomfpgiaaGreatDoor.settle (dispM P n M m x d) n) := by
 obtain ⟨x, k, hx, hbi, hE, htop, htk⟩ := take_iff hq hb
 obtain ⟨hxc, hxs, hxk⟩ := h.en _ hE
 refine ⟨x, hx, hbi, Rm.settle ?_⟩
 have hxc' : x < c := hxc
 have hxs' : M.S x = 1 := hxs
 obtain rfl : k = Ke.fixK (lv x : Int) := hxk
 have hok := h.th x hxc'
 have hmv : moveS n M.G M.S (M.th x).p (M.th x).g 2 = Gt.upd M.S x 2 := by
  have := moveS_yes (n := n) (G := M.G) (S := M.S) (x := x) (s := 2) hx (by omega) (by rw [hxs']; decide)
  rw [hok.p, hok.g]
  rw [(h.st x hxc').2] at this
  exact this
 have hag : (agedOf M (M.th x)).toNat = lv x := by
  rw [aged0n h.nw hok.sn (by rw [hok.lv]; exact h.lvs x hxc'), hok.lv]
  rfl
 unfold dispM dispB dispA tkM
 rw [hmv, hag]
 refine ⟨h.c8, h.nw, h.sv, h.pr, h.tl, h.nol, h.hd, ?_, ?_, ?_, ?_, h.lvs, ?_, ?_, ?_, ?_, ?_, ?_⟩
 ·intro y hy
  show (Gt.upd M.th x _ y).pg = 0 ∧ (Gt.upd M.th x _ y).ia = 0 ∧ (Gt.upd M.th x _ y).il = 0
  by_cases e : y = x
  ·subst e; rw [Gt.upd_same]; exact h.np y hy
  ·rw [Gt.upd_other _ _ _ _ e]; exact h.np y hy
 ·intro y hy hy8
  show Gt.upd M.S x 2 y = 0 ∧ M.G y = 0
  rw [Gt.upd_other _ _ _ _ (by omega)]
  exact h.old y hy hy8
 ·intro y hy
  show (Gt.upd M.S x 2 y = 1 ∨ Gt.upd M.S x 2 y = 2) ∧ M.G y = 1
  by_cases e : y = x
  ·subst e; rw [Gt.upd_same]; exact ⟨.inr rfl, (h.st y hy).2⟩
  ·rw [Gt.upd_other _ _ _ _ e]; exact h.st y hy
 ·intro y hy
  show Okt (Gt.upd M.th x _ y) y (lv y)
  by_cases e : y = x
  ·subst e; rw [Gt.upd_same]; exact ⟨hok.p, hok.g, hok.lv, Nat.le_refl _, hok.sv, hok.sn⟩
  ·rw [Gt.upd_other _ _ _ _ e]; exact h.th y hy
 ·intro z hz
  obtain ⟨q1, q2⟩ := (htk z).1 hz
  obtain ⟨a1, a2, a3⟩ := h.en z q1
  refine ⟨a1, ?_, a3⟩
  show Gt.upd M.S x 2 z.1 = 1
  rw [Gt.upd_other _ _ _ _ q2]; exact a2
 ·intro y hy hs
  have hs' : Gt.upd M.S x 2 y = 1 := hs
  by_cases e : y = x
  ·subst e; rw [Gt.upd_same] at hs'; omega
  ·rw [Gt.upd_other _ _ _ _ e] at hs'
   exact (htk _).2 ⟨h.ne y hy hs', e⟩
 ·intro p hp hp2
  show (Gt.upd M.pc m _ p).r = -1
  rw [Gt.upd_other _ _ _ _ (by omega)]
  exact h.pm p (by omega) hp2
 ·intro p hp
  show ∃ y, y < c ∧ (Gt.upd M.pc m _ p).r = (y : Int) ∧ Gt.upd M.S x 2 y = 2
  by_cases e : p = m
  ·subst e
   rw [Gt.upd_same]
   exact ⟨x, hxc', rfl, Gt.upd_same _ _ _⟩
  ·rw [Gt.upd_other _ _ _ _ e]
   obtain ⟨y, a1, a2, a3⟩ := h.pc p (by omega)
   refine ⟨y, a1, a2, ?_⟩
   by_cases e2 : y = x
   ·subst e2; exact Gt.upd_same _ _ _
   ·rw [Gt.upd_other _ _ _ _ e2]; exact a3
 ·have := cnt_upd (f := fun i => M.S i == 2) (g := fun i => Gt.upd M.S x 2 i == 2) (x := x) c (fun i _ hi => by show (Gt.upd M.S x 2 i == 2) = _; rw [Gt.upd_other _ _ _ _ hi]) hxc' (by simp [hxs']) (by show (Gt.upd M.S x 2 x == 2) = true; rw [Gt.upd_same]; rfl)
  rw [h.cn] at this
  exact this
 ·intro y z hy hz h1 h2
  have h1' : Gt.upd M.S x 2 y = 2 := h1
  have h2' : Gt.upd M.S x 2 z = 1 := h2
  have ez : z ≠ x := fun e => by subst e; rw [Gt.upd_same] at h2'; omega
  rw [Gt.upd_other _ _ _ _ ez] at h2'
  by_cases e : y = x
  ·subst e
   have := htop _ (h.ne z hz h2')
   simp [Ke.up, Ke.fixK] at this
   omega
  ·rw [Gt.upd_other _ _ _ _ e] at h1'
   exact h.top y z hy hz h1' h2'
end
end Go.Proofs.YtjlbmmiomfpgiaaGreatDoor
namespace Go.Proofs.YtjlbmmiomfpgiaaGreatDoor
set_option maxRecDepth 100000
open Go.RowKit Go.Lib Go.Shelf
set_option linter.unusedVariables false
attribute [local go_sem ↓] Go.wp_at_zero Go.wp_at_succ
theorem startM_pr (P n q : Nat) (M : Mc) (x : Nat) (pg : Int) (lv : Nat) (sv : Int) : (startM P n q M x pg lv sv).pr = M.pr := by
 unfold startM beginM ready ready3 ready2 ready1 settle allocM
 split <;> rfl
section
variable {w wr w' : World} {ad : Ad} {P n q T T' : Nat} {M M' : Mc} {K : Nat → Prop}
end
end Go.Proofs.YtjlbmmiomfpgiaaGreatDoor
namespace Go.Proofs.YtjlbmmiomfpgiaaGreatDoor
set_option maxRecDepth 100000
open Go.RowKit Go.Lib Go.Shelf
set_option linter.unusedVariables false
attribute [local go_sem ↓] Go.wp_at_zero Go.wp_at_succ
theorem new_rm (P n m qu ag : Nat) (lv : Nat → Nat) (p : Pm) : Rm n P lv 0 0 { newMc P n m qu ag with pr := [p] } := by
 refine ⟨Nat.zero_le _, rfl, rfl, rfl, by simp [newMc, Pi.newM, Pi.newT], ?_, ?_, fun x hx => by omega, fun x _ _ => ⟨rfl, rfl⟩, fun x hx => by omega, fun x hx => by omega, fun x hx => by omega, ?_, fun x hx => by omega, fun p _ _ => rfl, fun p hp => by omega, rfl, fun x y hx => by omega⟩
 ·intro y hy
  have : y = ⟨-1, []⟩ := List.eq_of_mem_replicate hy
  rw [this]
 ·intro y hy
  have : y = ⟨-1, []⟩ := List.eq_of_mem_replicate hy
  rw [this]
 ·rintro z ⟨i, M, hM, hz⟩
  have : M = [] := by
   have hM' : (List.replicate (P + 1) ([] : List En))[i]? = some M := hM
   rw [List.getElem?_replicate] at hM'
   split at hM'
   ·injection hM' with q; exact q.symm
   ·cases hM'
  rw [this] at hz
  cases hz
theorem Al.k {w wr : World} {ad : Ad} {P n q T : Nat} {M : Mc} (h : Al w wr ad P n q T M) : AlK w wr ad P n q T M (fun _ => False) := by
 obtain ⟨⟨lab, hi, hl⟩, hb⟩ := h
 exact ⟨⟨lab, hi, hl, fun k q => q.elim⟩, hb⟩
theorem AlK.less {w wr : World} {ad : Ad} {P n q T : Nat} {M : Mc} {K K' : Nat → Prop} (h : AlK w wr ad P n q T M K) (hk : ∀ k, K' k → K k) : AlK w wr ad P n q T M K' := by
 obtain ⟨⟨lab, hi, hl, hz⟩, hb⟩ := h
 exact ⟨⟨lab, hi, hl, fun k q => hz k (hk k q)⟩, hb⟩
end Go.Proofs.YtjlbmmiomfpgiaaGreatDoor
