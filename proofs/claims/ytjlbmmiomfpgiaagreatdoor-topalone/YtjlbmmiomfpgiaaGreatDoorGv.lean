/- YtjlbmmiomfpgiaaGreatDoorGv: of the texts Be1 Be2 Be3 Be4 what is wanted. -/
import Derived.Test.YtjlbmmiomfpgiaaGreatDoorGu
import Derived.Test.YtjlbmmiomfpgiaaGreatDoorGt
namespace Go.Proofs.YtjlbmmiomfpgiaaGreatDoor
set_option maxRecDepth 100000
open Go.RowKit Go.Lib Go.Shelf
set_option linter.unusedVariables false
attribute [local go_sem ↓] Go.wp_at_zero Go.wp_at_succ
theorem baseR_u (g : Pi.Md) (t : Int) (k : Ke.K) (x : Nat) : ((Pi.baseR g t k).2.T[x]?).map (·.u) = (g.T[x]?).map (·.u) := by
 unfold Pi.baseR
 split
 ·split
  ·rename_i y hy
   show ((g.T.set t.toNat ⟨k, y.u⟩)[x]?).map (·.u) = _
   by_cases e : t.toNat = x
   ·rw [e] at hy ⊢
    rw [List.getElem?_set_self (List.getElem?_eq_some_iff.1 hy).1, hy]
    rfl
   ·rw [List.getElem?_set_ne e]
  ·rfl
 ·rfl
theorem fold_u (n : Nat) (M : Mc) (x : Nat) : ∀ (l : List Nat) (g : Pi.Md), ((l.foldl (base1 n M) g).T[x]?).map (·.u) = (g.T[x]?).map (·.u)
 | [], g => rfl
 | y :: l, g => by rw [List.foldl_cons, fold_u n M x l]; exact baseR_u _ _ _ _
theorem settle_u (M : Mc) (n x : Nat) : ((settle M n).gr.T[x]?).map (·.u) = (M.gr.T[x]?).map (·.u) := fold_u n M x _ _
theorem start_u (P n q : Nat) (M : Mc) (c : Nat) (pg : Int) (lv : Nat) (sv : Int) (x : Nat) : ((startM P n q M c pg lv sv).gr.T[x]?).map (·.u) = (M.gr.T[x]?).map (·.u) := by
 unfold startM
 rw [settle_u]
 unfold beginM ready ready3
 show ((settle (ready2 n _ c) n).gr.T[x]?).map (·.u) = _
 rw [settle_u]
 unfold ready2 ready1 allocM
 split <;> rfl
theorem baseR_L (g : Pi.Md) (t : Int) (k : Ke.K) : (Pi.baseR g t k).2.L = g.L := by
 unfold Pi.baseR
 split
 ·split <;> rfl
 ·rfl
theorem fold_L (n : Nat) (M : Mc) : ∀ (l : List Nat) (g : Pi.Md), (l.foldl (base1 n M) g).L = g.L
 | [], g => rfl
 | y :: l, g => by rw [List.foldl_cons, fold_L n M l]; exact baseR_L _ _ _
theorem settle_L (M : Mc) (n : Nat) : (settle M n).gr.L = M.gr.L := fold_L n M _ _
theorem start_L (P n q : Nat) (M : Mc) (c : Nat) (pg : Int) (lv : Nat) (sv : Int) : (startM P n q M c pg lv sv).gr.L = M.gr.L := by
 unfold startM
 rw [settle_L]
 unfold beginM ready ready3
 show (settle (ready2 n _ c) n).gr.L = _
 rw [settle_L]
 unfold ready2 ready1 allocM
 split <;> rfl
section
variable {w wr w' : World} {ad : Ad} {P n q T T' : Nat} {M M' : Mc} {K : Nat → Prop}
theorem AlK.startU {lv : Nat → Nat} {c : Nat} (h : AlK w wr ad P n q T M K) (hR : Rm n P lv c 0 M) (hc : c < n) (hv : lv c < 256) (hT : T ≤ 100000) :
  Calls Tryz.prog 19 #[.pointer (some ⟨ad.m, 0, none⟩), .int .i64 0, .int .u8 (lv c : Int), .int .i64 (-1)] wr fun e w' => ∃ (v : Value) (M' : Mc), e = .returned (.tuple #[v, .int .i64 0]) ∧ EvL w' wr.heap.size v [⟨9, 0, (c : Int), 1, 0, 0⟩] ∧ (AlK w w' ad P n q (T + n + 1 + n) M' (fun k => K k ∨ v.ownBlock = some k) ∧ ∀ k, K k → w'.heap[k]? = wr.heap[k]?) ∧ Rm n P lv (c + 1) 0 M' ∧ M'.pr = M.pr ∧ ((∀ x : Nat, (M'.gr.T[x]?).map (·.u) = (M.gr.T[x]?).map (·.u)) ∧ M'.gr.L = M.gr.L) := by
 obtain ⟨O, hq⟩ := h.pq
 have hn := hq.n1
 have hno : startNo M 0 (-1) = false := by
  unfold startNo hasPg
  rw [hR.pr, hR.sv]
  decide
 have hG : M.G c + 1 = 1 := by rw [(hR.old c (Nat.le_refl _) hc).2]
 have := h.call (R := fun e w' v => e = .returned (.tuple #[v, .int .i64 0])) (fun lab hi => (hi.start_yesV (by omega) hR.gok 0 (lv c) hv (-1) hno c (hR.free hc)).mono (fun e w' ⟨v, he, hv, g⟩ => ⟨v, he, by rw [hG] at hv; exact hv, g⟩))
 refine this.mono ?_
 rintro e w' ⟨v, he, hev, g⟩
 exact ⟨v, _, he, hev, g, hR.start hq.np1.1 hq.len hc hv, startM_pr _ _ _ _ _ _ _ _, fun y => start_u _ _ _ _ _ _ _ _ y, start_L _ _ _ _ _ _ _ _⟩
theorem AlK.dispU {lv : Nat → Nat} (h : AlK w wr ad P n q T M K) (hR : Rm n P lv 1 0 M) (d : Int) (hd : 0 ≤ d ∧ d < 18446744073709551616) (hT : T ≤ 100000) :
  Calls Tryz.prog 13 #[.pointer (some ⟨ad.m, 0, none⟩), .int .i64 0, .int .u64 d] wr fun e w' => ∃ (v : Value) (M' : Mc) (ev : Ev), e = .returned (.tuple #[v, .int .i64 0]) ∧ EvL w' wr.heap.size v [ev] ∧ ev.k = 3 ∧ (AlK w w' ad P n q (T + 1 + n) M' (fun k => K k ∨ v.ownBlock = some k) ∧ ∀ k, K k → w'.heap[k]? = wr.heap[k]?) ∧ Rm n P lv 1 1 M' ∧ M'.pr = M.pr ∧ ((∀ x : Nat, (M'.gr.T[x]?).map (·.u) = (M.gr.T[x]?).map (·.u)) ∧ M'.gr.L = M.gr.L) := by
 obtain ⟨O, hq⟩ := h.pq
 have hn := hq.n1
 have hP := hq.np1
 have hk : 0 < P := hP.1
 have hr : (M.pc 0).r = -1 := hR.pm 0 (Nat.le_refl _) hk
 have hS : M.S 0 = 1 := by
  rcases (hR.st 0 (by omega)).1 with e | e
  ·exact e
  ·exfalso
   have := cnt_lt (f := fun _ => false) (g := fun i => M.S i == 2) (x := 0) 1 (fun i _ q => by cases q) (by omega) rfl (by simp [e])
   rw [hR.cn] at this
   omega
 have hb : (bb P (gh M.pl) ((0 : Nat) : Int) d).isSome = true := by
  cases hb : (bb P (gh M.pl) ((0 : Nat) : Int) d).isSome with
  | true => rfl
  | false => exact absurd (hR.ne 0 (by omega) hS) (take_none hq.len (by omega) hb _)
 obtain ⟨x, hx, hbi, hR'⟩ := hR.disp hq hk d hb
 have := h.call (R := fun e w' v => e = .returned (.tuple #[v, .int .i64 0])) (fun lab hi => (hi.step_ofV (pr := 0) (T' := T + 1) hk d (by omega) (fun W1 O hs => act_takes (P1 := fun V => SX wr W1 V lab ad P n q T M wr.heap.size 0 [] O) (hs.sx.giveWay_not hk d hd (.inl hr)) (fun V hV => hV.takeOne_takes (by simp) hk d hd hr hb x hx hbi))).mono (fun e w' ⟨v, he, hev, g⟩ => ⟨v, he, hev, g⟩))
 refine this.mono ?_
 rintro e w' ⟨v, he, hev, g⟩
 exact ⟨v, _, _, he, hev, rfl, g, hR', rfl, fun y => settle_u _ _ y, settle_L _ _⟩
end
structure Ra (M : Mc) (s : Nat) (p : Pm) : Prop where
 sv : M.sv = []
 pr : M.pr = [p]
 tl : M.gr.T.length = 8
 us : ∀ x, x < 8 → (M.gr.T[x]?).map (·.u) = some (-1)
 nol : ∀ y ∈ M.gr.L, y.l = []
 l1 : M.gr.L[1]? = some ⟨if s = 1 ∨ s = 2 then 0 else -1, []⟩
 l2 : M.gr.L[2]? = some ⟨-1, []⟩
 pl : ∀ z, ¬ Ent M.pl z
 S0 : M.S 0 = 2
 So : ∀ x, 1 ≤ x → x < 8 → M.S x = 0
 tp : (M.th 0).p = 0
 tg : (M.th 0).pg = 0
 ia : (M.th 0).ia = (s : Int)
 il : (M.th 0).il = 0
 pc : (M.pc 0).r = 0
theorem own_right {M : Mc} {n : Nat} {t : Tr} (h : M.sv = []) : Ke.rightK (ownOf M n t) = true := by
 unfold ownOf
 rw [h, atL_niln, if_neg (by simp)]
 split
 ·rfl
 ·split <;> rfl
theorem Ra.settle {M : Mc} {s : Nat} {p : Pm} (h : Ra M s p) : Ra (Go.Proofs.YtjlbmmiomfpgiaaGreatDoor.settle M 8) s p := by
 have hu := fun x => settle_u M 8 x
 obtain ⟨g, e, h1, h2, _⟩ := settle_quiet (κ := fun x => ownOf M 8 (M.th x)) h.tl h.nol (fun x _ _ => ⟨rfl, own_right h.sv⟩) (fun z hz => absurd hz (h.pl z))
 rw [e] at hu ⊢
 exact ⟨h.sv, h.pr, h1, fun x hx => (hu x).trans (h.us x hx), fun y hy => h.nol y (by rw [← h2]; exact hy), by show g.L[1]? = _; rw [h2]; exact h.l1, by show g.L[2]? = _; rw [h2]; exact h.l2, h.pl, h.S0, h.So, h.tp, h.tg, h.ia, h.il, h.pc⟩
section
variable {w wr w' : World} {ad : Ad} {T : Nat} {M M1 : Mc} {K : Nat → Prop} {s : Nat} {p : Pm}
theorem AlK.aStep (h : AlK w wr ad 1 8 8 T M K) (hR : Ra M s p) (op ar ia' : Int) (eO : exO p (s : Int) = op) (eR : exR p (s : Int) = ar) (eN : exN p (s : Int) = ia') (eL : exL p (s : Int) 0 = 0) (ok : Bool) (l : List Ev) (hT : T ≤ 100000)
  (hdo : ∀ lab V O, SG wr V lab ad 1 8 8 T (frM M 0 ia' 0) wr.heap.size 0 [] O → Calls Tryz.prog 125 #[.pointer (some ⟨wr.heap.size, 0, none⟩), .pointer (some ⟨ad.th, 0 * 10, none⟩), .agg #[.int .i64 op, .int .i64 ar]] V fun e w' => e = endOf ok ∧ SX wr V w' lab ad 1 8 8 T M1 wr.heap.size 0 l O) :
  Calls Tryz.prog 13 #[.pointer (some ⟨ad.m, 0, none⟩), .int .i64 0, .int .u64 0] wr fun e w' => ∃ v, e = .returned (.tuple #[v, .int .i64 0]) ∧ EvL w' wr.heap.size v l ∧ AlK w w' ad 1 8 8 (T + 8) (settle M1 8) (fun k => K k ∨ v.ownBlock = some k) ∧ ∀ k, K k → w'.heap[k]? = wr.heap[k]? := by
 obtain ⟨O, hq⟩ := h.pq
 have hk : 0 < 1 := by decide
 have hd : (0 : Int) ≤ 0 ∧ (0 : Int) < 18446744073709551616 := by decide
 have hb : (bb 1 (gh M.pl) ((0 : Nat) : Int) 0).isSome = false := by
  cases hb : (bb 1 (gh M.pl) ((0 : Nat) : Int) 0).isSome with
  | false => rfl
  | true =>
   obtain ⟨y, kk, _, _, hE, _, _⟩ := take_iff hq hb
   exact absurd hE (hR.pl _)
 have hr : (M.pc 0).r = ((0 : Nat) : Int) := hR.pc
 refine h.call (R := fun e w' v => e = .returned (.tuple #[v, .int .i64 0])) (fun lab hi => ?_)
 have hgo : ∀ W1 O V, SX wr W1 V lab ad 1 8 8 T M wr.heap.size 0 [] O → Calls Tryz.prog 76 #[.pointer (some ⟨wr.heap.size, 0, none⟩)] V fun e w' => e = endOf ok ∧ SX wr W1 w' lab ad 1 8 8 T M1 wr.heap.size 0 l O := fun W1 O V hV =>
  hV.goOn_of (ok := ok) (bz := false) (by simp) hk 0 (by decide) hr 0 p (by rw [hR.pr]; rfl) (by rw [hR.tg]; rfl) op ar ia' 0 (by decide) T M1 l (fun ap cap V' hp hrt hbl => by
   have := exec_ok (cap := cap) hp hrt (s : Int) 0 (by decide) V' hbl
   rw [eO, eR, eN, eL] at this
   rw [hR.ia, hR.il]
   exact this) (fun q => by cases q) (fun _ V' O' hs' => hdo lab V' O' hs')
 refine hi.step_ofV (pr := 0) (T' := T) (M' := M1) (l := l) hk 0 (by omega) (fun W1 O hs => ?_)
 cases ok with
 | true => exact act_all (P1 := fun V => SX wr W1 V lab ad 1 8 8 T M wr.heap.size 0 [] O) (P2 := fun V => SX wr W1 V lab ad 1 8 8 T M wr.heap.size 0 [] O) (hs.sx.giveWay_not hk 0 hd (.inr hb)) (fun V hV => hV.takeOne_runs hk 0 (by rw [hr]; decide)) (fun V hV => hgo W1 O V hV)
 | false => exact act_goes (P1 := fun V => SX wr W1 V lab ad 1 8 8 T M wr.heap.size 0 [] O) (P2 := fun V => SX wr W1 V lab ad 1 8 8 T M wr.heap.size 0 [] O) (hs.sx.giveWay_not hk 0 hd (.inr hb)) (fun V hV => hV.takeOne_runs hk 0 (by rw [hr]; decide)) (fun V hV => hgo W1 O V hV)
end
end Go.Proofs.YtjlbmmiomfpgiaaGreatDoor
namespace Go.Proofs.YtjlbmmiomfpgiaaGreatDoor
set_option maxRecDepth 100000
open Go.RowKit Go.Lib Go.Shelf
set_option linter.unusedVariables false
theorem may0 {g : Pi.Md} (hl : g.T.length = 8) (hu : (g.T[0]?).map (·.u) = some (-1)) {m : Nat} {y : Pi.Lk} (hm : g.L[m]? = some y) : Pi.mayE g.T g.L 0 (m : Int) = 0 := by
 have h1 : Pi.inT g.T 0 = true := by unfold Pi.inT; rw [hl]; decide
 have h2 : Pi.inL g.L (m : Int) = true := by unfold Pi.inL; have := (List.getElem?_eq_some_iff.1 hm).1; simpa using this
 have h3 : Pi.waitsOf g.T 0 = -1 := by unfold Pi.waitsOf; rw [h1]; show ((g.T[0]?).map (·.u)).getD (-1) = -1; rw [hu]; rfl
 unfold Pi.mayE
 rw [h1, h2, h3]
 rfl
theorem lock1 {g : Pi.Md} (hl : g.T.length = 8) (hu : (g.T[0]?).map (·.u) = some (-1)) (hy : g.L[1]? = some ⟨-1, []⟩) : Pi.lockR g 0 1 = ((true, 0), ⟨g.T, g.L.set 1 ⟨0, []⟩⟩) := by
 obtain ⟨x, hx⟩ : ∃ x, g.T[0]? = some x := ⟨g.T[0]'(by omega), List.getElem?_eq_getElem _⟩
 unfold Pi.lockR
 rw [if_neg (by show ¬ Pi.mayE g.T g.L 0 ((1 : Nat) : Int) ≠ 0; rw [may0 (m := 1) hl hu hy]; decide)]
 simp only [show ((0 : Int)).toNat = 0 from rfl, show ((1 : Int)).toNat = 1 from rfl, hx, hy]
 rw [if_neg (by decide), if_pos trivial]
theorem unl1 {g : Pi.Md} (hl : g.T.length = 8) (hu : (g.T[0]?).map (·.u) = some (-1)) (hy : g.L[1]? = some ⟨0, []⟩) : Pi.unlR g 0 1 = ((-1, 0), ⟨g.T, g.L.set 1 ⟨-1, []⟩⟩) := by
 unfold Pi.unlR
 rw [if_neg (by show ¬ Pi.mayE g.T g.L 0 ((1 : Nat) : Int) ≠ 0; rw [may0 (m := 1) hl hu hy]; decide)]
 simp only [show ((1 : Int)).toNat = 1 from rfl, hy]
 rw [if_neg (by decide)]
 rfl
theorem unl2 {g : Pi.Md} (hl : g.T.length = 8) (hu : (g.T[0]?).map (·.u) = some (-1)) (hy : g.L[2]? = some ⟨-1, []⟩) : Pi.unlR g 0 2 = ((-1, 9), g) := by
 unfold Pi.unlR
 rw [if_neg (by show ¬ Pi.mayE g.T g.L 0 ((2 : Nat) : Int) ≠ 0; rw [may0 (m := 2) hl hu hy]; decide)]
 simp only [show ((2 : Int)).toNat = 2 from rfl, hy]
 rw [if_pos (by decide)]
def aO (j : Nat) : Int := if j = 0 then 2 else if j = 1 then 7 else if j = 2 then 3 else if j = 3 then 3 else 8
def aR (j : Nat) : Int := if j = 0 then 1 else if j = 1 then 7 else if j = 2 then 1 else if j = 3 then 2 else 0
def pA : Pm := ⟨5, aO, aR⟩
theorem fr_th (M : Mc) (u v : Int) : (frM M 0 u v).th 0 = { M.th 0 with ia := u, il := v } := by simp [frM, Gt.upd]
section
variable {w wr w' : World} {ad : Ad} {T : Nat} {M : Mc} {K : Nat → Prop}
theorem AlK.a0 (h : AlK w wr ad 1 8 8 T M K) (hR : Ra M 0 pA) (hT : T ≤ 100000) :
  Calls Tryz.prog 13 #[.pointer (some ⟨ad.m, 0, none⟩), .int .i64 0, .int .u64 0] wr fun e w' => ∃ (v : Value) (M' : Mc) (ev : Ev) (rest : List Ev), e = .returned (.tuple #[v, .int .i64 0]) ∧ EvL w' wr.heap.size v (ev :: rest) ∧ ev.r = 2 ∧ ev.k = 5 ∧ (AlK w w' ad 1 8 8 (T + 8) M' (fun k => K k ∨ v.ownBlock = some k) ∧ ∀ k, K k → w'.heap[k]? = wr.heap[k]?) ∧ Ra M' 1 pA := by
 have et := fr_th M 1 0
 have hlk := lock1 (g := (frM M 0 1 0).gr) hR.tl (hR.us 0 (by decide)) hR.l1
 have ep : ((frM M 0 1 0).th 0).p = 0 := by rw [et]; exact hR.tp
 have he : (Pi.lockR (frM M 0 1 0).gr ((frM M 0 1 0).th 0).p 1).1 = (true, 0) := by rw [ep, hlk]
 have := h.aStep hR (M1 := lockM (frM M 0 1 0) 0 1) 2 1 1 rfl rfl rfl rfl false ([] ++ [⟨5, ((0 : Nat) : Int), ((frM M 0 1 0).th 0).p, ((frM M 0 1 0).th 0).g, 2, 0⟩] ++ [⟨8, ((0 : Nat) : Int), ((frM M 0 1 0).th 0).p, ((frM M 0 1 0).th 0).g, 1, 0⟩]) hT (fun lab V O hs => hs.do_lock 0 1 false (fun V' hs' => (hs'.lock_got (by simp) (by decide) 0 (by decide) 2 1 he).mono (fun e w' ⟨he, hg⟩ => ⟨he, hg⟩)))
 refine this.mono ?_
 rintro e w' ⟨v, he, hev, hA⟩
 refine ⟨v, _, _, _, he, hev, rfl, rfl, hA, Ra.settle ?_⟩
 have eg : (lockM (frM M 0 1 0) 0 1).gr = ⟨M.gr.T, M.gr.L.set 1 ⟨0, []⟩⟩ := by unfold lockM; show (Pi.lockR (frM M 0 1 0).gr ((frM M 0 1 0).th 0).p 1).2 = _; rw [ep, hlk]; rfl
 have hl := (List.getElem?_eq_some_iff.1 hR.l1).1
 refine ⟨hR.sv, hR.pr, by rw [eg]; exact hR.tl, by rw [eg]; exact hR.us, ?_, ?_, ?_, hR.pl, hR.S0, hR.So, ?_, ?_, ?_, ?_, hR.pc⟩
 ·rw [eg]
  intro y hy
  rcases List.mem_or_eq_of_mem_set hy with q | q
  ·exact hR.nol y q
  ·rw [q]
 ·rw [eg]; show (M.gr.L.set 1 _)[1]? = _; rw [List.getElem?_set_self hl]; rfl
 ·rw [eg]; show (M.gr.L.set 1 _)[2]? = _; rw [List.getElem?_set_ne (by decide)]; exact hR.l2
 ·exact ep
 ·show ((frM M 0 1 0).th 0).pg = 0; rw [et]; exact hR.tg
 ·show ((frM M 0 1 0).th 0).ia = _; rw [et]; rfl
 ·show ((frM M 0 1 0).th 0).il = _; rw [et]
theorem AlK.a1 (h : AlK w wr ad 1 8 8 T M K) (hR : Ra M 1 pA) (hT : T ≤ 100000) :
  Calls Tryz.prog 13 #[.pointer (some ⟨ad.m, 0, none⟩), .int .i64 0, .int .u64 0] wr fun e w' => ∃ (v : Value) (M' : Mc) (ev : Ev) (rest : List Ev), e = .returned (.tuple #[v, .int .i64 0]) ∧ EvL w' wr.heap.size v (ev :: rest) ∧ ev.r = 7 ∧ ev.k = 5 ∧ (AlK w w' ad 1 8 8 (T + 8) M' (fun k => K k ∨ v.ownBlock = some k) ∧ ∀ k, K k → w'.heap[k]? = wr.heap[k]?) ∧ Ra M' 2 pA := by
 have et := fr_th M 2 0
 have ep : ((frM M 0 2 0).th 0).p = 0 := by rw [et]; exact hR.tp
 have := h.aStep hR (M1 := prioM (frM M 0 2 0) 0 7) 7 7 2 rfl rfl rfl rfl true ([] ++ [⟨5, ((0 : Nat) : Int), ((frM M 0 2 0).th 0).p, ((frM M 0 2 0).th 0).g, 7, 0⟩]) hT (fun lab V O hs => (hs.do_prio (by simp) 0 (by decide) 7 7 (by decide) (by decide)).mono (fun e w' ⟨he, hg⟩ => ⟨he, hg⟩))
 refine this.mono ?_
 rintro e w' ⟨v, he, hev, hA⟩
 refine ⟨v, _, _, _, he, hev, rfl, rfl, hA, Ra.settle ?_⟩
 have et2 : (prioM (frM M 0 2 0) 0 7).th 0 = { (frM M 0 2 0).th 0 with lv := 7, lf := 0 } := by simp [prioM, Gt.upd]
 refine ⟨hR.sv, hR.pr, hR.tl, hR.us, hR.nol, hR.l1, hR.l2, hR.pl, hR.S0, hR.So, ?_, ?_, ?_, ?_, hR.pc⟩
 ·rw [et2]; exact ep
 ·rw [et2, et]; exact hR.tg
 ·rw [et2, et]; rfl
 ·rw [et2, et]
theorem AlK.a2 (h : AlK w wr ad 1 8 8 T M K) (hR : Ra M 2 pA) (hT : T ≤ 100000) :
  Calls Tryz.prog 13 #[.pointer (some ⟨ad.m, 0, none⟩), .int .i64 0, .int .u64 0] wr fun e w' => ∃ (v : Value) (M' : Mc) (ev : Ev) (rest : List Ev), e = .returned (.tuple #[v, .int .i64 0]) ∧ EvL w' wr.heap.size v (ev :: rest) ∧ ev.r = 3 ∧ ev.k = 5 ∧ (AlK w w' ad 1 8 8 (T + 8) M' (fun k => K k ∨ v.ownBlock = some k) ∧ ∀ k, K k → w'.heap[k]? = wr.heap[k]?) ∧ Ra M' 3 pA := by
 have et := fr_th M 3 0
 have ep : ((frM M 0 3 0).th 0).p = 0 := by rw [et]; exact hR.tp
 have hul := unl1 (g := (frM M 0 3 0).gr) hR.tl (hR.us 0 (by decide)) hR.l1
 have h1 : (Pi.unlR (frM M 0 3 0).gr ((frM M 0 3 0).th 0).p 1).1.1 = -1 := by rw [ep, hul]
 have h2 : (Pi.unlR (frM M 0 3 0).gr ((frM M 0 3 0).th 0).p 1).1.2 = 0 := by rw [ep, hul]
 have := h.aStep hR (M1 := unlM (frM M 0 3 0) 0 1) 3 1 3 rfl rfl rfl rfl true ([] ++ [⟨5, ((0 : Nat) : Int), ((frM M 0 3 0).th 0).p, ((frM M 0 3 0).th 0).g, 3, 0⟩]) hT (fun lab V O hs => (hs.do_unlock (by simp) 0 (by decide) 1 (-1) h1 h2 (fun W0 V' hV' => hV'.grant_none 1)).mono (fun e w' ⟨he, hg⟩ => ⟨he, hg⟩))
 refine this.mono ?_
 rintro e w' ⟨v, he, hev, hA⟩
 refine ⟨v, _, _, _, he, hev, rfl, rfl, hA, Ra.settle ?_⟩
 have eg : (unlM (frM M 0 3 0) 0 1).gr = ⟨M.gr.T, M.gr.L.set 1 ⟨-1, []⟩⟩ := by unfold unlM; show (Pi.unlR (frM M 0 3 0).gr ((frM M 0 3 0).th 0).p 1).2 = _; rw [ep, hul]; rfl
 have hl := (List.getElem?_eq_some_iff.1 hR.l1).1
 refine ⟨hR.sv, hR.pr, by rw [eg]; exact hR.tl, by rw [eg]; exact hR.us, ?_, ?_, ?_, hR.pl, hR.S0, hR.So, ?_, ?_, ?_, ?_, hR.pc⟩
 ·rw [eg]
  intro y hy
  rcases List.mem_or_eq_of_mem_set hy with q | q
  ·exact hR.nol y q
  ·rw [q]
 ·rw [eg]; show (M.gr.L.set 1 _)[1]? = _; rw [List.getElem?_set_self hl]; rfl
 ·rw [eg]; show (M.gr.L.set 1 _)[2]? = _; rw [List.getElem?_set_ne (by decide)]; exact hR.l2
 ·exact ep
 ·show ((frM M 0 3 0).th 0).pg = 0; rw [et]; exact hR.tg
 ·show ((frM M 0 3 0).th 0).ia = _; rw [et]; rfl
 ·show ((frM M 0 3 0).th 0).il = _; rw [et]
theorem AlK.a3 (h : AlK w wr ad 1 8 8 T M K) (hR : Ra M 3 pA) (hT : T ≤ 100000) :
  Calls Tryz.prog 13 #[.pointer (some ⟨ad.m, 0, none⟩), .int .i64 0, .int .u64 0] wr fun e w' => ∃ (v : Value) (M' : Mc) (ev : Ev) (rest : List Ev), e = .returned (.tuple #[v, .int .i64 0]) ∧ EvL w' wr.heap.size v (ev :: rest) ∧ ev.r = 3 ∧ ev.k = 6 ∧ (AlK w w' ad 1 8 8 (T + 8) M' (fun k => K k ∨ v.ownBlock = some k) ∧ ∀ k, K k → w'.heap[k]? = wr.heap[k]?) ∧ Ra M' 4 pA := by
 have et := fr_th M 4 0
 have ep : ((frM M 0 4 0).th 0).p = 0 := by rw [et]; exact hR.tp
 have hul := unl2 (g := (frM M 0 4 0).gr) hR.tl (hR.us 0 (by decide)) hR.l2
 have h1 : (Pi.unlR (frM M 0 4 0).gr ((frM M 0 4 0).th 0).p 2).1.1 = -1 := by rw [ep, hul]
 have h2 : (Pi.unlR (frM M 0 4 0).gr ((frM M 0 4 0).th 0).p 2).1.2 = 9 := by rw [ep, hul]
 have := h.aStep hR (M1 := unlM (frM M 0 4 0) 0 2) 3 2 4 rfl rfl rfl rfl false ([] ++ [⟨6, ((0 : Nat) : Int), ((frM M 0 4 0).th 0).p, ((frM M 0 4 0).th 0).g, 3, 9⟩]) hT (fun lab V O hs => (hs.do_unlock_no (by simp) 0 (by decide) 2 (-1) 9 h1 h2 (by decide)).mono (fun e w' ⟨he, hg⟩ => ⟨he, hg⟩))
 refine this.mono ?_
 rintro e w' ⟨v, he, hev, hA⟩
 refine ⟨v, _, _, _, he, hev, rfl, rfl, hA, Ra.settle ?_⟩
 have eg : (unlM (frM M 0 4 0) 0 2).gr = M.gr := by unfold unlM; show (Pi.unlR (frM M 0 4 0).gr ((frM M 0 4 0).th 0).p 2).2 = _; rw [ep, hul]; rfl
 refine ⟨hR.sv, hR.pr, by rw [eg]; exact hR.tl, by rw [eg]; exact hR.us, by rw [eg]; exact hR.nol, by rw [eg]; exact hR.l1, by rw [eg]; exact hR.l2, hR.pl, hR.S0, hR.So, ep, ?_, ?_, ?_, hR.pc⟩
 ·show ((frM M 0 4 0).th 0).pg = 0; rw [et]; exact hR.tg
 ·show ((frM M 0 4 0).th 0).ia = _; rw [et]; rfl
 ·show ((frM M 0 4 0).th 0).il = _; rw [et]
theorem AlK.a4 (h : AlK w wr ad 1 8 8 T M K) (hR : Ra M 4 pA) (hT : T ≤ 100000) :
  Calls Tryz.prog 13 #[.pointer (some ⟨ad.m, 0, none⟩), .int .i64 0, .int .u64 0] wr fun e w' => ∃ (v : Value) (M' : Mc) (ev : Ev) (rest : List Ev), e = .returned (.tuple #[v, .int .i64 0]) ∧ EvL w' wr.heap.size v (ev :: rest) ∧ ev.r = 8 ∧ ev.k = 5 ∧ (AlK w w' ad 1 8 8 (T + 8) M' (fun k => K k ∨ v.ownBlock = some k) ∧ ∀ k, K k → w'.heap[k]? = wr.heap[k]?) ∧ Ra M' 0 pA := by
 have et := fr_th M 0 0
 have ep : ((frM M 0 0 0).th 0).p = 0 := by rw [et]; exact hR.tp
 have := h.aStep hR (M1 := frM M 0 0 0) 8 0 0 rfl rfl rfl rfl true ([] ++ [⟨5, ((0 : Nat) : Int), ((frM M 0 0 0).th 0).p, ((frM M 0 0 0).th 0).g, 8, 0⟩]) hT (fun lab V O hs => (hs.do_other (by simp) 0 (by decide) 8 0 (by decide) (by decide) (by decide) (by decide) (by decide) (by decide) (by decide)).mono (fun e w' ⟨he, hg⟩ => ⟨he, hg⟩))
 refine this.mono ?_
 rintro e w' ⟨v, he, hev, hA⟩
 refine ⟨v, _, _, _, he, hev, rfl, rfl, hA, Ra.settle ?_⟩
 refine ⟨hR.sv, hR.pr, hR.tl, hR.us, hR.nol, hR.l1, hR.l2, hR.pl, hR.S0, hR.So, ep, ?_, ?_, ?_, hR.pc⟩
 ·rw [et]; exact hR.tg
 ·rw [et]; rfl
 ·rw [et]
end
end Go.Proofs.YtjlbmmiomfpgiaaGreatDoor
namespace Go.Proofs.YtjlbmmiomfpgiaaGreatDoor
set_option maxRecDepth 100000
open Go.RowKit Go.Lib Go.Shelf
set_option linter.unusedVariables false
theorem plcA : ∀ k, Ex.plc true 5 aO aR k = ((k % 5 : Nat) : Int)
 | 0 => rfl
 | k + 1 => by
  have ih := plcA k
  have e : Ex.plc true 5 aO aR (k + 1) = Ex.stN true 5 aO aR (Ex.plc true 5 aO aR k) := rfl
  rw [e, ih]
  have h5 : k % 5 < 5 := Nat.mod_lt _ (by decide)
  have hc : k % 5 = 0 ∨ k % 5 = 1 ∨ k % 5 = 2 ∨ k % 5 = 3 ∨ k % 5 = 4 := by omega
  rcases hc with q | q | q | q | q
  ·rw [q, show (k + 1) % 5 = 1 by omega]; rfl
  ·rw [q, show (k + 1) % 5 = 2 by omega]; rfl
  ·rw [q, show (k + 1) % 5 = 3 by omega]; rfl
  ·rw [q, show (k + 1) % 5 = 4 by omega]; rfl
  ·rw [q, show (k + 1) % 5 = 0 by omega]; rfl
theorem roA (k : Nat) : Ex.ro true 5 aO aR k = aO (k % 5) := by
 unfold Ex.ro
 rw [plcA]
 unfold Ex.stO Ex.inP
 have h5 : k % 5 < 5 := Nat.mod_lt _ (by decide)
 rw [if_pos (by simp; omega)]
 rfl
theorem raA (k : Nat) : Ex.ra true 5 aO aR k = aR (k % 5) := by
 unfold Ex.ra
 rw [plcA]
 unfold Ex.stR Ex.inP
 have h5 : k % 5 < 5 := Nat.mod_lt _ (by decide)
 rw [if_pos (by simp; omega)]
 rfl
theorem aO_ne (j : Nat) : aO j ≠ 9 := by unfold aO; split; decide; split; decide; split; decide; split <;> decide
theorem spdA : ∀ m, Ex.spd (Ex.ro true 5 aO aR) m = false
 | 0 => rfl
 | m + 1 => by
  have : Ex.spd (Ex.ro true 5 aO aR) (m + 1) = (Ex.spd (Ex.ro true 5 aO aR) m || (Ex.ro true 5 aO aR m == 9)) := rfl
  rw [this, spdA m, roA]
  have := aO_ne (m % 5)
  simpa using this
theorem rlenA (m : Nat) : Ex.rlen (Ex.ro true 5 aO aR) m = m := Ex.rlen_go (spdA m)
theorem a_rt : Ex.Rt 5 aO aR := by
 refine ⟨0, .inr (.inr (.inr ⟨by decide, by decide, ?_, .inl rfl, rfl, rfl⟩))⟩
 intro i hi
 match i, hi with
 | 0, _ => decide
 | 1, _ => decide
 | 2, _ => decide
 | 3, _ => decide
 | 4, _ => decide
theorem a_prg (w : World) : Ex.Prg (w.alloc (.cells #[.int .i64 2, .int .i64 1, .int .i64 7, .int .i64 7, .int .i64 3, .int .i64 1, .int .i64 3, .int .i64 2, .int .i64 8, .int .i64 0] 64)) (some ⟨w.heap.size, 0, none⟩) 5 aO aR := by
 refine .inr ⟨w.heap.size, 0, rfl, by simp, fun j hj => ?_⟩
 match j, hj with
 | 0, _ => exact ⟨newc _ _ _ 0 _ rfl, newc _ _ _ 1 _ rfl⟩
 | 1, _ => exact ⟨newc _ _ _ 2 _ rfl, newc _ _ _ 3 _ rfl⟩
 | 2, _ => exact ⟨newc _ _ _ 4 _ rfl, newc _ _ _ 5 _ rfl⟩
 | 3, _ => exact ⟨newc _ _ _ 6 _ rfl, newc _ _ _ 7 _ rfl⟩
 | 4, _ => exact ⟨newc _ _ _ 8 _ rfl, newc _ _ _ 9 _ rfl⟩
section
variable {w wr w' : World} {ad : Ad} {P n q T : Nat} {M : Mc} {K : Nat → Prop}
theorem AlK.aAny {i : Nat} (h : AlK w wr ad 1 8 8 T M K) (hR : Ra M (i % 5) pA) (hT : T ≤ 100000) :
  Calls Tryz.prog 13 #[.pointer (some ⟨ad.m, 0, none⟩), .int .i64 0, .int .u64 0] wr fun e w' => ∃ (v : Value) (M' : Mc) (ev : Ev) (rest : List Ev), e = .returned (.tuple #[v, .int .i64 0]) ∧ EvL w' wr.heap.size v (ev :: rest) ∧ ev.r = aO (i % 5) ∧ ev.k = (if i % 5 = 3 then 6 else 5) ∧ (AlK w w' ad 1 8 8 (T + 8) M' (fun k => K k ∨ v.ownBlock = some k) ∧ ∀ k, K k → w'.heap[k]? = wr.heap[k]?) ∧ Ra M' ((i + 1) % 5) pA := by
 have h5 : i % 5 < 5 := Nat.mod_lt _ (by decide)
 have hc : i % 5 = 0 ∨ i % 5 = 1 ∨ i % 5 = 2 ∨ i % 5 = 3 ∨ i % 5 = 4 := by omega
 rcases hc with q | q | q | q | q
 ·rw [q] at hR ⊢; rw [show (i + 1) % 5 = 1 by omega]; exact h.a0 hR hT
 ·rw [q] at hR ⊢; rw [show (i + 1) % 5 = 2 by omega]; exact h.a1 hR hT
 ·rw [q] at hR ⊢; rw [show (i + 1) % 5 = 3 by omega]; exact h.a2 hR hT
 ·rw [q] at hR ⊢; rw [show (i + 1) % 5 = 4 by omega]; exact h.a3 hR hT
 ·rw [q] at hR ⊢; rw [show (i + 1) % 5 = 0 by omega]; exact h.a4 hR hT
theorem AlK.below (h : AlK w wr ad P n q T M K) (hb : Below wr.heap.size wr w') {K' : Nat → Prop} (hk : ∀ k, K' k → K k ∨ (wr.heap.size ≤ k ∧ k < w'.heap.size)) : AlK w w' ad P n q T M K' := by
 obtain ⟨⟨lab, hi, h1, h2⟩, hw⟩ := h
 refine ⟨⟨lab, hi.below hb, h1, fun k q => ?_⟩, bt hw hb⟩
 rcases hk k q with r | r
 ·exact ⟨(h2 k r).1, Nat.lt_of_lt_of_le (h2 k r).2 hb.size⟩
 ·exact ⟨hi.fresh r.1, r.2⟩
theorem live_one (hS : M.S 0 = 2) (hO : ∀ x, 1 ≤ x → x < 8 → M.S x = 0) : (liveL M 8).length = 1 := by
 have e : liveL M 8 = [0] := by
  unfold liveL
  have q0 : Gt.pl M.S false 8 1 = [⟨0, by decide⟩] := by rw [Gt.pl_yes (by decide) (by simp [hS])]; rfl
  have st : ∀ k, 1 ≤ k → k < 8 → Gt.pl M.S false 8 (k + 1) = Gt.pl M.S false 8 k := fun k h1 h2 => Gt.pl_no (by simp [hO k h1 h2])
  rw [st 7 (by decide) (by decide), st 6 (by decide) (by decide), st 5 (by decide) (by decide), st 4 (by decide) (by decide), st 3 (by decide) (by decide), st 2 (by decide) (by decide), st 1 (by decide) (by decide), q0]
  rfl
 rw [e]; rfl
theorem AlK.threads1 {i0 : Nat} (h : AlK w wr ad 1 8 8 T M K) (hR : Ra M i0 pA) : Calls Tryz.prog 23 #[.pointer (some ⟨ad.m, 0, none⟩)] wr fun e w' => (∃ a c, e = .returned (.slice a 1 c)) ∧ Below w.heap.size w w' := by
 obtain ⟨⟨lab, hi, h1, h2⟩, hw⟩ := h
 refine hi.threads.mono ?_
 rintro e w' ⟨v, rfl, ho, hb⟩
 obtain ⟨a, c, rfl⟩ := Cb.owns_slice ho
 rw [live_one hR.S0 hR.So]
 exact ⟨⟨a, c, rfl⟩, bt hw hb⟩
theorem Ra.of {lv : Nat → Nat} (h : Rm 8 1 lv 1 1 M) (hpr : M.pr = [pA]) (hu : ∀ x, x < 8 → (M.gr.T[x]?).map (·.u) = some (-1)) (hL : M.gr.L = Pi.newL 4) : Ra M 0 pA := by
 obtain ⟨x, hx1, hr, hS⟩ := h.pc 0 (by omega)
 obtain rfl : x = 0 := by omega
 obtain ⟨n1, n2, n3⟩ := h.np 0 (by omega)
 refine ⟨h.sv, hpr, h.tl, hu, h.nol, by rw [hL]; rfl, by rw [hL]; rfl, fun z hz => ?_, hS, fun x h1 h2 => (h.old x h1 h2).1, (h.th 0 (by omega)).p, n1, n2, n3, hr⟩
 obtain ⟨q1, q2, _⟩ := h.en z hz
 have : z.1 = 0 := by omega
 rw [this, hS] at q2
 cases q2
end
end Go.Proofs.YtjlbmmiomfpgiaaGreatDoor
namespace Go.Proofs.YtjlbmmiomfpgiaaGreatDoor
set_option maxRecDepth 100000
open Go.RowKit Go.Lib Go.Shelf
set_option linter.unusedVariables false
set_option linter.unusedSimpArgs false
attribute [local go_sem ↓] Go.wp_at_zero Go.wp_at_succ
theorem buildIn2 (x y : Int) (w : World) : (Instr.build 64 #[(0, .int .i64 x), (1, .int .i64 y)]).run Tryz.prog w = .ok (.agg #[.int .i64 x, .int .i64 y]) w := run_build w 64 _ _ (by kernel_rfl)
theorem EvL.first {w : World} {base : Nat} {v : Value} {ev : Ev} {rest : List Ev} (h : EvL w base v (ev :: rest)) : ∃ b c, v = .slice (some ⟨b, 0, none⟩) (rest.length + 1) c ∧ w.cell? ⟨b, 0, none⟩ = some (.int .i64 ev.k) ∧ w.cell? ⟨b, 4, none⟩ = some (.int .i64 ev.r) := by
 rcases h.2 with ⟨_, e0⟩ | ⟨b, c, cur, e1, h0, hg, hrow⟩
 ·simp at e0
 ·have hc : ∀ (k : Nat) (u : Value), (evCells (ev :: rest))[k]? = some u → w.cell? ⟨b, k, none⟩ = some u := fun k u hu => by
   rw [← hrow.2.2.2, List.getElem?_take] at hu
   split at hu
   ·simp only [World.cell?, hg]
    simpa using hu
   ·cases hu
  exact ⟨b, c, e1, hc 0 _ rfl, hc 4 _ rfl⟩
set_option maxHeartbeats 8000000 in
set_option maxRecDepth 20000 in
theorem TopAlone_walk (lvl n : Nat) (hlv : lvl < 256) (hn : n < 256) (w : World) (ht : Gt.Tab w) :
  Calls Tryz.prog 6 #[.int .u8 (lvl : Int), .int .u8 (n : Int)] w fun e w' => e = .returned (.bool true) ∧ Below w.heap.size w w' := by
 obtain ⟨W, hW⟩ : ∃ W, w.alloc (.cells #[.int .i64 2, .int .i64 1, .int .i64 7, .int .i64 7, .int .i64 3, .int .i64 1, .int .i64 3, .int .i64 2, .int .i64 8, .int .i64 0] 64) = W := ⟨_, rfl⟩
 have hb0 : Below w.heap.size w W := by rw [← hW]; exact (Below.refl _ _).alloc (Nat.le_refl _) _
 have hpg : Ex.Prg W (some ⟨w.heap.size, 0, none⟩) 5 aO aR := by rw [← hW]; exact a_prg w
 have HMA : Hid (Calls Tryz.prog 28 #[.int .i64 1, .slice (some ⟨w.heap.size, 0, none⟩) 5 5] W fun e w' => ∃ ad, e = .returned (.pointer (some ⟨ad.m, 0, none⟩)) ∧ AlK W w' ad 1 8 8 0 (oneMc 1 pA) (fun _ => False)) := (machine_ok W (ht.below hb0) 1 (by decide) (some ⟨w.heap.size, 0, none⟩) 5 5 aO aR hpg a_rt).mono (fun e w' ⟨ad, he, hA⟩ => ⟨ad, he, hA.k⟩)
 have HS : Hid (∀ V ad, AlK W V ad 1 8 8 0 (oneMc 1 pA) (fun _ => False) → Calls Tryz.prog 19 #[.pointer (some ⟨ad.m, 0, none⟩), .int .i64 0, .int .u8 (lvl : Int), .int .i64 (-1)] V fun e w' => ∃ (v : Value) (M' : Mc), e = .returned (.tuple #[v, .int .i64 0]) ∧ AlK W w' ad 1 8 8 17 M' (fun _ => False) ∧ Rm 8 1 (fun _ => lvl) 1 0 M' ∧ M'.pr = [pA] ∧ (∀ x, x < 8 → (M'.gr.T[x]?).map (·.u) = some (-1)) ∧ M'.gr.L = Pi.newL 4) := fun V ad h => by
  refine (h.startU (lv := fun _ => lvl) (c := 0) (new_rm 1 8 4 50 50 (fun _ => lvl) pA) (by decide) hlv (by decide)).mono ?_
  rintro e w' ⟨v, M', rfl, hev, ⟨hA, _⟩, hR, hpr, hu, hL⟩
  refine ⟨v, M', rfl, hA.less (fun k q => q.elim), hR, hpr, fun x hx => (hu x).trans ?_, hL⟩
  show ((Pi.newT 8)[x]?).map (·.u) = some (-1)
  unfold Pi.newT
  rw [List.getElem?_replicate, if_pos hx]
  rfl
 have HD : Hid (∀ V ad M, AlK W V ad 1 8 8 17 M (fun _ => False) → Rm 8 1 (fun _ => lvl) 1 0 M → M.pr = [pA] → (∀ x, x < 8 → (M.gr.T[x]?).map (·.u) = some (-1)) → M.gr.L = Pi.newL 4 → Calls Tryz.prog 13 #[.pointer (some ⟨ad.m, 0, none⟩), .int .i64 0, .int .u64 0] V fun e w' => ∃ (v : Value) (M' : Mc), e = .returned (.tuple #[v, .int .i64 0]) ∧ AlK W w' ad 1 8 8 26 M' (fun _ => False) ∧ Ra M' 0 pA) := fun V ad M h hR hpr hu hL => by
  refine (h.dispU hR 0 (by decide) (by decide)).mono ?_
  rintro e w' ⟨v, M', ev, rfl, hev, _, ⟨hA, _⟩, hR', hpr', hu', hL'⟩
  exact ⟨v, M', rfl, hA.less (fun k q => q.elim), Ra.of hR' (hpr'.trans hpr) (fun x hx => (hu' x).trans (hu x hx)) (hL'.trans hL)⟩
 have HRN : Hid (∀ V ad M, AlK W V ad 1 8 8 26 M (fun _ => False) → Calls Tryz.prog 29 #[.slice (some ⟨w.heap.size, 0, none⟩) 5 5, .int .i64 (n : Int)] V fun e w' => ∃ av cv, e = .returned (.slice av n cv) ∧ Ex.Prg w' av n (fun i => aO (i % 5)) (fun i => aR (i % 5)) ∧ AlK W w' ad 1 8 8 26 M (fun k => (Value.slice av n cv).ownBlock = some k)) := fun V ad M h => by
  refine (Ex.run_ok V (some ⟨w.heap.size, 0, none⟩) 5 5 (by decide) aO aR (hpg.below h.bel) true ⟨fun _ => a_rt, fun _ => rfl⟩ n (by omega)).mono ?_
  rintro e w' ⟨v, rfl, ho, hb⟩
  rw [rlenA] at ho
  have hfo : Ex.ro true 5 aO aR = fun i => aO (i % 5) := funext roA
  have hfa : Ex.ra true 5 aO aR = fun i => aR (i % 5) := funext raA
  rw [hfo, hfa] at ho
  obtain ⟨av, cv, rfl, hq⟩ := Ex.prg_any ho
  exact ⟨av, cv, rfl, hq, h.below hb (fun k hk => .inr (by obtain ⟨q1, q2, _⟩ := Pi.ownsRow_blk ho hk; exact ⟨q1, q2⟩))⟩
 have HW := veil hW
 have HB0 := veil hb0
 have hwn : IntKind.i64.wrap (n : Int) = (n : Int) := by simp [IntKind.wrap, IntKind.bits, IntKind.signed]; omega
 have hbi := buildIn2
 clear ht hb0 hpg hW
 go_enter Tryz.func6, Tryz.ntmps6
 go_upto_region 2 with fail
 rw [HW.out]
 go_wp2_with (first
  | (go_at_call 28; refine (HMA.out).mono ?_; rintro e w1 ⟨ad, rfl, hA⟩; have HA := veil hA; clear hA)
  | (go_at_call 19; refine (HS.out _ ad HA.out).mono ?_; rintro e w2 ⟨v2, M2, rfl, hA2, hR2, hp2, hu2, hL2⟩; have HA2 := veil hA2; have HR2 := veil hR2; have HP2 := veil hp2; have HU2 := veil hu2; have HL2 := veil hL2; clear hA2 hR2 hp2 hu2 hL2)
  | (go_at_call 13; refine (HD.out w2 ad M2 HA2.out HR2.out HP2.out HU2.out HL2.out).mono ?_; rintro e w3 ⟨v3, M3, rfl, hA3, hR3⟩; have HA3 := veil hA3; have HR3 := veil hR3; clear hA3 hR3)
  | (go_at_call 29; refine (HRN.out w3 ad M3 HA3.out).mono ?_; rintro e w4 ⟨av, cv, rfl, hq4, hA4⟩; have HA4 := veil hA4; have HQ4 := veil hq4; clear hA4 hq4))
 go_loopw [10] (fun iv wr => ∃ (i T : Nat) (M : Mc), i ≤ n ∧ iv = .int .i64 i ∧ T ≤ 100 + 8 * i ∧ AlK W wr ad 1 8 8 T M (fun k => (Value.slice av n cv).ownBlock = some k) ∧ Ra M (i % 5) pA ∧ Ex.Prg wr av n (fun i => aO (i % 5)) (fun i => aR (i % 5))) (fun iv _ => n - (RowKit.intOf iv).toNat)
 case atStart => exact ⟨0, 26, M3, by omega, rfl, by omega, HA4.out, HR3.out, HQ4.out⟩
 case round =>
  obtain ⟨i, T, M, hin, rfl, hTi, hA5, hR5, hq5⟩ := hrel
  have HA5 := veil hA5
  have HR5 := veil hR5
  have HQ5 := veil hq5
  clear hA5 hR5 hq5 HA4 HQ4
  by_cases hil : i < n
  ·have hil' : (i : Int) < (n : Int) := by omega
   rcases HQ5.out with h0 | ⟨lb, off, rfl, hlb, hc⟩
   ·omega
   have HSTP : Hid (Calls Tryz.prog 13 #[.pointer (some ⟨ad.m, 0, none⟩), .int .i64 0, .int .u64 0] wr fun e w' => ∃ b c m M', e = .returned (.tuple #[.slice (some ⟨b, 0, none⟩) (m + 1) c, .int .i64 0]) ∧ w'.cell? ⟨b, 0, none⟩ = some (.int .i64 (if i % 5 = 3 then 6 else 5)) ∧ w'.cell? ⟨b, 4, none⟩ = some (.int .i64 (aO (i % 5))) ∧ w'.cell? ⟨lb, off + i * 2, none⟩ = some (.int .i64 (aO (i % 5))) ∧ w'.cell? ⟨lb, off + i * 2 + 1, none⟩ = some (.int .i64 (aR (i % 5))) ∧ AlK W w' ad 1 8 8 (T + 8) M' (fun k => (Value.slice (some ⟨lb, off, none⟩) n cv).ownBlock = some k) ∧ Ra M' ((i + 1) % 5) pA ∧ Ex.Prg w' (some ⟨lb, off, none⟩) n (fun i => aO (i % 5)) (fun i => aR (i % 5))) := by
    refine (HA5.out.aAny HR5.out (by omega)).mono ?_
    rintro e w' ⟨v, M', ev, rest, rfl, hev, h1, h2, ⟨hA, hk⟩, hR⟩
    obtain ⟨b, c, rfl, q0, q4⟩ := hev.first
    rw [h2] at q0
    rw [h1] at q4
    have hbl := hk lb rfl
    have hc' : ∀ j, j < n → w'.cell? ⟨lb, off + j * 2, none⟩ = some (.int .i64 (aO (j % 5))) ∧ w'.cell? ⟨lb, off + j * 2 + 1, none⟩ = some (.int .i64 (aR (j % 5))) := fun j hj => ⟨(World.cell?_of_block hbl).trans (hc j hj).1, (World.cell?_of_block hbl).trans (hc j hj).2⟩
    exact ⟨b, c, rest.length, M', rfl, q0, q4, (hc' i hil).1, (hc' i hil).2, hA.less (fun k q => .inl q), hR, .inr ⟨lb, off, rfl, World.block_lt_of_cell? w' _ (hc' i hil).1, hc'⟩⟩
   have h5 : i % 5 < 5 := Nat.mod_lt _ (by decide)
   have hways : (i % 5 = 0 ∧ aO (i % 5) = 2 ∧ aR (i % 5) = 1) ∨ (i % 5 = 1 ∧ aO (i % 5) = 7 ∧ aR (i % 5) = 7) ∨ (i % 5 = 2 ∧ aO (i % 5) = 3 ∧ aR (i % 5) = 1) ∨ (i % 5 = 3 ∧ aO (i % 5) = 3 ∧ aR (i % 5) = 2) ∨ (i % 5 = 4 ∧ aO (i % 5) = 8 ∧ aR (i % 5) = 0) := by
    have hq : i % 5 = 0 ∨ i % 5 = 1 ∨ i % 5 = 2 ∨ i % 5 = 3 ∨ i % 5 = 4 := by omega
    rcases hq with q | q | q | q | q <;> rw [q] <;> simp [aO, aR]
   clear hc hlb HQ5
   rcases hways with ⟨q, eo, er⟩ | ⟨q, eo, er⟩ | ⟨q, eo, er⟩ | ⟨q, eo, er⟩ | ⟨q, eo, er⟩
   ·rw [eo, er, q] at HSTP
    clear eo er q
    go_wp2_with (go_at_call 13; refine (HSTP.out).mono ?_; rintro e w5 ⟨b, c, m, M', rfl, y0, y4, z0, z1, hA6, hR6, hq6⟩; replace y0 : w5.cell? ⟨b, 0, none⟩ = some (.int .i64 5) := y0; have HA6 := veil hA6; have HR6 := veil hR6; have HQ6 := veil hq6; have hm0 : ((m : Int) + 1 == 0) = false := (by simp; omega); have hm1 : (0 : Int) < (m : Int) + 1 := (by omega); clear hA6 hR6 hq6)
    go_region_held3 (fun w' => w'.cell? ⟨b, 0, none⟩ = some (.int .i64 5) ∧ w'.cell? ⟨b, 4, none⟩ = some (.int .i64 2) ∧ w'.cell? ⟨lb, off + i * 2, none⟩ = some (.int .i64 2) ∧ w'.cell? ⟨lb, off + i * 2 + 1, none⟩ = some (.int .i64 1))
     (go_keep)
     (first | fail)
    go_wp2
    go_roundw
    case rel => exact ⟨i + 1, T + 8, M', by omega, by go_num, by omega, (by
      have h7 := HA6.out.below (w' := w5.drew) (bdrew (Below.refl _ _)) (K' := fun k => (Value.slice (some ⟨lb, off, none⟩) n cv).ownBlock = some k) (fun k hk => .inl hk)
      exact h7), HR6.out, HQ6.out.below (bdrew (Below.refl _ _))⟩
    case measure => simp [RowKit.intOf]; omega
   ·rw [eo, er, q] at HSTP
    clear eo er q
    go_wp2_with (go_at_call 13; refine (HSTP.out).mono ?_; rintro e w5 ⟨b, c, m, M', rfl, y0, y4, z0, z1, hA6, hR6, hq6⟩; replace y0 : w5.cell? ⟨b, 0, none⟩ = some (.int .i64 5) := y0; have HA6 := veil hA6; have HR6 := veil hR6; have HQ6 := veil hq6; have hm0 : ((m : Int) + 1 == 0) = false := (by simp; omega); have hm1 : (0 : Int) < (m : Int) + 1 := (by omega); clear hA6 hR6 hq6)
    go_region_held3 (fun w' => w'.cell? ⟨b, 0, none⟩ = some (.int .i64 5) ∧ w'.cell? ⟨b, 4, none⟩ = some (.int .i64 7) ∧ w'.cell? ⟨lb, off + i * 2, none⟩ = some (.int .i64 7) ∧ w'.cell? ⟨lb, off + i * 2 + 1, none⟩ = some (.int .i64 7))
     (go_keep)
     (first | fail)
    go_wp2
    go_roundw
    case rel => exact ⟨i + 1, T + 8, M', by omega, by go_num, by omega, (by
      have h7 := HA6.out.below (w' := w5.drew) (bdrew (Below.refl _ _)) (K' := fun k => (Value.slice (some ⟨lb, off, none⟩) n cv).ownBlock = some k) (fun k hk => .inl hk)
      exact h7), HR6.out, HQ6.out.below (bdrew (Below.refl _ _))⟩
    case measure => simp [RowKit.intOf]; omega
   ·rw [eo, er, q] at HSTP
    clear eo er q
    go_wp2_with (go_at_call 13; refine (HSTP.out).mono ?_; rintro e w5 ⟨b, c, m, M', rfl, y0, y4, z0, z1, hA6, hR6, hq6⟩; replace y0 : w5.cell? ⟨b, 0, none⟩ = some (.int .i64 5) := y0; have HA6 := veil hA6; have HR6 := veil hR6; have HQ6 := veil hq6; have hm0 : ((m : Int) + 1 == 0) = false := (by simp; omega); have hm1 : (0 : Int) < (m : Int) + 1 := (by omega); clear hA6 hR6 hq6)
    go_region_held3 (fun w' => w'.cell? ⟨b, 0, none⟩ = some (.int .i64 5) ∧ w'.cell? ⟨b, 4, none⟩ = some (.int .i64 3) ∧ w'.cell? ⟨lb, off + i * 2, none⟩ = some (.int .i64 3) ∧ w'.cell? ⟨lb, off + i * 2 + 1, none⟩ = some (.int .i64 1))
     (go_keep)
     (first | fail)
    go_wp2
    go_roundw
    case rel => exact ⟨i + 1, T + 8, M', by omega, by go_num, by omega, (by
      have h7 := HA6.out.below (w' := w5.drew) (bdrew (Below.refl _ _)) (K' := fun k => (Value.slice (some ⟨lb, off, none⟩) n cv).ownBlock = some k) (fun k hk => .inl hk)
      exact h7), HR6.out, HQ6.out.below (bdrew (Below.refl _ _))⟩
    case measure => simp [RowKit.intOf]; omega
   ·rw [eo, er, q] at HSTP
    clear eo er q
    go_wp2_with (go_at_call 13; refine (HSTP.out).mono ?_; rintro e w5 ⟨b, c, m, M', rfl, y0, y4, z0, z1, hA6, hR6, hq6⟩; replace y0 : w5.cell? ⟨b, 0, none⟩ = some (.int .i64 6) := y0; have HA6 := veil hA6; have HR6 := veil hR6; have HQ6 := veil hq6; have hm0 : ((m : Int) + 1 == 0) = false := (by simp; omega); have hm1 : (0 : Int) < (m : Int) + 1 := (by omega); clear hA6 hR6 hq6)
    go_region_held3 (fun w' => w'.cell? ⟨b, 0, none⟩ = some (.int .i64 6) ∧ w'.cell? ⟨b, 4, none⟩ = some (.int .i64 3) ∧ w'.cell? ⟨lb, off + i * 2, none⟩ = some (.int .i64 3) ∧ w'.cell? ⟨lb, off + i * 2 + 1, none⟩ = some (.int .i64 2))
     (go_keep)
     (first | fail)
    go_wp2
    go_roundw
    case rel => exact ⟨i + 1, T + 8, M', by omega, by go_num, by omega, (by
      have h7 := HA6.out.below (w' := w5.drew) (bdrew (Below.refl _ _)) (K' := fun k => (Value.slice (some ⟨lb, off, none⟩) n cv).ownBlock = some k) (fun k hk => .inl hk)
      exact h7), HR6.out, HQ6.out.below (bdrew (Below.refl _ _))⟩
    case measure => simp [RowKit.intOf]; omega
   ·rw [eo, er, q] at HSTP
    clear eo er q
    go_wp2_with (go_at_call 13; refine (HSTP.out).mono ?_; rintro e w5 ⟨b, c, m, M', rfl, y0, y4, z0, z1, hA6, hR6, hq6⟩; replace y0 : w5.cell? ⟨b, 0, none⟩ = some (.int .i64 5) := y0; have HA6 := veil hA6; have HR6 := veil hR6; have HQ6 := veil hq6; have hm0 : ((m : Int) + 1 == 0) = false := (by simp; omega); have hm1 : (0 : Int) < (m : Int) + 1 := (by omega); clear hA6 hR6 hq6)
    go_region_held3 (fun w' => w'.cell? ⟨b, 0, none⟩ = some (.int .i64 5) ∧ w'.cell? ⟨b, 4, none⟩ = some (.int .i64 8) ∧ w'.cell? ⟨lb, off + i * 2, none⟩ = some (.int .i64 8) ∧ w'.cell? ⟨lb, off + i * 2 + 1, none⟩ = some (.int .i64 0))
     (go_keep)
     (first | fail)
    go_wp2
    go_roundw
    case rel => exact ⟨i + 1, T + 8, M', by omega, by go_num, by omega, (by
      have h7 := HA6.out.below (w' := w5.drew) (bdrew (Below.refl _ _)) (K' := fun k => (Value.slice (some ⟨lb, off, none⟩) n cv).ownBlock = some k) (fun k hk => .inl hk)
      exact h7), HR6.out, HQ6.out.below (bdrew (Below.refl _ _))⟩
    case measure => simp [RowKit.intOf]; omega
  ·have hil' : ¬ (i : Int) < (n : Int) := by omega
   have HTH := veil (HA5.out.threads1 HR5.out)
   go_wp2_with (go_at_call 23; refine (HTH.out).mono ?_; rintro e w6 ⟨⟨a6, c6, rfl⟩, hb6⟩; have HB6 := veil hb6; clear hb6)
   go_ret
   exact ⟨rfl, bt HB0.out HB6.out⟩
end Go.Proofs.YtjlbmmiomfpgiaaGreatDoor
