/- TopSame: what is done by hand, beside a run of its entries. -/
import Derived.Test.YtnmhcgpnhlhcgaaGreatDoorK0
import Derived.Test.YtnmhcgpnhlhcgaaGreatDoorKn
import Derived.Test.YtnmhcgpnhlhcgaaGreatDoorKs
import Derived.Test.YtnmhcgpnhlhcgaaGreatDoorKx
import Derived.Test.YtnmhcgpnhlhcgaaGreatDoorKl
import Derived.Test.YtnmhcgpnhlhcgaaGreatDoorKq
import Derived.Test.YtnmhcgpnhlhcgaaGreatDoorKt
import Derived.Test.YtnmhcgpnhlhcgaaGreatDoorKd
import Derived.Test.YtnmhcgpnhlhcgaaGreatDoorKc
import Derived.Test.YtnmhcgpnhlhcgaaGreatDoorKa
import Derived.Deep.AppendLies
import Derived.Deep.Upon
namespace Go.Proofs.YtnmhcgpnhlhcgaaGreatDoor.Ex
open Go.RowKit Go.Lib
set_option linter.unusedVariables false
def Fit (w : World) (z : En × Option Addr × Nat) : Prop := (∀ W, aC w W → qe W z.2.1 z.1.code) ∧ z.1.code.length < 9223372036854775808 ∧ (z.1.code.length ≤ 64 ∨ (z.1.code.length ≤ z.2.2 ∧ z.2.2 < 9223372036854775808)) ∧ zf z.1
theorem ens_of {w0 w : World} {base : Nat} {T : TypeId} {v : Value} {Z : Zs} (hr : w.ownsRow base T 10 v Z.length (iP Z)) (hb : aC w0 w) (hf : ∀ z ∈ Z, Fit w0 z) : ∃ a cap, v = .slice a Z.length cap ∧ M8 w a (Z.map (·.1)) := by
  rcases hr.2 with ⟨rfl, h0⟩ | ⟨g, cap, cur, rfl, _, hgg, hn, hm, hc, ht⟩
  · have : Z = [] := (by grind)
    subst this
    exact ⟨none, 0, rfl, .inl rfl⟩
  · refine ⟨_, cap, rfl, .inr ⟨g, 0, rfl, (Array.getElem?_eq_some_iff.1 hgg).1, fun j x hj => ?_⟩⟩
    rw [List.getElem?_map] at hj
    cases hz : Z[j]? with
    | none => grind
    | some z =>
      rw [hz] at hj
      simp at hj
      subst hj
      have hcell : ∀ i u, (ec z.1 z.2.1 z.2.2)[i]? = some u → w.cell? (af g (0 + j * 10 + i)) = some u := by
        intro i u hu
        have q := nh Z j z hz i u hu
        have hi := (List.getElem?_eq_some_iff.1 hu).1
        rw [sa] at hi
        have hj' := (List.getElem?_eq_some_iff.1 hz).1
        rw [← ht, List.getElem?_take_of_lt (by omega)] at q
        unfold World.cell?
        grind
      obtain ⟨q1, q2, q3, q4⟩ := hf z (List.mem_of_getElem? hz)
      exact ⟨z.2.1, z.2.2, hcell 0 _ rfl, hcell 1 _ rfl, hcell 2 _ rfl, hcell 3 _ rfl, hcell 4 _ rfl, hcell 5 _ rfl, hcell 6 _ rfl, hcell 7 _ rfl, hcell 8 _ rfl, hcell 9 _ rfl, q1 w hb, q2, q3, q4⟩
end Go.Proofs.YtnmhcgpnhlhcgaaGreatDoor.Ex
namespace Go.Proofs.YtnmhcgpnhlhcgaaGreatDoor
set_option linter.unusedVariables false
set_option linter.unusedSimpArgs false
set_option maxRecDepth 100000
open Go.RowKit Go.Lib Go.Shelf
set_option linter.unusedVariables false
set_option linter.unusedSimpArgs false
/-- What is handed to append: nothing, or so many pieces that lie somewhere. -/
def SrX (w : World) (v : Value) (m size : Nat) (news : List Value) : Prop := ∃ a c, v = .slice a m c ∧ news.length = m * size ∧ (∀ u ∈ news, u.oneCell' = true) ∧ (0 < m → ∃ ad, a = some ad ∧ ∀ (j : Nat) (u : Value), news[j]? = some u → w.cell? (ad.add j) = some u)
/-- The row's block behind an append is its own or a new one. -/
def Grw (w w' : World) (v v' : Value) : Prop := w.grownBy w' v.ownBlock ∧ ∀ k, v'.ownBlock = some k → v.ownBlock = some k ∨ w.heap.size ≤ k
theorem wp_appX {P : Program} {w : World} {ops : Array Oper} {rest : List Oper} {o : Oper} {a : Act} {Q : Exit → Act → World → Prop} (i : TypeInfo) (hgd : o.guard = none) (s x : Operand) (t e : TypeId)
    (ho : o.op = .call { callee := .builtin .append, args := #[s, x], argTypes := #[t, t] }) (ht : P.underlying t = some (.slice e)) (z : Value) (size bytes : Nat) (hi : P.info? e = some i) (hz : i.zero = some z) (h1 : i.size = size) (h2 : i.bytes = bytes) (hzs : z.cells.size = size) (hsz : 0 < size) (hby : bytes ≤ 100)
    (base : Nat) (v : Value) (n : Nat) (xs : List Value) (hs : a.eval s = v) (hown : w.ownsRow base e size v n xs) (src : Value) (m : Nat) (news : List Value) (hx : a.eval x = src) (hsrc : SrX w src m size news) (hl : n + m ≤ 100000) (hbase : base ≤ w.heap.size)
    (h : ∀ v' w', w'.ownsRow base e size v' (n + m) (xs ++ news) → Grw w w' v v' → wpList P ops Q rest (a.put o.dst v') w') : wpList P ops Q (o :: rest) a w := by
  obtain ⟨sa, c, rfl, hnl, hone, hc⟩ := hsrc
  by_cases hm : m = 0
  · subst hm
    have hn0 : news = [] := List.eq_nil_of_length_eq_zero (by omega)
    subst hn0
    obtain ⟨va, vc, rfl⟩ := Cb.aJ hown
    have hle : n ≤ vc := by
      rcases hown.2 with ⟨q, q2⟩ | ⟨g, cap, cur, q, _, _, q3, _⟩
      · omega
      · simp only [Value.slice.injEq, true_and] at q
        omega
    have hsr : Go.Src P i.size t (.slice sa 0 c) 0 [] w := by
      cases sa with
      | none => exact ⟨.inl ⟨e, ht⟩, fun w' => rfl, run_firstCells_none w i.size 0 0 0, run_firstCells_none w.drew i.size 0 0 0, by simp, by simp⟩
      | some ad => exact Src.ofSlice w ht ad 0 c [] (by simp) (by simp) (by simp)
    have hrun := run_append_nothing (P := P) w t t o.type e i ht hi va n vc hle _ hsr
    refine wpList_plain hgd fun K hK => ?_
    unfold Oper.wp
    simp [execOp, ho, resolve, invoke, builtin, hs, hx, hrun, Result.andThen]
    exact hK _ _ (h _ w (by simpa using hown) ⟨World.grownBy.refl _ _, fun k q => .inl q⟩)
  · obtain ⟨ad, rfl, hc2⟩ := hc (by omega)
    refine wpList_append_lies w hgd s x t ho base e i z size bytes ht hi hz h1 h2 hzs hsz v n xs hs hown ad m c news hx hnl hc2 hone (by omega) (by unfold maxLen; omega) ?_ hbase w.heap.size rfl fun g cap w' q1 q2 q3 q4 => h _ w' q1 ⟨q2, fun k q => ?_⟩
    · have : (n + m) * bytes ≤ 100000 * 100 := Nat.mul_le_mul hl hby
      omega
    · simp [Value.ownBlock] at q
      subst q
      rcases q3 with q3 | q3
      · exact .inl q3
      · exact .inr (by omega)
theorem qA {V : World} {b1 b2 : Nat} {T1 T2 : TypeId} {s1 s2 n1 n2 : Nat} {v1 v2 : Value} {xs ys : List Value} (h1 : V.ownsRow b1 T1 s1 v1 n1 xs) (h2 : V.ownsRow b2 T2 s2 v2 n2 ys) (hT : T1 ≠ T2) {k : Nat} (hk : v1.ownBlock = some k) : v2.ownBlock ≠ some k := fun q => by
  obtain ⟨_, _, c1, e1⟩ := au h1 hk
  obtain ⟨_, _, c2, e2⟩ := au h2 q
  grind
/-- A machine, the entries that were done, and what it has told. -/
structure TS (w V : World) (ad : Ad) (T : Nat) (M : Mc) (lv wv : Value) (Z : Ex.Zs) (evs : List Ev) : Prop where
  a : nQ w V ad 2 6 2 T M (fun k => lv.ownBlock = some k ∨ wv.ownBlock = some k)
  l : V.ownsRow w.heap.size 86 10 lv Z.length (Ex.iP Z)
  e : fK V w.heap.size wv evs
section
variable {w V V' : World} {ad : Ad} {T : Nat} {M : Mc} {lv wv lv' wv' : Value} {Z Z' : Ex.Zs} {evs evs' : List Ev}
theorem TS.jC (h : TS w V ad T M lv wv Z evs) : aC w V := h.a.jC
theorem TS.below (h : TS w V ad T M lv wv Z evs) (hb : aC V V') : TS w V' ad T M lv wv Z evs :=
  ⟨h.a.below hb (fun k q => .inl q), Ex.gP h.l hb, h.e.below hb⟩
/-- An entry more. -/
theorem TS.growL (h : TS w V ad T M lv wv Z evs) (hg : Grw V V' lv lv') (hl : V'.ownsRow w.heap.size 86 10 lv' Z'.length (Ex.iP Z')) (h0 : 0 < w.heap.size) : TS w V' ad T M lv' wv Z' evs := by
  have hf : Fr (fun k => lv.ownBlock = some k) V V' := ⟨hg.1.os, hg.1.tape, hg.1.output, hg.1.size, fun k hk q => hg.1.block k hk (fun e => q e.symm)⟩
  have hw : ∀ k, wv.ownBlock = some k → V'.heap[k]? = V.heap[k]? := fun k q => hg.1.block k (h.e.EJ q).2 (fun e => qA h.l h.e (by decide) e.symm q)
  refine ⟨h.a.fr hf (fun k q => .inl q) (fun q => ?_) (fun k q => (au h.l q).1) (fun k q => ?_), hl, aQ h.e hw⟩
  · have := (au h.l q).1
    omega
  · rcases q with q | q
    · refine ⟨(au hl q).2.1, ?_⟩
      rcases hg.2 k q with r | r
      · exact .inl (.inl r)
      · exact .inr r
    · exact ⟨Nat.lt_of_lt_of_le (h.e.EJ q).2 hg.1.size, .inl (.inr q)⟩
/-- What was told is laid behind. -/
theorem TS.growE (h : TS w V ad T M lv wv Z evs) (hg : Grw V V' wv wv') (he : fK V' w.heap.size wv' evs') (h0 : 0 < w.heap.size) : TS w V' ad T M lv wv' Z evs' := by
  have hf : Fr (fun k => wv.ownBlock = some k) V V' := ⟨hg.1.os, hg.1.tape, hg.1.output, hg.1.size, fun k hk q => hg.1.block k hk (fun e => q e.symm)⟩
  have hw : ∀ k, lv.ownBlock = some k → V'.heap[k]? = V.heap[k]? := fun k q => hg.1.block k (au h.l q).2.1 (fun e => qA h.l h.e (by decide) q e.symm)
  refine ⟨h.a.fr hf (fun k q => .inr q) (fun q => ?_) (fun k q => (h.e.EJ q).1) (fun k q => ?_), aQ h.l hw, he⟩
  · have := (h.e.EJ q).1
    omega
  · rcases q with q | q
    · exact ⟨Nat.lt_of_lt_of_le (au h.l q).2.1 hg.1.size, .inl (.inl q)⟩
    · refine ⟨(he.EJ q).2, ?_⟩
      rcases hg.2 k q with r | r
      · exact .inl (.inr r)
      · exact .inr r
/-- A call of the machine that tells events. -/
theorem TS.call {T' : Nat} {M' : Mc} {l : List Ev} (h : TS w V ad T M lv wv Z evs) {f : Nat} {args : Array Value} {R : Ending → World → Value → Prop}
    (hc : ∀ lab, ax V lab ad 2 6 2 T M → aB f args V fun e w' => ∃ v, R e w' v ∧ fK w' V.heap.size v l ∧ dF V w' lab ad 2 6 2 T' M' v) :
    aB f args V fun e w' => ∃ v, R e w' v ∧ fK w' V.heap.size v l ∧ TS w w' ad T' M' lv wv Z evs := by
  refine (h.a.call hc).mono ?_
  rintro e w' ⟨v, hr, hv, hA, hK⟩
  exact ⟨v, hr, hv, hA.below cj (fun k q => .inl (.inl q)), aQ h.l (fun k q => hK k (.inl q)), aQ h.e (fun k q => hK k (.inr q))⟩
/-- What a call has told lies to be appended. -/
theorem fK.src {V : World} {b : Nat} {v : Value} {l : List Ev} (h : fK V b v l) : SrX V v l.length 6 (bF l) := by
  rcases h.2 with ⟨rfl, e⟩ | ⟨g, cap, cur, rfl, hb, hg, hn, hm, hs, ht⟩
  · exact ⟨none, 0, by rw [e], h.1, fun u hu => vM l u hu, fun q => by omega⟩
  · refine ⟨_, cap, rfl, h.1, fun u hu => vM l u hu, fun _ => ⟨_, rfl, fun j u hu => ?_⟩⟩
    have hj := (List.getElem?_eq_some_iff.1 hu).1
    have e : (ao g : Addr).add j = af g j := by unfold Addr.add; grind
    rw [e, World.ownsRow.cellAt h j (by rw [← h.1]; exact hj)]
    exact hu
end
end Go.Proofs.YtnmhcgpnhlhcgaaGreatDoor
namespace Go.Proofs.YtnmhcgpnhlhcgaaGreatDoor
set_option linter.unusedVariables false
set_option linter.unusedSimpArgs false
set_option maxRecDepth 100000
open Go.RowKit Go.Lib Go.Shelf
set_option linter.unusedVariables false
set_option linter.unusedSimpArgs false
def tsC : List (Int × Int) := [(2, 0), (1, 1), (3, 0), (5, 2), (4, 0), (9, 0)]
theorem ts_rt : Ex.uK tsC := ⟨0, .inr (.inr (.inr ⟨by decide, by decide, fun i hi => by
  have h6 : i < 6 := hi
  match i, h6 with
  | 0, _ | 1, _ | 2, _ | 3, _ | 4, _ | 5, _ => decide, .inr rfl, rfl, rfl⟩))⟩
/-- What is kept: the machine is what the run of the entries comes to. -/
structure JT (L : List Ex.En) (T : Nat) (M : Mc) (evs : List Ev) : Prop where
  m : (Hg 2 6 2 2 3 4 L).M = M
  v : (Hg 2 6 2 2 3 4 L).ev = evs
  t : T ≤ 1000 * L.length
  i : Iv 2 6 L.length [] M
  l : evs.length ≤ 150 * L.length
  r : Ex.gu L
  k : wX L ≤ L.length
section
variable {L : List Ex.En} {T : Nat} {M : Mc} {evs : List Ev} {w V : World} {ad : Ad} {lv wv : Value} {Z : Ex.Zs}
theorem JT.load : JT [Ex.cK tsC] 0 (lM (gz 2 6 2 3 4) ⟨6, Ex.cO tsC, Ex.cR tsC⟩) [] where
  m := rfl
  v := rfl
  t := Nat.zero_le _
  i := ((Iv.new 2 6 2 3 4 (by decide) (by decide)).zY _).more (Nat.le_succ 0)
  l := Nat.zero_le _
  r := fun x hx => by
    obtain rfl : x = Ex.cK tsC := by simpa using hx
    exact ⟨.inr (.inr (.inl ⟨rfl, ts_rt⟩)), ⟨by decide, by decide, by decide, by decide⟩⟩
  k := Nat.zero_le _
theorem rights_snoc {x : Ex.En} (h : Ex.gu L) (h1 : Ex.bj x) (h2 : Ex.zf x) : Ex.gu (L ++ [x]) := fun y hy => by
  rcases List.mem_append.1 hy with q | q
  · exact h y q
  · obtain rfl : y = x := by simpa using q
    exact ⟨h1, h2⟩
theorem ts_start (h : TS w V ad T M lv wv Z evs) (hJ : JT L T M evs) (hL : L.length ≤ 100) (v : Nat) (hv : v < 256) :
    aB 20 #[ak ad.m, ab 0, aA (v : Int), ab (-1)] V fun e w' => ∃ x c l T' M', e = aS #[x, ab c] ∧ fK w' V.heap.size x l ∧ TS w w' ad T' M' lv wv Z evs ∧ l.length ≤ 150 ∧ JT (L ++ [Ex.bV 0 v (-1)]) T' M' (evs ++ l) := by
  have ht := hJ.t
  have hk := OU (M := M) (n := 6) (pg := 0) (sv := -1)
  refine (h.call (R := fun e _ x => e = aS #[x, ab (gC M 6 0 (-1))]) (fun lab hi => hi.sJ hJ.i (by omega) 0 v hv (-1) (by omega))).mono ?_
  rintro e w' ⟨x, rfl, hx, hT⟩
  refine ⟨x, _, _, _, _, rfl, hx, hT, by have := hk.1; omega, ?_, ?_, ?_, ?_, ?_, rights_snoc hJ.r (.inr (.inr (.inr (.inr ⟨rfl, by simp [Ex.bV], by simp [Ex.bV], by simp [Ex.bV], by simp [Ex.bV]⟩)))) ⟨by simp [Ex.bV], by simp [Ex.bV], by simp [Ex.bV], hv⟩, ?_⟩
  · rw [GA, ← hJ.m]; rfl
  · rw [GA, ← hJ.m, ← hJ.v]; rfl
  · simp; omega
  · rw [List.length_append]; exact hJ.i.xu (by decide) 0 v (-1)
  · have := hk.1; have := hJ.l; simp; omega
  · have := hJ.k; rw [qL, List.length_append]; exact Nat.le_succ_of_le this
theorem ts_tick (h : TS w V ad T M lv wv Z evs) (hJ : JT L T M evs) (hL : L.length ≤ 100) :
    aB 17 #[ak ad.m] V fun e w' => ∃ x l T' M', e = .returned x ∧ fK w' V.heap.size x l ∧ TS w w' ad T' M' lv wv Z evs ∧ l.length ≤ 150 ∧ JT (L ++ [Ex.dg 1]) T' M' (evs ++ l) := by
  have ht := hJ.t
  obtain ⟨lab, hi⟩ := h.a.one
  have hk := hi.NP
  have hI := hJ.i.tick (q := 2) hi.wh.facts.2.1
  refine (h.call (R := fun e _ x => e = .returned x) (fun lab hi => hi.tick (by decide) hJ.i.Qr (by omega))).mono ?_
  rintro e w' ⟨x, rfl, hx, hT⟩
  refine ⟨x, _, _, _, rfl, hx, hT, by have := hk.1; omega, ?_, ?_, ?_, ?_, ?_, rights_snoc hJ.r (.inr (.inl ⟨rfl, by decide, by decide⟩)) ⟨by decide, by decide, by decide, by decide⟩, ?_⟩
  · rw [GA, ← hJ.m]; rfl
  · rw [GA, ← hJ.m, ← hJ.v]; rfl
  · simp; omega
  · rw [List.length_append]; exact hI.more (Nat.le_succ _)
  · have := hk.1; have := hJ.l; simp; omega
  · have := hJ.k; rw [qL, List.length_append]; exact Nat.succ_le_succ this
theorem ts_step (h : TS w V ad T M lv wv Z evs) (hJ : JT L T M evs) (hL : L.length ≤ 100) (p d : Nat) (hp : p ≤ 255) (hd : d < 18446744073709551616) :
    aB 14 #[ak ad.m, ab (p : Int), aj (d : Int)] V fun e w' => ∃ x c l T' M', e = aS #[x, ab c] ∧ fK w' V.heap.size x l ∧ TS w w' ad T' M' lv wv Z evs ∧ l.length ≤ 150 ∧ JT (L ++ [Ex.dB (p : Int) d]) T' M' (evs ++ l) := by
  have ht := hJ.t
  have htm : IW 6 ≤ 600 := by
    unfold IW zn
    omega
  obtain ⟨lab, hi⟩ := h.a.one
  have hk := NV (q := 2) (p := (p : Int)) (d := (d : Int)) hJ.i
  have hI := hJ.i.step (q := 2) (by omega) hi (p : Int) (d : Int) ⟨by omega, by omega⟩ (by omega)
  refine (h.call (R := fun e _ x => e = aS #[x, ab (sC 2 (p : Int))]) (fun lab hi => hi.vK hJ.i (by omega) (p : Int) (d : Int) ⟨by omega, by omega⟩ (by omega))).mono ?_
  rintro e w' ⟨x, rfl, hx, hT⟩
  refine ⟨x, _, _, _, _, rfl, hx, hT, by have := hk.1; omega, ?_, ?_, ?_, ?_, ?_, rights_snoc hJ.r (.inl ⟨rfl, Int.natCast_nonneg _, by show (p : Int) ≤ 255; omega⟩) ⟨hd, by simp [Ex.dB], by simp [Ex.dB], by simp [Ex.dB]⟩, ?_⟩
  · rw [GA, ← hJ.m]; rfl
  · rw [GA, ← hJ.m, ← hJ.v]; rfl
  · simp; omega
  · rw [List.length_append]; exact hI
  · have := hk.1; have := hJ.l; simp; omega
  · have := hJ.k; rw [qL, List.length_append]; exact Nat.le_succ_of_le this
end
theorem run_ts {L : List Ex.En} {ys : List Nat} {w : World} {bv : Value} (hL : L.length ≤ 1000) (hk : wX L ≤ 1000) (ht : Gt.pv w) (hd : ∀ V, aC w V → aB 32 #[bv] V (Ex.nR V 86 ys)) (hg : Ex.Good ys L) :
    aB 25 #[.agg #[ab 2, ab 6, ab 2, ab 2, aj 3, aj 4], bv] w fun e w' => ∃ ev er cn f, e = aS #[.agg (B6 ev er cn f), ab 0] ∧ fK w' w.heap.size ev (Hg 2 6 2 2 3 4 L).ev ∧ KG w' w.heap.size er (Hg 2 6 2 2 3 4 L).er ∧ aC w w' := by
  refine (L5 2 6 2 2 3 4 (by decide) (by decide) (by decide) (by decide) (by decide) (by decide) w ht bv L hL (fun V hV => (hd V hV).mono fun e w' h => h.tu hg) _ ⟨rfl, Nat.zero_le _, (Iv.new 2 6 2 3 4 (by decide) (by decide)), aT, by decide, aT, rfl⟩ (CR (m := 2) (qu := 3) (ag := 4) (by decide) (by decide) L hL hk hg.1)).mono ?_
  rintro e w' ⟨ev, er, f, T, M, evs, errs, us, wh, hJ, rfl, _, h1, h2, hb⟩
  rw [List.take_length] at hJ
  rw [hJ.e]
  exact ⟨_, _, _, _, rfl, h1, h2, hb⟩
end Go.Proofs.YtnmhcgpnhlhcgaaGreatDoor
