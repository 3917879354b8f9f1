/-
  A set's List: the heap's ids, then the queue's, level by level.
-/
import Derived.Test.YtlfejgjhamcahaaY10
import Derived.Test.YtlfejgjhamcahaaMi
import Derived.Test.YtlfejgjhamcahaaMe
import Derived.Test.YtlfejgjhamcahaaX6
namespace Go.Proofs.Ytlfejgjhamcahaa
open Go.RowKit Go.Lib
attribute [local go_sem ↓] Go.wp_at_zero Go.wp_at_succ

/-- The ids of a list. -/
def idE (M : List En) : List Int := M.map (fun y => (y.1 : Int))
/-- Those of the i uppermost levels. -/
def hi (R : List (Nat × Nat)) : Nat → List En
  | 0 => []
  | i + 1 => hi R i ++ lvs R (255 - i)
theorem hi_lev (R : List (Nat × Nat)) : ∀ i, i ≤ 256 → hi R i ++ lev R (256 - i) = lev R 256
  | 0, _ => rfl
  | i + 1, h => by
    have e : lev R (256 - i) = lvs R (255 - i) ++ lev R (256 - (i + 1)) := by
      rw [show 256 - i = (255 - i) + 1 by omega, lev, show 256 - (i + 1) = 255 - i by omega]
    rw [hi, List.append_assoc, ← e]
    exact hi_lev R i (by omega)
theorem hi_all (R : List (Nat × Nat)) : hi R 256 = lev R 256 := by
  have := hi_lev R 256 (Nat.le_refl _)
  rw [Nat.sub_self] at this
  have e : lev R 0 = [] := rfl
  rw [e, List.append_nil] at this
  exact this
theorem idE_app (A B : List En) : idE (A ++ B) = idE A ++ idE B := by unfold idE; exact List.map_append ..
theorem idE_len (A : List En) : (idE A).length = A.length := by unfold idE; simp
theorem ids_lvs (R : List (Nat × Nat)) (lv : Nat) : Bq.idsOf R lv = idE (lvs R lv) := by
  unfold Bq.idsOf Bq.QL idE lvs
  rw [List.map_map, List.map_map]
  apply List.map_congr_left
  intro a _
  simp
theorem ids_dl (L : List Ph.Item) : Ph.idsL L = idE (dl L) := by
  unfold Ph.idsL idE dl
  rw [List.map_map]
  rfl
theorem hi_len (R : List (Nat × Nat)) (L : List Ph.Item) (i : Nat) (hi' : i ≤ 256) : (dl L ++ hi R i).length ≤ (all R L).length := by
  unfold all
  rw [← hi_lev R i hi']
  simp

/-- append of a row that a call owns, whatever it has, to another one. -/
theorem wpList_append_row {P : Program} (w : World) {ops : Array Oper} {rest : List Oper} {o : Oper} {a : Act} {Q : Exit → Act → World → Prop} (hgd : o.guard = none) (s x : Operand) (t : TypeId)
    (ho : o.op = .call { callee := .builtin .append, args := #[s, x], argTypes := #[t, t] })
    (base base2 : Nat) (e : TypeId) (i : TypeInfo) (z : Value) (size bytes : Nat) (ht : P.underlying t = some (.slice e)) (hi : P.info? e = some i) (hz : i.zero = some z)
    (hsize : i.size = size) (hby : i.bytes = bytes) (hzs : z.cells.size = size) (hsz : 0 < size)
    (v : Value) (n : Nat) (xs : List Value) (hs : a.eval s = v) (hown : w.ownsRow base e size v n xs)
    (v2 : Value) (m : Nat) (ys : List Value) (hx : a.eval x = v2) (hown2 : w.ownsRow base2 e size v2 m ys) (h1 : ∀ u ∈ ys, u.oneCell' = true)
    (h63 : n + m ≤ maxLen) (hbytes : (n + m) * bytes ≤ 140737488355328) (hbase : base ≤ w.heap.size)
    (h : ∀ v' w', w'.ownsRow base e size v' (n + m) (xs ++ ys) → w.grownBy w' v.ownBlock → wpList P ops Q rest (a.put o.dst v') w') : wpList P ops Q (o :: rest) a w := by
  have hl := hown2.1
  rcases hown2.2 with ⟨rfl, rfl⟩ | ⟨g, cap, cur, rfl, _⟩
  · have hy : ys = [] := List.length_eq_zero_iff.1 (by omega)
    subst hy
    refine Dc.wpList_append_none w hgd s x t ho base e i size ht hi v n xs hs hown hx (h v w ?_ ⟨rfl, rfl, rfl, Nat.le_refl _, fun _ _ _ => rfl⟩)
    simpa using hown
  · refine wpList_append_own w hgd s x t ho base e i z size bytes ht hi hz hsize hby hzs hsz v n xs hs hown ⟨g, 0, none⟩ m cap ys hx hl (fun j u hj => ?_) h1 h63 hbytes hbase (fun v' w' q1 q2 _ => h v' w' q1 q2)
    have hjl : j < ys.length := (List.getElem?_eq_some_iff.1 hj).1
    have hadd : (⟨g, 0, none⟩ : Addr).add j = ⟨g, j, none⟩ := by unfold Addr.add; split <;> simp_all
    rw [hadd, hown2.cellAt j (by omega)]
    exact hj
theorem ints_one (xs : List Int) : ∀ u ∈ xs.map (Value.int .i64), u.oneCell' = true := by
  intro u hu
  obtain ⟨y, _, rfl⟩ := List.mem_map.1 hu
  rfl

set_option maxHeartbeats 2000000 in
set_option maxRecDepth 100000 in
theorem slist_ok {w : World} {sb qb gq hb gh n most turn : Nat} {M : List En} (h : IsS w sb qb gq hb gh n most turn M) :
    Calls Try.prog 46 #[.pointer (some ⟨sb, 0, none⟩)] w fun e w' => ∃ v, e = .returned v ∧ Dc.IL w' w.heap.size v (idE M) ∧ Below w.heap.size w w' := by
  obtain ⟨i0, hi0, hz0, hz1, hz2⟩ := info_parts Dc.infoInt
  have hn := h.n_le
  obtain ⟨R, L, hS, hI⟩ := h
  have hle : M.length ≤ 1024 := Nat.le_trans hI.fits (Nat.le_trans hI.mn hn)
  have HLen : Hid (∀ i, i ≤ 256 → (idE (dl L ++ hi R i)).length ≤ 1024) := fun i hi' => by
    rw [idE_len]
    have := hi_len R L i hi'
    rw [hI.eq] at this
    omega
  have HAll : Hid (dl L ++ hi R 256 = M) := by
    unfold Hid
    rw [hi_all, ← hI.eq]
    rfl
  have hlt := hS.lt
  have c0 := hS.c0
  have c1 := hS.c1
  have HSW : Hid (∀ W, Below w.heap.size w W → St W sb qb gq hb gh n most turn R L) := fun W hW => hS.below hW
  have HHL := veil (Ph.hlist_ok hS.h)
  clear hS hI
  go_enter Try.func46, Try.ntmps46
  go_wp2_with (go_at_call 71; refine (HHL.out).mono ?_; rintro e w1 ⟨v1, rfl, hil, hb1⟩; have HIL := veil hil; have HB1 := veil hb1; clear hil hb1)
  go_loopw [3, 4] (fun o lo wr => ∃ (m : Nat) (lv : Int), m ≤ 256 ∧ lv = (m : Int) - 1 ∧ lo = .int .i64 lv ∧ Dc.IL wr w.heap.size o (idE (dl L ++ hi R (256 - m))) ∧ Below w.heap.size w wr) (fun _ lo _ => (intOf lo + 1).toNat)
  case atStart =>
    refine ⟨256, 255, Nat.le_refl _, by omega, rfl, ?_, HB1.out⟩
    rw [Nat.sub_self]
    show Dc.IL _ _ _ (idE (dl L ++ []))
    rw [List.append_nil, ← ids_dl]
    exact HIL.out
  case round =>
    obtain ⟨m, lv, hm, hlv, rfl, hil, hbel⟩ := hrel
    obtain ⟨ao, co, rfl⟩ := hil.slice
    have HIO := veil hil
    have HBE := veil hbel
    have d0 := (HSW.out _ hbel).c0
    have hsz := hbel.size
    cases m with
    | zero =>
      have hneg : ¬ (0 : Int) ≤ lv := by simp at hlv; omega
      clear hil hbel hlv
      go_wp2
      go_ret
      refine ⟨_, rfl, ?_, HBE.out⟩
      have := HIO.out
      have key : ∀ N, N = M → Dc.IL wr w.heap.size (.slice ao (idE (dl L ++ hi R (256 - 0))).length co) (idE N) → Dc.IL wr w.heap.size (.slice ao (idE (dl L ++ hi R (256 - 0))).length co) (idE M) := fun N e q => by rw [e] at q; exact q
      exact key _ HAll.out this
    | succ k =>
      obtain rfl : lv = (k : Int) := by omega
      have hll := HLen.out (256 - (k + 1)) (by omega)
      have hl2 := HLen.out (256 - k) (by omega)
      have HEQ : Hid (idE (dl L ++ hi R (256 - k)) = idE (dl L ++ hi R (256 - (k + 1))) ++ idE (lvs R k)) := by
        unfold Hid
        rw [show 256 - k = (256 - (k + 1)) + 1 by omega, hi, ← List.append_assoc, idE_app, show 255 - (256 - (k + 1)) = k by omega]
      have HLI := veil (Bq.list_ok qb gq n k R wr (HSW.out _ hbel).q (by omega))
      rw [ids_lvs] at HLI
      have hln : (idE (dl L ++ hi R (256 - (k + 1)))).length + (idE (lvs R k)).length ≤ 1024 := by
        have := hl2
        rw [HEQ.out, List.length_append] at this
        exact this
      clear hil hbel hlv hll hl2
      generalize idE (dl L ++ hi R (256 - (k + 1))) = A at *
      generalize idE (lvs R k) = C at *
      go_wp2_with (first
        | (go_at_call 72; refine (HLI.out).mono ?_; rintro e w2 ⟨v2, rfl, ho2, hb2⟩; have HO2 := veil ho2; have HI2 := veil (Dc.IL.below HIO.out hb2); have HB2 := veil (HBE.out.trans (hb2.mono hsz)); have hsz2 := HB2.out.size; clear ho2 hb2)
        | (at_builtin; refine wpList_append_row _ rfl _ _ 38 rfl w.heap.size wr.heap.size 3 i0 (.int .i64 0) 1 8 Try.underlying38 hi0 hz0 hz1 hz2 rfl (by decide) _ _ _ rfl HI2.out _ _ _ rfl HO2.out (ints_one C) (by unfold maxLen; omega) (by omega) hsz2 ?_; intro v3 w3 ho3 hg3; have HO3 := veil ho3; have HB3 := veil (HB2.out.grown hg3 hsz2 (fun q hq => (World.ownsRow.lt HI2.out q hq).1)); clear ho3 hg3))
      go_roundw
      case rel =>
        refine ⟨k, (k : Int) - 1, by omega, rfl, by go_num, ?_, HB3.out⟩
        rw [HEQ.out]
        have := HO3.out
        unfold Dc.IL
        simpa using this
      case measure => simp [intOf]
end Go.Proofs.Ytlfejgjhamcahaa
