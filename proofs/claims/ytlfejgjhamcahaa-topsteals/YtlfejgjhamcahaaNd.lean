/-
  The document's sets of all processors: how they lie; Where, Len, List.
  The document's sets of all processors: Len, List, Put, Change, Remove.
  The document's sets of all processors: Put, Change, Remove in all their cases.
  The document's sets of all processors: Put whole, Change, Remove.
-/
import Derived.Test.YtlfejgjhamcahaaNc
import Derived.Test.YtlfejgjhamcahaaY14
namespace Go.Proofs.Ytlfejgjhamcahaa
open Go.RowKit Go.Lib
set_option linter.unusedVariables false
attribute [local go_sem ↓] Go.wp_at_zero Go.wp_at_succ

theorem tid_ne {w : World} {k : Nat} {c c' : Array Value} {t t' : TypeId} {f f' : Nat × Nat} (h : t ≠ t') (h1 : w.heap[k]? = some (.cells c t f)) (h2 : w.heap[k]? = some (.cells c' t' f')) : False := by
  rw [h1] at h2
  injection h2 with h2
  injection h2 with _ h2
  exact h h2
theorem row_tid {w : World} {base : Nat} {e : TypeId} {size : Nat} {v : Value} {n : Nat} {xs : List Value} (h : w.ownsRow base e size v n xs) : ∀ k, v.ownBlock = some k → ∃ c, w.heap[k]? = some (.cells c e (0, 0)) := by
  intro k hk
  rcases h.2 with ⟨rfl, _⟩ | ⟨g, cap, cur, rfl, _, hg, _⟩
  · simp [Value.ownBlock] at hk
  · simp [Value.ownBlock] at hk
    subst hk
    exact ⟨cur, hg⟩
/-- The document's sets at rb: of the places only where they lie (sb) and what they hold plays a part. -/
structure IsD (w : World) (base rb n np q : Nat) (v : Value) (X : List Hd) : Prop where
  n1 : 1 ≤ n ∧ n ≤ 1024
  np1 : 1 ≤ np ∧ np ≤ 64
  q1 : 1 ≤ q ∧ q ≤ 256
  blk : w.heap[rb]? = some (.cells #[.int .i64 (np : Int), .int .i64 (n : Int), .int .i64 (q : Int), v] 81 (0, 0))
  row : w.ownsRow base 82 1 v X.length (ptrs X)
  len : X.length = np + 1
  it : ∀ (i : Nat) (x : Hd), X[i]? = some x → ∃ u, Dc.IsR w base x.sb n n u x.M
  apart : ∀ (i j : Nat) (x y : Hd), X[i]? = some x → X[j]? = some y → i ≠ j → x.sb ≠ y.sb
  low : base ≤ rb ∧ ∀ (i : Nat) (x : Hd), X[i]? = some x → base ≤ x.sb
def OwnD (X : List Hd) (k : Nat) : Prop := ∃ (i : Nat) (x : Hd), X[i]? = some x ∧ k = x.sb
section
variable {w w' : World} {base rb n np q : Nat} {v : Value} {X : List Hd}
theorem IsD.c0 (h : IsD w base rb n np q v X) : w.cell? ⟨rb, 0, none⟩ = some (.int .i64 (np : Int)) := by unfold World.cell?; simp only [h.blk]; rfl
theorem IsD.c1 (h : IsD w base rb n np q v X) : w.cell? ⟨rb, 1, none⟩ = some (.int .i64 (n : Int)) := by unfold World.cell?; simp only [h.blk]; rfl
theorem IsD.c2 (h : IsD w base rb n np q v X) : w.cell? ⟨rb, 2, none⟩ = some (.int .i64 (q : Int)) := by unfold World.cell?; simp only [h.blk]; rfl
theorem IsD.c3 (h : IsD w base rb n np q v X) : w.cell? ⟨rb, 3, none⟩ = some v := by unfold World.cell?; simp only [h.blk]; rfl
theorem IsD.rbl (h : IsD w base rb n np q v X) : rb < w.heap.size := (Array.getElem?_eq_some_iff.1 h.blk).1
theorem IsD.setBlk (h : IsD w base rb n np q v X) {i : Nat} {x : Hd} (hx : X[i]? = some x) : ∃ c, w.heap[x.sb]? = some (.cells c 103 (0, 0)) := by
  obtain ⟨u, hu⟩ := h.it i x hx
  exact ⟨_, hu.blk⟩
theorem IsD.sbl (h : IsD w base rb n np q v X) {i : Nat} {x : Hd} (hx : X[i]? = some x) : x.sb < w.heap.size := by
  obtain ⟨c, hc⟩ := h.setBlk hx
  exact (Array.getElem?_eq_some_iff.1 hc).1
theorem IsD.ownl (h : IsD w base rb n np q v X) : ∀ k, OwnD X k → k < w.heap.size := by
  rintro k ⟨i, x, hx, rfl⟩
  exact h.sbl hx
theorem IsD.rows (h : IsD w base rb n np q v X) : ∃ g cap, v = .slice (some ⟨g, 0, none⟩) (np + 1) cap ∧ base ≤ g ∧ g < w.heap.size ∧ ∀ (i : Nat) (x : Hd), X[i]? = some x → w.cell? ⟨g, i, none⟩ = some (.pointer (some ⟨x.sb, 0, none⟩)) := by
  have hl := h.len
  obtain ⟨g, cap, e, h1, h2⟩ := World.ownsRow.form h.row (by omega)
  have e' := e
  rw [hl] at e'
  refine ⟨g, cap, e', h1, h2, fun i x hx => ?_⟩
  have hi : i < X.length := (List.getElem?_eq_some_iff.1 hx).1
  have hr := h.row
  rw [e] at hr
  rw [World.ownsRow.cellAt hr i (by omega)]
  unfold ptrs
  rw [List.getElem?_map, hx]
  rfl
theorem IsD.at (h : IsD w base rb n np q v X) {i : Nat} (hi : i ≤ np) : ∃ x, X[i]? = some x := by
  have := h.len
  exact ⟨X[i]'(by omega), List.getElem?_eq_getElem _⟩
/-- Blocks that are none of theirs change. -/
theorem IsD.frame {S : Nat → Prop} (h : IsD w base rb n np q v X) (hf : Fr S w w') (h1 : ∀ k, base ≤ k → k < w.heap.size → ¬ S k) : IsD w' base rb n np q v X := by
  refine ⟨h.n1, h.np1, h.q1, (hf.block _ h.rbl (h1 _ h.low.1 h.rbl)).trans h.blk, owns_at h.row hf (fun k hk => ?_), h.len, fun i x hx => ?_, h.apart, h.low⟩
  · have := Dc.own_ge h.row k hk
    exact h1 k this.1 this.2
  · obtain ⟨u, hu⟩ := h.it i x hx
    refine ⟨u, hu.frame hf.toDc (h1 _ (h.low.2 i x hx) hu.lt) (fun k hk => ?_)⟩
    have := Dc.own_ge hu.own k hk
    exact h1 k this.1 this.2
theorem IsD.below (h : IsD w base rb n np q v X) (hb : Below w.heap.size w w') : IsD w' base rb n np q v X :=
  ⟨h.n1, h.np1, h.q1, (hb.block _ h.rbl).trans h.blk, owns_at h.row (Fr.of_below' (S := fun _ => False) hb) (fun _ _ q => q), h.len, fun i x hx => by
    obtain ⟨u, hu⟩ := h.it i x hx
    exact ⟨u, hu.below hb⟩, h.apart, h.low⟩
/-- One set was changed. -/
theorem IsD.set (h : IsD w base rb n np q v X) {i : Nat} {x : Hd} (hx : X[i]? = some x) {M : List En} (hf : Fr (fun k => k = x.sb) w w') (hu : ∃ u, Dc.IsR w' base x.sb n n u M) : IsD w' base rb n np q v (X.set i (x.to 0 M)) := by
  have hil : i < X.length := (List.getElem?_eq_some_iff.1 hx).1
  obtain ⟨c, hc⟩ := h.setBlk hx
  have hsb : ∀ (j : Nat) (y : Hd), (X.set i (x.to 0 M))[j]? = some y → ∃ z, X[j]? = some z ∧ z.sb = y.sb := fun j y hy => by
    rcases set_key hil hy with ⟨rfl, rfl⟩ | ⟨_, r⟩
    · exact ⟨x, hx, rfl⟩
    · exact ⟨y, r, rfl⟩
  refine ⟨h.n1, h.np1, h.q1, ?_, ?_, by rw [List.length_set]; exact h.len, fun j y hy => ?_, fun j l y z hy hz hne => ?_, h.low.1, fun j y hy => ?_⟩
  · rw [hf.block _ h.rbl (fun e => by subst e; exact tid_ne (by decide) h.blk hc)]
    exact h.blk
  · rw [List.length_set, ptrs_to hx]
    refine owns_at h.row hf (fun k hk e => ?_)
    subst e
    obtain ⟨c', hc'⟩ := row_tid h.row _ hk
    exact tid_ne (by decide) hc hc'
  · rcases set_key hil hy with ⟨rfl, rfl⟩ | ⟨q1, r⟩
    · exact hu
    · obtain ⟨u, hu'⟩ := h.it j y r
      refine ⟨u, hu'.frame hf.toDc (h.apart j i y x r hx q1) (fun k hk e => ?_)⟩
      subst e
      obtain ⟨c', hc'⟩ := row_tid hu'.own _ hk
      exact tid_ne (by decide) hc hc'
  · obtain ⟨y', hy', e1⟩ := hsb j y hy
    obtain ⟨z', hz', e2⟩ := hsb l z hz
    rw [← e1, ← e2]
    exact h.apart j l y' z' hy' hz' hne
  · obtain ⟨y', hy', e1⟩ := hsb j y hy
    rw [← e1]
    exact h.low.2 j y' hy'
theorem ownD_set {i : Nat} {x : Hd} (hx : X[i]? = some x) (M : List En) (k : Nat) : OwnD (X.set i (x.to 0 M)) k ↔ OwnD X k := by
  have hil : i < X.length := (List.getElem?_eq_some_iff.1 hx).1
  constructor
  · rintro ⟨j, y, hy, rfl⟩
    rcases set_key hil hy with ⟨rfl, rfl⟩ | ⟨_, r⟩
    · exact ⟨j, x, hx, rfl⟩
    · exact ⟨j, y, r, rfl⟩
  · rintro ⟨j, y, hy, rfl⟩
    by_cases hj : j = i
    · subst hj
      rw [hx] at hy
      injection hy with hy
      subst hy
      exact ⟨j, x.to 0 M, List.getElem?_set_self hil, rfl⟩
    · exact ⟨j, y, by rw [List.getElem?_set_ne (fun e => hj e.symm)]; exact hy, rfl⟩
theorem keyAt_has (n : Nat) (x : Hd) (id : Int) : (keyAt n x.M id).isSome = hasAt n x id := rfl
theorem whereF_first (n : Nat) (id : Int) : ∀ (X : List Hd) (k : Int) (j : Nat) (y : Hd), (∀ (i : Nat) (x : Hd), i < j → X[i]? = some x → hasAt n x id = false) → X[j]? = some y → hasAt n y id = true → whereF n X k id = some (k + (j : Int))
  | [], _, _, _, _, h, _ => by simp at h
  | x :: X, k, 0, y, _, h, hy => by
    simp at h
    subst h
    rw [whereF_cons, if_pos hy]
    simp
  | x :: X, k, j + 1, y, hn, h, hy => by
    rw [whereF_cons, if_neg (by rw [hn 0 x (by omega) rfl]; decide), whereF_first n id X (k + 1) j y (fun i z hi hz => hn (i + 1) z (by omega) (by simpa using hz)) (by simpa using h) hy]
    congr 1
    push_cast
    omega
theorem whereF_never (n : Nat) (id : Int) : ∀ (X : List Hd) (k : Int), (∀ (i : Nat) (x : Hd), X[i]? = some x → hasAt n x id = false) → whereF n X k id = none
  | [], _, _ => rfl
  | x :: X, k, hn => by
    rw [whereF_cons, if_neg (by rw [hn 0 x rfl]; decide)]
    exact whereF_never n id X (k + 1) (fun i z hz => hn (i + 1) z (by simpa using hz))
set_option maxHeartbeats 2000000 in
set_option maxRecDepth 20000 in
theorem rwhere_ok (h : IsD w base rb n np q v X) (id : Int) :
    Calls Try.prog 38 #[.pointer (some ⟨rb, 0, none⟩), .int .i64 id] w fun e w' => e = .returned (.tuple #[.int .i64 ((whereF n X 0 id).getD 0), .bool (whereF n X 0 id).isSome]) ∧ Below w.heap.size w w' := by
  have hnp := h.np1
  have hl := h.len
  obtain ⟨g, cap, rfl, hbg, hgl, hr⟩ := h.rows
  have HH := veil h
  have hrb := h.rbl
  have HR := veil hr
  clear h hr
  go_enter Try.func38, Try.ntmps38
  go_wp2
  go_loopw [6] (fun i wr => ∃ j : Nat, j ≤ np + 1 ∧ i = .int .i64 j ∧ (∀ (i : Nat) (x : Hd), i < j → X[i]? = some x → hasAt n x id = false) ∧ Below w.heap.size w wr) (fun i _ => np + 1 - (intOf i).toNat)
  case atStart => exact ⟨0, by omega, rfl, fun i x hi => by omega, Below.refl _ _⟩
  case round =>
    obtain ⟨j, hj, rfl, hno, hbel⟩ := hrel
    have e3 := (hbel.cell (p := ⟨rb, 3, none⟩) hrb).trans HH.out.c3
    have HNO := veil hno
    have HBE := veil hbel
    by_cases hjl : j < np + 1
    · obtain ⟨x, hx⟩ := HH.out.at (i := j) (by omega)
      have e4 := (hbel.cell (p := ⟨g, j, none⟩) hgl).trans (HR.out j x hx)
      obtain ⟨u, hu⟩ := HH.out.it j x hx
      have HK := veil (rkey_all (hu.below hbel) id)
      rw [keyAt_has] at HK
      generalize kz (keyAt n x.M id) = kk at HK
      have HXX := veil hx
      have hjl' : (j : Int) < (np : Int) + 1 := by omega
      clear hno hbel hx hu
      cases hh : hasAt n x id with
      | true =>
        have HE := veil (whereF_first n id X 0 j x HNO.out HXX.out hh)
        rw [hh] at HK
        go_wp2_with (go_at_call 64; refine (HK.out).mono ?_; rintro e w1 ⟨rfl, hb1⟩; have HB1 := veil (HBE.out.trans (hb1.mono HBE.out.size)); clear hb1)
        go_ret2
        refine ⟨by rw [HE.out]; simp, HB1.out.alloc HB1.out.size _⟩
      | false =>
        rw [hh] at HK
        have HF := veil hh
        clear hh
        go_wp2_with (go_at_call 64; refine (HK.out).mono ?_; rintro e w1 ⟨rfl, hb1⟩; have HB1 := veil (HBE.out.trans (hb1.mono HBE.out.size)); clear hb1)
        go_roundw
        case rel =>
          refine ⟨j + 1, by omega, by go_num, fun i y hi hy => ?_, HB1.out.alloc HB1.out.size _⟩
          rcases Nat.lt_or_ge i j with q | q
          · exact HNO.out i y q hy
          · have : i = j := by omega
            subst this
            have hxx := HXX.out
            rw [hxx] at hy
            injection hy with hy
            rw [← hy]
            exact HF.out
        case measure => simp [intOf]; omega
    · have hjl' : ¬ (j : Int) < (np : Int) + 1 := by omega
      have HE := veil (whereF_never n id X 0 (fun i x hx => HNO.out i x (by have := (List.getElem?_eq_some_iff.1 hx).1; omega) hx))
      clear hno hbel
      go_wp2
      go_ret2
      exact ⟨by rw [HE.out]; rfl, HBE.out⟩
end
end Go.Proofs.Ytlfejgjhamcahaa

namespace Go.Proofs.Ytlfejgjhamcahaa
open Go.RowKit Go.Lib
set_option linter.unusedVariables false
attribute [local go_sem ↓] Go.wp_at_zero Go.wp_at_succ

section
variable {w w' : World} {base rb n np q : Nat} {v : Value} {X : List Hd}
theorem sumH_take {X : List Hd} {j : Nat} {x : Hd} (h : X[j]? = some x) : sumH (X.take (j + 1)) = sumH (X.take j) + x.M.length := by
  rw [List.take_add_one, h]
  simp [sumH]
theorem IsD.mlen (h : IsD w base rb n np q v X) {i : Nat} {x : Hd} (hx : X[i]? = some x) : x.M.length ≤ 1024 := by
  obtain ⟨u, hu⟩ := h.it i x hx
  exact hu.len_le
set_option maxHeartbeats 2000000 in
set_option maxRecDepth 20000 in
theorem rlenD (h : IsD w base rb n np q v X) :
    Calls Try.prog 18 #[.pointer (some ⟨rb, 0, none⟩)] w fun e w' => e = .returned (.int .i64 (sumH X : Int)) ∧ w' = w := by
  have hnp := h.np1
  have hl := h.len
  obtain ⟨g, cap, rfl, hbg, hgl, hr⟩ := h.rows
  have e3 := h.c3
  have HH := veil h
  have HR := veil hr
  have hle : ∀ j, j ≤ np + 1 → sumH (X.take j) ≤ j * 1024 := by
    intro j
    induction j with
    | zero => intro _; simp [sumH]
    | succ j ih =>
      intro hj
      obtain ⟨x, hx⟩ := h.at (i := j) (by omega)
      rw [sumH_take hx]
      have := ih (by omega)
      have := h.mlen hx
      omega
  have HLE := veil hle
  have HALL : Hid (sumH (X.take (np + 1)) = sumH X) := by unfold Hid; rw [← hl, List.take_length]
  clear h hr hle
  go_enter Try.func18, Try.ntmps18
  go_wp2
  go_loopw [3, 4] (fun s i wr => ∃ j t : Nat, j ≤ np + 1 ∧ i = .int .i64 j ∧ s = .int .i64 t ∧ Hid (t = sumH (X.take j)) ∧ wr = w) (fun _ i _ => np + 1 - (intOf i).toNat)
  case atStart => exact ⟨0, 0, by omega, rfl, rfl, (rfl : (0 : Nat) = sumH (X.take 0)), rfl⟩
  case round =>
    obtain ⟨j, t, hj, rfl, rfl, ht, rfl⟩ := hrel
    by_cases hjl : j < np + 1
    · obtain ⟨x, hx⟩ := HH.out.at (i := j) (by omega)
      have e4 := HR.out j x hx
      obtain ⟨u, hu⟩ := HH.out.it j x hx
      have HK := veil (Dc.rlen_ok hu)
      have hjl' : (j : Int) < (np : Int) + 1 := by omega
      have htl : t ≤ 66560 := by rw [ht.out]; have := HLE.out j hj; omega
      have hxl := HH.out.mlen hx
      have HN := veil (sumH_take hx)
      clear hx hu
      generalize x.M.length = m at *
      go_wp2_with (go_at_call 45; refine (HK.out).mono ?_; rintro e w1 ⟨rfl, hw⟩; replace hw := hw.symm; subst hw)
      go_roundw
      case rel => exact ⟨j + 1, t + m, by omega, by go_num, by go_num, by unfold Hid; rw [HN.out, ht.out], by first | rfl | trivial⟩
      case measure => simp [intOf]; omega
    · have hjl' : ¬ (j : Int) < (np : Int) + 1 := by omega
      have hjn : j = np + 1 := by omega
      have HE : Hid (t = sumH X) := by unfold Hid; rw [ht.out, hjn, HALL.out]
      clear ht hjn
      go_wp2
      go_ret
      exact ⟨by rw [HE.out]; rfl, rfl⟩
theorem rlistD (h : IsD w base rb n np q v X) (i : Int) :
    Calls Try.prog 40 #[.pointer (some ⟨rb, 0, none⟩), .int .i64 i] w fun e w' => ∃ v', e = .returned v' ∧ Dc.IL w' w.heap.size v' (lst X i) ∧ Below w.heap.size w w' := by
  have hnp := h.np1
  have hl := h.len
  obtain ⟨g, cap, rfl, hbg, hgl, hr⟩ := h.rows
  have c0 := h.c0
  have c3 := h.c3
  unfold lst
  rw [hl]
  by_cases hi : 0 ≤ i ∧ i < ((np + 1 : Nat) : Int)
  · rw [if_pos hi]
    obtain ⟨j, rfl⟩ := Int.eq_ofNat_of_zero_le hi.1
    obtain ⟨x, hx⟩ := h.at (i := j) (by omega)
    have c1 := hr j x hx
    obtain ⟨u, hu⟩ := h.it j x hx
    have HL := veil (Dc.rList_ok hu)
    have e : MM X ((j : Int)).toNat = x.M := MM_at hx
    rw [e]
    have b1 : ¬ (j : Int) < 0 := by omega
    have b2 : ¬ (np : Int) < (j : Int) := by omega
    have b3 : (j : Int) < (np : Int) + 1 := by omega
    have b4 : j < np + 1 := by omega
    clear h hr hx hi hl hu
    go_enter Try.func40, Try.ntmps40
    go_wp2_with (go_at_call 65; refine (HL.out).mono ?_; rintro e w1 ⟨v1, rfl, hil, hb1⟩; have HI := veil hil; have HB := veil hb1; clear hil hb1)
    go_ret
    exact ⟨_, rfl, HI.out, HB.out⟩
  · rw [if_neg hi]
    have hn : Dc.IL w w.heap.size (.slice none 0 0) [] := World.ownsRow_nil _ _ _ _
    clear h hr hl
    by_cases h0 : i < 0
    · go_enter Try.func40, Try.ntmps40
      go_wp2
      go_ret
      exact ⟨_, rfl, hn, Below.refl _ _⟩
    · have h1 : (np : Int) < i := by omega
      go_enter Try.func40, Try.ntmps40
      go_wp2
      go_ret
      exact ⟨_, rfl, hn, Below.refl _ _⟩
/-- With a key in a box of its own. -/
theorem boxD (h : IsD w base rb n np q v X) (k : Ke.K) : ∀ W, Below (w.heap.size + 1) (w.alloc (.cells #[.bool k.e, .int .u64 k.d, .int .u8 k.l] 25)) W → IsD W base rb n np q v X ∧ (W.cell? ⟨w.heap.size, 0, none⟩ = some (.bool k.e) ∧ W.cell? ⟨w.heap.size, 1, none⟩ = some (.int .u64 k.d) ∧ W.cell? ⟨w.heap.size, 2, none⟩ = some (.int .u8 k.l)) ∧ w.heap.size + 1 ≤ W.heap.size ∧ Below w.heap.size w W := fun W hW => by
  have hb : Below w.heap.size w W := ((Below.refl _ _).alloc (Nat.le_refl _) _).trans (hW.mono (by omega))
  refine ⟨h.below hb, ⟨?_, ?_, ?_⟩, by have := hW.size; simpa using this, hb⟩
  · rw [hW.cell (p := ⟨w.heap.size, 0, none⟩) (by simp), Ph.cell_new]; rfl
  · rw [hW.cell (p := ⟨w.heap.size, 1, none⟩) (by simp), Ph.cell_new]; rfl
  · rw [hW.cell (p := ⟨w.heap.size, 2, none⟩) (by simp), Ph.cell_new]; rfl
set_option maxHeartbeats 2000000 in
set_option maxRecDepth 20000 in
theorem rputD_no (h : IsD w base rb n np q v X) (p id : Int) (k : Ke.K) (hno : (p < 0 ∨ (np : Int) ≤ p) ∨ Bad n id k) :
    Calls Try.prog 54 #[.pointer (some ⟨rb, 0, none⟩), .int .i64 p, .int .i64 id, .agg #[.bool k.e, .int .u64 k.d, .int .u8 k.l]] w fun e w' => e = .returned (.int .i64 2) ∧ Below w.heap.size w w' := by
  have hA0 : Below (w.heap.size + 1) (w.alloc (.cells #[.bool k.e, .int .u64 k.d, .int .u8 k.l] 25)) (w.alloc (.cells #[.bool k.e, .int .u64 k.d, .int .u8 k.l] 25)) := Below.refl _ _
  obtain ⟨hQ0, _, hz0, hw0⟩ := boxD h k _ hA0
  have HW0 := veil hw0
  have HR := veil (fun W => Ke.rright_ok W k)
  have c0 := hQ0.c0
  have c1 := hQ0.c1
  have hrb := h.rbl
  have y0 : ¬ rb = w.heap.size := by omega
  have d0 := h.c0
  have d1 := h.c1
  have hcs : p < 0 ∨ (¬ p < 0 ∧ (np : Int) ≤ p) ∨ (¬ p < 0 ∧ ¬ (np : Int) ≤ p ∧ id < 0) ∨ (¬ p < 0 ∧ ¬ (np : Int) ≤ p ∧ ¬ id < 0 ∧ (n : Int) ≤ id) ∨ (¬ p < 0 ∧ ¬ (np : Int) ≤ p ∧ ¬ id < 0 ∧ ¬ (n : Int) ≤ id ∧ Ke.rightK k = false) := by
    unfold Bad at hno
    by_cases q1 : p < 0
    · exact .inl q1
    by_cases q2 : (np : Int) ≤ p
    · exact .inr (.inl ⟨q1, q2⟩)
    by_cases q3 : id < 0
    · exact .inr (.inr (.inl ⟨q1, q2, q3⟩))
    by_cases q4 : (n : Int) ≤ id
    · exact .inr (.inr (.inr (.inl ⟨q1, q2, q3, q4⟩)))
    · rcases hno with (q | q) | q | q | q
      · exact absurd q q1
      · exact absurd q q2
      · exact absurd q q3
      · exact absurd q q4
      · exact .inr (.inr (.inr (.inr ⟨q1, q2, q3, q4, q⟩)))
  clear h hno hQ0 hA0 hw0
  rcases hcs with h1 | ⟨h1, h2⟩ | ⟨h1, h2, h3⟩ | ⟨h1, h2, h3, h4⟩ | ⟨h1, h2, h3, h4, h5⟩
  · go_enter Try.func54, Try.ntmps54
    go_wp2
    go_ret
    exact ⟨rfl, HW0.out⟩
  · go_enter Try.func54, Try.ntmps54
    go_wp2
    go_ret
    exact ⟨rfl, HW0.out⟩
  · go_enter Try.func54, Try.ntmps54
    go_wp2
    go_ret
    exact ⟨rfl, HW0.out⟩
  · go_enter Try.func54, Try.ntmps54
    go_wp2
    go_ret
    exact ⟨rfl, HW0.out⟩
  · rw [h5] at HR
    go_enter Try.func54, Try.ntmps54
    go_wp2_with (go_at_call 79; refine (HR.out _).mono ?_; rintro e w2 ⟨rfl, hb2⟩; have HB2 := veil (HW0.out.trans (hb2.mono HW0.out.size)); clear hb2)
    go_ret
    exact ⟨rfl, HB2.out⟩
end
end Go.Proofs.Ytlfejgjhamcahaa

namespace Go.Proofs.Ytlfejgjhamcahaa
open Go.RowKit Go.Lib
set_option linter.unusedVariables false
attribute [local go_sem ↓] Go.wp_at_zero Go.wp_at_succ

/-- What a call leaves. -/
def LeavesD (w w' : World) (base rb n np q : Nat) (v : Value) (X : List Hd) (G : List (List En)) : Prop :=
  (∃ X', IsD w' base rb n np q v X' ∧ Ms X' = G ∧ ∀ k, OwnD X' k ↔ OwnD X k) ∧ Fr (OwnD X) w w'
section
variable {w w' : World} {base rb n np q g cap : Nat} {v : Value} {X : List Hd}
theorem owns_heap {W : World} {e : TypeId} {size m : Nat} {xs : List Value} (h : w.ownsRow base e size v m xs) (hh : W.heap = w.heap) : W.ownsRow base e size v m xs := by
  unfold World.ownsRow at h ⊢
  rw [hh]
  exact h
theorem IsD.heap {W : World} (h : IsD w base rb n np q v X) (hh : W.heap = w.heap) : IsD W base rb n np q v X :=
  ⟨h.n1, h.np1, h.q1, by rw [hh]; exact h.blk, owns_heap h.row hh, h.len, fun i x hx => by
    obtain ⟨u, hu⟩ := h.it i x hx
    exact ⟨u, hu.nle, hu.mle, hu.len, hu.nd, hu.rng, by rw [hh]; exact hu.blk, owns_heap hu.own hh, hu.ne, by rw [hh]; exact hu.bs⟩, h.apart, h.low⟩
theorem LeavesD.same (h : IsD w base rb n np q v X) (hb : Below w.heap.size w w') : LeavesD w w' base rb n np q v X (Ms X) :=
  ⟨⟨X, h.below hb, rfl, fun _ => Iff.rfl⟩, Fr.of_below' hb⟩
theorem LeavesD.put (h : IsD w base rb n np q v X) {i : Nat} {x : Hd} (hx : X[i]? = some x) {M : List En} {w1 : World} (hb : Below w.heap.size w w1) (hf : Fr (fun k => k = x.sb) w1 w') (hu : ∃ u, Dc.IsR w' base x.sb n n u M) {G : List (List En)} (hG : G = (Ms X).set i M) : LeavesD w w' base rb n np q v X G := by
  refine ⟨⟨_, (h.below hb).set hx hf hu, ?_, ownD_set hx M⟩, (Fr.of_below' hb).trans (hf.wide ?_)⟩
  · rw [Ms_set, hG]; rfl
  · rintro k _ rfl
    exact ⟨i, x, hx, rfl⟩
theorem IsD.roomy (h : IsD w base rb n np q v X) {i : Nat} {x : Hd} (hx : X[i]? = some x) {id : Nat} (hi : id < n) (hk : keyOf x.M id = none) : x.M.length < n := by
  obtain ⟨u, hu⟩ := h.it i x hx
  have hm := keyOf_none.1 hk
  have := Bq.nodup_le n (id :: x.M.map (·.1)) (List.nodup_cons.2 ⟨fun q => by obtain ⟨y, hy, e⟩ := List.mem_map.1 q; exact hm y hy e, hu.nd⟩) (by
    intro y hy
    rcases List.mem_cons.1 hy with rfl | hy
    · exact hi
    · obtain ⟨z, hz, rfl⟩ := List.mem_map.1 hy
      exact hu.rng z hz)
  simp at this
  omega
set_option maxHeartbeats 2000000 in
set_option maxRecDepth 20000 in
theorem rputD_known (h : IsD w base rb n np q v X) (p : Nat) (hp : p < np) (id : Nat) (hi : id < n) (k : Ke.K) (hr : Ke.rightK k = true) (hw : (whereF n X 0 (id : Int)).isSome = true) :
    Calls Try.prog 54 #[.pointer (some ⟨rb, 0, none⟩), .int .i64 (p : Int), .int .i64 (id : Int), .agg #[.bool k.e, .int .u64 k.d, .int .u8 k.l]] w fun e w' => e = .returned (.int .i64 5) ∧ Below w.heap.size w w' := by
  have hn1 := h.n1
  have HX := veil (boxD h k)
  have hA0 : Below (w.heap.size + 1) (w.alloc (.cells #[.bool k.e, .int .u64 k.d, .int .u8 k.l] 25)) (w.alloc (.cells #[.bool k.e, .int .u64 k.d, .int .u8 k.l] 25)) := Below.refl _ _
  have HA := veil hA0
  obtain ⟨hQ0, _, hz0, hw0⟩ := boxD h k _ hA0
  have HR := veil (fun W => by have := Ke.rright_ok W k; rw [hr] at this; exact this)
  have c0 := hQ0.c0
  have c1 := hQ0.c1
  have p0 : ¬ (p : Int) < 0 := by omega
  have p1 : ¬ (np : Int) ≤ (p : Int) := by omega
  have i0 : ¬ (id : Int) < 0 := by omega
  have i1 : ¬ (n : Int) ≤ (id : Int) := by omega
  have HWS := veil hw
  clear h hQ0 hA0 hw hw0
  go_enter Try.func54, Try.ntmps54
  go_wp2_with (first
    | (go_at_call 79; refine (HR.out _).mono ?_; rintro e w2 ⟨rfl, hb2⟩; have HB2 := veil (HA.out.trans (hb2.mono hz0)); obtain ⟨hQ2, _, hz2, hbw⟩ := HX.out _ HB2.out; have HQ2 := veil hQ2; have HBW := veil hbw; clear hQ2 hb2 hbw)
    | (go_at_call 38; refine (rwhere_ok HQ2.out (id : Int)).mono ?_; rintro e w3 ⟨rfl, hb3⟩; rw [HWS.out]; generalize (whereF n X 0 (id : Int)).getD 0 = ci; have HB3 := veil (HBW.out.trans (hb3.mono HBW.out.size)); clear hb3))
  go_ret
  exact ⟨rfl, HB3.out⟩
set_option maxHeartbeats 2000000 in
set_option maxRecDepth 20000 in
theorem rputD_new (h : IsD w base rb n np q (.slice (some ⟨g, 0, none⟩) (np + 1) cap) X) (p : Nat) (hp : p < np) {x : Hd} (hx : X[p]? = some x) (id : Nat) (hi : id < n) (k : Ke.K) (hr : Ke.rightK k = true) (hw : whereF n X 0 (id : Int) = none) {i : Nat} {y : Hd} (hy : X[i]? = some y) (hc : (i = p ∧ x.M.length < q) ∨ (i = np ∧ ¬ x.M.length < q)) :
    Calls Try.prog 54 #[.pointer (some ⟨rb, 0, none⟩), .int .i64 (p : Int), .int .i64 (id : Int), .agg #[.bool k.e, .int .u64 k.d, .int .u8 k.l]] w fun e w' => e = .returned (.int .i64 0) ∧ LeavesD w w' base rb n np q (.slice (some ⟨g, 0, none⟩) (np + 1) cap) X ((Ms X).set i (put (id, k) y.M)) := by
  have hn1 := h.n1
  have hnp1 := h.np1
  have hxl := h.mlen hx
  have HX := veil (boxD h k)
  have hA0 : Below (w.heap.size + 1) (w.alloc (.cells #[.bool k.e, .int .u64 k.d, .int .u8 k.l] 25)) (w.alloc (.cells #[.bool k.e, .int .u64 k.d, .int .u8 k.l] 25)) := Below.refl _ _
  have HA := veil hA0
  obtain ⟨hQ0, _, hz0, hw0⟩ := boxD h k _ hA0
  have HR := veil (fun W => by have := Ke.rright_ok W k; rw [hr] at this; exact this)
  have c0 := hQ0.c0
  have c1 := hQ0.c1
  have p0 : ¬ (p : Int) < 0 := by omega
  have p1 : ¬ (np : Int) ≤ (p : Int) := by omega
  have p2 : (p : Int) < (np : Int) + 1 := by omega
  have i0 : ¬ (id : Int) < 0 := by omega
  have i1 : ¬ (n : Int) ≤ (id : Int) := by omega
  have HV : Hid (∀ W, IsD W base rb n np q (.slice (some ⟨g, 0, none⟩) (np + 1) cap) X → W.cell? ⟨g, p, none⟩ = some (.pointer (some ⟨x.sb, 0, none⟩)) ∧ W.cell? ⟨g, i, none⟩ = some (.pointer (some ⟨y.sb, 0, none⟩)) ∧ W.cell? ⟨rb, 0, none⟩ = some (.int .i64 (np : Int)) ∧ W.cell? ⟨rb, 2, none⟩ = some (.int .i64 (q : Int)) ∧ W.cell? ⟨rb, 3, none⟩ = some (.slice (some ⟨g, 0, none⟩) (np + 1) cap)) := fun W hW => by
    obtain ⟨g', cap', e, _, _, hr'⟩ := hW.rows
    simp at e
    obtain ⟨rfl, _⟩ := e
    exact ⟨hr' p x hx, hr' i y hy, hW.c0, hW.c2, hW.c3⟩
  have HLN : Hid (∀ W, IsD W base rb n np q (.slice (some ⟨g, 0, none⟩) (np + 1) cap) X → Calls Try.prog 45 #[.pointer (some ⟨x.sb, 0, none⟩)] W fun e w' => e = .returned (.int .i64 (x.M.length : Int)) ∧ w' = W) := fun W hW => by
    obtain ⟨u, hu⟩ := hW.it p x hx
    exact Dc.rlen_ok hu
  have hpc : putC n n y.M (id : Int) k = 0 ∧ putL n n y.M (id : Int) k = put (id, k) y.M := by
    have hko := whereF_no hw hi hy
    have hrm := h.roomy hy hi hko
    have e : putC n n y.M (id : Int) k = 0 := by
      unfold putC
      rw [if_neg (by unfold Bad; rintro (q | q | q); omega; omega; rw [hr] at q; cases q), show ((id : Int)).toNat = id from rfl, hko, if_neg (by simp), if_neg (by omega)]
    exact ⟨e, by unfold putL; rw [if_pos e]; rfl⟩
  have HPUT : Hid (∀ W, IsD W base rb n np q (.slice (some ⟨g, 0, none⟩) (np + 1) cap) X → Below w.heap.size w W → Calls Try.prog 80 #[.pointer (some ⟨y.sb, 0, none⟩), .int .i64 (id : Int), .agg #[.bool k.e, .int .u64 k.d, .int .u8 k.l]] W fun e w' => e = .returned (.int .i64 0) ∧ LeavesD w w' base rb n np q (.slice (some ⟨g, 0, none⟩) (np + 1) cap) X ((Ms X).set i (put (id, k) y.M)) ∧ (w.heap.size < W.heap.size → ∀ j, w'.cell? ⟨w.heap.size, j, none⟩ = W.cell? ⟨w.heap.size, j, none⟩)) := fun W hW hbw => by
    obtain ⟨u, hu⟩ := hW.it i y hy
    refine (rput_all hu (id : Int) k).mono ?_
    rintro e w' ⟨rfl, hu', hf⟩
    rw [hpc.2] at hu'
    refine ⟨by rw [hpc.1], LeavesD.put h hy hbw hf hu' rfl, fun hlt j => hf.cell (a := ⟨w.heap.size, j, none⟩) hlt (fun e => ?_)⟩
    have := h.sbl hy
    have e : w.heap.size = y.sb := e
    omega
  have HEN : Hid (∀ W w5 : World, (∀ j, W.cell? ⟨w.heap.size, j, none⟩ = (#[.bool k.e, .int .u64 k.d, .int .u8 k.l] : Array Value)[j]?) → LeavesD w w5 base rb n np q (.slice (some ⟨g, 0, none⟩) (np + 1) cap) X ((Ms X).set i (put (id, k) y.M)) → (w.heap.size < W.heap.size → ∀ j, w5.cell? ⟨w.heap.size, j, none⟩ = W.cell? ⟨w.heap.size, j, none⟩) → w.heap.size < W.heap.size → w5.cell? ⟨rb, 3, none⟩ = some (.slice (some ⟨g, 0, none⟩) (np + 1) cap) ∧ w5.cell? ⟨g, i, none⟩ = some (.pointer (some ⟨y.sb, 0, none⟩)) ∧ w5.cell? ⟨w.heap.size, 0, none⟩ = some (.bool k.e) ∧ w5.cell? ⟨w.heap.size, 1, none⟩ = some (.int .u64 k.d) ∧ w5.cell? ⟨w.heap.size, 2, none⟩ = some (.int .u8 k.l)) := fun W w5 hk hL hc hlt => by
    obtain ⟨⟨X', hX', _, _⟩, hf⟩ := hL
    obtain ⟨g1, cap1, e1, _, hgl, hr1⟩ := h.rows
    simp at e1
    obtain ⟨rfl, _⟩ := e1
    refine ⟨hX'.c3, ?_, (hc hlt 0).trans (hk 0), (hc hlt 1).trans (hk 1), (hc hlt 2).trans (hk 2)⟩
    rw [hf.cell (a := ⟨g, i, none⟩) hgl ?_]
    · exact hr1 i y hy
    · rintro ⟨j, z, hz, e⟩
      have e : g = z.sb := e
      obtain ⟨c1, hc1⟩ := row_tid h.row g rfl
      obtain ⟨c2, hc2⟩ := h.setBlk hz
      rw [← e] at hc2
      exact tid_ne (by decide) hc1 hc2
  have HWS := veil hw
  have iN : (i : Int) < (np : Int) + 1 := by have := (List.getElem?_eq_some_iff.1 hy).1; have := h.len; omega
  have i2 : i < np + 1 := by omega
  have HBX : Hid (∀ W, Below (w.heap.size + 1) (w.alloc (.cells #[.bool k.e, .int .u64 k.d, .int .u8 k.l] 25)) W → W.cell? ⟨w.heap.size, 0, none⟩ = some (.bool k.e) ∧ W.cell? ⟨w.heap.size, 1, none⟩ = some (.int .u64 k.d) ∧ W.cell? ⟨w.heap.size, 2, none⟩ = some (.int .u8 k.l)) := fun W hW => (HX.out W hW).2.1
  clear h hQ0 hA0 hw hw0 hx hy hpc
  generalize x.M.length = m at *
  go_enter Try.func54, Try.ntmps54
  go_wp2_with (first
    | (go_at_call 79; refine (HR.out _).mono ?_; rintro e w2 ⟨rfl, hb2⟩; have HB2 := veil (HA.out.trans (hb2.mono hz0)); obtain ⟨hQ2, _, hz2, hbw⟩ := HX.out _ HB2.out; have HQ2 := veil hQ2; have HBW := veil hbw; clear hQ2 hb2 hbw)
    | (go_at_call 38; refine (rwhere_ok HQ2.out (id : Int)).mono ?_; rintro e w3 ⟨rfl, hb3⟩; rw [HWS.out]; simp only [Option.getD_none, Option.isSome_none]; have HB3 := veil (HB2.out.trans (hb3.mono hz2)); obtain ⟨hQ3, ⟨k0, k1, k2⟩, hz3, hbw3⟩ := HX.out _ HB3.out; obtain ⟨v1, v2, v3, v4, v5⟩ := HV.out _ hQ3; have HQ3 := veil hQ3; have HBW3 := veil hbw3; clear hb3 hQ3 hbw3))
  have HKK : Hid (∀ j, w3.cell? ⟨w.heap.size, j, none⟩ = (#[.bool k.e, .int .u64 k.d, .int .u8 k.l] : Array Value)[j]?) := fun j => by
    rw [HB3.out.cell (p := ⟨w.heap.size, j, none⟩) (by simp), Ph.cell_new]
  have HLT : Hid (w.heap.size < w3.heap.size) := by unfold Hid; omega
  have HQL : Hid (∀ W, W.heap = w3.heap → Calls Try.prog 45 #[.pointer (some ⟨x.sb, 0, none⟩)] W fun e w' => e = .returned (.int .i64 (m : Int)) ∧ w' = W) := fun W hW => HLN.out W (HQ3.out.heap hW)
  go_quiet (first | (go_at_call 45; refine Calls.quiet_of_same (HQL.out _ ?_); rfl))
  rcases hc with ⟨rfl, hlt⟩ | ⟨rfl, hge⟩
  · have hq1 : ¬ (q : Int) ≤ (m : Int) := by omega
    go_wp2
    go_region_held3 (fun w' => w'.cell? ⟨rb, 3, none⟩ = some (.slice (some ⟨g, 0, none⟩) (np + 1) cap) ∧ w'.cell? ⟨g, i, none⟩ = some (.pointer (some ⟨y.sb, 0, none⟩)) ∧ w'.cell? ⟨w.heap.size, 0, none⟩ = some (.bool k.e) ∧ w'.cell? ⟨w.heap.size, 1, none⟩ = some (.int .u64 k.d) ∧ w'.cell? ⟨w.heap.size, 2, none⟩ = some (.int .u8 k.l))
      (first
        | exact S5.out
        | exact ⟨v5, v2, k0, k1, k2⟩
        | go_keep)
      (first
        | (go_at_call 80; refine (HPUT.out _ (by exact HQ3.out.heap rfl) (by exact below_post HBW3.out rfl rfl rfl rfl)).mono ?_; rintro e w5 ⟨rfl, hL, hk⟩; have HL := veil hL; have S5 := veil (HEN.out _ w5 (HKK.out) HL.out hk HLT.out); clear hL hk))
    go_wp2
    go_ret
    exact ⟨rfl, HL.out⟩
  · have hq1 : (q : Int) ≤ (m : Int) := by omega
    go_wp2
    go_region_held3 (fun w' => w'.cell? ⟨rb, 3, none⟩ = some (.slice (some ⟨g, 0, none⟩) (i + 1) cap) ∧ w'.cell? ⟨g, i, none⟩ = some (.pointer (some ⟨y.sb, 0, none⟩)) ∧ w'.cell? ⟨w.heap.size, 0, none⟩ = some (.bool k.e) ∧ w'.cell? ⟨w.heap.size, 1, none⟩ = some (.int .u64 k.d) ∧ w'.cell? ⟨w.heap.size, 2, none⟩ = some (.int .u8 k.l))
      (first
        | exact S5.out
        | exact ⟨v5, v2, k0, k1, k2⟩
        | go_keep)
      (first
        | (go_at_call 80; refine (HPUT.out _ (by exact HQ3.out.heap rfl) (by exact below_post HBW3.out rfl rfl rfl rfl)).mono ?_; rintro e w5 ⟨rfl, hL, hk⟩; have HL := veil hL; have S5 := veil (HEN.out _ w5 (HKK.out) HL.out hk HLT.out); clear hL hk))
    go_wp2
    go_ret
    exact ⟨rfl, HL.out⟩
end
end Go.Proofs.Ytlfejgjhamcahaa

namespace Go.Proofs.Ytlfejgjhamcahaa
open Go.RowKit Go.Lib
set_option linter.unusedVariables false
attribute [local go_sem ↓] Go.wp_at_zero Go.wp_at_succ

section
variable {w w' : World} {base rb n np q g cap : Nat} {v : Value} {X : List Hd}
theorem rputD_all (h : IsD w base rb n np q v X) (p id : Int) (k : Ke.K) :
    Calls Try.prog 54 #[.pointer (some ⟨rb, 0, none⟩), .int .i64 p, .int .i64 id, .agg #[.bool k.e, .int .u64 k.d, .int .u8 k.l]] w fun e w' => e = .returned (.int .i64 (pputC np n X p id k)) ∧ LeavesD w w' base rb n np q v X (pputG np n q X p id k) := by
  unfold pputG pputC
  by_cases hno : (p < 0 ∨ (np : Int) ≤ p) ∨ Bad n id k
  · rw [if_pos hno, if_neg (by decide)]
    refine (rputD_no h p id k hno).mono ?_
    rintro e w' ⟨rfl, hb⟩
    exact ⟨rfl, LeavesD.same h hb⟩
  · rw [if_neg hno]
    have hnb : ¬ Bad n id k := fun q => hno (.inr q)
    rcases bad_cases n [] id k with hb | ⟨i, rfl, hi, hr, _⟩
    · exact absurd hb hnb
    obtain ⟨p, rfl⟩ := Int.eq_ofNat_of_zero_le (show 0 ≤ p by omega)
    have hp : p < np := by omega
    cases hw : whereF n X 0 (i : Int) with
    | some c =>
      rw [if_pos (show (some c).isSome = true from rfl), if_neg (by decide)]
      refine (rputD_known h p hp i hi k hr (by rw [hw]; rfl)).mono ?_
      rintro e w' ⟨rfl, hb⟩
      exact ⟨rfl, LeavesD.same h hb⟩
    | none =>
      rw [if_neg (by simp), if_pos rfl]
      obtain ⟨g, cap, rfl, _⟩ := h.rows
      obtain ⟨x, hx⟩ := h.at (i := p) (by omega)
      obtain ⟨y, hy⟩ := h.at (i := np) (by omega)
      have hrm := h.roomy hx hi (whereF_no hw hi hx)
      have e1 : (p : Int).toNat = p := rfl
      rw [e1]
      unfold aPut
      rw [MM_at hx]
      by_cases hl : x.M.length < min q n
      · rw [if_pos hl, MM_at hx]
        exact rputD_new h p hp hx i hi k hr hw hx (.inl ⟨rfl, by omega⟩)
      · rw [if_neg hl, MM_at hy]
        exact rputD_new h p hp hx i hi k hr hw hy (.inr ⟨rfl, by omega⟩)
theorem where_atD (h : IsD w base rb n np q v X) {id c : Int} (hw : whereF n X 0 id = some c) : ∃ (i : Nat) (x : Hd), X[i]? = some x ∧ c = (i : Int) ∧ i < np + 1 ∧ aOf n X id = i ∧ MM X i = x.M ∧ 0 ≤ id ∧ id < (n : Int) ∧ (keyOf x.M id.toNat).isSome = true := by
  obtain ⟨i, x, hx, hc, h1, h2, h3⟩ := whereF_inv n id X 0 c hw
  refine ⟨i, x, hx, by omega, by have := (List.getElem?_eq_some_iff.1 hx).1; have := h.len; omega, ?_, MM_at hx, h1, h2, h3⟩
  unfold aOf
  rw [hw]
  simp only [Option.getD_some]
  omega
set_option maxHeartbeats 2000000 in
set_option maxRecDepth 20000 in
theorem rchangeD_no (h : IsD w base rb n np q v X) (id : Int) (k : Ke.K) (hno : Bad n id k) :
    Calls Try.prog 55 #[.pointer (some ⟨rb, 0, none⟩), .int .i64 id, .agg #[.bool k.e, .int .u64 k.d, .int .u8 k.l]] w fun e w' => e = .returned (.int .i64 2) ∧ Below w.heap.size w w' := by
  have hA0 : Below (w.heap.size + 1) (w.alloc (.cells #[.bool k.e, .int .u64 k.d, .int .u8 k.l] 25)) (w.alloc (.cells #[.bool k.e, .int .u64 k.d, .int .u8 k.l] 25)) := Below.refl _ _
  obtain ⟨hQ0, _, hz0, hw0⟩ := boxD h k _ hA0
  have HW0 := veil hw0
  have HR := veil (fun W => Ke.rright_ok W k)
  have c1 := hQ0.c1
  have hcs : id < 0 ∨ (¬ id < 0 ∧ (n : Int) ≤ id) ∨ (¬ id < 0 ∧ ¬ (n : Int) ≤ id ∧ Ke.rightK k = false) := by
    unfold Bad at hno
    by_cases q3 : id < 0
    · exact .inl q3
    by_cases q4 : (n : Int) ≤ id
    · exact .inr (.inl ⟨q3, q4⟩)
    · rcases hno with q | q | q
      · exact absurd q q3
      · exact absurd q q4
      · exact .inr (.inr ⟨q3, q4, q⟩)
  clear h hno hQ0 hA0 hw0
  rcases hcs with h1 | ⟨h1, h2⟩ | ⟨h1, h2, h5⟩
  · go_enter Try.func55, Try.ntmps55
    go_wp2
    go_ret
    exact ⟨rfl, HW0.out⟩
  · go_enter Try.func55, Try.ntmps55
    go_wp2
    go_ret
    exact ⟨rfl, HW0.out⟩
  · rw [h5] at HR
    go_enter Try.func55, Try.ntmps55
    go_wp2_with (go_at_call 79; refine (HR.out _).mono ?_; rintro e w2 ⟨rfl, hb2⟩; have HB2 := veil (HW0.out.trans (hb2.mono HW0.out.size)); clear hb2)
    go_ret
    exact ⟨rfl, HB2.out⟩
set_option maxHeartbeats 2000000 in
set_option maxRecDepth 20000 in
theorem rchangeD_none (h : IsD w base rb n np q v X) (id : Nat) (hi : id < n) (k : Ke.K) (hr : Ke.rightK k = true) (hw : whereF n X 0 (id : Int) = none) :
    Calls Try.prog 55 #[.pointer (some ⟨rb, 0, none⟩), .int .i64 (id : Int), .agg #[.bool k.e, .int .u64 k.d, .int .u8 k.l]] w fun e w' => e = .returned (.int .i64 6) ∧ Below w.heap.size w w' := by
  have HX := veil (boxD h k)
  have hA0 : Below (w.heap.size + 1) (w.alloc (.cells #[.bool k.e, .int .u64 k.d, .int .u8 k.l] 25)) (w.alloc (.cells #[.bool k.e, .int .u64 k.d, .int .u8 k.l] 25)) := Below.refl _ _
  have HA := veil hA0
  obtain ⟨hQ0, _, hz0, hw0⟩ := boxD h k _ hA0
  have HR := veil (fun W => by have := Ke.rright_ok W k; rw [hr] at this; exact this)
  have c1 := hQ0.c1
  have i0 : ¬ (id : Int) < 0 := by omega
  have i1 : ¬ (n : Int) ≤ (id : Int) := by omega
  have HWS := veil hw
  clear h hQ0 hA0 hw hw0
  go_enter Try.func55, Try.ntmps55
  go_wp2_with (first
    | (go_at_call 79; refine (HR.out _).mono ?_; rintro e w2 ⟨rfl, hb2⟩; have HB2 := veil (HA.out.trans (hb2.mono hz0)); obtain ⟨hQ2, _, hz2, hbw⟩ := HX.out _ HB2.out; have HQ2 := veil hQ2; have HBW := veil hbw; clear hQ2 hb2 hbw)
    | (go_at_call 38; refine (rwhere_ok HQ2.out (id : Int)).mono ?_; rintro e w3 ⟨rfl, hb3⟩; rw [HWS.out]; simp only [Option.getD_none, Option.isSome_none]; have HB3 := veil (HBW.out.trans (hb3.mono HBW.out.size)); clear hb3))
  go_ret
  exact ⟨rfl, HB3.out⟩
set_option maxHeartbeats 2000000 in
set_option maxRecDepth 20000 in
theorem rchangeD_at (h : IsD w base rb n np q (.slice (some ⟨g, 0, none⟩) (np + 1) cap) X) (id : Nat) (hi : id < n) (k : Ke.K) (hr : Ke.rightK k = true) {i : Nat} {y : Hd} (hy : X[i]? = some y) (hw : whereF n X 0 (id : Int) = some (i : Int)) :
    Calls Try.prog 55 #[.pointer (some ⟨rb, 0, none⟩), .int .i64 (id : Int), .agg #[.bool k.e, .int .u64 k.d, .int .u8 k.l]] w fun e w' => e = .returned (.int .i64 (chgC n y.M (id : Int) k)) ∧ LeavesD w w' base rb n np q (.slice (some ⟨g, 0, none⟩) (np + 1) cap) X ((Ms X).set i (chgL n y.M (id : Int) k)) := by
  have HX := veil (boxD h k)
  have hA0 : Below (w.heap.size + 1) (w.alloc (.cells #[.bool k.e, .int .u64 k.d, .int .u8 k.l] 25)) (w.alloc (.cells #[.bool k.e, .int .u64 k.d, .int .u8 k.l] 25)) := Below.refl _ _
  have HA := veil hA0
  obtain ⟨hQ0, _, hz0, hw0⟩ := boxD h k _ hA0
  have HR := veil (fun W => by have := Ke.rright_ok W k; rw [hr] at this; exact this)
  have c1 := hQ0.c1
  have hnp1 := h.np1
  have i0 : ¬ (id : Int) < 0 := by omega
  have i1 : ¬ (n : Int) ≤ (id : Int) := by omega
  have hil : i < np + 1 := by have := (List.getElem?_eq_some_iff.1 hy).1; have := h.len; omega
  have j0 : ¬ (i : Int) < 0 := by omega
  have j1 : (i : Int) < (np : Int) + 1 := by omega
  have HV : Hid (∀ W, IsD W base rb n np q (.slice (some ⟨g, 0, none⟩) (np + 1) cap) X → W.cell? ⟨g, i, none⟩ = some (.pointer (some ⟨y.sb, 0, none⟩)) ∧ W.cell? ⟨rb, 3, none⟩ = some (.slice (some ⟨g, 0, none⟩) (np + 1) cap)) := fun W hW => by
    obtain ⟨g', cap', e, _, _, hr'⟩ := hW.rows
    simp at e
    obtain ⟨rfl, _⟩ := e
    exact ⟨hr' i y hy, hW.c3⟩
  have HCHG : Hid (∀ W, IsD W base rb n np q (.slice (some ⟨g, 0, none⟩) (np + 1) cap) X → Below w.heap.size w W → (w.heap.size < W.heap.size) → (∀ j, W.cell? ⟨w.heap.size, j, none⟩ = (#[.bool k.e, .int .u64 k.d, .int .u8 k.l] : Array Value)[j]?) → Calls Try.prog 81 #[.pointer (some ⟨y.sb, 0, none⟩), .int .i64 (id : Int), .agg #[.bool k.e, .int .u64 k.d, .int .u8 k.l]] W fun e w5 => e = .returned (.int .i64 (chgC n y.M (id : Int) k)) ∧ LeavesD w w5 base rb n np q (.slice (some ⟨g, 0, none⟩) (np + 1) cap) X ((Ms X).set i (chgL n y.M (id : Int) k)) ∧ w5.cell? ⟨rb, 3, none⟩ = some (.slice (some ⟨g, 0, none⟩) (np + 1) cap) ∧ w5.cell? ⟨g, i, none⟩ = some (.pointer (some ⟨y.sb, 0, none⟩)) ∧ w5.cell? ⟨w.heap.size, 0, none⟩ = some (.bool k.e) ∧ w5.cell? ⟨w.heap.size, 1, none⟩ = some (.int .u64 k.d) ∧ w5.cell? ⟨w.heap.size, 2, none⟩ = some (.int .u8 k.l)) := fun W hW hbw hlt hkk => by
    obtain ⟨u, hu⟩ := hW.it i y hy
    refine (rchange_all hu (id : Int) k).mono ?_
    rintro e w5 ⟨rfl, hu', hf⟩
    have hL := LeavesD.put h hy hbw hf hu' rfl
    have hc : ∀ j, w5.cell? ⟨w.heap.size, j, none⟩ = W.cell? ⟨w.heap.size, j, none⟩ := fun j => hf.cell (a := ⟨w.heap.size, j, none⟩) hlt (fun e => by
      have := h.sbl hy
      have e : w.heap.size = y.sb := e
      omega)
    refine ⟨rfl, hL, ?_⟩
    obtain ⟨⟨X', hX', _, _⟩, hf'⟩ := hL
    obtain ⟨g1, cap1, e1, _, hgl, hr1⟩ := h.rows
    simp at e1
    obtain ⟨rfl, _⟩ := e1
    refine ⟨hX'.c3, ?_, (hc 0).trans (hkk 0), (hc 1).trans (hkk 1), (hc 2).trans (hkk 2)⟩
    rw [hf'.cell (a := ⟨g, i, none⟩) hgl ?_]
    · exact hr1 i y hy
    · rintro ⟨j, z, hz, e⟩
      have e : g = z.sb := e
      obtain ⟨c1, hc1⟩ := row_tid h.row g rfl
      obtain ⟨c2, hc2⟩ := h.setBlk hz
      rw [← e] at hc2
      exact tid_ne (by decide) hc1 hc2
  have HWS := veil hw
  clear h hQ0 hA0 hw hw0 hy
  generalize chgC n y.M (id : Int) k = cc at *
  go_enter Try.func55, Try.ntmps55
  go_wp2_with (first
    | (go_at_call 79; refine (HR.out _).mono ?_; rintro e w2 ⟨rfl, hb2⟩; have HB2 := veil (HA.out.trans (hb2.mono hz0)); obtain ⟨hQ2, _, hz2, hbw⟩ := HX.out _ HB2.out; have HQ2 := veil hQ2; have HBW := veil hbw; clear hQ2 hb2 hbw)
    | (go_at_call 38; refine (rwhere_ok HQ2.out (id : Int)).mono ?_; rintro e w3 ⟨rfl, hb3⟩; rw [HWS.out]; simp only [Option.getD_some, Option.isSome_some]; have HB3 := veil (HB2.out.trans (hb3.mono hz2)); obtain ⟨hQ3, ⟨k0, k1, k2⟩, hz3, hbw3⟩ := HX.out _ HB3.out; obtain ⟨v1, v2⟩ := HV.out _ hQ3; have HQ3 := veil hQ3; have HBW3 := veil hbw3; clear hb3 hQ3 hbw3))
  have HKK : Hid (∀ j, w3.cell? ⟨w.heap.size, j, none⟩ = (#[.bool k.e, .int .u64 k.d, .int .u8 k.l] : Array Value)[j]?) := fun j => by
    rw [HB3.out.cell (p := ⟨w.heap.size, j, none⟩) (by simp), Ph.cell_new]
  have HLT : Hid (w.heap.size < w3.heap.size) := by unfold Hid; omega
  go_region_held3 (fun w' => w'.cell? ⟨rb, 3, none⟩ = some (.slice (some ⟨g, 0, none⟩) (np + 1) cap) ∧ w'.cell? ⟨g, i, none⟩ = some (.pointer (some ⟨y.sb, 0, none⟩)) ∧ w'.cell? ⟨w.heap.size, 0, none⟩ = some (.bool k.e) ∧ w'.cell? ⟨w.heap.size, 1, none⟩ = some (.int .u64 k.d) ∧ w'.cell? ⟨w.heap.size, 2, none⟩ = some (.int .u8 k.l))
    (first
      | exact S5.out
      | exact ⟨v2, v1, k0, k1, k2⟩
      | go_keep)
    (first
      | (go_at_call 81; refine (HCHG.out _ (by exact HQ3.out.heap rfl) (by exact below_post HBW3.out rfl rfl rfl rfl) (by exact HLT.out) (by exact HKK.out)).mono ?_; rintro e w5 ⟨rfl, hL, hs⟩; have HL := veil hL; have S5 := veil hs; clear hL hs))
  go_wp2
  go_ret
  exact ⟨rfl, HL.out⟩
theorem rchangeD_all (h : IsD w base rb n np q v X) (id : Int) (k : Ke.K) :
    Calls Try.prog 55 #[.pointer (some ⟨rb, 0, none⟩), .int .i64 id, .agg #[.bool k.e, .int .u64 k.d, .int .u8 k.l]] w fun e w' => e = .returned (.int .i64 (pchgC n X id k)) ∧ LeavesD w w' base rb n np q v X (pchgG n X id k) := by
  rcases bad_cases n [] id k with hb | ⟨i, rfl, hi, hr, hnb⟩
  · have hc : pchgC n X id k = 2 := by unfold pchgC; rw [if_pos hb]
    have hg : pchgG n X id k = Ms X := by unfold pchgG; rw [hc]; rfl
    rw [hc, hg]
    refine (rchangeD_no h id k hb).mono ?_
    rintro e w' ⟨rfl, hb⟩
    exact ⟨rfl, LeavesD.same h hb⟩
  · cases hw : whereF n X 0 (i : Int) with
    | none =>
      have hc : pchgC n X (i : Int) k = 6 := by unfold pchgC; rw [if_neg hnb, hw]; rfl
      have hg : pchgG n X (i : Int) k = Ms X := by unfold pchgG; rw [hc]; rfl
      rw [hc, hg]
      refine (rchangeD_none h i hi k hr hw).mono ?_
      rintro e w' ⟨rfl, hb⟩
      exact ⟨rfl, LeavesD.same h hb⟩
    | some c =>
      obtain ⟨j, y, hy, rfl, _, ha, hm, h1, h2, h3⟩ := where_atD h hw
      obtain ⟨g, cap, rfl, _⟩ := h.rows
      have hc : pchgC n X (i : Int) k = chgC n y.M (i : Int) k := by unfold pchgC chgC; rw [hw, if_pos (show (some (j : Int)).isSome = true from rfl), if_pos h3]
      have hc0 : chgC n y.M (i : Int) k = 0 := by unfold chgC; rw [if_neg hnb, if_pos h3]
      have e : pchgG n X (i : Int) k = (Ms X).set j (chgL n y.M (i : Int) k) := by
        unfold pchgG
        rw [ha, hm, hc, if_pos hc0]
      rw [hc, e]
      exact rchangeD_at h i hi k hr hy hw
set_option maxHeartbeats 2000000 in
set_option maxRecDepth 20000 in
theorem rremoveD_no (h : IsD w base rb n np q v X) (id : Int) (hw : whereF n X 0 id = none) :
    Calls Try.prog 48 #[.pointer (some ⟨rb, 0, none⟩), .int .i64 id] w fun e w' => e = .returned (.int .i64 (premC n X id)) ∧ Below w.heap.size w w' := by
  have c1 := h.c1
  have HWH := veil (rwhere_ok h id)
  rw [hw] at HWH
  have hc : premC n X id = if id < 0 ∨ (n : Int) ≤ id then 2 else 6 := by unfold premC; rw [hw]; rfl
  rw [hc]
  clear h hw hc
  by_cases h1 : id < 0
  · rw [if_pos (.inl h1)]
    go_enter Try.func48, Try.ntmps48
    go_wp2
    go_ret
    exact ⟨rfl, Below.refl _ _⟩
  by_cases h2 : (n : Int) ≤ id
  · rw [if_pos (.inr h2)]
    go_enter Try.func48, Try.ntmps48
    go_wp2
    go_ret
    exact ⟨rfl, Below.refl _ _⟩
  rw [if_neg (by omega)]
  go_enter Try.func48, Try.ntmps48
  go_wp2_with (go_at_call 38; refine (HWH.out).mono ?_; rintro e w3 ⟨rfl, hb3⟩; simp only [Option.getD_none, Option.isSome_none]; have HB3 := veil hb3; clear hb3)
  go_ret
  exact ⟨rfl, HB3.out⟩
set_option maxHeartbeats 2000000 in
set_option maxRecDepth 20000 in
theorem rremoveD_at (h : IsD w base rb n np q (.slice (some ⟨g, 0, none⟩) (np + 1) cap) X) (id : Nat) (hi : id < n) {i : Nat} {y : Hd} (hy : X[i]? = some y) (hw : whereF n X 0 (id : Int) = some (i : Int)) :
    Calls Try.prog 48 #[.pointer (some ⟨rb, 0, none⟩), .int .i64 (id : Int)] w fun e w' => e = .returned (.int .i64 (remC n y.M (id : Int))) ∧ LeavesD w w' base rb n np q (.slice (some ⟨g, 0, none⟩) (np + 1) cap) X ((Ms X).set i (remL n y.M (id : Int))) := by
  have c1 := h.c1
  have hnp1 := h.np1
  have i0 : ¬ (id : Int) < 0 := by omega
  have i1 : ¬ (n : Int) ≤ (id : Int) := by omega
  have hil : i < np + 1 := by have := (List.getElem?_eq_some_iff.1 hy).1; have := h.len; omega
  have j0 : ¬ (i : Int) < 0 := by omega
  have j1 : (i : Int) < (np : Int) + 1 := by omega
  have HV : Hid (∀ W, IsD W base rb n np q (.slice (some ⟨g, 0, none⟩) (np + 1) cap) X → W.cell? ⟨g, i, none⟩ = some (.pointer (some ⟨y.sb, 0, none⟩)) ∧ W.cell? ⟨rb, 3, none⟩ = some (.slice (some ⟨g, 0, none⟩) (np + 1) cap)) := fun W hW => by
    obtain ⟨g', cap', e, _, _, hr'⟩ := hW.rows
    simp at e
    obtain ⟨rfl, _⟩ := e
    exact ⟨hr' i y hy, hW.c3⟩
  have HWH := veil (rwhere_ok h (id : Int))
  rw [hw] at HWH
  have HREM : Hid (∀ W, Below w.heap.size w W → Calls Try.prog 73 #[.pointer (some ⟨y.sb, 0, none⟩), .int .i64 (id : Int)] W fun e w5 => e = .returned (.int .i64 (remC n y.M (id : Int))) ∧ LeavesD w w5 base rb n np q (.slice (some ⟨g, 0, none⟩) (np + 1) cap) X ((Ms X).set i (remL n y.M (id : Int)))) := fun W hbw => by
    obtain ⟨u, hu⟩ := (h.below hbw).it i y hy
    refine (rremove_all hu (id : Int)).mono ?_
    rintro e w5 ⟨rfl, hu', hf⟩
    exact ⟨rfl, LeavesD.put h hy hbw hf hu' rfl⟩
  have HH := veil h
  clear h hw hy
  generalize remC n y.M (id : Int) = cc at *
  go_enter Try.func48, Try.ntmps48
  go_wp2_with (first
    | (go_at_call 38; refine (HWH.out).mono ?_; rintro e w3 ⟨rfl, hb3⟩; simp only [Option.getD_some, Option.isSome_some]; obtain ⟨v1, v2⟩ := HV.out _ (HH.out.below hb3); have HB3 := veil hb3; clear hb3)
    | (go_at_call 73; refine (HREM.out _ (by exact HB3.out)).mono ?_; rintro e w5 ⟨rfl, hL⟩; have HL := veil hL; clear hL))
  go_ret
  exact ⟨rfl, HL.out⟩
theorem rremoveD_all (h : IsD w base rb n np q v X) (id : Int) :
    Calls Try.prog 48 #[.pointer (some ⟨rb, 0, none⟩), .int .i64 id] w fun e w' => e = .returned (.int .i64 (premC n X id)) ∧ LeavesD w w' base rb n np q v X (premG n X id) := by
  cases hw : whereF n X 0 id with
  | none =>
    have hne : ¬ premC n X id = 0 := by
      unfold premC
      rw [hw]
      split
      · decide
      · simp
    have e : premG n X id = Ms X := by unfold premG; rw [if_neg hne]
    rw [e]
    refine (rremoveD_no h id hw).mono ?_
    rintro e w' ⟨rfl, hb⟩
    exact ⟨rfl, LeavesD.same h hb⟩
  | some c =>
    obtain ⟨j, y, hy, rfl, _, ha, hm, h1, h2, h3⟩ := where_atD h hw
    obtain ⟨i, rfl⟩ := Int.eq_ofNat_of_zero_le h1
    obtain ⟨g, cap, rfl, _⟩ := h.rows
    have hc : premC n X (i : Int) = remC n y.M (i : Int) := by unfold premC remC; rw [hw, if_pos (show (some (j : Int)).isSome = true from rfl), if_pos h3]
    have hc0 : remC n y.M (i : Int) = 0 := by unfold remC; rw [if_neg (by omega), if_pos h3]
    have e : premG n X (i : Int) = (Ms X).set j (remL n y.M (i : Int)) := by
      unfold premG remL
      rw [ha, hm, hc, if_pos hc0, if_pos hc0]
    rw [hc, e]
    exact rremoveD_at h i (by omega) hy hw
end
end Go.Proofs.Ytlfejgjhamcahaa
