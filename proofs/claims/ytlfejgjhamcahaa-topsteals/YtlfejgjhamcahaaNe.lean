/-
  The document's sets of all processors: Best, Take.
  The document's sets of all processors: Take.
  The document's sets of all processors as they are made: one more of them; New.
-/
import Derived.Test.YtlfejgjhamcahaaNd
namespace Go.Proofs.Ytlfejgjhamcahaa
open Go.RowKit Go.Lib
set_option linter.unusedVariables false
attribute [local go_sem ↓] Go.wp_at_zero Go.wp_at_succ

def ints (l : List Nat) : List Int := l.map (fun i : Nat => (i : Int))
theorem ints_len (l : List Nat) : (ints l).length = l.length := by unfold ints; simp
theorem ints_snoc (l : List Nat) (x : Nat) : ints (l ++ [x]) = ints l ++ [(x : Int)] := by unfold ints; rw [List.map_append]; rfl
def bv : Option Nat → Int
  | none => -1
  | some c => (c : Int)
theorem box_after {V w1 : World} (hb0 : Below V.heap.size V w1) (b : Nat) (hV : V.heap[b]? = some (.cells #[.bool false, .int .u64 0, .int .u8 0] 25 (0, 0))) : (w1.cell? ⟨b, 0, none⟩ = some (.bool false) ∧ w1.cell? ⟨b, 1, none⟩ = some (.int .u64 0) ∧ w1.cell? ⟨b, 2, none⟩ = some (.int .u8 0)) ∧ ∀ i, w1.frozen? ⟨b, i, none⟩ = false := by
  have hblk : w1.heap[b]? = some (.cells #[.bool false, .int .u64 0, .int .u8 0] 25 (0, 0)) := (hb0.block _ (Array.getElem?_eq_some_iff.1 hV).1).trans hV
  exact ⟨⟨(blk_cell hblk 0).1, (blk_cell hblk 1).1, (blk_cell hblk 2).1⟩, fun i => (blk_cell hblk i).2⟩
theorem below_key3 {B : Nat} {w w1 : World} (h : Below B w w1) {b : Nat} (hb : B ≤ b) (k : Ke.K) : Below B w (key3 w1 b k) :=
  ((h.setCell (p := ⟨b, 0, none⟩) hb _).setCell (p := ⟨b, 1, none⟩) hb _).setCell (p := ⟨b, 2, none⟩) hb _
theorem blk_of_box {V w1 : World} (hb0 : Below V.heap.size V w1) (b : Nat) {o : Obj} (hV : V.heap[b]? = some o) : w1.heap[b]? = some o := (hb0.block _ (Array.getElem?_eq_some_iff.1 hV).1).trans hV
theorem bst_mem (X : List Hd) : ∀ (l : List Nat) (b : Option Nat), (∀ c, b = some c → c ∈ l) → ∀ c, l.foldl (bstep X) b = some c → c ∈ l := by
  have key : ∀ (l : List Nat) (b : Option Nat) (c : Nat), l.foldl (bstep X) b = some c → b = some c ∨ c ∈ l := by
    intro l
    induction l with
    | nil => intro b c h; exact .inl h
    | cons x l ih =>
      intro b c h
      rcases ih _ c h with h1 | h1
      · unfold bstep at h1
        cases hM : MM X x with
        | nil => rw [hM] at h1; exact .inl h1
        | cons y M =>
          rw [hM] at h1
          cases b with
          | none => simp only at h1; injection h1 with h1; exact .inr (by rw [h1]; simp)
          | some c0 =>
            simp only at h1
            split at h1
            · injection h1 with h1; exact .inr (by rw [h1]; simp)
            · exact .inl h1
      · exact .inr (List.mem_cons_of_mem _ h1)
  intro l b hb c h
  rcases key l b c h with h1 | h1
  · exact hb c h1
  · exact h1
theorem wrap_id {z : Int} (h : 0 ≤ z ∧ z ≤ 1000000) : wrap64 z = z := by
  unfold wrap64
  omega
theorem pl_eq (np p d j : Nat) (h : p < np) (hn : np ≤ 64) (hj : j < np) : (wrap64 (wrap64 ((p : Int) + 1 + wrap64 ((d : Int) % (np : Int))) + (j : Int))).tmod (np : Int) = (plOf np p d j : Int) := by
  unfold plOf
  have h2 : d % np < np := Nat.mod_lt _ (by omega)
  rw [← Int.natCast_emod]
  generalize d % np = e at *
  rw [wrap_id (z := (e : Int)) (by omega), wrap_id (z := (p : Int) + 1 + (e : Int)) (by omega), wrap_id (by omega), Int.tmod_eq_emod_of_nonneg (by omega), Int.natCast_emod]
  push_cast
  rfl
theorem ordsU_le (np p d i : Nat) (hp : p < np) : ∀ x ∈ ordsU np p d i, x ≤ np := by
  intro x hx
  unfold ordsU at hx
  rcases List.mem_cons.1 hx with rfl | hx
  · omega
  rcases List.mem_cons.1 hx with rfl | hx
  · omega
  obtain ⟨h1, _⟩ := List.mem_filter.1 hx
  obtain ⟨j, _, rfl⟩ := List.mem_map.1 h1
  exact Nat.le_of_lt (Nat.mod_lt _ (by omega))
section
variable {w w' : World} {base rb n np q g cap : Nat} {v : Value} {X : List Hd}
theorem rbestD_no (h : IsD w base rb n np q v X) (p d : Int) (hp : ¬ (0 ≤ p ∧ p < (np : Int))) :
    Calls Try.prog 37 #[.pointer (some ⟨rb, 0, none⟩), .int .i64 p, .int .u64 d] w fun e w' => e = .returned (.tuple #[.int .i64 0, .agg #[.bool false, .int .u64 0, .int .u8 0], .int .i64 0, .bool false]) ∧ Below w.heap.size w w' := by
  have c0 := h.c0
  have c0' := (h.below ((Below.refl _ _).alloc (Nat.le_refl _) (.cells #[.bool false, .int .u64 0, .int .u8 0] 25))).c0
  clear h
  by_cases h1 : p < 0
  · go_enter Try.func37, Try.ntmps37
    go_wp2
    refine bodyPost_ret (v := .tuple #[.int .i64 0, .agg #[.bool false, .int .u64 0, .int .u8 0], .int .i64 0, .bool false]) ?_ rfl ?_
    · simp [results, Try.f37, go_sem]
    exact ⟨rfl, (Below.refl _ _).alloc (Nat.le_refl _) _⟩
  · have h2 : (np : Int) ≤ p := by omega
    have h3 : ¬ p < 0 := h1
    go_enter Try.func37, Try.ntmps37
    go_wp2
    refine bodyPost_ret (v := .tuple #[.int .i64 0, .agg #[.bool false, .int .u64 0, .int .u8 0], .int .i64 0, .bool false]) ?_ rfl ?_
    · simp [results, Try.f37, go_sem]
    exact ⟨rfl, (Below.refl _ _).alloc (Nat.le_refl _) _⟩
set_option maxHeartbeats 4000000 in
set_option maxRecDepth 20000 in
theorem rbestD_ok (h : IsD w base rb n np q (.slice (some ⟨g, 0, none⟩) (np + 1) cap) X) (p d : Nat) (hp : p < np) (hd : d < 18446744073709551616) :
    Calls Try.prog 37 #[.pointer (some ⟨rb, 0, none⟩), .int .i64 (p : Int), .int .u64 (d : Int)] w fun e w' => e = .returned (.tuple #[.int .i64 (bI X (bst X (ords np p d))), .agg #[.bool (bK X (bst X (ords np p d))).e, .int .u64 (bK X (bst X (ords np p d))).d, .int .u8 (bK X (bst X (ords np p d))).l], .int .i64 (bA (bst X (ords np p d))), .bool (bst X (ords np p d)).isSome]) ∧ Below w.heap.size w w' := by
  obtain ⟨i0, hi0, hz0, hz1, hz2⟩ := info_parts Dc.infoInt
  have hnp1 := h.np1
  have c0 := h.c0
  have hrb := h.rbl
  have HH := veil h
  have p0 : ¬ (p : Int) < 0 := by omega
  have p1 : ¬ (np : Int) ≤ (p : Int) := by omega
  clear h
  go_enter Try.func37, Try.ntmps37
  go_wp2
  have HI0 : Hid (Dc.IL ((w.alloc (.cells #[.bool false, .int .u64 0, .int .u8 0] 25)).alloc (.cells #[.int .i64 (p : Int), .int .i64 (np : Int)] 3)) (w.heap.size + 1) (.slice (some ⟨w.heap.size + 1, 0, none⟩) 2 2) (ints (ordsU np p d 0))) := by
    refine ⟨rfl, .inr ⟨w.heap.size + 1, 2, #[.int .i64 (p : Int), .int .i64 (np : Int)], rfl, Nat.le_refl _, ?_, Nat.le_refl _, by simp [maxLen], rfl, rfl⟩⟩
    have hz : (w.alloc (.cells #[.bool false, .int .u64 0, .int .u8 0] 25)).heap.size = w.heap.size + 1 := by simp
    rw [← hz]
    exact World.alloc_heap_new _ _
  have HB0 : Hid (Below (w.heap.size + 1) (w.alloc (.cells #[.bool false, .int .u64 0, .int .u8 0] 25)) ((w.alloc (.cells #[.bool false, .int .u64 0, .int .u8 0] 25)).alloc (.cells #[.int .i64 (p : Int), .int .i64 (np : Int)] 3))) := (Below.refl _ _).alloc (by simp) _
  go_loopw [10, 11] (fun o i wr => ∃ j : Nat, j ≤ np ∧ i = .int .i64 j ∧ Dc.IL wr (w.heap.size + 1) o (ints (ordsU np p d j)) ∧ Below (w.heap.size + 1) (w.alloc (.cells #[.bool false, .int .u64 0, .int .u8 0] 25)) wr) (fun _ i _ => np - (intOf i).toNat)
  case atStart => exact ⟨0, by omega, rfl, HI0.out, HB0.out⟩
  case round =>
    obtain ⟨j, hj, rfl, hil, hbel⟩ := hrel
    have hbw : Below w.heap.size w wr := ((Below.refl _ _).alloc (Nat.le_refl _) _).trans (hbel.mono (by omega))
    have e0 := (hbw.cell (p := ⟨rb, 0, none⟩) hrb).trans HH.out.c0
    obtain ⟨ao, co, rfl⟩ := hil.slice
    have HIL := veil hil
    have HBE := veil hbel
    have HBW := veil hbw
    by_cases hjl : j < np
    · have hjl' : (j : Int) < (np : Int) := by omega
      have z0 : ¬ (np : Int) = 0 := by omega
      clear hil hbel hbw
      obtain ⟨x, hx⟩ : ∃ x, plOf np p d j = x := ⟨_, rfl⟩
      have hxn : x < np := by rw [← hx]; exact Nat.mod_lt _ (by omega)
      have EW : Hid ((wrap64 (wrap64 ((p : Int) + 1 + wrap64 ((d : Int) % (np : Int))) + (j : Int))).tmod (np : Int) = (x : Int)) := by unfold Hid; rw [← hx]; exact pl_eq np p d j hp hnp1.2 hjl
      have hol : (ints (ordsU np p d j)).length ≤ 66 := by rw [ints_len]; have := ordsU_len np p d j; omega
      have hsz := HBE.out.size
      simp at hsz
      by_cases hxp : x = p
      · have HNX := veil (show ordsU np p d (j + 1) = ordsU np p d j from ordsU_no (hx.trans hxp))
        clear hx
        subst hxp
        go_wp2
        go_quiet (fail)
        simp only [EW.out]
        clear EW
        go_wp2
        go_roundw
        case rel =>
          refine ⟨j + 1, by omega, by go_num, ?_, below_drewN HBE.out _⟩
          rw [HNX.out]
          exact HIL.out.below (below_drewN (Below.refl _ _) _)
        case measure => simp [intOf]; omega
      · have HNX := veil (show ordsU np p d (j + 1) = ordsU np p d j ++ [x] by rw [← hx]; exact ordsU_yes (by rw [hx]; exact hxp))
        have en : ((x : Int) != (p : Int)) = true := by simp; omega
        clear hx
        go_wp2
        go_quiet (fail)
        simp only [EW.out]
        have HIL2 := veil (HIL.out.below (below_drewN (Below.refl _ _) nq))
        have HBE2 := veil (below_drewN HBE.out nq)
        have hsz2 : w.heap.size + 1 ≤ (wr.drewN nq).heap.size := hsz
        clear EW HIL HBE HBW e0
        generalize wr.drewN nq = W2 at *
        go_wp2_with (at_builtin; refine wpList_append_own _ rfl _ _ 38 rfl (w.heap.size + 1) 3 i0 (.int .i64 0) 1 8 Try.underlying38 hi0 hz0 hz1 hz2 rfl (by decide) _ _ _ rfl (World.ownsRow.alloc HIL2.out _) ⟨W2.heap.size, 0, none⟩ 1 1 [.int .i64 (x : Int)] rfl rfl (Dc.cell_one_new _ _ _) (by simp [Value.oneCell']) (by unfold maxLen; omega) (by omega) (by simp; omega) ?_; intro v' w1 hown' hgrow _; have HO := veil hown'; have HG := veil hgrow; clear hown' hgrow)
        go_roundw
        case rel =>
          refine ⟨j + 1, by omega, by go_num, ?_, ?_⟩
          · rw [HNX.out, ints_snoc]
            have := HO.out
            unfold Dc.IL
            simpa using this
          · exact (HBE2.out.alloc hsz2 _).grown HG.out (by simp; omega) (fun k hk => (HIL2.out.lt k hk).1)
        case measure => simp [intOf]; omega
    · obtain rfl : j = np := by omega
      have HOR : Hid (ordsU j p d j = ords j p d) := rfl
      rw [HOR.out] at HIL
      have hol : (ords j p d).length ≤ 66 := by have := ordsU_len j p d j; rw [HOR.out] at this; omega
      have HOL := veil (ordsU_le j p d j hp)
      rw [HOR.out] at HOL
      have hll : (ints (ordsU j p d j)).length = (ords j p d).length := by rw [ints_len, HOR.out]
      have HO2 : ∃ go, ao = some ⟨go, 0, none⟩ ∧ go < wr.heap.size ∧ ∀ k x : Nat, (ords j p d)[k]? = some x → wr.cell? ⟨go, k, none⟩ = some (.int .i64 (x : Int)) := by
        have hne : ints (ords j p d) ≠ [] := by unfold ords ordsU ints; simp
        have HI := HIL.out
        obtain ⟨go, cg, e, _, h2, h3⟩ := HI.cells hne
        simp at e
        refine ⟨go, e.1, h2, fun k x hk => ?_⟩
        have hkl := (List.getElem?_eq_some_iff.1 hk).1
        rw [h3 k (by rw [ints_len]; exact hkl)]
        unfold ints
        simp [List.getD, hk]
      obtain ⟨go, rfl, hgo, hor⟩ := HO2
      have HGO := veil hor
      have hbk : ∀ W, Below wr.heap.size wr W → Below w.heap.size w W := fun W hW => hbw.trans (hW.mono hbw.size)
      have HBK := veil hbk
      have hwr := hbw.size
      rw [hll]
      have HLL := veil (show (ords j p d).length ≤ 66 from hol)
      obtain ⟨L, hL⟩ : ∃ L, L = ords j p d := ⟨_, rfl⟩
      have HLQ := veil hL
      rw [← hL] at HGO HOL HLL ⊢
      clear HIL HI0 HB0 hil hbel hbw hor hbk hll HOR hol hL
      have hl66 := HLL.out
      generalize wr = W0 at *
      go_wp2
      go_loopw [13, 14] (fun b i wq => ∃ (m : Nat) (o : Option Nat), m ≤ L.length ∧ i = .int .i64 m ∧ b = .int .i64 (bv o) ∧ Hid (o = bst X (L.take m)) ∧ Below W0.heap.size W0 wq) (fun _ i _ => L.length - (intOf i).toNat)
      case atStart => exact ⟨0, none, by omega, rfl, rfl, (rfl : (none : Option Nat) = bst X (L.take 0)), Below.refl _ _⟩
      case round =>
        obtain ⟨m, o, hm, rfl, rfl, ho, hbq⟩ := hrel
        have HBQ := veil hbq
        have HDQ := veil (HH.out.below (HBK.out _ hbq))
        have f3 := HDQ.out.c3
        by_cases hml : m < L.length
        · have hml' : (m : Int) < (L.length : Int) := by omega
          obtain ⟨x, hx⟩ : ∃ x, L[m]? = some x := ⟨_, List.getElem?_eq_getElem hml⟩
          have hxn := HOL.out x (List.mem_of_getElem? hx)
          have g1 := (hbq.cell (p := ⟨go, m, none⟩) hgo).trans (HGO.out m x hx)
          obtain ⟨y, hy⟩ := HH.out.at (i := x) hxn
          obtain ⟨gg, cg, eg, _, _, hrow⟩ := HDQ.out.rows
          simp at eg
          obtain ⟨rfl, rfl⟩ := eg
          have g2 := hrow x y hy
          obtain ⟨u, hu⟩ := HDQ.out.it x y hy
          have hgl : g < wr.heap.size := World.block_lt_of_cell? wr ⟨g, x, none⟩ g2
          have hol : go < wr.heap.size := World.block_lt_of_cell? wr ⟨go, m, none⟩ g1
          have hrl : rb < wr.heap.size := HDQ.out.rbl
          have HS : Hid (∀ W, Below wr.heap.size wr W → (W.cell? ⟨rb, 3, none⟩ = some (.slice (some ⟨g, 0, none⟩) (j + 1) cap) ∧ W.cell? ⟨go, m, none⟩ = some (.int .i64 (x : Int)) ∧ W.cell? ⟨g, x, none⟩ = some (.pointer (some ⟨y.sb, 0, none⟩))) ∧ ∀ o, (W.alloc o).cell? ⟨rb, 3, none⟩ = some (.slice (some ⟨g, 0, none⟩) (j + 1) cap) ∧ (W.alloc o).cell? ⟨go, m, none⟩ = some (.int .i64 (x : Int)) ∧ (W.alloc o).cell? ⟨g, x, none⟩ = some (.pointer (some ⟨y.sb, 0, none⟩))) := fun W hW =>
            have key : ∀ V, Below wr.heap.size wr V → V.cell? ⟨rb, 3, none⟩ = some (.slice (some ⟨g, 0, none⟩) (j + 1) cap) ∧ V.cell? ⟨go, m, none⟩ = some (.int .i64 (x : Int)) ∧ V.cell? ⟨g, x, none⟩ = some (.pointer (some ⟨y.sb, 0, none⟩)) := fun V hV => ⟨(hV.cell (p := ⟨rb, 3, none⟩) hrl).trans f3, (hV.cell (p := ⟨go, m, none⟩) hol).trans g1, (hV.cell (p := ⟨g, x, none⟩) hgl).trans g2⟩
            ⟨key W hW, fun o => key _ (hW.alloc hW.size o)⟩
          have HTOP : Hid (∀ W, Below wr.heap.size wr W → Calls Try.prog 63 #[.pointer (some ⟨y.sb, 0, none⟩)] W fun e w' => e = .returned (.tuple #[.int .i64 (tkI y.M), .agg #[.bool (tkK y.M).e, .int .u64 (tkK y.M).d, .int .u8 (tkK y.M).l], .bool (tkO y.M)]) ∧ Below W.heap.size W w' ∧ Below wr.heap.size wr w') := fun W hW => by
            refine (rtop_all (hu.below hW)).mono ?_
            rintro e w' ⟨rfl, hb⟩
            exact ⟨rfl, hb, hW.trans (hb.mono hW.size)⟩
          have HST : Hid (bst X (L.take (m + 1)) = bstep X o x) := by
            unfold Hid
            rw [List.take_add_one, hx, ho.out]
            exact bst_snoc X _ x
          have hxx : (x : Int) < (j : Int) + 1 := by omega
          have x0 : ¬ (x : Int) < 0 := by omega
          have hMM := veil (MM_at hy)
          have y1 : ¬ rb = wr.heap.size := by omega
          have y2 : ¬ go = wr.heap.size := by omega
          have y3 : ¬ g = wr.heap.size := by omega
          have HKK : Hid (∃ kk ti ob, kk = tkK y.M ∧ ti = tkI y.M ∧ ob = tkO y.M) := ⟨_, _, _, rfl, rfl, rfl⟩
          obtain ⟨kk, ti, ob, hkk, hti, hob⟩ := HKK.out
          rw [← hkk, ← hti, ← hob] at HTOP
          have HK1 := veil hkk
          have HK2 := veil hti
          have HK3 := veil hob
          have HW0 := veil (Below.refl wr.heap.size wr)
          have HOQ := veil ho.out
          clear hbq ho hx hrow hu hy hkk hti hob HKK
          go_wp2
          go_region_held3 (fun w' => w'.cell? ⟨rb, 3, none⟩ = some (.slice (some ⟨g, 0, none⟩) (j + 1) cap) ∧ w'.cell? ⟨go, m, none⟩ = some (.int .i64 (x : Int)) ∧ w'.cell? ⟨g, x, none⟩ = some (.pointer (some ⟨y.sb, 0, none⟩)))
            (first
              | exact (HS.out _ HB1.out).1
              | exact (HS.out _ HB1.out).2 _
              | exact (HS.out _ HB3.out).1
              | exact (HS.out _ HW0.out).1
              | exact (HS.out _ HW0.out).2 _
              | go_keep)
            (first
              | (go_at_call 63; refine (HTOP.out _ (by first | exact (HW0.out.alloc (Nat.le_refl _) _).drew | exact (HW0.out.drew).alloc (Nat.le_refl _) _ | exact HW0.out.alloc (Nat.le_refl _) _)).mono ?_; rintro e w1 ⟨rfl, hb0, hb1⟩; obtain ⟨⟨b0, b1, b2⟩, hfz⟩ := box_after hb0 wr.heap.size (World.alloc_heap_new wr _); have z0 := hfz 0; have z1 := hfz 1; have z2 := hfz 2; have HBQ0 := veil (blk_of_box hb0 wr.heap.size (World.alloc_heap_new wr _)); have HB1 := veil hb1; have HB3 := veil (below_key3 hb1 (Nat.le_refl _) kk); clear hb1 hb0 hfz)
              | (go_at_call 63; refine (HTOP.out _ (by first | exact HW0.out | exact HW0.out.drew)).mono ?_; rintro e w1 ⟨rfl, hb0, hb1⟩; have HB1 := veil hb1; clear hb1 hb0))
          all_goals first
            | (obtain ⟨W1, hW1⟩ : ∃ W1, W1 = w1.alloc (.cells #[.bool kk.e, .int .u64 kk.d, .int .u8 kk.l] 25) := ⟨_, rfl⟩
               have HBX : Hid (W1.heap[w1.heap.size]? = some (.cells #[.bool kk.e, .int .u64 kk.d, .int .u8 kk.l] 25 (0, 0))) := by unfold Hid; rw [hW1]; exact World.alloc_heap_new _ _
               have HBL : Hid (Below wr.heap.size wr W1) := by unfold Hid; rw [hW1]; exact HB1.out.alloc HB1.out.size _
               have hBB : wr.heap.size ≤ w1.heap.size := HB1.out.size
               rw [← hW1]
               generalize w1.heap.size = B1 at HBX hBB ⊢
               clear hW1 HB1)
            | (have hW1' : (((w1.setCell ⟨wr.heap.size, 0, none⟩ (.bool kk.e)).setCell ⟨wr.heap.size, 1, none⟩ (.int .u64 kk.d)).setCell ⟨wr.heap.size, 2, none⟩ (.int .u8 kk.l)) = key3 w1 wr.heap.size kk := rfl
               rw [hW1']
               obtain ⟨W1, hW1⟩ : ∃ W1, W1 = key3 w1 wr.heap.size kk := ⟨_, rfl⟩
               have HBX : Hid (W1.heap[wr.heap.size]? = some (.cells #[.bool kk.e, .int .u64 kk.d, .int .u8 kk.l] 25 (0, 0))) := by unfold Hid; rw [hW1]; exact blk_key3 (k0 := ⟨false, 0, 0⟩) HBQ0.out
               have HBL : Hid (Below wr.heap.size wr W1) := by unfold Hid; rw [hW1]; exact HB3.out
               have hBB : wr.heap.size ≤ wr.heap.size := Nat.le_refl _
               rw [← hW1]
               generalize hBq : wr.heap.size = B1 at HBX ⊢
               replace hBB : wr.heap.size ≤ B1 := by omega
               clear hW1 hW1' HB1 HB3 HBQ0 b0 b1 b2 z0 z1 z2 hBq)
          all_goals
            obtain ⟨v1, v2, v3⟩ := (HS.out _ HBL.out).1
            have b0 := (blk_cell HBX.out 0).1
            have b1 := (blk_cell HBX.out 1).1
            have b2 := (blk_cell HBX.out 2).1
            simp only [List.getElem?_toArray, List.getElem?_cons_zero, List.getElem?_cons_succ] at b0 b1 b2
            have HBQ2 := veil (HBQ.out.trans (HBL.out.mono HBQ.out.size))
            clear HTOP HW0 f3 g1 g2
            cases hM : y.M with
            | nil =>
              have hob : ob = false := by rw [HK3.out, hM]; rfl
              have HN : Hid (o = bst X (L.take (m + 1))) := by unfold Hid; rw [HST.out]; unfold bstep; rw [hMM.out, hM]
              subst hob
              clear hM HST HK1 HK2 HK3
              go_wp2
              go_roundw
              case rel => exact ⟨m + 1, o, by omega, by go_num, rfl, HN.out, HBQ2.out⟩
              case measure => simp [intOf]; omega
            | cons z M' =>
              have hob : ob = true := by rw [HK3.out, hM]; rfl
              have hkz : kk = z.2 := by rw [HK1.out, hM]; rfl
              subst hob
              cases o with
              | none =>
                have HN : Hid (some x = bst X (L.take (m + 1))) := by unfold Hid; rw [HST.out]; unfold bstep; rw [hMM.out, hM]
                clear hM HST HK1 HK2 HK3 hkz
                simp only [bv]
                go_wp2
                go_roundw
                case rel => exact ⟨m + 1, some x, by omega, by go_num, rfl, HN.out, HBQ2.out⟩
                case measure => simp [intOf]; omega
              | some c =>
                have hcm : c ∈ L := List.mem_of_mem_take (bst_mem X _ none (fun _ h => by cases h) c HOQ.out.symm)
                have hcn := HOL.out c hcm
                have HD1 := veil (HH.out.below (HBK.out _ HBQ2.out))
                obtain ⟨yc, hyc⟩ := HH.out.at (i := c) hcn
                obtain ⟨gg, cg, eg, _, _, hrow⟩ := HD1.out.rows
                simp at eg
                obtain ⟨rfl, rfl⟩ := eg
                have r2 := hrow c yc hyc
                obtain ⟨u, hu⟩ := HD1.out.it c yc hyc
                have hgl1 : g < W1.heap.size := World.block_lt_of_cell? W1 ⟨g, c, none⟩ r2
                have hrl1 : rb < W1.heap.size := HD1.out.rbl
                have HS2 : Hid (∀ W, Below W1.heap.size W1 W → (W.cell? ⟨rb, 3, none⟩ = some (.slice (some ⟨g, 0, none⟩) (j + 1) cap) ∧ W.cell? ⟨g, c, none⟩ = some (.pointer (some ⟨yc.sb, 0, none⟩))) ∧ ∀ o, (W.alloc o).cell? ⟨rb, 3, none⟩ = some (.slice (some ⟨g, 0, none⟩) (j + 1) cap) ∧ (W.alloc o).cell? ⟨g, c, none⟩ = some (.pointer (some ⟨yc.sb, 0, none⟩))) := fun W hW =>
                  have key : ∀ V, Below W1.heap.size W1 V → V.cell? ⟨rb, 3, none⟩ = some (.slice (some ⟨g, 0, none⟩) (j + 1) cap) ∧ V.cell? ⟨g, c, none⟩ = some (.pointer (some ⟨yc.sb, 0, none⟩)) := fun V hV => ⟨(hV.cell (p := ⟨rb, 3, none⟩) hrl1).trans v1, (hV.cell (p := ⟨g, c, none⟩) hgl1).trans r2⟩
                  ⟨key W hW, fun o => key _ (hW.alloc hW.size o)⟩
                have HTOP2 : Hid (∀ W, Below W1.heap.size W1 W → Calls Try.prog 63 #[.pointer (some ⟨yc.sb, 0, none⟩)] W fun e w' => e = .returned (.tuple #[.int .i64 (tkI yc.M), .agg #[.bool (tkK yc.M).e, .int .u64 (tkK yc.M).d, .int .u8 (tkK yc.M).l], .bool (tkO yc.M)]) ∧ Below W.heap.size W w' ∧ Below W1.heap.size W1 w') := fun W hW => by
                  refine (rtop_all (hu.below hW)).mono ?_
                  rintro e w' ⟨rfl, hb⟩
                  exact ⟨rfl, hb, hW.trans (hb.mono hW.size)⟩
                have hMc := veil (MM_at hyc)
                have HKC : Hid (∃ kc tc oc, kc = tkK yc.M ∧ tc = tkI yc.M ∧ oc = tkO yc.M) := ⟨_, _, _, rfl, rfl, rfl⟩
                obtain ⟨kc, tc, oc, hkc, htc, hoc⟩ := HKC.out
                rw [← hkc, ← htc, ← hoc] at HTOP2
                have HC1 := veil hkc
                have HW1 := veil (Below.refl W1.heap.size W1)
                have HUP : Hid (bst X (L.take (m + 1)) = if Ke.up kk kc then some x else some c) := by
                  unfold Hid
                  rw [HST.out, hkc, hkz]
                  unfold bstep
                  rw [hMM.out, hM]
                  show (if Ke.up z.2 (tkK (MM X c)) = true then some x else some c) = _
                  rw [hMc.out]
                have hcc : (c : Int) < (j : Int) + 1 := by omega
                have c0' : ¬ (c : Int) < 0 := by omega
                have y1 : ¬ rb = W1.heap.size := by omega
                have y3 : ¬ g = W1.heap.size := by omega
                have hB1 : B1 < W1.heap.size := (Array.getElem?_eq_some_iff.1 HBX.out).1
                clear hrow hu hyc hkc htc hoc HKC hM HST HK1 HK2 HK3 hkz hcm
                simp only [bv]
                cases hup : Ke.up kk kc with
                | true =>
                  have HN : Hid (some x = bst X (L.take (m + 1))) := by unfold Hid; rw [HUP.out, hup]; rfl
                  have HAB := veil (fun W => Ke.rabove_ok W kk kc)
                  rw [hup] at HAB
                  clear HUP hup
                  go_wp2_with (first
                    | (go_at_call 63; refine (HTOP2.out _ HW1.out).mono ?_; rintro e w2 ⟨rfl, _, hb2⟩; have HB2 := veil (hb2.alloc hb2.size (.cells #[.bool kc.e, .int .u64 kc.d, .int .u8 kc.l] 25)); have b20 := (HB2.out.cell (p := ⟨B1, 0, none⟩) hB1).trans b0; have b21 := (HB2.out.cell (p := ⟨B1, 1, none⟩) hB1).trans b1; have b22 := (HB2.out.cell (p := ⟨B1, 2, none⟩) hB1).trans b2; have r20 := (HB2.out.cell (p := ⟨go, m, none⟩) (World.block_lt_of_cell? W1 ⟨go, m, none⟩ v2)).trans v2; clear hb2)
                    | (go_at_call 22; refine (HAB.out _).mono ?_; rintro e w3 ⟨rfl, hb3⟩; have HB3 := veil (HB2.out.trans (hb3.mono HB2.out.size)); have r30 := (HB3.out.cell (p := ⟨go, m, none⟩) (World.block_lt_of_cell? W1 ⟨go, m, none⟩ v2)).trans v2; clear hb3))
                  go_roundw
                  case rel => exact ⟨m + 1, some x, by omega, by go_num, rfl, HN.out, HBQ2.out.trans (HB3.out.mono HBQ2.out.size)⟩
                  case measure => simp [intOf]; omega
                | false =>
                  have HN : Hid (some c = bst X (L.take (m + 1))) := by unfold Hid; rw [HUP.out, hup]; rfl
                  have HAB := veil (fun W => Ke.rabove_ok W kk kc)
                  rw [hup] at HAB
                  clear HUP hup
                  go_wp2_with (first
                    | (go_at_call 63; refine (HTOP2.out _ HW1.out).mono ?_; rintro e w2 ⟨rfl, _, hb2⟩; have HB2 := veil (hb2.alloc hb2.size (.cells #[.bool kc.e, .int .u64 kc.d, .int .u8 kc.l] 25)); have b20 := (HB2.out.cell (p := ⟨B1, 0, none⟩) hB1).trans b0; have b21 := (HB2.out.cell (p := ⟨B1, 1, none⟩) hB1).trans b1; have b22 := (HB2.out.cell (p := ⟨B1, 2, none⟩) hB1).trans b2; have r20 := (HB2.out.cell (p := ⟨go, m, none⟩) (World.block_lt_of_cell? W1 ⟨go, m, none⟩ v2)).trans v2; clear hb2)
                    | (go_at_call 22; refine (HAB.out _).mono ?_; rintro e w3 ⟨rfl, hb3⟩; have HB3 := veil (HB2.out.trans (hb3.mono HB2.out.size)); clear hb3))
                  go_roundw
                  case rel => exact ⟨m + 1, some c, by omega, by go_num, rfl, HN.out, HBQ2.out.trans (HB3.out.mono HBQ2.out.size)⟩
                  case measure => simp [intOf]; omega
        · have HOE : Hid (o = bst X L) := by unfold Hid; rw [ho.out, show m = L.length by omega, List.take_length]
          have hml' : ¬ (m : Int) < (L.length : Int) := by omega
          clear hbq ho
          have hwl : w.heap.size < W0.heap.size := by have := HBE.out.size; simp at this; omega
          have hblk0 : W0.heap[w.heap.size]? = some (.cells #[.bool false, .int .u64 0, .int .u8 0] 25 (0, 0)) := (HBE.out.block _ (by omega)).trans (World.alloc_heap_new w _)
          have HBOX : Hid (∀ W, Below W0.heap.size W0 W → (W.cell? ⟨w.heap.size, 0, none⟩ = some (.bool false) ∧ W.cell? ⟨w.heap.size, 1, none⟩ = some (.int .u64 0) ∧ W.cell? ⟨w.heap.size, 2, none⟩ = some (.int .u8 0)) ∧ ∀ i, W.frozen? ⟨w.heap.size, i, none⟩ = false) := fun W hW => by
            have hb : W.heap[w.heap.size]? = some (.cells #[.bool false, .int .u64 0, .int .u8 0] 25 (0, 0)) := (hW.block _ hwl).trans hblk0
            exact ⟨⟨(blk_cell hb 0).1, (blk_cell hb 1).1, (blk_cell hb 2).1⟩, fun i => (blk_cell hb i).2⟩
          cases o with
          | none =>
            obtain ⟨⟨n0, n1, n2⟩, hf⟩ := HBOX.out _ HBQ.out
            have f0 := hf 0
            have f1 := hf 1
            have f2 := hf 2
            have HBW2 := veil (HBK.out _ HBQ.out)
            have HE : Hid (bst X (ords j p d) = none) := by unfold Hid; rw [← HLQ.out, ← HOE.out]
            clear hf hblk0
            simp only [bv]
            go_wp2
            refine bodyPost_ret (v := .tuple #[.int .i64 0, .agg #[.bool false, .int .u64 0, .int .u8 0], .int .i64 0, .bool false]) ?_ rfl ?_
            · simp [results, Try.f37, go_sem, n0, n1, n2]
            exact ⟨by rw [HE.out]; rfl, below_key3 HBW2.out (Nat.le_refl _) ⟨false, 0, 0⟩⟩
          | some c =>
            have hcm : c ∈ L := bst_mem X _ none (fun _ h => by cases h) c HOE.out.symm
            have hcn := HOL.out c hcm
            obtain ⟨yc, hyc⟩ := HH.out.at (i := c) hcn
            obtain ⟨gg, cg, eg, _, _, hrow⟩ := HDQ.out.rows
            simp at eg
            obtain ⟨rfl, rfl⟩ := eg
            have r2 := hrow c yc hyc
            obtain ⟨u, hu⟩ := HDQ.out.it c yc hyc
            have HTOP3 := veil (rtop_all hu)
            have hMc := MM_at hyc
            have e1 : bI X (some c) = tkI yc.M := by show tkI (MM X c) = _; rw [hMc]
            have e2 : bK X (some c) = tkK yc.M := by show tkK (MM X c) = _; rw [hMc]
            have HE : Hid (bst X (ords j p d) = some c) := by unfold Hid; rw [← HLQ.out, ← HOE.out]
            have HE1 := veil e1
            have HE2 := veil e2
            have hcc : (c : Int) < (j : Int) + 1 := by omega
            have c0' : ¬ (c : Int) < 0 := by omega
            clear hrow hu hyc hcm hMc hblk0 e1 e2
            generalize tkI yc.M = ti at *
            generalize tkK yc.M = kc at *
            generalize tkO yc.M = oc at *
            simp only [bv]
            go_wp2_with (first
              | (go_at_call 63; refine (HTOP3.out).mono ?_; rintro e w2 ⟨rfl, hb2⟩; have HB2 := veil (HBQ.out.trans ((hb2.alloc hb2.size (.cells #[.bool kc.e, .int .u64 kc.d, .int .u8 kc.l] 25)).mono HBQ.out.size)); obtain ⟨⟨n0, n1, n2⟩, hf⟩ := HBOX.out _ HB2.out; have f0 := hf 0; have f1 := hf 1; have f2 := hf 2; have hwl2 : w.heap.size < w2.heap.size := (by have := hb2.size; have := HBQ.out.size; omega); have y0 : ¬ w.heap.size = w2.heap.size := (by omega); have y0' : ¬ w2.heap.size = w.heap.size := (by omega); clear hf hb2))
            have s0 : (w2.alloc (.cells #[.bool kc.e, .int .u64 kc.d, .int .u8 kc.l] 25)).cell? ⟨w2.heap.size, 0, none⟩ = some (.bool kc.e) := Ph.cell_new _ _ _ _
            have s1 : (w2.alloc (.cells #[.bool kc.e, .int .u64 kc.d, .int .u8 kc.l] 25)).cell? ⟨w2.heap.size, 1, none⟩ = some (.int .u64 kc.d) := Ph.cell_new _ _ _ _
            have s2 : (w2.alloc (.cells #[.bool kc.e, .int .u64 kc.d, .int .u8 kc.l] 25)).cell? ⟨w2.heap.size, 2, none⟩ = some (.int .u8 kc.l) := Ph.cell_new _ _ _ _
            generalize w2.heap.size = B2 at s0 s1 s2 y0 y0' ⊢
            generalize w2.alloc (.cells #[.bool kc.e, .int .u64 kc.d, .int .u8 kc.l] 25) = W2 at *
            go_region_held3 (fun w' => w'.cell? ⟨B2, 0, none⟩ = some (.bool kc.e) ∧ w'.cell? ⟨B2, 1, none⟩ = some (.int .u64 kc.d) ∧ w'.cell? ⟨B2, 2, none⟩ = some (.int .u8 kc.l))
              (first
                | exact ⟨s0, s1, s2⟩
                | go_keep)
              (first | fail)
            go_wp2
            refine bodyPost_ret (v := .tuple #[.int .i64 ti, .agg #[.bool kc.e, .int .u64 kc.d, .int .u8 kc.l], .int .i64 (c : Int), .bool true]) ?_ rfl ?_
            · simp [results, Try.f37, go_sem, n0, n1, n2]
            exact ⟨by rw [HE.out, HE1.out, HE2.out]; rfl, (below_key3 (HBK.out _ HB2.out) (Nat.le_refl _) kc).drew⟩
theorem rbestD_all (h : IsD w base rb n np q v X) (p d : Int) (hd : 0 ≤ d ∧ d < 18446744073709551616) :
    Calls Try.prog 37 #[.pointer (some ⟨rb, 0, none⟩), .int .i64 p, .int .u64 d] w fun e w' => e = .returned (.tuple #[.int .i64 (bI X (bb np X p d)), .agg #[.bool (bK X (bb np X p d)).e, .int .u64 (bK X (bb np X p d)).d, .int .u8 (bK X (bb np X p d)).l], .int .i64 (bA (bb np X p d)), .bool (bb np X p d).isSome]) ∧ Below w.heap.size w w' := by
  unfold bb
  by_cases hp : 0 ≤ p ∧ p < (np : Int)
  · rw [if_pos hp]
    obtain ⟨p, rfl⟩ := Int.eq_ofNat_of_zero_le hp.1
    obtain ⟨d, rfl⟩ := Int.eq_ofNat_of_zero_le hd.1
    obtain ⟨g, cap, rfl, _⟩ := h.rows
    exact rbestD_ok h p d (by omega) (by omega)
  · rw [if_neg hp]
    exact rbestD_no h p d hp
end
end Go.Proofs.Ytlfejgjhamcahaa

namespace Go.Proofs.Ytlfejgjhamcahaa
open Go.RowKit Go.Lib
set_option linter.unusedVariables false
attribute [local go_sem ↓] Go.wp_at_zero Go.wp_at_succ

section
variable {w w' : World} {base rb n np q g cap : Nat} {v : Value} {X : List Hd}
set_option maxHeartbeats 4000000 in
set_option maxRecDepth 20000 in
theorem rtakeD_no (h : IsD w base rb n np q v X) (p d : Int) (hd : 0 ≤ d ∧ d < 18446744073709551616) (hbb : bb np X p d = none) :
    Calls Try.prog 56 #[.pointer (some ⟨rb, 0, none⟩), .int .i64 p, .int .u64 d] w fun e w' => e = .returned (.tuple #[.int .i64 0, .agg #[.bool false, .int .u64 0, .int .u8 0], .int .i64 0, .bool false]) ∧ Below w.heap.size w w' := by
  have hbB : Below w.heap.size w (w.alloc (.cells #[.bool false, .int .u64 0, .int .u8 0] 25)) := (Below.refl _ _).alloc (Nat.le_refl _) _
  have HBEST := veil (rbestD_all (h.below hbB) p d hd)
  rw [hbb] at HBEST
  have HBW : Hid (∀ W, Below (w.alloc (.cells #[.bool false, .int .u64 0, .int .u8 0] 25)).heap.size (w.alloc (.cells #[.bool false, .int .u64 0, .int .u8 0] 25)) W → Below w.heap.size w W ∧ w.heap.size < W.heap.size ∧ (W.cell? ⟨w.heap.size, 0, none⟩ = some (.bool false) ∧ W.cell? ⟨w.heap.size, 1, none⟩ = some (.int .u64 0) ∧ W.cell? ⟨w.heap.size, 2, none⟩ = some (.int .u8 0)) ∧ ∀ i, W.frozen? ⟨w.heap.size, i, none⟩ = false) := fun W hW => by
    have hs := hW.size
    simp at hs
    exact ⟨hbB.trans (hW.mono hbB.size), by omega, box_after hW w.heap.size (World.alloc_heap_new w _)⟩
  clear h hbb hbB
  go_enter Try.func56, Try.ntmps56
  go_wp2_with (go_at_call 37; refine (HBEST.out).mono ?_; rintro e w2 ⟨rfl, hb2⟩; simp only [bI, bK, bA, Option.isSome_none]; have HB2 := veil (hb2.alloc hb2.size (.cells #[.bool false, .int .u64 0, .int .u8 0] 25)); obtain ⟨hbw, _, ⟨n0, n1, n2⟩, hf⟩ := HBW.out _ HB2.out; have f0 := hf 0; have f1 := hf 1; have f2 := hf 2; have HBW2 := veil hbw; have hlt := (HBW.out _ hb2).2.1; have y0 : ¬ w.heap.size = w2.heap.size := (by omega); have y0' : ¬ w2.heap.size = w.heap.size := (by omega); clear hf hb2 hbw)
  have s0 : (w2.alloc (.cells #[.bool false, .int .u64 0, .int .u8 0] 25)).cell? ⟨w2.heap.size, 0, none⟩ = some (.bool false) := Ph.cell_new _ _ _ _
  have s1 : (w2.alloc (.cells #[.bool false, .int .u64 0, .int .u8 0] 25)).cell? ⟨w2.heap.size, 1, none⟩ = some (.int .u64 0) := Ph.cell_new _ _ _ _
  have s2 : (w2.alloc (.cells #[.bool false, .int .u64 0, .int .u8 0] 25)).cell? ⟨w2.heap.size, 2, none⟩ = some (.int .u8 0) := Ph.cell_new _ _ _ _
  generalize w2.heap.size = B2 at s0 s1 s2 y0 y0' ⊢
  generalize w2.alloc (.cells #[.bool false, .int .u64 0, .int .u8 0] 25) = W2 at *
  go_region_held3 (fun w' => w'.cell? ⟨B2, 0, none⟩ = some (.bool false) ∧ w'.cell? ⟨B2, 1, none⟩ = some (.int .u64 0) ∧ w'.cell? ⟨B2, 2, none⟩ = some (.int .u8 0))
    (first
      | exact ⟨s0, s1, s2⟩
      | go_keep)
    (first | fail)
  go_wp2
  refine bodyPost_ret (v := .tuple #[.int .i64 0, .agg #[.bool false, .int .u64 0, .int .u8 0], .int .i64 0, .bool false]) ?_ rfl ?_
  · simp [results, Try.f56, go_sem, n0, n1, n2]
  exact ⟨rfl, (below_key3 HBW2.out (Nat.le_refl _) ⟨false, 0, 0⟩).drew⟩
set_option maxHeartbeats 4000000 in
set_option maxRecDepth 20000 in
theorem rtakeD_at (h : IsD w base rb n np q (.slice (some ⟨g, 0, none⟩) (np + 1) cap) X) (p d : Int) (hd : 0 ≤ d ∧ d < 18446744073709551616) {c : Nat} (hbb : bb np X p d = some c) {x : Hd} (hx : X[c]? = some x) :
    Calls Try.prog 56 #[.pointer (some ⟨rb, 0, none⟩), .int .i64 p, .int .u64 d] w fun e w' => e = .returned (.tuple #[.int .i64 (bI X (some c)), .agg #[.bool (bK X (some c)).e, .int .u64 (bK X (some c)).d, .int .u8 (bK X (some c)).l], .int .i64 (c : Int), .bool true]) ∧ LeavesD w w' base rb n np q (.slice (some ⟨g, 0, none⟩) (np + 1) cap) X ((Ms X).set c x.M.tail) := by
  have hnp1 := h.np1
  have hbB : Below w.heap.size w (w.alloc (.cells #[.bool false, .int .u64 0, .int .u8 0] 25)) := (Below.refl _ _).alloc (Nat.le_refl _) _
  have HBEST := veil (rbestD_all (h.below hbB) p d hd)
  rw [hbb] at HBEST
  have HBW : Hid (∀ W, Below (w.alloc (.cells #[.bool false, .int .u64 0, .int .u8 0] 25)).heap.size (w.alloc (.cells #[.bool false, .int .u64 0, .int .u8 0] 25)) W → Below w.heap.size w W ∧ w.heap.size < W.heap.size ∧ W.heap[w.heap.size]? = some (.cells #[.bool false, .int .u64 0, .int .u8 0] 25 (0, 0))) := fun W hW => by
    have hs := hW.size
    simp at hs
    exact ⟨hbB.trans (hW.mono hbB.size), by omega, blk_of_box hW w.heap.size (World.alloc_heap_new w _)⟩
  have hxl := h.sbl hx
  have HTK : Hid (∀ W, Below w.heap.size w W → (W.cell? ⟨g, c, none⟩ = some (.pointer (some ⟨x.sb, 0, none⟩)) ∧ W.cell? ⟨rb, 3, none⟩ = some (.slice (some ⟨g, 0, none⟩) (np + 1) cap)) ∧ Calls Try.prog 82 #[.pointer (some ⟨x.sb, 0, none⟩)] W fun e w' => e = .returned (.tuple #[.int .i64 (tkI x.M), .agg #[.bool (tkK x.M).e, .int .u64 (tkK x.M).d, .int .u8 (tkK x.M).l], .bool (tkO x.M)]) ∧ LeavesD w w' base rb n np q (.slice (some ⟨g, 0, none⟩) (np + 1) cap) X ((Ms X).set c x.M.tail) ∧ Fr (fun k => k = x.sb) W w') := fun W hW => by
    have hD := h.below hW
    obtain ⟨g', cap', e, _, _, hr'⟩ := hD.rows
    simp at e
    obtain ⟨rfl, _⟩ := e
    obtain ⟨u, hu⟩ := hD.it c x hx
    refine ⟨⟨hr' c x hx, hD.c3⟩, (rtake_all hu).mono ?_⟩
    rintro e w' ⟨rfl, hu', hf⟩
    exact ⟨rfl, LeavesD.put h hx hW hf hu' rfl, hf⟩
  have hcl : c < np + 1 := by have := (List.getElem?_eq_some_iff.1 hx).1; have := h.len; omega
  have hc1 : (c : Int) < (np : Int) + 1 := by omega
  have hc2 : ¬ (c : Int) < 0 := by omega
  have HNE : Hid (∀ W W' : World, Fr (fun k => k = x.sb) W W' → ∀ k, w.heap.size ≤ k → ∀ o, W.heap[k]? = some o → W'.heap[k]? = some o) := fun W W' hf k hk o ho => (hf.block k (Array.getElem?_eq_some_iff.1 ho).1 (fun e => by have e : k = x.sb := e; omega)).trans ho
  have HLD : Hid (∀ W W', LeavesD w W base rb n np q (.slice (some ⟨g, 0, none⟩) (np + 1) cap) X ((Ms X).set c x.M.tail) → (∃ cs, W.heap[w.heap.size]? = some (.cells cs 25 (0, 0))) → Fr (fun k => k = w.heap.size) W W' → LeavesD w W' base rb n np q (.slice (some ⟨g, 0, none⟩) (np + 1) cap) X ((Ms X).set c x.M.tail)) := fun W W' hL ⟨cs, hbx⟩ hf => by
    obtain ⟨⟨X', hX', hG, hO⟩, hF⟩ := hL
    have hown : ∀ k, OwnD X k → k < w.heap.size := h.ownl
    refine ⟨⟨X', ?_, hG, hO⟩, ?_⟩
    · have hs : ∀ (i : Nat) (y : Hd), X'[i]? = some y → y.sb ≠ w.heap.size := fun i y hy e => by
        have := hown y.sb ((hO _).1 ⟨i, y, hy, rfl⟩)
        omega
      have hrb : rb ≠ w.heap.size := by have := h.rbl; omega
      have hgl : g < w.heap.size := by
        obtain ⟨g', cap', e, _, hgl, _⟩ := h.rows
        simp at e
        obtain ⟨rfl, _⟩ := e
        exact hgl
      refine ⟨hX'.n1, hX'.np1, hX'.q1, (hf.block _ hX'.rbl hrb).trans hX'.blk, owns_at hX'.row hf (fun k hk e => ?_), hX'.len, fun i y hy => ?_, hX'.apart, hX'.low⟩
      · simp [Value.ownBlock] at hk
        omega
      · obtain ⟨u, hu⟩ := hX'.it i y hy
        refine ⟨u, hu.frame hf.toDc (hs i y hy) (fun k hk e => ?_)⟩
        subst e
        obtain ⟨c', hc'⟩ := row_tid hu.own _ hk
        exact tid_ne (by decide) hbx hc'
    · exact ⟨hf.os.trans hF.os, hf.tape.trans hF.tape, hf.output.trans hF.output, Nat.le_trans hF.size hf.size, fun k hk hn => (hf.block k (Nat.lt_of_lt_of_le hk hF.size) (fun e => by omega)).trans (hF.block k hk hn)⟩
  have e3 : bA (some c) = (c : Int) := rfl
  rw [e3] at HBEST
  simp only [Option.isSome_some] at HBEST
  generalize bI X (some c) = ti at *
  generalize bK X (some c) = kc at *
  clear h hbb hbB hx hcl e3
  go_enter Try.func56, Try.ntmps56
  go_wp2_with (first
    | (go_at_call 37; refine (HBEST.out).mono ?_; rintro e w2 ⟨rfl, hb2⟩; obtain ⟨hbw, _, hblk⟩ := HBW.out _ (hb2.alloc hb2.size (.cells #[.bool kc.e, .int .u64 kc.d, .int .u8 kc.l] 25)); have hlt := (HBW.out _ hb2).2.1; have y0 : ¬ w.heap.size = w2.heap.size := (by omega); have y0' : ¬ w2.heap.size = w.heap.size := (by omega); obtain ⟨⟨t1, t2⟩, ht⟩ := HTK.out _ hbw; have HT := veil ht; have HBLK := veil hblk; have HBK := veil (World.alloc_heap_new w2 (.cells #[.bool kc.e, .int .u64 kc.d, .int .u8 kc.l] 25)); clear hb2 hbw hblk ht)
    | (go_at_call 82; refine (HT.out).mono ?_; rintro e w3 ⟨rfl, hL, hf⟩; have HL := veil hL; have HBLK3 := veil (HNE.out _ _ hf _ (Nat.le_refl _) _ HBLK.out); have HBK3 := veil (HNE.out _ _ hf _ (Nat.le_of_lt hlt) _ HBK.out); clear hL hf))
  have n0 := (blk_cell HBLK3.out 0).1
  have n1 := (blk_cell HBLK3.out 1).1
  have n2 := (blk_cell HBLK3.out 2).1
  have f0 := (blk_cell HBLK3.out 0).2
  have f1 := (blk_cell HBLK3.out 1).2
  have f2 := (blk_cell HBLK3.out 2).2
  have s0 := (blk_cell HBK3.out 0).1
  have s1 := (blk_cell HBK3.out 1).1
  have s2 := (blk_cell HBK3.out 2).1
  simp only [List.getElem?_toArray, List.getElem?_cons_zero, List.getElem?_cons_succ] at n0 n1 n2 s0 s1 s2
  have HEND := veil (HLD.out w3 (key3 w3 w.heap.size kc) HL.out ⟨_, HBLK3.out⟩ (fr_key3 _ _ _))
  clear HBLK HBK HT HBEST HTK HBW HNE t1 t2
  generalize w2.heap.size = B2 at s0 s1 s2 y0 y0' ⊢
  go_region_held3 (fun w' => w'.cell? ⟨B2, 0, none⟩ = some (.bool kc.e) ∧ w'.cell? ⟨B2, 1, none⟩ = some (.int .u64 kc.d) ∧ w'.cell? ⟨B2, 2, none⟩ = some (.int .u8 kc.l))
    (first
      | exact ⟨s0, s1, s2⟩
      | go_keep)
    (first | fail)
  go_wp2
  refine bodyPost_ret (v := .tuple #[.int .i64 ti, .agg #[.bool kc.e, .int .u64 kc.d, .int .u8 kc.l], .int .i64 (c : Int), .bool true]) ?_ rfl ?_
  · simp [results, Try.f56, go_sem, n0, n1, n2]
  refine ⟨rfl, ?_⟩
  obtain ⟨⟨X', hX', hG, hO⟩, hF⟩ := HEND.out
  exact ⟨⟨X', hX'.heap rfl, hG, hO⟩, ⟨hF.os, hF.tape, hF.output, hF.size, hF.block⟩⟩
theorem rtakeD_all (h : IsD w base rb n np q v X) (p d : Int) (hd : 0 ≤ d ∧ d < 18446744073709551616) :
    Calls Try.prog 56 #[.pointer (some ⟨rb, 0, none⟩), .int .i64 p, .int .u64 d] w fun e w' => e = .returned (.tuple #[.int .i64 (bI X (bb np X p d)), .agg #[.bool (bK X (bb np X p d)).e, .int .u64 (bK X (bb np X p d)).d, .int .u8 (bK X (bb np X p d)).l], .int .i64 (bA (bb np X p d)), .bool (bb np X p d).isSome]) ∧ LeavesD w w' base rb n np q v X (ptkG np X p d) := by
  unfold ptkG
  cases hbb : bb np X p d with
  | none =>
    refine (rtakeD_no h p d hd hbb).mono ?_
    rintro e w' ⟨rfl, hb⟩
    exact ⟨rfl, LeavesD.same h hb⟩
  | some c =>
    obtain ⟨hp, hb, x, z, M', hx, hM⟩ := bb_at hbb
    obtain ⟨g, cap, rfl, _⟩ := h.rows
    have e : MM X c = x.M := MM_at hx
    have := rtakeD_at h p d hd hbb hx
    rw [← e] at this
    exact this
end
end Go.Proofs.Ytlfejgjhamcahaa

namespace Go.Proofs.Ytlfejgjhamcahaa
open Go.RowKit Go.Lib
set_option linter.unusedVariables false
attribute [local go_sem ↓] Go.wp_at_zero Go.wp_at_succ

theorem infoSetD : (Try.prog.info? 82).map (fun i => (i.zero, i.size, i.bytes)) = some (some (.pointer none), 1, 8) := by kernel_rfl
/-- The document's sets while they are made, in blocks from base on. -/
structure BldD (w0 wr : World) (base rb n np q : Nat) (v : Value) (X : List Hd) : Prop where
  blk : wr.heap[rb]? = some (.cells #[.int .i64 (np : Int), .int .i64 (n : Int), .int .i64 (q : Int), v] 81 (0, 0))
  row : wr.ownsRow base 82 1 v X.length (ptrs X)
  it : ∀ (i : Nat) (x : Hd), X[i]? = some x → ∃ u, Dc.IsR wr base x.sb n n u x.M
  apart : ∀ (i j : Nat) (x y : Hd), X[i]? = some x → X[j]? = some y → i ≠ j → x.sb ≠ y.sb
  low : base ≤ rb ∧ ∀ (i : Nat) (x : Hd), X[i]? = some x → base ≤ x.sb
  bel : Below base w0 wr
  bs : base ≤ w0.heap.size
section
variable {w0 wr w1 w3 : World} {base rb n np q : Nat} {v v' : Value} {X : List Hd} {x : Hd}
theorem BldD.rbl (h : BldD w0 wr base rb n np q v X) : rb < wr.heap.size := (Array.getElem?_eq_some_iff.1 h.blk).1
theorem BldD.size (h : BldD w0 wr base rb n np q v X) : base ≤ wr.heap.size := Nat.le_trans h.bs h.bel.size
theorem BldD.cell (h : BldD w0 wr base rb n np q v X) {W : World} (hW : Below wr.heap.size wr W) : W.cell? ⟨rb, 3, none⟩ = some v := by
  rw [hW.cell (p := ⟨rb, 3, none⟩) h.rbl]
  unfold World.cell?
  simp only [h.blk]
  rfl
theorem snoc_at {X : List Hd} {x y : Hd} {i : Nat} (h : (X ++ [x])[i]? = some y) : X[i]? = some y ∨ (i = X.length ∧ y = x) := by
  rcases Nat.lt_or_ge i X.length with q | q
  · rw [List.getElem?_append_left q] at h
    exact .inl h
  · rw [List.getElem?_append_right q] at h
    rcases Nat.eq_zero_or_pos (i - X.length) with e | e
    · rw [e] at h
      simp at h
      exact .inr ⟨by omega, h.symm⟩
    · rw [List.getElem?_eq_none (by simp; omega)] at h
      cases h
theorem isR_base {w : World} {base base' rb n most : Nat} {u : Value} {M : List En} (h : Dc.IsR w base' rb n most u M) (hb : base ≤ base') : Dc.IsR w base rb n most u M :=
  ⟨h.nle, h.mle, h.len, h.nd, h.rng, h.blk, Dc.ownsRow_base h.own hb, h.ne, Nat.le_trans hb h.bs⟩
/-- One more. -/
theorem BldD.step (h : BldD w0 wr base rb n np q v X) (hx : ∃ u, Dc.IsR w1 base x.sb n n u x.M) (ho : wr.heap.size ≤ x.sb) (hb : Below wr.heap.size wr w1)
    (cs : Array Value) (hr : w3.ownsRow base 82 1 v' (X.length + 1) (ptrs X ++ [.pointer (some ⟨x.sb, 0, none⟩)])) (hg : (w1.alloc (.cells cs 82)).grownBy w3 v.ownBlock) :
    w3.cell? ⟨rb, 3, none⟩ = some v ∧ w3.frozen? ⟨rb, 3, none⟩ = false ∧ BldD w0 (w3.setCell ⟨rb, 3, none⟩ v') base rb n np q v' (X ++ [x]) := by
  have hbs := hb.size
  have hsz := h.size
  have hrl := h.rbl
  have hf1 : Fr (fun k => some k = v.ownBlock) wr (w1.alloc (.cells cs 82)) := Fr.of_below' (hb.alloc hbs _)
  have hf2 : Fr (fun k => some k = v.ownBlock) (w1.alloc (.cells cs 82)) w3 := ⟨hg.os, hg.tape, hg.output, hg.size, hg.block⟩
  have hf3 := hf1.trans hf2
  have hvt := row_tid h.row
  have hrv : ¬ (some rb = v.ownBlock) := fun e => by
    obtain ⟨c, hc⟩ := hvt rb e.symm
    exact tid_ne (by decide) h.blk hc
  have hblk : w3.heap[rb]? = some (.cells #[.int .i64 (np : Int), .int .i64 (n : Int), .int .i64 (q : Int), v] 81 (0, 0)) := by
    rw [hf3.block _ hrl hrv]; exact h.blk
  have hv'rb : v'.ownBlock ≠ some rb := fun e => by
    obtain ⟨c, hc⟩ := row_tid hr rb e
    exact tid_ne (by decide) hblk hc
  have hf4 : Fr (fun k => some k = v.ownBlock ∨ k = rb) wr (w3.setCell ⟨rb, 3, none⟩ v') := (hf3.wide (fun k _ q => .inl q)).setCell (a := ⟨rb, 3, none⟩) (.inr rfl) _
  have hx3 : Fr (fun k => some k = v.ownBlock ∨ k = rb) w1 (w3.setCell ⟨rb, 3, none⟩ v') := ((((Fr.refl _ _).alloc (.cells cs 82)).trans hf2).wide (fun k _ q => .inl q)).setCell (a := ⟨rb, 3, none⟩) (.inr rfl) _
  have hvt1 : ∀ k, some k = v.ownBlock → ∃ c, w1.heap[k]? = some (.cells c 82 (0, 0)) := fun k e => by
    obtain ⟨c, hc⟩ := hvt k e.symm
    exact ⟨c, (hb.block k (Array.getElem?_eq_some_iff.1 hc).1).trans hc⟩
  have hrb1 : w1.heap[rb]? = some (.cells #[.int .i64 (np : Int), .int .i64 (n : Int), .int .i64 (q : Int), v] 81 (0, 0)) := (hb.block rb hrl).trans h.blk
  have keep : ∀ (y : Hd) (u : Value), Dc.IsR w1 base y.sb n n u y.M → Dc.IsR (w3.setCell ⟨rb, 3, none⟩ v') base y.sb n n u y.M := fun y u hu => by
    refine hu.frame hx3.toDc ?_ (fun k hk => ?_)
    · rintro (e | e)
      · obtain ⟨c, hc⟩ := hvt1 _ e
        exact tid_ne (by decide) hu.blk hc
      · rw [e] at hu
        exact tid_ne (by decide) hu.blk hrb1
    · obtain ⟨c', hc'⟩ := row_tid hu.own k hk
      rintro (e | e)
      · obtain ⟨c, hc⟩ := hvt1 _ e
        exact tid_ne (by decide) hc' hc
      · rw [e] at hc'
        exact tid_ne (by decide) hc' hrb1
  refine ⟨by unfold World.cell?; simp only [hblk]; rfl, by unfold World.frozen?; simp only [hblk]; rfl, ?_⟩
  refine ⟨Go.Joins.block_setCell hblk v', ?_, ?_, ?_, ?_, ?_, h.bs⟩
  · rw [List.length_append]
    have e : ptrs (X ++ [x]) = ptrs X ++ [.pointer (some ⟨x.sb, 0, none⟩)] := by unfold ptrs; rw [List.map_append]; rfl
    rw [e]
    exact ownsRow_setCell_other hr hv'rb v'
  · intro i y hy
    rcases snoc_at hy with q1 | ⟨_, rfl⟩
    · obtain ⟨u, hu⟩ := h.it i y q1
      exact ⟨u, keep y u (hu.below hb)⟩
    · obtain ⟨u, hu⟩ := hx
      exact ⟨u, keep y u hu⟩
  · intro i j y z hy hz hne
    have hlt : ∀ (i : Nat) (y : Hd), X[i]? = some y → y.sb < wr.heap.size := fun i y hy => by
      obtain ⟨u, hu⟩ := h.it i y hy
      exact hu.lt
    rcases snoc_at hy with q1 | ⟨e1, rfl⟩
    · rcases snoc_at hz with q2 | ⟨e2, rfl⟩
      · exact h.apart i j y z q1 q2 hne
      · have := hlt i y q1; omega
    · rcases snoc_at hz with q2 | ⟨e2, rfl⟩
      · have := hlt j z q2; omega
      · omega
  · refine ⟨h.low.1, fun i y hy => ?_⟩
    rcases snoc_at hy with q1 | ⟨_, rfl⟩
    · exact h.low.2 i y q1
    · omega
  · refine h.bel.trans (hf4.below hsz ?_)
    rintro k (e | e)
    · exact (Dc.own_ge h.row k e.symm).1
    · have := h.low.1; omega
/-- All that is wanted of the way behind the call that makes one more. -/
def AfterD (w0 wr : World) (base rb n np q : Nat) (a : Option Addr) (c : Nat) (X : List Hd) : Prop :=
  ∀ (w1 : World) (x : Hd), (∃ u, Dc.IsR w1 base x.sb n n u x.M) → wr.heap.size ≤ x.sb → Below wr.heap.size wr w1 →
    w1.cell? ⟨rb, 3, none⟩ = some (.slice a X.length c) ∧ (∀ o, (w1.alloc o).cell? ⟨rb, 3, none⟩ = some (.slice a X.length c)) ∧
    Hid (∀ W : World, W.heap = (w1.alloc (.cells #[.pointer (some ⟨x.sb, 0, none⟩)] 82)).heap → W.ownsRow base 82 1 (.slice a X.length c) X.length (ptrs X)) ∧
    Hid (∀ W : World, W.heap = (w1.alloc (.cells #[.pointer (some ⟨x.sb, 0, none⟩)] 82)).heap → base ≤ W.heap.size) ∧
    Hid (∀ (W w3 : World) (v' : Value), W = w1.alloc (.cells #[.pointer (some ⟨x.sb, 0, none⟩)] 82) → w3.ownsRow base 82 1 v' (X.length + 1) (ptrs X ++ [.pointer (some ⟨x.sb, 0, none⟩)]) → W.grownBy w3 (Value.ownBlock (.slice a X.length c)) →
      w3.cell? ⟨rb, 3, none⟩ = some (.slice a X.length c) ∧ w3.frozen? ⟨rb, 3, none⟩ = false ∧ BldD w0 (w3.setCell ⟨rb, 3, none⟩ v') base rb n np q v' (X ++ [x]))
theorem BldD.after {a : Option Addr} {c : Nat} (h : BldD w0 wr base rb n np q (.slice a X.length c) X) : AfterD w0 wr base rb n np q a c X := by
  intro w1 x hx ho hb
  have hba := fun o => hb.alloc hb.size o
  refine ⟨h.cell hb, fun o => h.cell (hba o), fun W hW => ?_, fun W hW => ?_, fun W w3 v' hW hr hg => ?_⟩
  · have := owns_at h.row (Fr.of_below' (S := fun _ => False) (hba (.cells #[.pointer (some ⟨x.sb, 0, none⟩)] 82))) (fun _ _ q => q)
    exact owns_heap this hW
  · rw [hW]
    have := h.size
    have := (hba (.cells #[.pointer (some ⟨x.sb, 0, none⟩)] 82)).size
    omega
  · subst hW
    exact h.step hx ho hb _ hr hg
theorem BldD.isD (h : BldD w0 wr base rb n np q v X) (h1 : 1 ≤ n ∧ n ≤ 1024) (h2 : 1 ≤ np ∧ np ≤ 64) (h3 : 1 ≤ q ∧ q ≤ 256) (hl : X.length = np + 1) : IsD wr base rb n np q v X :=
  ⟨h1, h2, h3, h.blk, h.row, hl, h.it, h.apart, h.low⟩
end
/-- What New leaves. -/
def NewD (w : World) (np n q : Nat) (e : Ending) (w' : World) : Prop := ∃ v X, e = .returned (.pointer (some ⟨w.heap.size, 0, none⟩)) ∧ X.length = np + 1 ∧ (∀ (i : Nat) (x : Hd), X[i]? = some x → x.M = []) ∧ BldD w w' w.heap.size w.heap.size n np q v X
set_option maxHeartbeats 4000000 in
theorem rnewD_ok (np n q : Nat) (w : World) (h1 : 1 ≤ np) (h2 : np ≤ 64) (h3 : 1 ≤ n) (h4 : n ≤ 1024) (h5 : 1 ≤ q) (h6 : q ≤ 256) :
    Calls Try.prog 36 #[.int .i64 np, .int .i64 n, .int .i64 q] w (NewD w np n q) := by
  obtain ⟨i0, hi0, hz0, hz1, hz2⟩ := info_partsP infoSetD
  have e1 : ¬ (np : Int) < 1 := by omega
  have e2 : ¬ (64 : Int) < (np : Int) := by omega
  have e3 : ¬ (n : Int) < 1 := by omega
  have e4 : ¬ (1024 : Int) < (n : Int) := by omega
  have e5 : ¬ (q : Int) < 1 := by omega
  have e6 : ¬ (256 : Int) < (q : Int) := by omega
  have HB0 : Hid (BldD w (w.alloc (.cells #[.int .i64 (np : Int), .int .i64 (n : Int), .int .i64 (q : Int), .slice none 0 0] 81)) w.heap.size w.heap.size n np q (.slice none 0 0) []) :=
    ⟨World.alloc_heap_new w _, World.ownsRow_nil _ _ _ _, by simp, by simp, ⟨Nat.le_refl _, by simp⟩, (Below.refl _ _).alloc (Nat.le_refl _) _, Nat.le_refl _⟩
  go_enter Try.func36, Try.ntmps36
  go_wp2
  go_loopw [8] (fun i wr => ∃ (j : Nat) (v : Value) (X : List Hd), j ≤ np + 1 ∧ X.length = j ∧ i = .int .i64 j ∧ (∀ (i : Nat) (x : Hd), X[i]? = some x → x.M = []) ∧ BldD w wr w.heap.size w.heap.size n np q v X) (fun i _ => np + 1 - (intOf i).toNat)
  case atStart => exact ⟨0, _, _, by omega, rfl, rfl, by simp, HB0.out⟩
  case round =>
    obtain ⟨j, v, X, hj, hX, rfl, hM, hB⟩ := hrel
    obtain ⟨a, c, rfl⟩ := Dc.owns_slice hB.row
    by_cases hjl : j ≤ np
    · have hjl' : (j : Int) ≤ (np : Int) := by omega
      have c0 := hB.cell (Below.refl _ _)
      have HNEW : Hid (∀ W, Calls Try.prog 62 #[.int .i64 n, .int .i64 n] W fun e w' => e = .returned (.pointer (some ⟨W.heap.size, 0, none⟩)) ∧ Dc.IsR w' W.heap.size W.heap.size n n (.slice none 0 0) [] ∧ Below W.heap.size W w') := fun W => Dc.rnew_ok n n W h3 h4 h3 (Nat.le_refl _)
      have HAF := veil hB.after
      have HBB := veil hB
      have HHj := veil hX
      have HMM := veil hM
      have hl64 : X.length ≤ 65 := by omega
      clear hB hX hM
      go_wp2
      refine wp_region_held_drew (S := (fun _ => True)) (by kernel_rfl) ?_ (fun hHeld => ?_)
      · trivial
      refine wpAnyH_take (i := 0) (v := ?_) rfl (by kernel_rfl) (by kernel_rfl) (by kernel_rfl) (fun _ _ _ h => h) (Or.inl ⟨by rfl, ?v0⟩) (by assumption) ?_
      case v0 => (intro w hSw; (try dsimp only at hSw); go_simp; try with_reducible rfl)
      try simp only [Act.put, List.setIfInBounds_toArray, List.set_cons_zero, List.set_cons_succ, List.getElem_toArray, List.getElem_cons_zero]
      refine wpAnyH_take (i := 1) (v := ?_) rfl (by kernel_rfl) (by kernel_rfl) (by kernel_rfl) (fun _ _ _ h => h) (Or.inl ⟨by rfl, ?v1⟩) (by assumption) ?_
      case v1 => (intro w hSw; (try dsimp only at hSw); go_simp; try with_reducible rfl)
      try simp only [Act.put, List.setIfInBounds_toArray, List.set_cons_zero, List.set_cons_succ, List.getElem_toArray, List.getElem_cons_succ, List.getElem_cons_zero]
      refine wpAnyH_take (i := 2) (v := ?_) rfl (by kernel_rfl) (by kernel_rfl) (by kernel_rfl) (fun _ _ _ h => h) (Or.inl ⟨by rfl, ?v2⟩) (by assumption) ?_
      case v2 => (intro w hSw; (try dsimp only at hSw); go_simp; try with_reducible rfl)
      try simp only [Act.put, List.setIfInBounds_toArray, List.set_cons_zero, List.set_cons_succ, List.getElem_toArray, List.getElem_cons_succ, List.getElem_cons_zero]
      refine wpAnyH_take (i := 3) (v := ?_) rfl (by kernel_rfl) (by kernel_rfl) (by kernel_rfl) (fun _ _ _ h => h) (Or.inl ⟨by rfl, ?v3⟩) (by assumption) ?_
      case v3 => (intro w hSw; (try dsimp only at hSw); go_simp; try with_reducible rfl)
      try simp only [Act.put, List.setIfInBounds_toArray, List.set_cons_zero, List.set_cons_succ, List.getElem_toArray, List.getElem_cons_succ, List.getElem_cons_zero]
      refine wpAnyH_take (i := 5) (v := ?_) rfl (by kernel_rfl) (by kernel_rfl) (by kernel_rfl) (fun _ _ _ h => h) (Or.inl ⟨by rfl, ?v5⟩) (by assumption) ?_
      case v5 => (intro w hSw; (try dsimp only at hSw); go_simp; try with_reducible rfl)
      try simp only [Act.put, List.setIfInBounds_toArray, List.set_cons_zero, List.set_cons_succ, List.getElem_toArray, List.getElem_cons_succ, List.getElem_cons_zero]
      refine wpAnyH_take (i := 6) (v := ?_) rfl (by kernel_rfl) (by kernel_rfl) (by kernel_rfl) (fun _ _ _ h => h) (Or.inl ⟨by rfl, ?v6⟩) (by assumption) ?_
      case v6 => (intro w hSw; (try dsimp only at hSw); go_simp; try with_reducible rfl)
      try simp only [Act.put, List.setIfInBounds_toArray, List.set_cons_zero, List.set_cons_succ, List.getElem_toArray, List.getElem_cons_succ, List.getElem_cons_zero]
      refine wpAnyH_ready (rs := [4, 7]) (by kernel_rfl) (by simp) ?_
      refine AllReadyH.cons rfl (fun K hK => ?_) (AllReadyH.cons rfl (fun K hK => ?_) AllReadyH.nil)
      · skip
        go_simp
        refine hK.out _ _ ?_ (fun hHeld => ?_)
        · trivial
        clear hK K
        try simp only [Act.put, List.setIfInBounds_toArray, List.set_cons_zero, List.set_cons_succ, List.getElem_toArray, List.getElem_cons_succ, List.getElem_cons_zero]
        refine wpAnyH_ready (rs := [7]) (by kernel_rfl) (by simp) ?_
        refine AllReadyH.cons rfl (fun K hK => ?_) AllReadyH.nil
        go_simp
        go_at_call 62
        refine (HNEW.out _).mono ?_
        rintro e w1 ⟨rfl, hr1, hb1⟩
        obtain ⟨x, hxs, hxM⟩ : ∃ x : Hd, x.sb = wr.heap.size ∧ x.M = [] := ⟨⟨wr.heap.size, 0, 0, 0, 0, 0, []⟩, rfl, rfl⟩
        obtain ⟨k1, k2, HROW, HSZ, HST⟩ := HAF.out w1 x ⟨_, by rw [hxs, hxM]; exact isR_base hr1 HBB.out.size⟩ (by rw [hxs]; exact Nat.le_refl _) (by exact below_pre' hb1 rfl rfl rfl rfl)
        have hxs' : wr.drew.heap.size = x.sb := hxs.symm
        rw [hxs']
        have HXM := veil hxM
        clear hr1 hb1 hxs hxM
        refine hK.out _ _ ?_ (fun hHeld => ?_)
        · trivial
        clear hK K
        try simp only [Act.put, List.setIfInBounds_toArray, List.set_cons_zero, List.set_cons_succ, List.getElem_toArray, List.getElem_cons_succ, List.getElem_cons_zero]
        refine wpAnyH_ready (rs := [8]) (by kernel_rfl) (by simp) ?_
        refine AllReadyH.cons rfl (fun K hK => ?_) AllReadyH.nil
        go_simp
        refine hK.out _ _ ?_ (fun hHeld => ?_)
        · trivial
        clear hK K
        try simp only [Act.put, List.setIfInBounds_toArray, List.set_cons_zero, List.set_cons_succ, List.getElem_toArray, List.getElem_cons_succ, List.getElem_cons_zero]
        refine wpAnyH_ready (rs := [9]) (by kernel_rfl) (by simp) ?_
        refine AllReadyH.cons rfl (fun K hK => ?_) AllReadyH.nil
        refine step_append_at _ (by rfl) _ _ _ (by rfl) w.heap.size 82 i0 (.pointer none) 1 8 Try.underlying79 hi0 hz0 hz1 hz2 rfl (by omega) (.slice a X.length c) X.length (ptrs X) (by rfl) (by exact HROW.out _ rfl) ⟨w1.heap.size, 0, none⟩ 1 1 [.pointer (some ⟨x.sb, 0, none⟩)] (by rfl) rfl (by exact Dc.cell_one_new _ _ _) (by intro u hu; simp at hu; rw [hu]; rfl) (by unfold maxLen; omega) (by omega) (by exact HSZ.out _ rfl) ?_
        intro v' w3 hr3 hg3 hat3
        obtain ⟨z1, z2, z3⟩ := HST.out _ w3 v' rfl hr3 hg3
        have HX := veil z3
        obtain ⟨a', c', rfl⟩ := Dc.owns_slice hr3
        clear z3 hr3 hg3 hat3
        refine hK.out _ _ ?_ (fun hHeld => ?_)
        · trivial
        clear hK K
        try simp only [Act.put, List.setIfInBounds_toArray, List.set_cons_zero, List.set_cons_succ, List.getElem_toArray, List.getElem_cons_succ, List.getElem_cons_zero]
        refine wpAnyH_take (i := 10) (v := ?_) rfl (by kernel_rfl) (by kernel_rfl) (by kernel_rfl) (fun _ _ _ h => h) (Or.inl ⟨by rfl, ?v10⟩) (by assumption) ?_
        case v10 => (intro w hSw; (try dsimp only at hSw); go_simp; try with_reducible rfl)
        try simp only [Act.put, List.setIfInBounds_toArray, List.set_cons_zero, List.set_cons_succ, List.getElem_toArray, List.getElem_cons_succ, List.getElem_cons_zero]
        refine wpAnyH_take (i := 11) (v := ?_) rfl (by kernel_rfl) (by kernel_rfl) (by kernel_rfl) (fun _ _ _ h => h) (Or.inl ⟨by rfl, ?v11⟩) (by assumption) ?_
        case v11 => (intro w hSw; (try dsimp only at hSw); go_simp; try with_reducible rfl)
        try simp only [Act.put, List.setIfInBounds_toArray, List.set_cons_zero, List.set_cons_succ, List.getElem_toArray, List.getElem_cons_succ, List.getElem_cons_zero]
        refine wpAnyH_ready (rs := [12]) (by kernel_rfl) (by simp) ?_
        refine AllReadyH.cons rfl (fun K hK => ?_) AllReadyH.nil
        go_simp
        refine hK.out _ _ ?_ (fun hHeld => ?_)
        · trivial
        clear hK K
        try simp only [Act.put, List.setIfInBounds_toArray, List.set_cons_zero, List.set_cons_succ, List.getElem_toArray, List.getElem_cons_succ, List.getElem_cons_zero]
        refine wpAnyH_done (by kernel_rfl) ?_ _
        go_wp2
        go_roundw
        case rel => exact ⟨j + 1, _, _, by omega, by have := HHj.out; simp; omega, by go_num, (fun i y hy => by rcases snoc_at hy with q1 | ⟨_, rfl⟩; exact HMM.out i y q1; exact HXM.out), HX.out⟩
        case measure => simp [intOf]; omega
      · skip
        go_simp
        go_at_call 62
        refine (HNEW.out _).mono ?_
        rintro e w1 ⟨rfl, hr1, hb1⟩
        obtain ⟨x, hxs, hxM⟩ : ∃ x : Hd, x.sb = wr.heap.size ∧ x.M = [] := ⟨⟨wr.heap.size, 0, 0, 0, 0, 0, []⟩, rfl, rfl⟩
        obtain ⟨k1, k2, HROW, HSZ, HST⟩ := HAF.out w1 x ⟨_, by rw [hxs, hxM]; exact isR_base hr1 HBB.out.size⟩ (by rw [hxs]; exact Nat.le_refl _) (by exact below_pre' hb1 rfl rfl rfl rfl)
        have hxs' : wr.drew.heap.size = x.sb := hxs.symm
        rw [hxs']
        have HXM := veil hxM
        clear hr1 hb1 hxs hxM
        refine hK.out _ _ ?_ (fun hHeld => ?_)
        · trivial
        clear hK K
        try simp only [Act.put, List.setIfInBounds_toArray, List.set_cons_zero, List.set_cons_succ, List.getElem_toArray, List.getElem_cons_succ, List.getElem_cons_zero]
        refine wpAnyH_ready (rs := [4, 8]) (by kernel_rfl) (by simp) ?_
        refine AllReadyH.cons rfl (fun K hK => ?_) (AllReadyH.cons rfl (fun K hK => ?_) AllReadyH.nil)
        · skip
          go_simp
          refine hK.out _ _ ?_ (fun hHeld => ?_)
          · trivial
          clear hK K
          try simp only [Act.put, List.setIfInBounds_toArray, List.set_cons_zero, List.set_cons_succ, List.getElem_toArray, List.getElem_cons_succ, List.getElem_cons_zero]
          refine wpAnyH_ready (rs := [8]) (by kernel_rfl) (by simp) ?_
          refine AllReadyH.cons rfl (fun K hK => ?_) AllReadyH.nil
          go_simp
          refine hK.out _ _ ?_ (fun hHeld => ?_)
          · trivial
          clear hK K
          try simp only [Act.put, List.setIfInBounds_toArray, List.set_cons_zero, List.set_cons_succ, List.getElem_toArray, List.getElem_cons_succ, List.getElem_cons_zero]
          refine wpAnyH_ready (rs := [9]) (by kernel_rfl) (by simp) ?_
          refine AllReadyH.cons rfl (fun K hK => ?_) AllReadyH.nil
          refine step_append_at _ (by rfl) _ _ _ (by rfl) w.heap.size 82 i0 (.pointer none) 1 8 Try.underlying79 hi0 hz0 hz1 hz2 rfl (by omega) (.slice a X.length c) X.length (ptrs X) (by rfl) (by exact HROW.out _ rfl) ⟨w1.heap.size, 0, none⟩ 1 1 [.pointer (some ⟨x.sb, 0, none⟩)] (by rfl) rfl (by exact Dc.cell_one_new _ _ _) (by intro u hu; simp at hu; rw [hu]; rfl) (by unfold maxLen; omega) (by omega) (by exact HSZ.out _ rfl) ?_
          intro v' w3 hr3 hg3 hat3
          obtain ⟨z1, z2, z3⟩ := HST.out _ w3 v' rfl hr3 hg3
          have HX := veil z3
          obtain ⟨a', c', rfl⟩ := Dc.owns_slice hr3
          clear z3 hr3 hg3 hat3
          refine hK.out _ _ ?_ (fun hHeld => ?_)
          · trivial
          clear hK K
          try simp only [Act.put, List.setIfInBounds_toArray, List.set_cons_zero, List.set_cons_succ, List.getElem_toArray, List.getElem_cons_succ, List.getElem_cons_zero]
          refine wpAnyH_take (i := 10) (v := ?_) rfl (by kernel_rfl) (by kernel_rfl) (by kernel_rfl) (fun _ _ _ h => h) (Or.inl ⟨by rfl, ?v10⟩) (by assumption) ?_
          case v10 => (intro w hSw; (try dsimp only at hSw); go_simp; try with_reducible rfl)
          try simp only [Act.put, List.setIfInBounds_toArray, List.set_cons_zero, List.set_cons_succ, List.getElem_toArray, List.getElem_cons_succ, List.getElem_cons_zero]
          refine wpAnyH_take (i := 11) (v := ?_) rfl (by kernel_rfl) (by kernel_rfl) (by kernel_rfl) (fun _ _ _ h => h) (Or.inl ⟨by rfl, ?v11⟩) (by assumption) ?_
          case v11 => (intro w hSw; (try dsimp only at hSw); go_simp; try with_reducible rfl)
          try simp only [Act.put, List.setIfInBounds_toArray, List.set_cons_zero, List.set_cons_succ, List.getElem_toArray, List.getElem_cons_succ, List.getElem_cons_zero]
          refine wpAnyH_ready (rs := [12]) (by kernel_rfl) (by simp) ?_
          refine AllReadyH.cons rfl (fun K hK => ?_) AllReadyH.nil
          go_simp
          refine hK.out _ _ ?_ (fun hHeld => ?_)
          · trivial
          clear hK K
          try simp only [Act.put, List.setIfInBounds_toArray, List.set_cons_zero, List.set_cons_succ, List.getElem_toArray, List.getElem_cons_succ, List.getElem_cons_zero]
          refine wpAnyH_done (by kernel_rfl) ?_ _
          go_wp2
          go_roundw
          case rel => exact ⟨j + 1, _, _, by omega, by have := HHj.out; simp; omega, by go_num, (fun i y hy => by rcases snoc_at hy with q1 | ⟨_, rfl⟩; exact HMM.out i y q1; exact HXM.out), HX.out⟩
          case measure => simp [intOf]; omega
        · skip
          go_simp
          refine hK.out _ _ ?_ (fun hHeld => ?_)
          · trivial
          clear hK K
          try simp only [Act.put, List.setIfInBounds_toArray, List.set_cons_zero, List.set_cons_succ, List.getElem_toArray, List.getElem_cons_succ, List.getElem_cons_zero]
          refine wpAnyH_ready (rs := [4]) (by kernel_rfl) (by simp) ?_
          refine AllReadyH.cons rfl (fun K hK => ?_) AllReadyH.nil
          go_simp
          refine hK.out _ _ ?_ (fun hHeld => ?_)
          · trivial
          clear hK K
          try simp only [Act.put, List.setIfInBounds_toArray, List.set_cons_zero, List.set_cons_succ, List.getElem_toArray, List.getElem_cons_succ, List.getElem_cons_zero]
          refine wpAnyH_ready (rs := [9]) (by kernel_rfl) (by simp) ?_
          refine AllReadyH.cons rfl (fun K hK => ?_) AllReadyH.nil
          refine step_append_at _ (by rfl) _ _ _ (by rfl) w.heap.size 82 i0 (.pointer none) 1 8 Try.underlying79 hi0 hz0 hz1 hz2 rfl (by omega) (.slice a X.length c) X.length (ptrs X) (by rfl) (by exact HROW.out _ rfl) ⟨w1.heap.size, 0, none⟩ 1 1 [.pointer (some ⟨x.sb, 0, none⟩)] (by rfl) rfl (by exact Dc.cell_one_new _ _ _) (by intro u hu; simp at hu; rw [hu]; rfl) (by unfold maxLen; omega) (by omega) (by exact HSZ.out _ rfl) ?_
          intro v' w3 hr3 hg3 hat3
          obtain ⟨z1, z2, z3⟩ := HST.out _ w3 v' rfl hr3 hg3
          have HX := veil z3
          obtain ⟨a', c', rfl⟩ := Dc.owns_slice hr3
          clear z3 hr3 hg3 hat3
          refine hK.out _ _ ?_ (fun hHeld => ?_)
          · trivial
          clear hK K
          try simp only [Act.put, List.setIfInBounds_toArray, List.set_cons_zero, List.set_cons_succ, List.getElem_toArray, List.getElem_cons_succ, List.getElem_cons_zero]
          refine wpAnyH_take (i := 10) (v := ?_) rfl (by kernel_rfl) (by kernel_rfl) (by kernel_rfl) (fun _ _ _ h => h) (Or.inl ⟨by rfl, ?v10⟩) (by assumption) ?_
          case v10 => (intro w hSw; (try dsimp only at hSw); go_simp; try with_reducible rfl)
          try simp only [Act.put, List.setIfInBounds_toArray, List.set_cons_zero, List.set_cons_succ, List.getElem_toArray, List.getElem_cons_succ, List.getElem_cons_zero]
          refine wpAnyH_take (i := 11) (v := ?_) rfl (by kernel_rfl) (by kernel_rfl) (by kernel_rfl) (fun _ _ _ h => h) (Or.inl ⟨by rfl, ?v11⟩) (by assumption) ?_
          case v11 => (intro w hSw; (try dsimp only at hSw); go_simp; try with_reducible rfl)
          try simp only [Act.put, List.setIfInBounds_toArray, List.set_cons_zero, List.set_cons_succ, List.getElem_toArray, List.getElem_cons_succ, List.getElem_cons_zero]
          refine wpAnyH_ready (rs := [12]) (by kernel_rfl) (by simp) ?_
          refine AllReadyH.cons rfl (fun K hK => ?_) AllReadyH.nil
          go_simp
          refine hK.out _ _ ?_ (fun hHeld => ?_)
          · trivial
          clear hK K
          try simp only [Act.put, List.setIfInBounds_toArray, List.set_cons_zero, List.set_cons_succ, List.getElem_toArray, List.getElem_cons_succ, List.getElem_cons_zero]
          refine wpAnyH_done (by kernel_rfl) ?_ _
          go_wp2
          go_roundw
          case rel => exact ⟨j + 1, _, _, by omega, by have := HHj.out; simp; omega, by go_num, (fun i y hy => by rcases snoc_at hy with q1 | ⟨_, rfl⟩; exact HMM.out i y q1; exact HXM.out), HX.out⟩
          case measure => simp [intOf]; omega
    · have hjl' : ¬ (j : Int) ≤ (np : Int) := by omega
      have HBB := veil hB
      have HMM := veil hM
      clear hB hM
      go_wp2
      go_ret
      exact ⟨_, X, rfl, by omega, HMM.out, HBB.out⟩
theorem ms_nil {X : List Hd} {m : Nat} (hl : X.length = m) (h : ∀ (i : Nat) (x : Hd), X[i]? = some x → x.M = []) : Ms X = List.replicate m [] := by
  apply List.ext_getElem?
  intro i
  rw [List.getElem?_replicate]
  unfold Ms
  rw [List.getElem?_map]
  split
  · have hx : X[i]? = some (X[i]'(by omega)) := List.getElem?_eq_getElem _
    rw [hx]
    exact congrArg some (h i _ hx)
  · rw [List.getElem?_eq_none (by omega)]
    rfl
end Go.Proofs.Ytlfejgjhamcahaa
