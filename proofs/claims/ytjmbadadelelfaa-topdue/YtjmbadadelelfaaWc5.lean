/- The document's wheel: Fork; both wheels side by side. -/
import Derived.Test.YtjmbadadelelfaaWc4
namespace Go.Proofs.Ytjmbadadelelfaa
open Go.RowKit Go.Lib
set_option linter.unusedVariables false
set_option linter.unusedSimpArgs false
attribute [local go_sem ↓] Go.wp_at_zero Go.wp_at_succ
set_option maxHeartbeats 4000000 in
set_option maxRecDepth 100000 in
theorem rfork_some {w : World} {base rb n nw : Nat} {g len cap : Nat} {R : List It} (h : IsR w base rb n nw (.slice (some ⟨g, 0, none⟩) len cap) R) (hl : len = R.length) :
    Calls Try.prog 23 #[.pointer (some ⟨rb, 0, none⟩)] w fun e w' => ∃ rb' v', e = .returned (.pointer (some ⟨rb', 0, none⟩)) ∧ w.heap.size ≤ rb' ∧ IsR w' w.heap.size rb' n nw v' R ∧ Below w.heap.size w w' := by
  obtain ⟨i0, hi0, hz0, hz1, hz2⟩ := info_parts infoItem
  have e0 := h.c0
  have e1 := h.c1
  have e2 := h.c2
  have hrb := h.lt
  have hlen := h.len_le
  have hg : g < w.heap.size := (h.own.lt g rfl).2
  have HN : Hid (∀ w' : World, (∀ a : Addr, a.block < w.heap.size → w'.cell? a = w.cell? a) → ∀ j u, (itemCells R)[j]? = some u → w'.cell? ((⟨g, 0, none⟩ : Addr).add j) = some u) := by
    intro w' hc j u hu
    have hj : j < (itemCells R).length := (List.getElem?_eq_some_iff.1 hu).1
    rw [itemCells_length] at hj
    have hadd : (⟨g, 0, none⟩ : Addr).add j = ⟨g, j, none⟩ := by unfold Addr.add; split <;> simp_all
    rw [hadd, hc _ hg]
    have ho := h.own
    subst hl
    rw [ho.cellAt j (by omega)]
    exact hu
  have HF : Hid (∀ (w1 : World) (v1 : Value), w.heap.size ≤ w1.heap.size → w1.ownsRow w.heap.size 99 2 v1 (0 + len) ([] ++ itemCells R) → Below w.heap.size w w1 →
      IsR (w1.alloc (.cells #[.int .i64 (n : Int), .int .u64 (nw : Int), v1] 87)) w.heap.size w1.heap.size n nw v1 R ∧ Below w.heap.size w (w1.alloc (.cells #[.int .i64 (n : Int), .int .u64 (nw : Int), v1] 87))) := by
    intro w1 v1 hs ho hb
    subst hl
    refine ⟨⟨h.nle, h.good, (MapKept.heap_alloc _ _).1, (by simpa using ho.alloc _), fun q => ?_, by simp; omega⟩, hb.alloc hs _⟩
    have := (ho.lt _ q).2
    omega
  have o1 := itemCells_one R
  have l1 := itemCells_length R
  rw [← hl] at l1 hlen
  have HU := veil Try.underlying85
  have yb : ¬ rb = w.heap.size := by omega
  clear h hl
  have HL : Hid ((w.alloc (.cells #[] 99)).ownsRow w.heap.size 99 2 (.slice (some ⟨w.heap.size, 0, none⟩) 0 0) 0 []) := by
    have := World.ownsRow_lit (base := w.heap.size) (e := 99) (size := 2) w #[] 0 (Nat.le_refl _) (by simp [maxLen]) rfl
    exact this
  have HN2 : Hid (∀ j u, (itemCells R)[j]? = some u → (w.alloc (.cells #[] 99)).cell? ((⟨g, 0, none⟩ : Addr).add j) = some u) := HN.out _ (fun a ha => World.cell?_alloc_lt _ _ _ ha)
  have HK : Hid (∀ w1, (w.alloc (.cells #[] 99)).grownBy w1 (some w.heap.size) → (w1.cell? ⟨rb, 0, none⟩ = some (.int .i64 (n : Int)) ∧ w1.cell? ⟨rb, 1, none⟩ = some (.int .u64 (nw : Int)) ∧ w1.cell? ⟨rb, 2, none⟩ = some (.slice (some ⟨g, 0, none⟩) len cap)) ∧ Below w.heap.size w w1) := by
    intro w1 hg1
    have hb : Below w.heap.size w w1 := ((Below.refl _ _).alloc (Nat.le_refl _) _).grown hg1 (by simp) (fun k hk => by simp at hk; omega)
    exact ⟨⟨(hb.cell (p := ⟨rb, 0, none⟩) hrb).trans e0, (hb.cell (p := ⟨rb, 1, none⟩) hrb).trans e1, (hb.cell (p := ⟨rb, 2, none⟩) hrb).trans e2⟩, hb⟩
  clear HN
  generalize itemCells R = c1 at *
  go_enter Try.func23, Try.ntmps23
  go_wp2
  go_region_held3 (fun w' => w'.cell? ⟨rb, 0, none⟩ = some (.int .i64 (n : Int)) ∧ w'.cell? ⟨rb, 1, none⟩ = some (.int .u64 (nw : Int)) ∧ w'.cell? ⟨rb, 2, none⟩ = some (.slice (some ⟨g, 0, none⟩) len cap)) (first | go_keep | exact (HK.out _ hg1).1)
    ((refine step_append_any _ (by rfl) _ _ _ (by rfl) w.heap.size 99 i0 (.agg #[.int .i64 0, .int .u64 0]) 2 16 HU.out hi0 hz0 hz1 hz2 rfl (by omega) (.slice (some ⟨w.heap.size, 0, none⟩) 0 0) 0 [] (by rfl) HL.out ⟨g, 0, none⟩ len cap c1 (by rfl) l1 HN2.out o1 (by unfold maxLen; omega) (by omega) (by simp) ?_; intro v1 w1 ho1 hg1'; have hg1 : (w.alloc (.cells #[] 99)).grownBy w1 (some w.heap.size) := ⟨hg1'.os, hg1'.tape, hg1'.output, hg1'.size, hg1'.block⟩; clear hg1'; obtain ⟨a1, d1, rfl⟩ := own_slice ho1; have hX := HF.out w1 _ (HK.out _ hg1).2.size ho1 (HK.out _ hg1).2; have y1 : ¬ rb = w1.heap.size := (by have := (HK.out _ hg1).2.size; omega); have y2 : w.heap.size ≤ w1.heap.size := (HK.out _ hg1).2.size))
  rw [Nat.zero_add] at hX
  have HX := veil hX
  clear hX ho1 hg1
  go_wp2
  go_ret
  exact ⟨_, _, rfl, y2, HX.out.1, HX.out.2⟩

set_option maxHeartbeats 4000000 in
set_option maxRecDepth 100000 in
theorem rfork_nil {w : World} {base rb n nw : Nat} (h : IsR w base rb n nw (.slice none 0 0) []) :
    Calls Try.prog 23 #[.pointer (some ⟨rb, 0, none⟩)] w fun e w' => ∃ rb' v', e = .returned (.pointer (some ⟨rb', 0, none⟩)) ∧ w.heap.size ≤ rb' ∧ IsR w' w.heap.size rb' n nw v' [] ∧ Below w.heap.size w w' := by
  obtain ⟨i0, hi0, hz0, hz1, hz2⟩ := info_parts infoItem
  have e0 := h.c0
  have e1 := h.c1
  have e2 := h.c2
  have hrb := h.lt
  have HU := veil Try.underlying85
  have yb : ¬ rb = w.heap.size := by omega
  have yb2 : ¬ rb = w.heap.size + 1 := by omega
  have HL : Hid ((w.alloc (.cells #[] 99)).ownsRow w.heap.size 99 2 (.slice (some ⟨w.heap.size, 0, none⟩) 0 0) 0 []) := by
    have := World.ownsRow_lit (base := w.heap.size) (e := 99) (size := 2) w #[] 0 (Nat.le_refl _) (by simp [maxLen]) rfl
    exact this
  have HX : Hid (IsR ((w.alloc (.cells #[] 99)).drew.alloc (.cells #[.int .i64 (n : Int), .int .u64 (nw : Int), .slice (some ⟨w.heap.size, 0, none⟩) 0 0] 87)) w.heap.size (w.heap.size + 1) n nw (.slice (some ⟨w.heap.size, 0, none⟩) 0 0) [] ∧ Below w.heap.size w ((w.alloc (.cells #[] 99)).drew.alloc (.cells #[.int .i64 (n : Int), .int .u64 (nw : Int), .slice (some ⟨w.heap.size, 0, none⟩) 0 0] 87))) := by
    refine ⟨⟨h.nle, h.good, ?_, HL.out.alloc _, by simp [Value.ownBlock], by simp; omega⟩, ((Below.refl _ _).alloc (Nat.le_refl _) _).drew.alloc (by simp) _⟩
    have := (MapKept.heap_alloc (w.alloc (.cells #[] 99)).drew (.cells #[.int .i64 (n : Int), .int .u64 (nw : Int), .slice (some ⟨w.heap.size, 0, none⟩) 0 0] 87)).1
    simpa using this
  clear h
  go_enter Try.func23, Try.ntmps23
  go_wp2
  go_region_held3 (fun w' => w'.cell? ⟨rb, 0, none⟩ = some (.int .i64 (n : Int)) ∧ w'.cell? ⟨rb, 1, none⟩ = some (.int .u64 (nw : Int)) ∧ w'.cell? ⟨rb, 2, none⟩ = some (.slice none 0 0)) (first | go_keep)
    ((refine step_append_nil _ (by rfl) _ _ _ (by rfl) w.heap.size 99 i0 2 HU.out hi0 (.slice (some ⟨w.heap.size, 0, none⟩) 0 0) 0 [] (by rfl) HL.out (by rfl) ?_))
  go_wp2
  go_ret
  exact ⟨_, _, rfl, by omega, HX.out.1, HX.out.2⟩

theorem rfork_ok {w : World} {base rb n nw : Nat} {v : Value} {R : List It} (h : IsR w base rb n nw v R) :
    Calls Try.prog 23 #[.pointer (some ⟨rb, 0, none⟩)] w fun e w' => ∃ rb' v', e = .returned (.pointer (some ⟨rb', 0, none⟩)) ∧ w.heap.size ≤ rb' ∧ IsR w' w.heap.size rb' n nw v' R ∧ Below w.heap.size w w' := by
  rcases h.own.2 with ⟨e, e0⟩ | ⟨g, cap, cur, e, _⟩
  · have hR : R = [] := List.length_eq_zero_iff.1 e0
    subst hR
    subst e
    exact rfork_nil h
  · subst e
    exact rfork_some h rfl
/-- A slice of ids that lies in a block from base on. -/
def IL (w : World) (base : Nat) (v : Value) (xs : List Int) : Prop := w.ownsRow base 3 1 v xs.length (xs.map (Value.int .i64))
theorem IL.slice {w : World} {base : Nat} {v : Value} {xs : List Int} (h : IL w base v xs) : ∃ a cap, v = .slice a xs.length cap := own_slice h
theorem IL.cells {w : World} {base : Nat} {v : Value} {xs : List Int} (h : IL w base v xs) (hx : xs ≠ []) : ∃ g cap, v = .slice (some ⟨g, 0, none⟩) xs.length cap ∧ base ≤ g ∧ g < w.heap.size ∧ ∀ j, j < xs.length → w.cell? ⟨g, j, none⟩ = some (.int .i64 (xs.getD j 0)) := by
  have hpos : 0 < xs.length := List.length_pos_iff.2 hx
  obtain ⟨g, cap, rfl, h1, h2⟩ := World.ownsRow.form h hpos
  refine ⟨g, cap, rfl, h1, h2, fun j hj => ?_⟩
  rw [World.ownsRow.cellAt h j (by omega)]
  simp [List.getD, hj]
set_option maxHeartbeats 1000000 in
theorem same_walk (w : World) (ga gb len ca cb : Nat) (xs : Nat → Int) (hl : len ≤ 1024)
    (hca : ∀ j, j < len → w.cell? ⟨ga, j, none⟩ = some (.int .i64 (xs j))) (hcb : ∀ j, j < len → w.cell? ⟨gb, j, none⟩ = some (.int .i64 (xs j))) :
    Calls Try.prog 26 #[.slice (some ⟨ga, 0, none⟩) len ca, .slice (some ⟨gb, 0, none⟩) len cb] w fun e w' => e = .returned (.bool true) ∧ ∃ q, w' = w.drewN q := by
  have HA := veil hca
  have HB := veil hcb
  clear hca hcb
  go_enter Try.func26, Try.ntmps26
  go_wp2
  go_loopw [5] (fun i wr => ∃ j q : Nat, j ≤ len ∧ i = .int .i64 j ∧ wr = w.drewN q) (fun i _ => len - (intOf i).toNat)
  case atStart => exact ⟨0, 0, by omega, rfl, rfl⟩
  case round =>
    obtain ⟨j, q, hj, rfl, rfl⟩ := hrel
    by_cases hjl : j < len
    · have e1 := HA.out j hjl
      have e2 := HB.out j hjl
      go_wp2
      go_quiet (fail)
      go_wp2
      go_roundw
      case rel => exact ⟨j + 1, _, by omega, by go_num, rfl⟩
      case measure => simp [intOf]; omega
    · go_wp2
      go_ret
      exact ⟨rfl, _, rfl⟩
theorem same_empty (w : World) (a b : Option Addr) (ca cb : Nat) :
    Calls Try.prog 26 #[.slice a 0 ca, .slice b 0 cb] w fun e w' => e = .returned (.bool true) ∧ ∃ q, w' = w.drewN q := by
  go_enter Try.func26, Try.ntmps26
  go_wp2
  go_loopw [5] (fun i wr => i = .int .i64 0 ∧ wr = w) (fun i _ => 0)
  case atStart => exact ⟨rfl, rfl⟩
  case round =>
    obtain ⟨rfl, rfl⟩ := hrel
    go_wp2
    go_ret
    exact ⟨rfl, 0, rfl⟩
theorem same_yes (w : World) (b1 b2 : Nat) (v1 v2 : Value) (xs : List Int) (hl : xs.length ≤ 1024) (h1 : IL w b1 v1 xs) (h2 : IL w b2 v2 xs) :
    Calls Try.prog 26 #[v1, v2] w fun e w' => e = .returned (.bool true) ∧ ∃ q, w' = w.drewN q := by
  by_cases hx : xs = []
  · subst hx
    obtain ⟨a, ca, rfl⟩ := h1.slice
    obtain ⟨b, cb, rfl⟩ := h2.slice
    exact same_empty w a b ca cb
  · obtain ⟨ga, ca, rfl, _, _, c1⟩ := h1.cells hx
    obtain ⟨gb, cb, rfl, _, _, c2⟩ := h2.cells hx
    exact same_walk w ga gb xs.length ca cb (fun j => xs.getD j 0) hl c1 c2


def idl (S : List It) : List Int := S.map (fun x => (x.i : Int))
theorem idl_iv (S : List It) : iv (spots S) = (idl S).map (Value.int .i64) := by
  unfold iv spots idl
  rw [List.map_map, List.map_map]
  apply List.map_congr_left
  intro x _
  simp
theorem idl_len (S : List It) : (idl S).length = S.length := by simp [idl]
theorem IL_of {w : World} {base : Nat} {v : Value} {S : List It} (h : w.ownsRow base 3 1 v S.length (iv (spots S))) : IL w base v (idl S) := by
  unfold IL
  rw [idl_len, ← idl_iv]
  exact h
set_option maxHeartbeats 2000000 in
set_option maxRecDepth 100000 in
theorem new_isW (n : Nat) (w : World) (h1 : 1 ≤ n) (h2 : n ≤ 1024) :
    Calls Try.prog 25 #[.int .i64 n] w fun e w' => ∃ b g mb, e = .returned (.pointer (some ⟨b, 0, none⟩)) ∧ (∀ k, O3 b g mb k → w.heap.size ≤ k ∧ k < w'.heap.size) ∧ IsW w' b g mb n 0 [] ∧ Below w.heap.size w w' := by
  obtain ⟨i0, hi, hz0, hz1, hz2⟩ := info_parts infoEntry
  have hmk : ∀ w, (Instr.makeSlice 72 (.int .i64 ((n : Int) + 1)) (.int .i64 ((n : Int) + 1))).run Try.prog w = .ok (.slice (some ⟨w.heap.size, 0, none⟩) (n + 1) (n + 1)) (w.alloc (.cells (entryCells n) 78)) := by
    intro w
    have := run_make w 72 78 i0 entryZero Try.underlying72 hi hz0 .i64 .i64 ((n : Int) + 1) ((n : Int) + 1) (by omega) (by omega) (by rw [hz2]; omega) (by omega)
    rw [hz1, show ((n : Int) + 1).toNat = n + 1 by omega] at this
    exact this
  have HX : Hid (IsW (((w.alloc (.map #[] 0)).alloc (.cells (entryCells n) 78)).alloc (.cells (wheelCells w.heap.size (w.heap.size + 1) n) 74)) (w.heap.size + 1 + 1) (w.heap.size + 1) w.heap.size n 0 []) := by
    refine ⟨0, _, _, fun _ => none, _, _, _, _, 0, new_rep w n, ?_, ?_, by omega, by omega, h2⟩
    · refine (IsM.made w).block ?_
      rw [Below.heap_alloc _ _ _ (by simp; omega), Below.heap_alloc _ _ _ (by simp)]
    · refine ⟨List.Pairwise.nil, List.nodup_nil, by simp, by simp, by omega, rfl, fun s hs => ⟨rfl, rfl, trivial⟩, fun k hk => .inl ⟨rfl, rfl⟩, fun i hi => (by cases hi), (by simp), fun p hp _ => ⟨rfl, rfl⟩⟩
  have hzw := zeroWh
  have hzs := zero_size
  have hmm := @run_makeMap Try.prog
  clear hi hz0 hz1 hz2
  go_enter Try.func25, Try.ntmps25
  go_wp2
  go_ret
  refine ⟨_, _, _, rfl, ?_, HX.out, (((Below.refl _ _).alloc (Nat.le_refl _) _).alloc (by simp) _).alloc (by simp; omega) _⟩
  rintro k (rfl | rfl | rfl) <;> simp <;> omega
/-- The document's wheel at rb, in blocks from base on, holds S at nw. -/
def DW (w : World) (base rb n nw : Nat) (S : List It) : Prop := ∃ v R, IsR w base rb n nw v R ∧ sortS R = S ∧ base ≤ rb
section
variable {w w' : World} {base rb n nw : Nat} {S : List It}
/-- The same, with all that it has made so far below q. -/
def DWq (w : World) (base q rb n nw : Nat) (S : List It) : Prop := ∃ v R, IsR w base rb n nw v R ∧ sortS R = S ∧ base ≤ rb ∧ rb < q ∧ ∀ k, v.ownBlock = some k → k < q
theorem DW.toq {w : World} {base rb n nw : Nat} {S : List It} (h : DW w base rb n nw S) : DWq w base w.heap.size rb n nw S := by
  obtain ⟨v, R, h1, h2, h3⟩ := h
  exact ⟨v, R, h1, h2, h3, h1.lt, fun k hk => (own_ge h1.own hk).2⟩
theorem DWq.to {w : World} {base q rb n nw : Nat} {S : List It} (h : DWq w base q rb n nw S) : DW w base rb n nw S := by
  obtain ⟨v, R, h1, h2, h3, _⟩ := h
  exact ⟨v, R, h1, h2, h3⟩
theorem DWq.frame {w w' : World} {base q rb n nw : Nat} {S : List It} {Z : Nat → Prop} (h : DWq w base q rb n nw S) (hf : Fr Z w w') (hz : ∀ k, base ≤ k → k < q → ¬ Z k) : DWq w' base q rb n nw S := by
  obtain ⟨v, R, h1, h2, h3, h4, h5⟩ := h
  exact ⟨v, R, h1.frame hf (hz _ h3 h4) (fun k hk => hz k (own_ge h1.own hk).1 (h5 k hk)), h2, h3, h4, h5⟩
theorem DW.frame {Z : Nat → Prop} (h : DW w base rb n nw S) (hf : Fr Z w w') (hz : ∀ k, base ≤ k → ¬ Z k) : DW w' base rb n nw S := by
  obtain ⟨v, R, h1, h2, h3⟩ := h
  exact ⟨v, R, h1.frame hf (hz _ h3) (fun k hk => hz k (own_ge h1.own hk).1), h2, h3⟩
theorem DW.below (h : DW w base rb n nw S) (hf : Below w.heap.size w w') : DW w' base rb n nw S := h.frame (Z := fun _ => False) (Fr.of_below' hf) (fun _ _ => id)
theorem split_id {R : List It} {id : Nat} {t : Nat} (h : (⟨id, t⟩ : It) ∈ R) : ∃ R1 R2, R = R1 ++ ⟨id, t⟩ :: R2 := List.append_of_mem h
theorem rem_mid {R1 R2 : List It} {x : It} (hn : ((R1 ++ x :: R2).map (·.i)).Nodup) : rem x.i (R1 ++ x :: R2) = R1 ++ R2 := by
  rw [List.map_append, List.map_cons, List.nodup_append] at hn
  obtain ⟨_, h2, h3⟩ := hn
  obtain ⟨h4, _⟩ := List.nodup_cons.1 h2
  unfold rem
  rw [List.filter_append, List.filter_cons]
  have e1 : R1.filter (fun y => !(y.i == x.i)) = R1 := List.filter_eq_self.2 (fun y hy => by
    have := h3 y.i (List.mem_map.2 ⟨y, hy, rfl⟩) x.i (by simp)
    simp [this])
  have e2 : R2.filter (fun y => !(y.i == x.i)) = R2 := List.filter_eq_self.2 (fun y hy => by
    have : y.i ≠ x.i := fun e => h4 (List.mem_map.2 ⟨y, hy, e⟩)
    simp [this])
  rw [e1, e2]
  simp
theorem DWq.set {q : Nat} (h : DWq w base q rb n nw S) (id : Int) (t : Nat) (ht : t < 18446744073709551616) :
    Calls Try.prog 48 #[.pointer (some ⟨rb, 0, none⟩), .int .i64 id, .int .u64 (t : Int)] w fun e w' => e = .returned (.int .i64 (setC n S id)) ∧ DW w' base rb n nw (setS n S id t) ∧ Fr (fun k => base ≤ k ∧ k < q) w w' := by
  obtain ⟨v, R, hr, rfl, hb, hq1, hq2⟩ := h
  by_cases h0 : id < 0 ∨ (n : Int) ≤ id
  · have hc : setC n (sortS R) id = 2 := if_pos h0
    have hs : setS n (sortS R) id t = sortS R := if_neg (by rw [hc]; decide)
    rw [hc, hs]
    refine (rset_range hr id t h0).mono ?_
    rintro e w' ⟨rfl, rfl⟩
    exact ⟨rfl, ⟨v, R, hr, rfl, hb⟩, Fr.refl _ _⟩
  · obtain ⟨i, rfl⟩ := Int.eq_ofNat_of_zero_le (show 0 ≤ id by omega)
    cases hx : tmOf (sortS R) (i : Int) with
    | some t0 =>
      have hc : setC n (sortS R) (i : Int) = 5 := by unfold setC; rw [if_neg h0, hx]; rfl
      have hs : setS n (sortS R) (i : Int) t = sortS R := if_neg (by rw [hc]; decide)
      rw [hc, hs]
      rw [tmOf_sort hr.good.ids] at hx
      obtain ⟨R1, R2, rfl⟩ := split_id ((tmOf_some hr.good.ids).1 hx)
      refine (rset_some hr t).mono ?_
      rintro e w' ⟨rfl, rfl⟩
      exact ⟨rfl, ⟨v, _, hr, rfl, hb⟩, Fr.refl _ _⟩
    | none =>
      have hc : setC n (sortS R) (i : Int) = 0 := by unfold setC; rw [if_neg h0, hx]; rfl
      have hs : setS n (sortS R) (i : Int) t = ins ⟨i, t⟩ (sortS R) := by unfold setS; rw [if_pos hc]; rfl
      rw [hc, hs]
      rw [tmOf_sort hr.good.ids] at hx
      refine (rset_none hr i t ht (by omega) (tmOf_none.1 hx)).mono ?_
      rintro e w' ⟨rfl, ⟨v', hr'⟩, hf⟩
      refine ⟨rfl, ⟨v', _, hr', sortS_snoc _ _, hb⟩, hf.wide (fun k _ q => ?_)⟩
      rcases q with q | q
      · omega
      · exact ⟨(own_ge hr.own q).1, hq2 k q⟩
theorem DWq.cancel {q : Nat} (h : DWq w base q rb n nw S) (id : Int) :
    Calls Try.prog 49 #[.pointer (some ⟨rb, 0, none⟩), .int .i64 id] w fun e w' => e = .returned (.int .i64 (canC n S id)) ∧ DW w' base rb n nw (canS n S id) ∧ Fr (fun k => base ≤ k ∧ k < q) w w' := by
  obtain ⟨v, R, hr, rfl, hb, hq1, hq2⟩ := h
  by_cases h0 : id < 0 ∨ (n : Int) ≤ id
  · have hc : canC n (sortS R) id = 2 := if_pos h0
    have hs : canS n (sortS R) id = sortS R := if_neg (by rw [hc]; decide)
    rw [hc, hs]
    refine (rcan_range hr id h0).mono ?_
    rintro e w' ⟨rfl, rfl⟩
    exact ⟨rfl, ⟨v, R, hr, rfl, hb⟩, Fr.refl _ _⟩
  · obtain ⟨i, rfl⟩ := Int.eq_ofNat_of_zero_le (show 0 ≤ id by omega)
    cases hx : tmOf (sortS R) (i : Int) with
    | none =>
      have hc : canC n (sortS R) (i : Int) = 6 := by unfold canC; rw [if_neg h0, hx]; rfl
      have hs : canS n (sortS R) (i : Int) = sortS R := if_neg (by rw [hc]; decide)
      rw [hc, hs]
      rw [tmOf_sort hr.good.ids] at hx
      refine (rcan_none hr i (by omega) (tmOf_none.1 hx)).mono ?_
      rintro e w' ⟨rfl, rfl⟩
      exact ⟨rfl, ⟨v, _, hr, rfl, hb⟩, Fr.refl _ _⟩
    | some t =>
      have hc : canC n (sortS R) (i : Int) = 0 := by unfold canC; rw [if_neg h0, hx]; rfl
      have hs : canS n (sortS R) (i : Int) = rem i (sortS R) := by unfold canS; rw [if_pos hc]; rfl
      rw [hc, hs]
      rw [tmOf_sort hr.good.ids] at hx
      obtain ⟨R1, R2, rfl⟩ := split_id ((tmOf_some hr.good.ids).1 hx)
      refine (rcan_some hr).mono ?_
      rintro e w' ⟨rfl, ⟨v', hr'⟩, hf⟩
      refine ⟨rfl, ⟨v', _, hr', ?_, hb⟩, hf.wide (fun k _ q => by omega)⟩
      have h1 := rem_mid hr.good.ids
      have h2 : rem i (sortS (R1 ++ (⟨i, t⟩ : It) :: R2)) = sortS (rem i (R1 ++ (⟨i, t⟩ : It) :: R2)) := (sortS_filter _ _).symm
      rw [h2]
      exact congrArg sortS h1.symm
theorem DWq.advance {q : Nat} (h : DWq w base q rb n nw S) (to : Nat) :
    Calls Try.prog 50 #[.pointer (some ⟨rb, 0, none⟩), .int .u64 (to : Int)] w fun e w' => (∃ v', e = .returned v' ∧ w'.ownsRow w.heap.size 3 1 v' (due (max to nw) S).length (iv (spots (due (max to nw) S)))) ∧ DW w' base rb n (max to nw) (late (max to nw) S) ∧ Fr (fun k => base ≤ k ∧ k < q) w w' := by
  obtain ⟨v, R, hr, rfl, hb, hq1, hq2⟩ := h
  refine (radvance_ok hr to).mono ?_
  rintro e w' ⟨h1, ⟨v', hr'⟩, hf⟩
  exact ⟨h1, ⟨v', _, hr', sortS_filter _ _, hb⟩, hf.wide (fun k _ q => by omega)⟩
theorem DW.now (h : DW w base rb n nw S) : Calls Try.prog 36 #[.pointer (some ⟨rb, 0, none⟩)] w fun e w' => e = .returned (.int .u64 (nw : Int)) ∧ w' = w := by
  obtain ⟨v, R, hr, rfl, hb⟩ := h
  exact rnow_ok hr
theorem DW.len (h : DW w base rb n nw S) : Calls Try.prog 37 #[.pointer (some ⟨rb, 0, none⟩)] w fun e w' => e = .returned (.int .i64 (S.length : Int)) ∧ w' = w := by
  obtain ⟨v, R, hr, rfl, hb⟩ := h
  rw [sortS_len]
  exact rlen_ok hr
theorem DW.next (h : DW w base rb n nw S) : Calls Try.prog 35 #[.pointer (some ⟨rb, 0, none⟩)] w fun e w' => e = .returned (.tuple #[.int .u64 (nxT S : Int), .bool (nxB S)]) ∧ Below w.heap.size w w' := by
  obtain ⟨v, R, hr, rfl, hb⟩ := h
  exact rnext_ok hr
theorem DW.at (h : DW w base rb n nw S) (id : Int) : Calls Try.prog 34 #[.pointer (some ⟨rb, 0, none⟩), .int .i64 id] w fun e w' => e = .returned (.tuple #[.int .u64 (atT n S id : Int), .bool (atB n S id)]) ∧ w' = w := by
  obtain ⟨v, R, hr, rfl, hb⟩ := h
  unfold atT atB
  by_cases h0 : 0 ≤ id ∧ id < (n : Int)
  · rw [if_pos h0, if_pos h0]
    obtain ⟨i, rfl⟩ := Int.eq_ofNat_of_zero_le h0.1
    rw [tmOf_sort hr.good.ids]
    cases hx : tmOf R (i : Int) with
    | none => exact rAt_none hr i (fun it hit q => tmOf_none.1 hx it hit (by omega))
    | some t =>
      obtain ⟨R1, R2, rfl⟩ := split_id ((tmOf_some hr.good.ids).1 hx)
      exact rAt_some hr
  · rw [if_neg h0, if_neg h0]
    exact rAt_none hr id (fun it hit q => h0 (by have := hr.good.rng it hit; omega))
theorem DW.fork (h : DW w base rb n nw S) : Calls Try.prog 23 #[.pointer (some ⟨rb, 0, none⟩)] w fun e w' => ∃ rb', e = .returned (.pointer (some ⟨rb', 0, none⟩)) ∧ DW w' w.heap.size rb' n nw S ∧ Below w.heap.size w w' := by
  obtain ⟨v, R, hr, rfl, hb⟩ := h
  refine (rfork_ok hr).mono ?_
  rintro e w' ⟨rb', v', rfl, h1, h2, h3⟩
  exact ⟨rb', rfl, ⟨v', R, h2, rfl, h1⟩, h3⟩
theorem DW.set (h : DW w base rb n nw S) (id : Int) (t : Nat) (ht : t < 18446744073709551616) :
    Calls Try.prog 48 #[.pointer (some ⟨rb, 0, none⟩), .int .i64 id, .int .u64 (t : Int)] w fun e w' => e = .returned (.int .i64 (setC n S id)) ∧ DW w' base rb n nw (setS n S id t) ∧ Fr (fun k => base ≤ k) w w' :=
  (h.toq.set id t ht).mono (fun _ _ q => ⟨q.1, q.2.1, q.2.2.wide (fun _ _ x => x.1)⟩)
end
end Go.Proofs.Ytjmbadadelelfaa
