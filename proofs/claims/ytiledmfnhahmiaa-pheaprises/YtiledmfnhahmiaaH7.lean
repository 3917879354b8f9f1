/-
  The walk of the document's heap: put.
-/
import Derived.Test.YtiledmfnhahmiaaH6
namespace Go.Proofs.Ytiledmfnhahmiaa
open Go.RowKit Go.Lib

theorem ins_none {x : Item} : ∀ {L : List Item}, (∀ it ∈ L, ¬ ah x it) → ins x L = L ++ [x]
  | [], _ => rfl
  | y :: L, h => by
    rw [ins, if_neg (h y (by simp)), ins_none (fun it hit => h it (List.mem_cons_of_mem _ hit))]
    rfl
theorem ins_snoc {x y : Item} : ∀ {L : List Item}, (∃ it ∈ L, ah x it) → ins x (L ++ [y]) = ins x L ++ [y]
  | [], h => by obtain ⟨_, h, _⟩ := h; cases h
  | z :: L, h => by
    rw [List.cons_append, ins, ins]
    by_cases hz : ah x z
    · rw [if_pos hz, if_pos hz]; rfl
    · rw [if_neg hz, if_neg hz, List.cons_append, ins_snoc]
      obtain ⟨it, hit, ha⟩ := h
      rcases List.mem_cons.1 hit with rfl | q
      · exact absurd ha hz
      · exact ⟨it, q, ha⟩
theorem ins_now {x y : Item} : ∀ {L : List Item}, (∀ it ∈ L, ¬ ah x it) → ah x y → ins x (L ++ [y]) = L ++ [x, y]
  | [], _, h => by rw [List.nil_append, ins, if_pos h]; rfl
  | z :: L, h, hy => by
    rw [List.cons_append, ins, if_neg (h z (by simp)), ins_now (fun it hit => h it (List.mem_cons_of_mem _ hit)) hy]
    rfl
/-- What put's loop has made of the first j. -/
def PutSt (x : Item) (R : List Item) (j : Nat) (pl : Bool) (M : List Item) : Prop :=
  (pl = false ∧ M = R.take j ∧ ∀ it ∈ R.take j, ¬ ah x it) ∨ (pl = true ∧ M = ins x (R.take j) ∧ ∃ it ∈ R.take j, ah x it)
section
variable {x it : Item} {R M : List Item} {j : Nat}
theorem take_snoc (h : R[j]? = some it) : R.take (j + 1) = R.take j ++ [it] := by rw [List.take_add_one, h]; rfl
theorem PutSt.start : PutSt x R 0 false [] := .inl ⟨rfl, rfl, by simp⟩
theorem PutSt.later (h : PutSt x R j true M) (hj : R[j]? = some it) : PutSt x R (j + 1) true (M ++ [it]) := by
  rcases h with ⟨h, _⟩ | ⟨_, rfl, h⟩
  · cases h
  · refine .inr ⟨rfl, ?_, ?_⟩
    · rw [take_snoc hj, ins_snoc h]
    · obtain ⟨y, hy, ha⟩ := h
      exact ⟨y, by rw [take_snoc hj]; exact List.mem_append_left _ hy, ha⟩
theorem PutSt.now (h : PutSt x R j false M) (hj : R[j]? = some it) (ha : ah x it) : PutSt x R (j + 1) true (M ++ [x] ++ [it]) := by
  rcases h with ⟨_, rfl, h⟩ | ⟨h, _⟩
  · refine .inr ⟨rfl, ?_, ⟨it, by rw [take_snoc hj]; simp, ha⟩⟩
    rw [take_snoc hj, ins_now h ha, List.append_assoc]; rfl
  · cases h
theorem PutSt.not (h : PutSt x R j false M) (hj : R[j]? = some it) (ha : ¬ ah x it) : PutSt x R (j + 1) false (M ++ [it]) := by
  rcases h with ⟨_, rfl, h⟩ | ⟨h, _⟩
  · refine .inl ⟨rfl, (take_snoc hj).symm, ?_⟩
    rw [take_snoc hj]
    intro y hy
    rcases List.mem_append.1 hy with q | q
    · exact h y q
    · simp at q; subst q; exact ha
  · cases h
theorem PutSt.end1 (h : PutSt x R R.length true M) : M = ins x R := by
  rcases h with ⟨h, _⟩ | ⟨_, rfl, _⟩
  · cases h
  · rw [List.take_length]
theorem PutSt.end2 (h : PutSt x R R.length false M) : M ++ [x] = ins x R := by
  rcases h with ⟨_, rfl, h⟩ | ⟨h, _⟩
  · rw [List.take_length] at h ⊢; exact (ins_none h).symm
  · cases h
theorem PutSt.len {pl : Bool} (h : PutSt x R j pl M) : M.length ≤ R.length + 1 := by
  rcases h with ⟨_, rfl, _⟩ | ⟨_, rfl, _⟩
  · rw [List.length_take]; omega
  · rw [len_ins, List.length_take]; omega
end
theorem itemCells_sing (x : Item) : itemCells [x] = [.int .i64 (x.1 : Int), .int .u64 (x.2.1 : Int), .int .u64 (x.2.2 : Int)] := rfl
theorem news_item (w : World) (x : Item) : ∀ j u, ([.int .i64 (x.1 : Int), .int .u64 (x.2.1 : Int), .int .u64 (x.2.2 : Int)] : List Value)[j]? = some u → (w.alloc (.cells #[.int .i64 (x.1 : Int), .int .u64 (x.2.1 : Int), .int .u64 (x.2.2 : Int)] 71)).cell? ((⟨w.heap.size, 0, none⟩ : Addr).add j) = some u :=
  World.news_of_block (cs := #[.int .i64 (x.1 : Int), .int .u64 (x.2.1 : Int), .int .u64 (x.2.2 : Int)]) (t := 71) (fr := (0, 0)) (heap_alloc_new w _)

/-- A row of items that put's loop has made. -/
def Mk (w : World) (base : Nat) (v : Value) (M : List Item) : Prop := w.ownsRow base 71 3 v M.length (itemCells M)
theorem Mk.slice {w : World} {base : Nat} {v : Value} {M : List Item} (h : Mk w base v M) : ∃ a c, v = .slice a M.length c := owns_slice h
theorem Mk.snoc {w : World} {base : Nat} {v : Value} {M : List Item} {x : Item} (h : w.ownsRow base 71 3 v (M.length + 1) (itemCells M ++ [.int .i64 (x.1 : Int), .int .u64 (x.2.1 : Int), .int .u64 (x.2.2 : Int)])) : Mk w base v (M ++ [x]) := by
  unfold Mk
  rw [itemCells_append, List.length_append]
  exact h

set_option maxHeartbeats 4000000 in
theorem rput_ok {w : World} {base rb n : Nat} {v : Value} {R : List Item} (h : IsR w base rb n v R) (x : Item) (hx : x.1 < n) (hno : ∀ y ∈ R, y.1 ≠ x.1) :
    Calls Try.prog 45 #[.pointer (some ⟨rb, 0, none⟩), .agg #[.int .i64 (x.1 : Int), .int .u64 (x.2.1 : Int), .int .u64 (x.2.2 : Int)]] w fun e w' => e = .returned (.tuple #[]) ∧ (∃ v', IsR w' base rb n v' (ins x R)) ∧ Fr (fun k => k = rb) w w' := by
  obtain ⟨i0, hi0, hz0, hz1, hz2⟩ := info_parts infoItem
  obtain ⟨a, cap, rfl, hcap, hcm⟩ := h.form
  have hlen := h.len_le
  have hrb := h.lt
  have HH := veil h
  have HF : Hid (∀ (wr : World) (v' : Value), Below (w.heap.size + 1) (w.alloc (.cells #[.int .i64 (x.1 : Int), .int .u64 (x.2.1 : Int), .int .u64 (x.2.2 : Int)] 71)) wr → Mk wr (w.heap.size + 1) v' (ins x R) → (∃ v'', IsR (wr.setCell ⟨rb, 1, none⟩ v') base rb n v'' (ins x R)) ∧ Fr (fun k => k = rb) w (wr.setCell ⟨rb, 1, none⟩ v')) := by
    intro wr v' hb hm
    have hb0 : Below w.heap.size w wr := ((Below.refl _ _).alloc (Nat.le_refl _) _).trans (hb.mono (by omega))
    refine ⟨⟨v', IsR.stored ((hb0.block rb hrb).trans h.blk) (ownsRow_base hm (Nat.le_trans h.bs (by omega))) (fun q => ?_) h.nle (h.good.ins hx hno) (Nat.le_trans h.bs hb0.size)⟩, (Fr.setCell (S := fun k => k = rb) (a := ⟨rb, 1, none⟩) (Fr.of_below' hb0) rfl _)⟩
    have := (World.ownsRow.lt hm rb q).1
    omega
  have C1 : Hid (∀ wr : World, Below (w.heap.size + 1) (w.alloc (.cells #[.int .i64 (x.1 : Int), .int .u64 (x.2.1 : Int), .int .u64 (x.2.2 : Int)] 71)) wr → wr.cell? ⟨rb, 1, none⟩ = some (.slice a R.length cap) ∧ wr.frozen? ⟨rb, 1, none⟩ = false ∧ wr.cell? ⟨w.heap.size, 0, none⟩ = some (.int .i64 (x.1 : Int)) ∧ wr.cell? ⟨w.heap.size, 1, none⟩ = some (.int .u64 (x.2.1 : Int)) ∧ wr.cell? ⟨w.heap.size, 2, none⟩ = some (.int .u64 (x.2.2 : Int))) := by
    intro wr hb
    have hb0 : Below w.heap.size w wr := ((Below.refl _ _).alloc (Nat.le_refl _) _).trans (hb.mono (by omega))
    refine ⟨(hb0.cell (p := ⟨rb, 1, none⟩) hrb).trans h.c1, ?_, ?_, ?_, ?_⟩
    · rw [World.frozen?_of_block (a := ⟨rb, 1, none⟩) (hb0.block rb hrb)]
      unfold World.frozen?
      simp [h.blk]
    · rw [hb.cell (p := ⟨w.heap.size, 0, none⟩) (by simp), cell_new]; rfl
    · rw [hb.cell (p := ⟨w.heap.size, 1, none⟩) (by simp), cell_new]; rfl
    · rw [hb.cell (p := ⟨w.heap.size, 2, none⟩) (by simp), cell_new]; rfl
  have C2 : Hid (∀ (wr : World) (j : Nat) (it : Item), Below (w.heap.size + 1) (w.alloc (.cells #[.int .i64 (x.1 : Int), .int .u64 (x.2.1 : Int), .int .u64 (x.2.2 : Int)] 71)) wr → R[j]? = some it → ∃ g, a = some ⟨g, 0, none⟩ ∧ wr.cell? ⟨g, j * 3, none⟩ = some (.int .i64 (it.1 : Int)) ∧ wr.cell? ⟨g, j * 3 + 1, none⟩ = some (.int .u64 (it.2.1 : Int)) ∧ wr.cell? ⟨g, j * 3 + 2, none⟩ = some (.int .u64 (it.2.2 : Int))) := by
    intro wr j it hb hj
    have hb0 : Below w.heap.size w wr := ((Below.refl _ _).alloc (Nat.le_refl _) _).trans (hb.mono (by omega))
    obtain ⟨g, cap', hv, h1, h2, h3, h4, h5⟩ := h.cells (by intro e; subst e; simp at hj)
    simp at hv
    obtain ⟨z1, z2, z3⟩ := h5 j it hj
    exact ⟨g, hv.1, (hb0.cell (p := ⟨g, j * 3, none⟩) h3).trans z1, (hb0.cell (p := ⟨g, j * 3 + 1, none⟩) h3).trans z2, (hb0.cell (p := ⟨g, j * 3 + 2, none⟩) h3).trans z3⟩
  clear h hno hx
  have HX : Hid ((w.alloc (.cells #[.int .i64 (x.1 : Int), .int .u64 (x.2.1 : Int), .int .u64 (x.2.2 : Int)] 71)).heap.size = w.heap.size + 1) := by unfold Hid; simp
  go_enter Try.func45, Try.ntmps45
  go_wp2
  go_loopw [4, 5, 6] (fun o p i wr => ∃ (j : Nat) (pl : Bool) (M : List Item), j ≤ R.length ∧ i = .int .i64 j ∧ p = .bool pl ∧ PutSt x R j pl M ∧ Mk wr (w.heap.size + 1) o M ∧ Below (w.heap.size + 1) (w.alloc (.cells #[.int .i64 (x.1 : Int), .int .u64 (x.2.1 : Int), .int .u64 (x.2.2 : Int)] 71)) wr) (fun _ _ i _ => R.length - (intOf i).toNat)
  case atStart => exact ⟨0, false, [], by omega, rfl, rfl, PutSt.start, World.ownsRow_nil _ _ _ _, Below.refl _ _⟩
  case round =>
    obtain ⟨j, pl, M, hj, rfl, rfl, hst, hmk, hbel⟩ := hrel
    obtain ⟨e1, f1, x0, x1, x2⟩ := C1.out _ hbel
    obtain ⟨ao, co, rfl⟩ := hmk.slice
    have hml := hst.len
    have hsz : w.heap.size + 1 ≤ wr.heap.size := by rw [← HX.out]; exact hbel.size
    have HST := veil hst
    have HMK := veil hmk
    have HBE := veil hbel
    by_cases hjl : j < R.length
    · obtain ⟨it, hit⟩ : ∃ it, R[j]? = some it := ⟨_, List.getElem?_eq_getElem hjl⟩
      obtain ⟨g, rfl, y0, y1, y2⟩ := C2.out wr j it hbel hit
      have HIT := veil hit
      clear hst hmk hbel hit
      cases pl with
      | true =>
        go_wp2
        go_quiet (fail)
        go_wp2_with (at_builtin; refine wpList_append_own _ rfl _ _ 67 rfl (w.heap.size + 1) 71 i0 (.agg #[.int .i64 0, .int .u64 0, .int .u64 0]) 3 24 Try.underlying67 hi0 hz0 hz1 hz2 rfl (by decide) _ _ _ rfl (World.ownsRow.alloc (w := wr.drewN _) HMK.out _) ⟨wr.heap.size, 0, none⟩ 1 1 [.int .i64 (it.1 : Int), .int .u64 (it.2.1 : Int), .int .u64 (it.2.2 : Int)] rfl rfl (news_item _ it) (by simp [Value.oneCell']) (by unfold maxLen; omega) (by omega) (by simp; omega) ?_; intro v' w1 hown' hgrow _; have HO1 := veil hown'; have HG1 := veil hgrow; clear hown' hgrow)
        go_roundw
        case rel =>
          refine ⟨j + 1, true, M ++ [it], by omega, by go_num, rfl, HST.out.later HIT.out, Mk.snoc HO1.out, ?_⟩
          exact ((below_drewN HBE.out _).alloc (by simpa using hsz) _).grown HG1.out (by simp; omega) (fun k hk => (World.ownsRow.lt HMK.out k hk).1)
        case measure => simp [intOf]; omega
      | false =>
       by_cases hah : ah x it
       ·
        have HA : Hid (∀ W, _) := fun W => ahead_ok x it W
        rw [decide_eq_true hah] at HA
        go_wp2
        go_region_held3 (fun w' => w'.cell? ⟨rb, 1, none⟩ = some (.slice (some ⟨g, 0, none⟩) R.length cap) ∧ w'.cell? ⟨w.heap.size, 0, none⟩ = some (.int .i64 (x.1 : Int)) ∧ w'.cell? ⟨w.heap.size, 1, none⟩ = some (.int .u64 (x.2.1 : Int)) ∧ w'.cell? ⟨w.heap.size, 2, none⟩ = some (.int .u64 (x.2.2 : Int)) ∧ w'.cell? ⟨g, j * 3, none⟩ = some (.int .i64 (it.1 : Int)) ∧ w'.cell? ⟨g, j * 3 + 1, none⟩ = some (.int .u64 (it.2.1 : Int)) ∧ w'.cell? ⟨g, j * 3 + 2, none⟩ = some (.int .u64 (it.2.2 : Int)))
          (first | go_keep | exact HK2.out)
          ((go_at_call 48; refine (HA.out _).mono ?_; rintro e w2 ⟨rfl, hb2⟩; have HWW := veil (show Below (w.heap.size + 1) wr w2 from (show Below (w.heap.size + 1) wr wr.drew from (Below.refl _ _).drew).trans (hb2.mono hsz)); have HB2 := veil (show Below (w.heap.size + 1) _ w2 from HBE.out.trans HWW.out); have HM2 := veil (show Mk w2 (w.heap.size + 1) _ M from owns_fr HMK.out (Fr.of_below' (S := fun _ => False) (show Below wr.heap.size wr w2 from (show Below wr.heap.size wr wr.drew from (Below.refl _ _).drew).trans hb2)) (fun _ _ _ q => q)); obtain ⟨ee1, ff1, xx0, xx1, xx2⟩ := C1.out _ HB2.out; obtain ⟨gg, hgg, yy0, yy1, yy2⟩ := C2.out w2 j it HB2.out HIT.out; injection hgg with hgg; injection hgg with hgg; subst hgg; have hsz2 : w.heap.size + 1 ≤ w2.heap.size := Nat.le_trans hsz HWW.out.size; have HK2 := veil (And.intro ee1 (And.intro xx0 (And.intro xx1 (And.intro xx2 (And.intro yy0 (And.intro yy1 yy2)))))); clear hb2))
        clear e1 f1 x0 x1 x2 y0 y1 y2 HK2 HA

        go_wp2_with (first
          | (at_builtin; refine wpList_append_own _ rfl _ _ 67 rfl (w.heap.size + 1) 71 i0 (.agg #[.int .i64 0, .int .u64 0, .int .u64 0]) 3 24 Try.underlying67 hi0 hz0 hz1 hz2 rfl (by decide) _ _ _ rfl (World.ownsRow.alloc HM2.out _) ⟨w2.heap.size, 0, none⟩ 1 1 [.int .i64 (x.1 : Int), .int .u64 (x.2.1 : Int), .int .u64 (x.2.2 : Int)] rfl rfl (news_item _ x) (by simp [Value.oneCell']) (by unfold maxLen; omega) (by omega) (by simp; omega) ?_; intro v3 w3 hown' hgrow _; obtain ⟨a3, d3, rfl⟩ := owns_slice hown'; have HM3 := veil (show Mk w3 (w.heap.size + 1) _ (M ++ [x]) from Mk.snoc hown'); have HB3 := veil ((HB2.out.alloc (by simpa using hsz2) _).grown hgrow (by simp; omega) (fun k hk => (World.ownsRow.lt HM2.out k hk).1)); obtain ⟨e3, _, _, _, _⟩ := C1.out _ HB3.out; obtain ⟨g3, hg3, yz0, yz1, yz2⟩ := C2.out w3 j it HB3.out HIT.out; injection hg3 with hg3; injection hg3 with hg3; subst hg3; have hl3 : (M ++ [x]).length = M.length + 1 := (by simp); have hsz3 : w.heap.size + 1 ≤ w3.heap.size := (by rw [← HX.out]; exact HB3.out.size); have HO3 := veil hown'; have HG3 := veil hgrow; clear hown' hgrow)
          | (at_builtin; refine wpList_append_own _ rfl _ _ 67 rfl (w.heap.size + 1) 71 i0 (.agg #[.int .i64 0, .int .u64 0, .int .u64 0]) 3 24 Try.underlying67 hi0 hz0 hz1 hz2 rfl (by decide) _ _ _ rfl (World.ownsRow.alloc HM3.out _) ⟨w3.heap.size, 0, none⟩ 1 1 [.int .i64 (it.1 : Int), .int .u64 (it.2.1 : Int), .int .u64 (it.2.2 : Int)] rfl rfl (news_item _ it) (by simp [Value.oneCell']) (by unfold maxLen; omega) (by omega) (by simp; omega) ?_; intro v4 w4 hown' hgrow _; obtain ⟨a4, d4, rfl⟩ := owns_slice hown'; have HO4 := veil hown'; have HG4 := veil hgrow; clear hown' hgrow))
        go_roundw
        case rel =>
          refine ⟨j + 1, true, M ++ [x] ++ [it], by omega, by go_num, rfl, HST.out.now HIT.out hah, Mk.snoc (by simpa using HO4.out), ?_⟩
          exact (HB3.out.alloc (by simpa using hsz3) _).grown HG4.out (by simp; omega) (fun k hk => (World.ownsRow.lt HM3.out k hk).1)
        case measure => simp [intOf]; omega
       ·
        have HA : Hid (∀ W, _) := fun W => ahead_ok x it W
        rw [decide_eq_false hah] at HA
        go_wp2
        go_region_held3 (fun w' => w'.cell? ⟨rb, 1, none⟩ = some (.slice (some ⟨g, 0, none⟩) R.length cap) ∧ w'.cell? ⟨w.heap.size, 0, none⟩ = some (.int .i64 (x.1 : Int)) ∧ w'.cell? ⟨w.heap.size, 1, none⟩ = some (.int .u64 (x.2.1 : Int)) ∧ w'.cell? ⟨w.heap.size, 2, none⟩ = some (.int .u64 (x.2.2 : Int)) ∧ w'.cell? ⟨g, j * 3, none⟩ = some (.int .i64 (it.1 : Int)) ∧ w'.cell? ⟨g, j * 3 + 1, none⟩ = some (.int .u64 (it.2.1 : Int)) ∧ w'.cell? ⟨g, j * 3 + 2, none⟩ = some (.int .u64 (it.2.2 : Int)))
          (first | go_keep | exact HK2.out)
          ((go_at_call 48; refine (HA.out _).mono ?_; rintro e w2 ⟨rfl, hb2⟩; have HWW := veil (show Below (w.heap.size + 1) wr w2 from (show Below (w.heap.size + 1) wr wr.drew from (Below.refl _ _).drew).trans (hb2.mono hsz)); have HB2 := veil (show Below (w.heap.size + 1) _ w2 from HBE.out.trans HWW.out); have HM2 := veil (show Mk w2 (w.heap.size + 1) _ M from owns_fr HMK.out (Fr.of_below' (S := fun _ => False) (show Below wr.heap.size wr w2 from (show Below wr.heap.size wr wr.drew from (Below.refl _ _).drew).trans hb2)) (fun _ _ _ q => q)); obtain ⟨ee1, ff1, xx0, xx1, xx2⟩ := C1.out _ HB2.out; obtain ⟨gg, hgg, yy0, yy1, yy2⟩ := C2.out w2 j it HB2.out HIT.out; injection hgg with hgg; injection hgg with hgg; subst hgg; have hsz2 : w.heap.size + 1 ≤ w2.heap.size := Nat.le_trans hsz HWW.out.size; have HK2 := veil (And.intro ee1 (And.intro xx0 (And.intro xx1 (And.intro xx2 (And.intro yy0 (And.intro yy1 yy2)))))); clear hb2))
        clear e1 f1 x0 x1 x2 y0 y1 y2 HK2 HA

        go_wp2_with (at_builtin; refine wpList_append_own _ rfl _ _ 67 rfl (w.heap.size + 1) 71 i0 (.agg #[.int .i64 0, .int .u64 0, .int .u64 0]) 3 24 Try.underlying67 hi0 hz0 hz1 hz2 rfl (by decide) _ _ _ rfl (World.ownsRow.alloc HM2.out _) ⟨w2.heap.size, 0, none⟩ 1 1 [.int .i64 (it.1 : Int), .int .u64 (it.2.1 : Int), .int .u64 (it.2.2 : Int)] rfl rfl (news_item _ it) (by simp [Value.oneCell']) (by unfold maxLen; omega) (by omega) (by simp; omega) ?_; intro v' w3 hown' hgrow _; have HO3 := veil hown'; have HG3 := veil hgrow; clear hown' hgrow)
        go_roundw
        case rel =>
          refine ⟨j + 1, false, M ++ [it], by omega, by go_num, rfl, HST.out.not HIT.out hah, Mk.snoc HO3.out, ?_⟩
          exact (HB2.out.alloc (by simpa using hsz2) _).grown HG3.out (by simp; omega) (fun k hk => (World.ownsRow.lt HM2.out k hk).1)
        case measure => simp [intOf]; omega
    · have hjR : j = R.length := by omega
      have hjn : ¬ (j : Int) < (R.length : Int) := by omega
      clear hst hmk hbel
      cases pl with
      | true =>
        have HX2 := veil (HF.out wr _ HBE.out (by rw [← (show M = ins x R from (hjR ▸ HST.out).end1)]; exact HMK.out))
        go_wp2
        go_end0
        exact ⟨rfl, HX2.out.1, HX2.out.2⟩
      | false =>
        go_wp2_with (at_builtin; refine wpList_append_own _ rfl _ _ 67 rfl (w.heap.size + 1) 71 i0 (.agg #[.int .i64 0, .int .u64 0, .int .u64 0]) 3 24 Try.underlying67 hi0 hz0 hz1 hz2 rfl (by decide) _ _ _ rfl (World.ownsRow.alloc HMK.out _) ⟨wr.heap.size, 0, none⟩ 1 1 [.int .i64 (x.1 : Int), .int .u64 (x.2.1 : Int), .int .u64 (x.2.2 : Int)] rfl rfl (news_item _ x) (by simp [Value.oneCell']) (by unfold maxLen; omega) (by omega) (by simp; omega) ?_; intro v1 w1 hown' hgrow _; obtain ⟨a1, d1, rfl⟩ := owns_slice hown'; have HB1 := veil ((HBE.out.alloc (by simpa using hsz) _).grown hgrow (by simp; omega) (fun k hk => (World.ownsRow.lt HMK.out k hk).1)); obtain ⟨ee1, ff1, _, _, _⟩ := C1.out _ HB1.out; have HX2 := veil (HF.out w1 _ HB1.out (by rw [← (show M ++ [x] = ins x R from (hjR ▸ HST.out).end2)]; exact Mk.snoc hown')); have HO1 := veil hown'; have HG1 := veil hgrow; clear hown' hgrow)
        go_end0
        exact ⟨rfl, HX2.out.1, HX2.out.2⟩
end Go.Proofs.Ytiledmfnhahmiaa
