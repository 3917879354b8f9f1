/-
  script: a number's bytes walked, on both sides.
-/
import Derived.Test.YtnnpbbiiapipaaaS4p
namespace Go.Proofs.Ytnnpbbiiapipaaa
open Go.RowKit Go.Lib
set_option linter.unusedVariables false
/-- A block of cells. -/
def Bx (W : World) (k : Nat) (c : Array Value) (t : TypeId) : Prop := W.heap[k]? = some (.cells c t (0, 0))
section
variable {W W' : World} {k : Nat} {c : Array Value} {t : TypeId}
theorem bx_new (w : World) (c : Array Value) (t : TypeId) : Bx (w.alloc (.cells c t)) w.heap.size c t := (MapKept.heap_alloc w _).1
theorem Bx.lt (h : Bx W k c t) : k < W.heap.size := (Array.getElem?_eq_some_iff.1 h).1
theorem Bx.alloc (h : Bx W k c t) (o : Obj) : Bx (W.alloc o) k c t := (Below.heap_alloc _ _ _ h.lt).trans h
theorem Bx.below (h : Bx W k c t) {B : Nat} (hb : Below B W W') (hk : k < B) : Bx W' k c t := (hb.block k hk).trans h
theorem Bx.grown (h : Bx W k c t) {row : Option Nat} (hg : W.grownBy W' row) (hr : row ≠ some k) : Bx W' k c t := (hg.block k h.lt (fun e => hr e.symm)).trans h
theorem Bx.cell (h : Bx W k c t) (i : Nat) (u : Value) (hu : c[i]? = some u) : W.cell? ⟨k, i, none⟩ = some u := by
  unfold World.cell?
  rw [show W.heap[(⟨k, i, none⟩ : Addr).block]? = _ from h]
  exact hu
theorem row_ne {base : Nat} {e : TypeId} {s : Nat} {v : Value} {n : Nat} {xs : List Value} (ho : W.ownsRow base e s v n xs) (h : Bx W k c t) (he : e ≠ t) : v.ownBlock ≠ some k := by
  intro hk
  rcases ho.2 with ⟨rfl, _⟩ | ⟨g, cap, cur, rfl, hb, hg, _⟩
  · simp [Value.ownBlock] at hk
  · simp [Value.ownBlock] at hk
    subst hk
    unfold Bx at h
    rw [hg] at h
    injection h with h
    injection h with _ h _
    exact he h
theorem own_ne {base : Nat} {e : TypeId} {s : Nat} {v : Value} {n : Nat} {xs : List Value} (ho : W.ownsRow base e s v n xs) : v.ownBlock ≠ some W.heap.size := fun hk => by
  have := (ho.lt _ hk).2
  omega
end
/-- Blocks of other cells than bytes stay. -/
def Keeps (w w' : World) : Prop := ∀ k c t, t ≠ 5 → Bx w k c t → Bx w' k c t
theorem Keeps.refl (w : World) : Keeps w w := fun _ _ _ _ h => h
theorem Keeps.trans {w w' w'' : World} (h : Keeps w w') (h' : Keeps w' w'') : Keeps w w'' := fun k c t ht hx => h' k c t ht (h k c t ht hx)
theorem Keeps.alloc {w w' : World} (h : Keeps w w') (o : Obj) : Keeps w (w'.alloc o) := fun k c t ht hx => (h k c t ht hx).alloc o
theorem Keeps.grown {w w' w'' : World} (h : Keeps w w') {base : Nat} {s : Nat} {v : Value} {n : Nat} {xs : List Value} (ho : w'.ownsRow base 5 s v n xs) (hg : w'.grownBy w'' v.ownBlock) : Keeps w w'' := fun k c t ht hx => (h k c t ht hx).grown hg (row_ne ho (h k c t ht hx) (fun q => ht q.symm))
theorem Keeps.below {w w' : World} (h : Below w.heap.size w w') : Keeps w w' := fun k c t ht hx => hx.below h hx.lt
theorem be_at : ∀ (k N j : Nat), j < k → (be k N)[j]? = some (N / 256 ^ (k - 1 - j) % 256)
  | k + 1, N, 0, _ => by simp [be]
  | k + 1, N, j + 1, h => by
    have := be_at k N j (by omega)
    simp only [be, List.getElem?_cons_succ, this]
    rw [show k + 1 - 1 - (j + 1) = k - 1 - j by omega]
theorem be_take {k N j m : Nat} (h : j < k) (hm : m = k - 1 - j) : u8s ((be k N).take (j + 1)) = u8s ((be k N).take j) ++ [lowByte (N / 256 ^ m)] := by
  have h1 := be_at k N j h
  rw [List.take_add_one, h1, hm]
  simp [u8s, lowByte]
theorem be_all (k N : Nat) : (be k N).take k = be k N := List.take_of_length_le (by rw [be_length]; omega)
set_option maxRecDepth 100000 in
set_option maxHeartbeats 4000000 in
theorem tellN_ok (w : World) (base : Nat) (v : Value) (n : Nat) (xs : List Value) (hn : n < 1000000) (h : w.ownsRow base 5 1 v n xs) (hb : base ≤ w.heap.size) (N : Nat) (hN : N < 18446744073709551616) (k : Nat) (hk : k ≤ 8) :
    Calls Try.prog 34 #[v, .int .u64 (N : Int), .int .i64 (k : Int)] w fun e w' => ∃ v', e = .returned v' ∧ w'.ownsRow base 5 1 v' (n + k) (xs ++ u8s (be k N)) ∧ Below base w w' ∧ Keeps w w' := by
  obtain ⟨i0, hi, hz0, hz1, hz2⟩ := info_parts info_u8
  have HO := veil h
  clear h
  go_enter Try.func34, Try.ntmps34
  go_wp2
  go_loopw [0, 7] (fun s i wr => ∃ (j : Nat), j ≤ k ∧ i = .int .i64 ((k : Int) - 1 - j) ∧ wr.ownsRow base 5 1 s (n + j) (xs ++ u8s ((be k N).take j)) ∧ Below base w wr ∧ base ≤ wr.heap.size ∧ Keeps w wr) (fun _ i _ => (intOf i + 1).toNat)
  case atStart => exact ⟨0, by omega, by simp, by simpa [u8s] using HO.out, Below.refl _ _, hb, Keeps.refl _⟩
  case round =>
    obtain ⟨j, hj, rfl, ho, hg, hsz, hkp⟩ := hrel
    have HO1 := veil ho
    have HB := veil hg
    have HKP := veil hkp
    clear ho hg HO hkp
    by_cases hjk : j < k
    · obtain ⟨m, hm8, hm, hm'⟩ : ∃ m : Nat, m < 8 ∧ m = k - 1 - j ∧ (k : Int) - 1 - (j : Int) = (m : Int) := ⟨k - 1 - j, by omega, rfl, by omega⟩
      have HT := veil (be_take (N := N) hjk hm)
      have HM : Hid (j + 1 ≤ k ∧ (k : Int) - 1 - ((j + 1 : Nat) : Int) = (m : Int) - 1) := ⟨by omega, by omega⟩
      rw [hm']
      clear hm hm'
      have : m = 0 ∨ m = 1 ∨ m = 2 ∨ m = 3 ∨ m = 4 ∨ m = 5 ∨ m = 6 ∨ m = 7 := by omega
      rcases this with rfl | rfl | rfl | rfl | rfl | rfl | rfl | rfl
      · go_wp2_with (at_builtin; refine wpList_append_own _ rfl _ _ 24 rfl base 5 i0 (.int .u8 0) 1 1 Try.underlying24 hi hz0 hz1 hz2 rfl (by decide) _ _ _ rfl (World.ownsRow.alloc HO1.out _) ⟨wr.heap.size, 0, none⟩ 1 1 [_] rfl rfl (cell_one_new _ _ _) (by simp [Value.oneCell']) (by unfold maxLen; omega) (by omega) (by simp; omega) ?_; intro v' w1 hown' hgrow _; have HO2 := veil hown'; have HG := veil ((HB.out.alloc hsz _).grown hgrow (Nat.le_trans hsz (by simp)) (fun k hk => (HO1.out.lt k hk).1)); have HKP2 := veil ((HKP.out.alloc _).grown (World.ownsRow.alloc HO1.out _) hgrow); clear hown' hgrow)
        refine ⟨⟨j + 1, HM.out.1, by rw [HM.out.2]; rfl, ?_, HG.out, Nat.le_trans hb HG.out.size, HKP2.out⟩, by decide⟩
        rw [HT.out, ← List.append_assoc]
        refine Eq.mp (congrArg (fun u => w1.ownsRow base 5 1 v' (n + j + 1) (xs ++ u8s (List.take j (be k N)) ++ [u])) ?_) HO2.out
        unfold lowByte
        rw [show (256 : Nat) ^ 0 = 1 from rfl]
        first | (congr 1; done) | (congr 1; omega)
      · go_wp2_with (at_builtin; refine wpList_append_own _ rfl _ _ 24 rfl base 5 i0 (.int .u8 0) 1 1 Try.underlying24 hi hz0 hz1 hz2 rfl (by decide) _ _ _ rfl (World.ownsRow.alloc HO1.out _) ⟨wr.heap.size, 0, none⟩ 1 1 [_] rfl rfl (cell_one_new _ _ _) (by simp [Value.oneCell']) (by unfold maxLen; omega) (by omega) (by simp; omega) ?_; intro v' w1 hown' hgrow _; have HO2 := veil hown'; have HG := veil ((HB.out.alloc hsz _).grown hgrow (Nat.le_trans hsz (by simp)) (fun k hk => (HO1.out.lt k hk).1)); have HKP2 := veil ((HKP.out.alloc _).grown (World.ownsRow.alloc HO1.out _) hgrow); clear hown' hgrow)
        refine ⟨⟨j + 1, HM.out.1, by rw [HM.out.2]; rfl, ?_, HG.out, Nat.le_trans hb HG.out.size, HKP2.out⟩, by decide⟩
        rw [HT.out, ← List.append_assoc]
        refine Eq.mp (congrArg (fun u => w1.ownsRow base 5 1 v' (n + j + 1) (xs ++ u8s (List.take j (be k N)) ++ [u])) ?_) HO2.out
        unfold lowByte
        rw [show (256 : Nat) ^ 1 = 256 from rfl]
        first | (congr 1; done) | (congr 1; omega)
      · go_wp2_with (at_builtin; refine wpList_append_own _ rfl _ _ 24 rfl base 5 i0 (.int .u8 0) 1 1 Try.underlying24 hi hz0 hz1 hz2 rfl (by decide) _ _ _ rfl (World.ownsRow.alloc HO1.out _) ⟨wr.heap.size, 0, none⟩ 1 1 [_] rfl rfl (cell_one_new _ _ _) (by simp [Value.oneCell']) (by unfold maxLen; omega) (by omega) (by simp; omega) ?_; intro v' w1 hown' hgrow _; have HO2 := veil hown'; have HG := veil ((HB.out.alloc hsz _).grown hgrow (Nat.le_trans hsz (by simp)) (fun k hk => (HO1.out.lt k hk).1)); have HKP2 := veil ((HKP.out.alloc _).grown (World.ownsRow.alloc HO1.out _) hgrow); clear hown' hgrow)
        refine ⟨⟨j + 1, HM.out.1, by rw [HM.out.2]; rfl, ?_, HG.out, Nat.le_trans hb HG.out.size, HKP2.out⟩, by decide⟩
        rw [HT.out, ← List.append_assoc]
        refine Eq.mp (congrArg (fun u => w1.ownsRow base 5 1 v' (n + j + 1) (xs ++ u8s (List.take j (be k N)) ++ [u])) ?_) HO2.out
        unfold lowByte
        rw [show (256 : Nat) ^ 2 = 65536 from rfl]
        first | (congr 1; done) | (congr 1; omega)
      · go_wp2_with (at_builtin; refine wpList_append_own _ rfl _ _ 24 rfl base 5 i0 (.int .u8 0) 1 1 Try.underlying24 hi hz0 hz1 hz2 rfl (by decide) _ _ _ rfl (World.ownsRow.alloc HO1.out _) ⟨wr.heap.size, 0, none⟩ 1 1 [_] rfl rfl (cell_one_new _ _ _) (by simp [Value.oneCell']) (by unfold maxLen; omega) (by omega) (by simp; omega) ?_; intro v' w1 hown' hgrow _; have HO2 := veil hown'; have HG := veil ((HB.out.alloc hsz _).grown hgrow (Nat.le_trans hsz (by simp)) (fun k hk => (HO1.out.lt k hk).1)); have HKP2 := veil ((HKP.out.alloc _).grown (World.ownsRow.alloc HO1.out _) hgrow); clear hown' hgrow)
        refine ⟨⟨j + 1, HM.out.1, by rw [HM.out.2]; rfl, ?_, HG.out, Nat.le_trans hb HG.out.size, HKP2.out⟩, by decide⟩
        rw [HT.out, ← List.append_assoc]
        refine Eq.mp (congrArg (fun u => w1.ownsRow base 5 1 v' (n + j + 1) (xs ++ u8s (List.take j (be k N)) ++ [u])) ?_) HO2.out
        unfold lowByte
        rw [show (256 : Nat) ^ 3 = 16777216 from rfl]
        first | (congr 1; done) | (congr 1; omega)
      · go_wp2_with (at_builtin; refine wpList_append_own _ rfl _ _ 24 rfl base 5 i0 (.int .u8 0) 1 1 Try.underlying24 hi hz0 hz1 hz2 rfl (by decide) _ _ _ rfl (World.ownsRow.alloc HO1.out _) ⟨wr.heap.size, 0, none⟩ 1 1 [_] rfl rfl (cell_one_new _ _ _) (by simp [Value.oneCell']) (by unfold maxLen; omega) (by omega) (by simp; omega) ?_; intro v' w1 hown' hgrow _; have HO2 := veil hown'; have HG := veil ((HB.out.alloc hsz _).grown hgrow (Nat.le_trans hsz (by simp)) (fun k hk => (HO1.out.lt k hk).1)); have HKP2 := veil ((HKP.out.alloc _).grown (World.ownsRow.alloc HO1.out _) hgrow); clear hown' hgrow)
        refine ⟨⟨j + 1, HM.out.1, by rw [HM.out.2]; rfl, ?_, HG.out, Nat.le_trans hb HG.out.size, HKP2.out⟩, by decide⟩
        rw [HT.out, ← List.append_assoc]
        refine Eq.mp (congrArg (fun u => w1.ownsRow base 5 1 v' (n + j + 1) (xs ++ u8s (List.take j (be k N)) ++ [u])) ?_) HO2.out
        unfold lowByte
        rw [show (256 : Nat) ^ 4 = 4294967296 from rfl]
        first | (congr 1; done) | (congr 1; omega)
      · go_wp2_with (at_builtin; refine wpList_append_own _ rfl _ _ 24 rfl base 5 i0 (.int .u8 0) 1 1 Try.underlying24 hi hz0 hz1 hz2 rfl (by decide) _ _ _ rfl (World.ownsRow.alloc HO1.out _) ⟨wr.heap.size, 0, none⟩ 1 1 [_] rfl rfl (cell_one_new _ _ _) (by simp [Value.oneCell']) (by unfold maxLen; omega) (by omega) (by simp; omega) ?_; intro v' w1 hown' hgrow _; have HO2 := veil hown'; have HG := veil ((HB.out.alloc hsz _).grown hgrow (Nat.le_trans hsz (by simp)) (fun k hk => (HO1.out.lt k hk).1)); have HKP2 := veil ((HKP.out.alloc _).grown (World.ownsRow.alloc HO1.out _) hgrow); clear hown' hgrow)
        refine ⟨⟨j + 1, HM.out.1, by rw [HM.out.2]; rfl, ?_, HG.out, Nat.le_trans hb HG.out.size, HKP2.out⟩, by decide⟩
        rw [HT.out, ← List.append_assoc]
        refine Eq.mp (congrArg (fun u => w1.ownsRow base 5 1 v' (n + j + 1) (xs ++ u8s (List.take j (be k N)) ++ [u])) ?_) HO2.out
        unfold lowByte
        rw [show (256 : Nat) ^ 5 = 1099511627776 from rfl]
        first | (congr 1; done) | (congr 1; omega)
      · go_wp2_with (at_builtin; refine wpList_append_own _ rfl _ _ 24 rfl base 5 i0 (.int .u8 0) 1 1 Try.underlying24 hi hz0 hz1 hz2 rfl (by decide) _ _ _ rfl (World.ownsRow.alloc HO1.out _) ⟨wr.heap.size, 0, none⟩ 1 1 [_] rfl rfl (cell_one_new _ _ _) (by simp [Value.oneCell']) (by unfold maxLen; omega) (by omega) (by simp; omega) ?_; intro v' w1 hown' hgrow _; have HO2 := veil hown'; have HG := veil ((HB.out.alloc hsz _).grown hgrow (Nat.le_trans hsz (by simp)) (fun k hk => (HO1.out.lt k hk).1)); have HKP2 := veil ((HKP.out.alloc _).grown (World.ownsRow.alloc HO1.out _) hgrow); clear hown' hgrow)
        refine ⟨⟨j + 1, HM.out.1, by rw [HM.out.2]; rfl, ?_, HG.out, Nat.le_trans hb HG.out.size, HKP2.out⟩, by decide⟩
        rw [HT.out, ← List.append_assoc]
        refine Eq.mp (congrArg (fun u => w1.ownsRow base 5 1 v' (n + j + 1) (xs ++ u8s (List.take j (be k N)) ++ [u])) ?_) HO2.out
        unfold lowByte
        rw [show (256 : Nat) ^ 6 = 281474976710656 from rfl]
        first | (congr 1; done) | (congr 1; omega)
      · go_wp2_with (at_builtin; refine wpList_append_own _ rfl _ _ 24 rfl base 5 i0 (.int .u8 0) 1 1 Try.underlying24 hi hz0 hz1 hz2 rfl (by decide) _ _ _ rfl (World.ownsRow.alloc HO1.out _) ⟨wr.heap.size, 0, none⟩ 1 1 [_] rfl rfl (cell_one_new _ _ _) (by simp [Value.oneCell']) (by unfold maxLen; omega) (by omega) (by simp; omega) ?_; intro v' w1 hown' hgrow _; have HO2 := veil hown'; have HG := veil ((HB.out.alloc hsz _).grown hgrow (Nat.le_trans hsz (by simp)) (fun k hk => (HO1.out.lt k hk).1)); have HKP2 := veil ((HKP.out.alloc _).grown (World.ownsRow.alloc HO1.out _) hgrow); clear hown' hgrow)
        refine ⟨⟨j + 1, HM.out.1, by rw [HM.out.2]; rfl, ?_, HG.out, Nat.le_trans hb HG.out.size, HKP2.out⟩, by decide⟩
        rw [HT.out, ← List.append_assoc]
        refine Eq.mp (congrArg (fun u => w1.ownsRow base 5 1 v' (n + j + 1) (xs ++ u8s (List.take j (be k N)) ++ [u])) ?_) HO2.out
        unfold lowByte
        rw [show (256 : Nat) ^ 7 = 72057594037927936 from rfl]
        first | (congr 1; done) | (congr 1; omega)
    · obtain rfl : j = k := by omega
      rw [show (j : Int) - 1 - (j : Int) = -1 by omega]
      have HF := HO1.out
      rw [be_all] at HF
      have HF2 := veil HF
      clear HF
      go_wp2
      go_ret
      exact ⟨_, rfl, HF2.out, HB.out, HKP.out⟩
set_option maxRecDepth 100000 in
set_option maxHeartbeats 4000000 in
theorem eight_ok (w : World) (N : Nat) (hN : N < 18446744073709551616) :
    Calls Try.prog 36 #[.int .u64 (N : Int)] w fun e w' => ∃ v', e = .returned v' ∧ w'.ownsRow w.heap.size 5 1 v' 8 (u8s (be 8 N)) ∧ Below w.heap.size w w' := by
  obtain ⟨i0, hi, hz0, hz1, hz2⟩ := info_parts info_u8
  go_enter Try.func36, Try.ntmps36
  go_wp2
  go_loopw [3, 4] (fun s i wr => ∃ (j : Nat), j ≤ 8 ∧ i = .int .i64 (j : Int) ∧ wr.ownsRow w.heap.size 5 1 s j (u8s ((be 8 N).take j)) ∧ Below w.heap.size w wr ∧ w.heap.size ≤ wr.heap.size) (fun _ i _ => 8 - (intOf i).toNat)
  case atStart => exact ⟨0, by omega, rfl, by simpa [u8s] using World.ownsRow_nil _ _ _ _, Below.refl _ _, Nat.le_refl _⟩
  case round =>
    obtain ⟨j, hj, rfl, ho, hg, hsz⟩ := hrel
    have HO1 := veil ho
    have HB := veil hg
    clear ho hg
    by_cases hjk : j < 8
    · have HT := veil (be_take (N := N) (m := 7 - j) hjk (by omega))
      have : j = 0 ∨ j = 1 ∨ j = 2 ∨ j = 3 ∨ j = 4 ∨ j = 5 ∨ j = 6 ∨ j = 7 := by omega
      rcases this with rfl | rfl | rfl | rfl | rfl | rfl | rfl | rfl
      · go_wp2_with (at_builtin; refine wpList_append_own _ rfl _ _ 24 rfl w.heap.size 5 i0 (.int .u8 0) 1 1 Try.underlying24 hi hz0 hz1 hz2 rfl (by decide) _ _ _ rfl (World.ownsRow.alloc HO1.out _) ⟨wr.heap.size, 0, none⟩ 1 1 [_] rfl rfl (cell_one_new _ _ _) (by simp [Value.oneCell']) (by unfold maxLen; omega) (by omega) (by simp; omega) ?_; intro v' w1 hown' hgrow _; have HO2 := veil hown'; have HG := veil ((HB.out.alloc hsz _).grown hgrow (Nat.le_trans hsz (by simp)) (fun k hk => (HO1.out.lt k hk).1)); clear hown' hgrow)
        refine ⟨⟨0 + 1, by omega, rfl, ?_, HG.out, HG.out.size⟩, by decide⟩
        rw [HT.out]
        refine Eq.mp (congrArg (fun u => w1.ownsRow w.heap.size 5 1 v' (0 + 1) (u8s (List.take 0 (be 8 N)) ++ [u])) ?_) HO2.out
        unfold lowByte
        rw [show (256 : Nat) ^ (7 - 0) = 72057594037927936 from rfl]
        first | (congr 1; done) | (congr 1; omega)
      · go_wp2_with (at_builtin; refine wpList_append_own _ rfl _ _ 24 rfl w.heap.size 5 i0 (.int .u8 0) 1 1 Try.underlying24 hi hz0 hz1 hz2 rfl (by decide) _ _ _ rfl (World.ownsRow.alloc HO1.out _) ⟨wr.heap.size, 0, none⟩ 1 1 [_] rfl rfl (cell_one_new _ _ _) (by simp [Value.oneCell']) (by unfold maxLen; omega) (by omega) (by simp; omega) ?_; intro v' w1 hown' hgrow _; have HO2 := veil hown'; have HG := veil ((HB.out.alloc hsz _).grown hgrow (Nat.le_trans hsz (by simp)) (fun k hk => (HO1.out.lt k hk).1)); clear hown' hgrow)
        refine ⟨⟨1 + 1, by omega, rfl, ?_, HG.out, HG.out.size⟩, by decide⟩
        rw [HT.out]
        refine Eq.mp (congrArg (fun u => w1.ownsRow w.heap.size 5 1 v' (1 + 1) (u8s (List.take 1 (be 8 N)) ++ [u])) ?_) HO2.out
        unfold lowByte
        rw [show (256 : Nat) ^ (7 - 1) = 281474976710656 from rfl]
        first | (congr 1; done) | (congr 1; omega)
      · go_wp2_with (at_builtin; refine wpList_append_own _ rfl _ _ 24 rfl w.heap.size 5 i0 (.int .u8 0) 1 1 Try.underlying24 hi hz0 hz1 hz2 rfl (by decide) _ _ _ rfl (World.ownsRow.alloc HO1.out _) ⟨wr.heap.size, 0, none⟩ 1 1 [_] rfl rfl (cell_one_new _ _ _) (by simp [Value.oneCell']) (by unfold maxLen; omega) (by omega) (by simp; omega) ?_; intro v' w1 hown' hgrow _; have HO2 := veil hown'; have HG := veil ((HB.out.alloc hsz _).grown hgrow (Nat.le_trans hsz (by simp)) (fun k hk => (HO1.out.lt k hk).1)); clear hown' hgrow)
        refine ⟨⟨2 + 1, by omega, rfl, ?_, HG.out, HG.out.size⟩, by decide⟩
        rw [HT.out]
        refine Eq.mp (congrArg (fun u => w1.ownsRow w.heap.size 5 1 v' (2 + 1) (u8s (List.take 2 (be 8 N)) ++ [u])) ?_) HO2.out
        unfold lowByte
        rw [show (256 : Nat) ^ (7 - 2) = 1099511627776 from rfl]
        first | (congr 1; done) | (congr 1; omega)
      · go_wp2_with (at_builtin; refine wpList_append_own _ rfl _ _ 24 rfl w.heap.size 5 i0 (.int .u8 0) 1 1 Try.underlying24 hi hz0 hz1 hz2 rfl (by decide) _ _ _ rfl (World.ownsRow.alloc HO1.out _) ⟨wr.heap.size, 0, none⟩ 1 1 [_] rfl rfl (cell_one_new _ _ _) (by simp [Value.oneCell']) (by unfold maxLen; omega) (by omega) (by simp; omega) ?_; intro v' w1 hown' hgrow _; have HO2 := veil hown'; have HG := veil ((HB.out.alloc hsz _).grown hgrow (Nat.le_trans hsz (by simp)) (fun k hk => (HO1.out.lt k hk).1)); clear hown' hgrow)
        refine ⟨⟨3 + 1, by omega, rfl, ?_, HG.out, HG.out.size⟩, by decide⟩
        rw [HT.out]
        refine Eq.mp (congrArg (fun u => w1.ownsRow w.heap.size 5 1 v' (3 + 1) (u8s (List.take 3 (be 8 N)) ++ [u])) ?_) HO2.out
        unfold lowByte
        rw [show (256 : Nat) ^ (7 - 3) = 4294967296 from rfl]
        first | (congr 1; done) | (congr 1; omega)
      · go_wp2_with (at_builtin; refine wpList_append_own _ rfl _ _ 24 rfl w.heap.size 5 i0 (.int .u8 0) 1 1 Try.underlying24 hi hz0 hz1 hz2 rfl (by decide) _ _ _ rfl (World.ownsRow.alloc HO1.out _) ⟨wr.heap.size, 0, none⟩ 1 1 [_] rfl rfl (cell_one_new _ _ _) (by simp [Value.oneCell']) (by unfold maxLen; omega) (by omega) (by simp; omega) ?_; intro v' w1 hown' hgrow _; have HO2 := veil hown'; have HG := veil ((HB.out.alloc hsz _).grown hgrow (Nat.le_trans hsz (by simp)) (fun k hk => (HO1.out.lt k hk).1)); clear hown' hgrow)
        refine ⟨⟨4 + 1, by omega, rfl, ?_, HG.out, HG.out.size⟩, by decide⟩
        rw [HT.out]
        refine Eq.mp (congrArg (fun u => w1.ownsRow w.heap.size 5 1 v' (4 + 1) (u8s (List.take 4 (be 8 N)) ++ [u])) ?_) HO2.out
        unfold lowByte
        rw [show (256 : Nat) ^ (7 - 4) = 16777216 from rfl]
        first | (congr 1; done) | (congr 1; omega)
      · go_wp2_with (at_builtin; refine wpList_append_own _ rfl _ _ 24 rfl w.heap.size 5 i0 (.int .u8 0) 1 1 Try.underlying24 hi hz0 hz1 hz2 rfl (by decide) _ _ _ rfl (World.ownsRow.alloc HO1.out _) ⟨wr.heap.size, 0, none⟩ 1 1 [_] rfl rfl (cell_one_new _ _ _) (by simp [Value.oneCell']) (by unfold maxLen; omega) (by omega) (by simp; omega) ?_; intro v' w1 hown' hgrow _; have HO2 := veil hown'; have HG := veil ((HB.out.alloc hsz _).grown hgrow (Nat.le_trans hsz (by simp)) (fun k hk => (HO1.out.lt k hk).1)); clear hown' hgrow)
        refine ⟨⟨5 + 1, by omega, rfl, ?_, HG.out, HG.out.size⟩, by decide⟩
        rw [HT.out]
        refine Eq.mp (congrArg (fun u => w1.ownsRow w.heap.size 5 1 v' (5 + 1) (u8s (List.take 5 (be 8 N)) ++ [u])) ?_) HO2.out
        unfold lowByte
        rw [show (256 : Nat) ^ (7 - 5) = 65536 from rfl]
        first | (congr 1; done) | (congr 1; omega)
      · go_wp2_with (at_builtin; refine wpList_append_own _ rfl _ _ 24 rfl w.heap.size 5 i0 (.int .u8 0) 1 1 Try.underlying24 hi hz0 hz1 hz2 rfl (by decide) _ _ _ rfl (World.ownsRow.alloc HO1.out _) ⟨wr.heap.size, 0, none⟩ 1 1 [_] rfl rfl (cell_one_new _ _ _) (by simp [Value.oneCell']) (by unfold maxLen; omega) (by omega) (by simp; omega) ?_; intro v' w1 hown' hgrow _; have HO2 := veil hown'; have HG := veil ((HB.out.alloc hsz _).grown hgrow (Nat.le_trans hsz (by simp)) (fun k hk => (HO1.out.lt k hk).1)); clear hown' hgrow)
        refine ⟨⟨6 + 1, by omega, rfl, ?_, HG.out, HG.out.size⟩, by decide⟩
        rw [HT.out]
        refine Eq.mp (congrArg (fun u => w1.ownsRow w.heap.size 5 1 v' (6 + 1) (u8s (List.take 6 (be 8 N)) ++ [u])) ?_) HO2.out
        unfold lowByte
        rw [show (256 : Nat) ^ (7 - 6) = 256 from rfl]
        first | (congr 1; done) | (congr 1; omega)
      · go_wp2_with (at_builtin; refine wpList_append_own _ rfl _ _ 24 rfl w.heap.size 5 i0 (.int .u8 0) 1 1 Try.underlying24 hi hz0 hz1 hz2 rfl (by decide) _ _ _ rfl (World.ownsRow.alloc HO1.out _) ⟨wr.heap.size, 0, none⟩ 1 1 [_] rfl rfl (cell_one_new _ _ _) (by simp [Value.oneCell']) (by unfold maxLen; omega) (by omega) (by simp; omega) ?_; intro v' w1 hown' hgrow _; have HO2 := veil hown'; have HG := veil ((HB.out.alloc hsz _).grown hgrow (Nat.le_trans hsz (by simp)) (fun k hk => (HO1.out.lt k hk).1)); clear hown' hgrow)
        refine ⟨⟨7 + 1, by omega, rfl, ?_, HG.out, HG.out.size⟩, by decide⟩
        rw [HT.out]
        refine Eq.mp (congrArg (fun u => w1.ownsRow w.heap.size 5 1 v' (7 + 1) (u8s (List.take 7 (be 8 N)) ++ [u])) ?_) HO2.out
        unfold lowByte
        rw [show (256 : Nat) ^ (7 - 7) = 1 from rfl]
        first | (congr 1; done) | (congr 1; omega)
    · obtain rfl : j = 8 := by omega
      have HF := HO1.out
      rw [be_all] at HF
      have HF2 := veil HF
      clear HF
      go_wp2
      go_ret
      exact ⟨_, rfl, HF2.out, HB.out⟩
end Go.Proofs.Ytnnpbbiiapipaaa
