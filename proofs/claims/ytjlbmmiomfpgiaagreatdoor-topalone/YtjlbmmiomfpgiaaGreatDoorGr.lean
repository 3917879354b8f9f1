/- YtjlbmmiomfpgiaaGreatDoorGr: of the texts Ba29 Ba33 Ba32 Ba30 Ba34 Ba35 Ba31 what is wanted. -/
import Derived.Test.YtjlbmmiomfpgiaaGreatDoorG0
import Derived.Test.YtjlbmmiomfpgiaaGreatDoorGq
import Derived.Laws.CopyOwn
import Derived.Laws.Tables
import Derived.Deep.AppendLies
import Derived.Test.YtjlbmmiomfpgiaaGreatDoorGk
namespace Go.Proofs.YtjlbmmiomfpgiaaGreatDoor
set_option maxRecDepth 100000
open Go.RowKit Go.Lib Go.Shelf
set_option linter.unusedVariables false
attribute [local go_sem ↓] Go.wp_at_zero Go.wp_at_succ
theorem run_copy_k {P : Program} (w : World) (dT sT ty elem : TypeId) (k g o dLen dCap : Nat) (a : Addr) (sLen sCap : Nat) (cur : Array Value) (t : TypeId) (cs : List Value)
  (hu : P.underlying dT = some (.slice elem)) (hs : (P.info? elem).map (·.size) = some k)
  (hg : w.heap[g]? = some (.cells cur t (0, 0))) (m : Nat) (hm : Nat.min sLen dLen = m) (hn : cs.length = m * k)
  (hsrc : ∀ j v, cs[j]? = some v → w.cell? (a.add j) = some v) (hfit : o + cs.length ≤ cur.size) (h1 : ∀ v ∈ cs, v.oneCell' = true) :
  (Builtin.copy_ #[dT, sT] ty #[.slice (some ⟨g, o, none⟩) dLen dCap, .slice (some a) sLen sCap]).run P w =
   .ok (goInt m) (w.setRow g (cur.toList.take o ++ cs ++ cur.toList.drop (o + cs.length)).toArray) := by
 have hl := run_loadCells_list (P := P) w a cs hsrc
 have hst := run_storeCells_at P g o t cs 0 cur w hg (by simpa using hfit) h1
 cases hq : P.info? elem with
 | none => simp [hq] at hs
 | some i =>
  have hi : i.size = k := by simpa [hq] using hs
  simp [Builtin.copy_, run_underlying hu, Builtin.lenOf, Builtin.firstCells, sizeOf, typeInfo, hq, hi, hm, ← hn, hl, hst]
def pcCells (n : Nat) : List Value := (List.replicate n [Value.int .i64 (-1), Value.int .u64 0, Value.bool false]).flatten
theorem pcCells_len (n : Nat) : (pcCells n).length = n * 3 := by simp [pcCells]
theorem pcCells_one (n : Nat) : ∀ u ∈ pcCells n, u.oneCell' = true := by
 intro u hu
 unfold pcCells at hu
 rw [List.mem_flatten] at hu
 obtain ⟨l, hl, hm⟩ := hu
 rw [(List.mem_replicate.1 hl).2] at hm
 simp at hm
 rcases hm with rfl | rfl | rfl <;> rfl
theorem pcCells_add (a b : Nat) : pcCells (a + b) = pcCells a ++ pcCells b := by
 unfold pcCells
 rw [← List.replicate_append_replicate, List.flatten_append]
theorem pcCells_take {a b : Nat} (h : a ≤ b) : (pcCells b).take (a * 3) = pcCells a := by
 rw [show b = a + (b - a) by omega, pcCells_add, ← pcCells_len a, List.take_left]
theorem pcCells_at : ∀ (n i : Nat), i < n → (pcCells n)[i * 3]? = some (.int .i64 (-1)) ∧ (pcCells n)[i * 3 + 1]? = some (.int .u64 0) ∧ (pcCells n)[i * 3 + 2]? = some (.bool false) := by
 intro n i hi
 have e : pcCells n = pcCells i ++ (pcCells 1 ++ pcCells (n - i - 1)) := by rw [← pcCells_add, ← pcCells_add]; congr 1; omega
 rw [e, ← pcCells_len i]
 refine ⟨?_, ?_, ?_⟩
 ·rw [List.getElem?_append_right (Nat.le_refl _), Nat.sub_self]; rfl
 ·rw [List.getElem?_append_right (Nat.le_add_right _ _), Nat.add_sub_cancel_left]; rfl
 ·rw [List.getElem?_append_right (Nat.le_add_right _ _), Nat.add_sub_cancel_left]; rfl
theorem mulu_ok (P : Nat) (hP : P ≤ 64) (w : World) : Calls Tryz.prog 69 #[.int .u64 1, .int .u64 (P : Int)] w fun e w' => e = .returned (.tuple #[.int .u64 0, .int .u64 (P : Int)]) ∧ w' = w := by
 have h := fun w => Bq.mul64_any 1 (P : Int) w (by omega) (by omega) (by omega) (by omega)
 have e1 : Bq.hiN 1 (P : Int) = 0 := by unfold Bq.hiN; omega
 have e2 : Bq.loN 1 (P : Int) = (P : Int) := by unfold Bq.loN; omega
 rw [e1, e2] at h
 have H := veil h
 clear h
 go_enter Tryz.func69, Tryz.ntmps69
 go_wp2_with (go_at_call 117; refine (H.out _).mono ?_; rintro e w' ⟨rfl, hw⟩; replace hw := hw.symm; subst hw)
 go_ret2
 exact ⟨rfl, rfl⟩
def pcZero : Value := .agg #[.int .i64 0, .int .u64 0, .bool false]
theorem infoPc : (Tryz.prog.info? 99).map (fun i => (i.zero, i.size, i.bytes)) = some (some pcZero, 3, 24) := by kernel_rfl
theorem sizePc : (Tryz.prog.info? 99).map (·.size) = some 3 := by kernel_rfl
theorem made_len (z : Array Value) (n : Nat) : (madeCells z n).toList.length = n := by simp [madeCells]
structure Rp (W : World) (b P k : Nat) : Prop where
 blk : ∃ xs : List Value, W.heap[b]? = some (.cells xs.toArray 99 (0, 0)) ∧ xs.length = P * 3 ∧ xs.take (k * 3) = pcCells k
theorem Rp.next {W : World} {b P k : Nat} {xs : List Value} (h1 : W.heap[b]? = some (.cells xs.toArray 99 (0, 0))) (h2 : xs.length = P * 3) (h3 : xs.take (k * 3) = pcCells k) {m : Nat} (hk : k + m ≤ P) : Rp (W.setRow b (splice xs (k * 3) (pcCells m)).toArray) b P (k + m) := by
 refine ⟨splice xs (k * 3) (pcCells m), ?_, ?_, ?_⟩
 ·exact setRow_heap W b _ _ _ _ h1
 ·rw [length_splice _ _ _ (by rw [pcCells_len, h2, ← Nat.add_mul]; exact Nat.mul_le_mul_right _ hk), h2]
 ·unfold splice
  rw [← List.append_assoc, h3, ← pcCells_add, ← pcCells_len (k + m), List.take_left]
theorem Rp.cells {W : World} {b P k : Nat} (h : Rp W b P k) (hk : k ≤ P) {i : Nat} (hi : i < k) : PcAt W b (i * 3) ⟨-1, 0, false⟩ := by
 obtain ⟨xs, h1, h2, h3⟩ := h
 obtain ⟨a, b', c⟩ := pcCells_at k i hi
 rw [← h3] at a b' c
 have f : ∀ j u, j < k * 3 → (xs.take (k * 3))[j]? = some u → W.cell? ⟨b, j, none⟩ = some u := fun j u hj hu => by
  rw [List.getElem?_take, if_pos hj] at hu
  unfold World.cell?
  simp only [h1]
  simpa using hu
 exact ⟨f _ _ (by omega) a, f _ _ (by omega) b', f _ _ (by omega) c⟩
theorem infoIn : (Tryz.prog.info? 64).map (fun i => (i.zero, i.size, i.bytes)) = some (some (.agg #[.int .i64 0, .int .i64 0]), 2, 16) := by kernel_rfl
theorem eqNoP (w : World) (ad : Addr) (n cp : Nat) : (binOp BinOp.eql 35 (.slice (some ad) n cp) (.slice none 0 0)).run Tryz.prog w = .ok (.bool false) w := by kernel_rfl
theorem pcells_one (O R : Nat → Int) : ∀ k, ∀ u ∈ Ex.pcells O R k, u.oneCell' = true
 | 0, u, h => by cases h
 | k + 1, u, h => by
  rw [Ex.pcells, List.mem_append] at h
  rcases h with h | h
  ·exact pcells_one O R k u h
  ·simp at h
   rcases h with rfl | rfl <;> rfl
theorem pcells_of {w : World} {lb off len : Nat} {O R : Nat → Int} (hc : ∀ j, j < len → w.cell? ⟨lb, off + j * 2, none⟩ = some (.int .i64 (O j)) ∧ w.cell? ⟨lb, off + j * 2 + 1, none⟩ = some (.int .i64 (R j))) : ∀ j u, (Ex.pcells O R len)[j]? = some u → w.cell? ⟨lb, off + j, none⟩ = some u := by
 intro j u hu
 have hj : j < len * 2 := by
  have := (List.getElem?_eq_some_iff.1 hu).1
  rw [Ex.pcells_length] at this
  exact this
 obtain ⟨p1, p2⟩ := Ex.pcells_at O R len (j / 2) (by omega)
 obtain ⟨c1, c2⟩ := hc (j / 2) (by omega)
 rcases Nat.mod_two_eq_zero_or_one j with e | e
 ·rw [show j / 2 * 2 = j by omega] at p1 c1
  rw [hu] at p1
  rw [p1]
  rw [show off + j / 2 * 2 = off + j by omega] at *
  exact c1
 ·rw [show j / 2 * 2 + 1 = j by omega] at p2
  rw [hu] at p2
  rw [p2]
  rw [show off + j / 2 * 2 + 1 = off + j by omega] at c2
  exact c2
set_option maxHeartbeats 2000000 in
theorem clone_prg (w : World) (a : Option Addr) (len cap : Nat) (O R : Nat → Int) (hp : Ex.Prg w a len O R) (h1 : 1 ≤ len) (h2 : len ≤ 64) :
  Calls Tryz.prog 48 #[.slice a len cap] w fun e w' => ∃ v', e = .returned v' ∧ w'.ownsRow w.heap.size 64 2 v' len (Ex.pcells O R len) ∧ Below w.heap.size w w' := by
 obtain ⟨i0, hi, hz0, hz1, hz2⟩ := Cb.info_parts infoIn
 rcases hp with h0 | ⟨lb, off, rfl, hlb, hc⟩
 ·omega
 have hc' := pcells_of hc
 have HC : Hid (∀ j u, (Ex.pcells O R len)[j]? = some u → (w.alloc (.cells #[] 64)).cell? ((⟨lb, off, none⟩ : Addr).add j) = some u) := by
  intro j u hu
  have hadd : (⟨lb, off, none⟩ : Addr).add j = ⟨lb, off + j, none⟩ := by unfold Addr.add; split <;> simp_all
  rw [hadd, World.cell?_alloc_lt _ _ _ (by simpa using hlb)]
  exact hc' j u hu
 have HL : Hid ((w.alloc (.cells #[] 64)).ownsRow w.heap.size 64 2 (.slice (some ⟨w.heap.size, 0, none⟩) 0 0) 0 []) := by
  have := World.ownsRow_lit (base := w.heap.size) (e := 64) (size := 2) w #[] 0 (Nat.le_refl _) (by simp [maxLen]) rfl
  exact this
 have H1 := veil (pcells_one O R len)
 have HLn := veil (Ex.pcells_length O R len)
 have hnil := fun w => eqNoP w ⟨lb, off, none⟩ len cap
 clear hc hc'
 generalize Ex.pcells O R len = xs at *
 go_enter Tryz.func48, Tryz.ntmps48
 go_wp2_with (at_builtin; refine wpList_append_own _ rfl _ _ 35 rfl w.heap.size 64 i0 (.agg #[.int .i64 0, .int .i64 0]) 2 16 Tryz.underlying35 hi hz0 hz1 hz2 rfl (by omega) _ 0 [] (by rfl) HL.out ⟨lb, off, none⟩ len cap xs (by rfl) HLn.out HC.out H1.out (by unfold maxLen; omega) (by omega) (by simp) ?_; intro v' w1 hown hgrow _; have HO := veil hown; have HG := veil (hgrow : World.grownBy _ _ (Value.slice (some ⟨w.heap.size, 0, none⟩) 0 0).ownBlock); clear hown hgrow)
 go_ret
 refine ⟨v', rfl, by simpa using HO.out, ?_⟩
 exact ((Below.refl _ _).alloc (Nat.le_refl _) _).grown HG.out (by simp) (fun k hk => by simp [Value.ownBlock] at hk; omega)
end Go.Proofs.YtjlbmmiomfpgiaaGreatDoor
namespace Go.Proofs.YtjlbmmiomfpgiaaGreatDoor
set_option maxRecDepth 100000
open Go.RowKit Go.Lib Go.Shelf
set_option linter.unusedVariables false
set_option linter.unusedSimpArgs false
attribute [local go_sem ↓] Go.wp_at_zero Go.wp_at_succ
theorem step_copy_k {P : Program} {ops : Array Oper} {o : Oper} {a : Act} {w : World} {K : Act → World → Prop} {Q : Exit → Act → World → Prop} {E : Prop} (hgd : o.guard = none) (d s : Operand) (dT sT : TypeId)
  (ho : o.op = .call { callee := .builtin .copy, args := #[d, s], argTypes := #[dT, sT] }) (elem : TypeId) (hu : P.underlying dT = some (.slice elem)) (k : Nat) (hsz : (P.info? elem).map (·.size) = some k)
  (g off dLen dCap : Nat) (ad : Addr) (sLen sCap : Nat) (hd : a.eval d = .slice (some ⟨g, off, none⟩) dLen dCap) (hs : a.eval s = .slice (some ad) sLen sCap)
  (cur : List Value) (t : TypeId) (hg : w.heap[g]? = some (.cells cur.toArray t (0, 0))) (m : Nat) (hm : Nat.min sLen dLen = m) (cs : List Value) (hn : cs.length = m * k)
  (hsrc : ∀ j v, cs[j]? = some v → w.cell? (ad.add j) = some v) (hfit : off + cs.length ≤ cur.length) (h1 : ∀ v ∈ cs, v.oneCell' = true)
  (h : ∀ w', w' = w.setRow g (splice cur off cs).toArray → K (a.put o.dst (goInt m)) w') :
  if Region.wanted o (yielded ops a.tmps) = true then Oper.wp P o a w K Q else E := by
 have hw : Region.wanted o (yielded ops a.tmps) = true := by simp [Region.wanted, hgd]
 rw [if_pos hw]
 have hrun := run_copy_k (P := P) w dT sT o.type elem k g off dLen dCap ad sLen sCap cur.toArray t cs hu hsz hg m hm hn hsrc (by simpa using hfit) h1
 unfold Oper.wp
 simp [execOp, ho, resolve, invoke, builtin, hd, hs, hrun, Result.andThen]
 refine h _ ?_
 simp [splice]
set_option maxHeartbeats 4000000 in
theorem repeat_ok (w : World) (g P : Nat) (hP : 1 ≤ P ∧ P ≤ 64) (c0 : w.cell? ⟨g, 0, none⟩ = some (.int .i64 (-1))) (c1 : w.cell? ⟨g, 1, none⟩ = some (.int .u64 0)) (c2 : w.cell? ⟨g, 2, none⟩ = some (.bool false)) :
  Calls Tryz.prog 36 #[.slice (some ⟨g, 0, none⟩) 1 1, .int .i64 (P : Int)] w fun e w' => ∃ b, e = .returned (.slice (some ⟨b, 0, none⟩) P P) ∧ (w.heap.size ≤ b ∧ b < w'.heap.size) ∧ Pcs w' b P (fun _ => ⟨-1, 0, false⟩) ∧ Below w.heap.size w w' := by
 obtain ⟨i0, hi, hz0, hz1, hz2⟩ := Cb.info_parts infoPc
 have hmk : ∀ w, (Instr.makeSlice 93 (.int .i64 (P : Int)) (.int .i64 (P : Int))).run Tryz.prog w = .ok (.slice (some ⟨w.heap.size, 0, none⟩) P P) (w.alloc (.cells (madeCells pcZero.cells (P * 3)) 99)) := by
  intro w
  have := run_make w 93 99 i0 pcZero Tryz.underlying93 hi hz0 .i64 .i64 (P : Int) (P : Int) (by omega) (by omega) (by rw [hz2]; omega) (by omega)
  rw [hz1, show (P : Int).toNat = P by omega] at this
  exact this
 have hgl : g < w.heap.size := World.block_lt_of_cell? w _ c0
 have HM := veil (fun w => mulu_ok P hP.2 w)
 have hw1 : IntKind.u64.wrap (P : Int) = (P : Int) := by simp [IntKind.wrap, IntKind.bits, IntKind.signed]; omega
 have hw2 : IntKind.i64.wrap (P : Int) = (P : Int) := by simp [IntKind.wrap, IntKind.bits, IntKind.signed]; omega
 have hp0 : ¬ (P : Int) < 0 := by omega
 have hp1 : ¬ (9223372036854775807 : Int) < (P : Int) := by omega
 have HGB : Hid ((w.alloc (.cells (madeCells pcZero.cells (P * 3)) 99)).heap[w.heap.size]? = some (.cells (madeCells pcZero.cells (P * 3)).toList.toArray 99 (0, 0))) := World.alloc_heap_new w _
 have HSR : Hid (∀ j v, (pcCells 1)[j]? = some v → (w.alloc (.cells (madeCells pcZero.cells (P * 3)) 99)).cell? ((⟨g, 0, none⟩ : Addr).add j) = some v) := by
  intro j u hu
  have hadd : (⟨g, 0, none⟩ : Addr).add j = ⟨g, j, none⟩ := by unfold Addr.add; split <;> simp_all
  rw [hadd, World.cell?_alloc_lt _ _ _ (by simpa using hgl)]
  match j, hu with
  | 0, hu => injection hu with hu; subst hu; exact c0
  | 1, hu => injection hu with hu; subst hu; exact c1
  | 2, hu => injection hu with hu; subst hu; exact c2
 have hln := made_len pcZero.cells (P * 3)
 have HP := veil hP
 clear hi hz0 hz1 hz2 c0 c1 c2
 generalize hmc : (madeCells pcZero.cells (P * 3)) = mc at *
 clear hmc
 have hcp := run_copy_k (P := Tryz.prog) (w.alloc (.cells mc 99)) 93 93 3 99 3 w.heap.size 0 P P ⟨g, 0, none⟩ 1 1 mc 99 (pcCells 1) Tryz.underlying93 sizePc (by simpa using HGB.out) 1 (by show min 1 P = 1; omega) rfl HSR.out (by rw [pcCells_len]; simp at hln; omega) (pcCells_one 1)
 have HR1 : Hid (Rp ((w.alloc (.cells mc 99)).setRow w.heap.size (mc.toList.take 0 ++ pcCells 1 ++ mc.toList.drop (0 + (pcCells 1).length)).toArray) w.heap.size P 1) := by
  have := Rp.next (W := w.alloc (.cells mc 99)) (b := w.heap.size) (P := P) (k := 0) (xs := mc.toList) HGB.out hln rfl (m := 1) (by omega)
  unfold Hid
  simpa [splice] using this
 have HB1 : Hid (Below w.heap.size w ((w.alloc (.cells mc 99)).setRow w.heap.size (mc.toList.take 0 ++ pcCells 1 ++ mc.toList.drop (0 + (pcCells 1).length)).toArray)) := below_setRow ((Below.refl _ _).alloc (Nat.le_refl _) _) (Nat.le_refl _) _
 have HS1 : Hid (((w.alloc (.cells mc 99)).setRow w.heap.size (mc.toList.take 0 ++ pcCells 1 ++ mc.toList.drop (0 + (pcCells 1).length)).toArray).heap.size = w.heap.size + 1) := by unfold Hid; simp
 generalize ((w.alloc (.cells mc 99)).setRow w.heap.size (mc.toList.take 0 ++ pcCells 1 ++ mc.toList.drop (0 + (pcCells 1).length)).toArray) = W1 at *
 clear HGB HSR hln
 go_enter Tryz.func36, Tryz.ntmps36
 go_wp2_with (go_at_call 69; refine (HM.out _).mono ?_; rintro e w1 ⟨rfl, hw⟩; replace hw := hw.symm; subst hw)
 go_loopw [8] (fun nv wr => ∃ k : Nat, nv = .int .i64 k ∧ 1 ≤ k ∧ k ≤ P ∧ Rp wr w.heap.size P k ∧ Below w.heap.size w wr ∧ w.heap.size < wr.heap.size) (fun nv _ => P - (RowKit.intOf nv).toNat)
 case atStart => exact ⟨1, rfl, by omega, HP.out.1, HR1.out, HB1.out, by rw [HS1.out]; omega⟩
 case round =>
  obtain ⟨k, rfl, hk1, hkP, hR, hB, hsz⟩ := hrel
  have HR := veil hR
  have HB := veil hB
  have HSZ := veil hsz
  clear hR hB hsz
  by_cases hkp : k < P
  ·have hkp' : (k : Int) < (P : Int) := by omega
   go_wp2
   obtain ⟨xs, hx1, hx2, hx3⟩ := HR.out
   have HX1 := veil hx1
   obtain ⟨m, hm⟩ : ∃ m, Nat.min k (P - k) = m := ⟨_, rfl⟩
   have hm1 : 1 ≤ m ∧ k + m ≤ P ∧ m ≤ k := by
    have : min k (P - k) = m := hm
    omega
   have HMN := veil hm
   clear hm
   have hpk : ¬ P = k := by omega
   have hwk : IntKind.i64.wrap ((k : Int) + (m : Int)) = ((k + m : Nat) : Int) := by simp [IntKind.wrap, IntKind.bits, IntKind.signed]; omega
   have HNX := veil (Rp.next (W := wr.drew) (by exact hx1) hx2 hx3 (m := m) hm1.2.1)
   have HFIT : Hid (k * 3 + (pcCells m).length ≤ xs.length) := by unfold Hid; rw [pcCells_len, hx2]; omega
   have HSRC : Hid (∀ j v, (pcCells m)[j]? = some v → wr.cell? ((⟨w.heap.size, 0, none⟩ : Addr).add j) = some v) := by
    intro j u hu
    have hadd : (⟨w.heap.size, 0, none⟩ : Addr).add j = ⟨w.heap.size, j, none⟩ := by unfold Addr.add; split <;> simp_all
    have hj := (List.getElem?_eq_some_iff.1 hu).1
    rw [pcCells_len] at hj
    rw [hadd]
    unfold World.cell?
    simp only [hx1]
    rw [← pcCells_take (a := m) (b := k) hm1.2.2, ← hx3, List.getElem?_take, if_pos hj, List.getElem?_take, if_pos (by omega)] at hu
    simpa using hu
   clear hx1 hx2 hx3
   refine wp_region_held_drew (S := fun _ => True) (by kernel_rfl) ?_ (fun hHeld => ?_)
   ·trivial
   refine tkX 0 (v := ?_) rfl ?v0 ?_
   case v0 => (intro w hSw; (try dsimp only at hSw); go_simp; try with_reducible rfl)
   try simp only [puX]
   refine tkX 1 (v := ?_) rfl ?v1 ?_
   case v1 => (intro w hSw; (try dsimp only at hSw); go_simp; try with_reducible rfl)
   try simp only [puX]
   refine tkX 2 (v := ?_) rfl ?v2 ?_
   case v2 => (intro w hSw; (try dsimp only at hSw); go_simp; try with_reducible rfl)
   try simp only [puX]
   refine tkX 3 (v := ?_) rfl ?v3 ?_
   case v3 => (intro w hSw; (try dsimp only at hSw); go_simp; try with_reducible rfl)
   try simp only [puX]
   refine tkX 4 (v := ?_) rfl ?v4 ?_
   case v4 => (intro w hSw; (try dsimp only at hSw); go_simp; try with_reducible rfl)
   try simp only [puX]
   refine tkX 5 (v := ?_) rfl ?v5 ?_
   case v5 => (intro w hSw; (try dsimp only at hSw); go_simp; try with_reducible rfl)
   try simp only [puX]
   refine tkX 6 (v := ?_) rfl ?v6 ?_
   case v6 => (intro w hSw; (try dsimp only at hSw); go_simp; try with_reducible rfl)
   try simp only [puX]
   refine wpAnyH_ready (rs := [7]) (by kernel_rfl) (by simp) ?_
   refine AllReadyH.cons rfl (fun K hK => ?_) AllReadyH.nil
   refine step_copy_k (by rfl) _ _ _ _ (by rfl) 99 Tryz.underlying93 3 sizePc w.heap.size (k * 3) (P - k) (P - k) ⟨w.heap.size, 0, none⟩ k P (by rfl) (by rfl) xs 99 HX1.out m HMN.out (pcCells m) (pcCells_len _) HSRC.out HFIT.out (pcCells_one _) ?_
   intro w2 hw2
   have HW2 := veil hw2
   clear hw2
   refine hK.out _ _ ?_ (fun hHeld => ?_)
   ·trivial
   clear hK K
   try simp only [puX]
   refine tkX 8 (v := ?_) rfl ?v8 ?_
   case v8 => (intro w hSw; (try dsimp only at hSw); go_simp; try with_reducible rfl)
   try simp only [puX]
   refine tkX 9 (v := ?_) rfl ?v9 ?_
   case v9 => (intro w hSw; (try dsimp only at hSw); go_simp; try with_reducible rfl)
   try simp only [puX]
   refine wpAnyH_done (by kernel_rfl) ?_ _
   go_wp2
   go_roundw
   case rel =>
    rw [HW2.out]
    exact ⟨k + m, by go_num, by omega, by omega, HNX.out, below_setRow (w := wr.drew) (below_post HB.out rfl rfl rfl rfl) (Nat.le_refl _) _, by simpa using HSZ.out⟩
   case measure => simp [RowKit.intOf]; omega
  ·have hkp' : ¬ (k : Int) < (P : Int) := by omega
   obtain rfl : k = P := by omega
   go_wp2
   go_ret
   refine ⟨_, rfl, ⟨Nat.le_refl _, HSZ.out⟩, ⟨fun i hi => HR.out.cells (Nat.le_refl _) hi, fun o => ?_, fun i hi => by show (0 : Nat) < _; decide⟩, HB.out⟩
   obtain ⟨xs, h1, _, _⟩ := HR.out
   unfold World.frozen?
   simp only [h1]
   simp
end Go.Proofs.YtjlbmmiomfpgiaaGreatDoor
namespace Go.Proofs.YtjlbmmiomfpgiaaGreatDoor
set_option maxRecDepth 100000
open Go.RowKit Go.Lib Go.Shelf
set_option linter.unusedVariables false
attribute [local go_sem ↓] Go.wp_at_zero Go.wp_at_succ
section
variable {w w' : World} {lab lab' : Nat → Nat} {a : Ad} {P n q T : Nat} {M : Mc}
theorem IsMc.toPr (h : IsMc w lab a P n q T M) (hl : Lab w w' lab lab') (hf : Fr (fun k => lab k = 1 ∨ lab k = 2) w w') (hco : Core w' a P n M.qu M.ag) {v : Value} {vs : List Value} {l : List Pm} (h2 : w'.cell? ⟨a.m, 2, none⟩ = some v) (hp : Prs w' lab' v l vs) : IsMc w' lab' a P n q T { M with pr := l } := by
 have hb : ∀ k, lab k ≠ 0 → lab k ≠ 1 → lab k ≠ 2 → w'.heap[k]? = w.heap[k]? := fun k hk h1 h2 => hf.block k (h.lt k hk) (fun q => q.elim h1 h2)
 have bp := hb a.pr (by rw [h.lpr]; decide) (by rw [h.lpr]; decide) (by rw [h.lpr]; decide)
 have bt := hb a.th (by rw [h.lth]; decide) (by rw [h.lth]; decide) (by rw [h.lth]; decide)
 have ne : ∀ k j, lab k = j → j ≠ 1 → j ≠ 2 → ¬ (lab k = 1 ∨ lab k = 2) := fun k j e h1 h2 q => by rw [e] at q; exact q.elim h1 h2
 refine ⟨h.hP, h.hn, h.hq, hl.lt, h.z hl, h.l hl h.lm (by decide), hco, ⟨v, vs, h2, hp⟩, h.l hl h.lpr (by decide), ⟨fun i hi => (h.pc.at_ i hi).kept bp, fun o => (World.frozen?_of_block bp).trans (h.pc.fz o), h.pc.ok⟩, h.l hl h.lth (by decide), ⟨fun i hi => (h.th.at_ i hi).kept bt, fun o => (World.frozen?_of_block bt).trans (h.th.fz o), h.th.ok⟩, ⟨h.l hl h.ltb.1 (by decide), h.l hl h.ltb.2 (by decide)⟩, h.tb.frame hf.gt (ne _ _ h.ltb.1 (by decide) (by decide)) (ne _ _ h.ltb.2 (by decide) (by decide)), h.t0.frame hf.gt (by rw [h.l0]; decide), h.l hl h.lsb (by decide), ?_, ?_, ?_, fun k hk => h.l hl (h.lw k hk) (by decide), h.wh.frame hf.wh (fun k hk => ne _ _ (h.lw k hk) (by decide) (by decide))⟩
 ·obtain ⟨base, v, hp, hq⟩ := h.sv
  exact ⟨base, v, hp.frame hf.cb (ne _ _ h.lsb (by decide) (by decide)) (fun k hk => ne _ _ (hq k hk) (by decide) (by decide)), fun k hk => h.l hl (hq k hk) (by decide)⟩
 ·obtain ⟨b, O, hp, hq⟩ := h.gr
  exact ⟨b, O, hp.frame hf.pi (fun k hk => ne _ _ (hq k hk) (by decide) (by decide)), fun k hk => h.l hl (hq k hk) (by decide)⟩
 ·obtain ⟨O, hp, hq⟩ := h.pl
  exact ⟨O, hp.frame hf (fun k hk => ne _ _ (hq k hk) (by decide) (by decide)), fun k hk => h.l hl (hq k hk) (by decide)⟩
theorem IsMc.loaded (h : IsMc w lab a P n q T M) {v : Value} {vs : List Value} (e2 : w.cell? ⟨a.m, 2, none⟩ = some v) (hp : Prs w lab v M.pr vs) {w2 : World} (hb2 : Below w.heap.size w w2) {u : Value} {p : Pm} (hu : w2.ownsRow w.heap.size 64 2 u p.len (Ex.pcells p.O p.R p.len)) (hr : Ex.Rt p.len p.O p.R)
  {w3 : World} {v1 : Value} (ho : w3.ownsRow 0 35 1 v1 (M.pr.length + 1) (vs ++ [u])) (hg : w2.grownBy w3 v.ownBlock) (hat : v1.ownBlock = v.ownBlock ∨ v1.ownBlock = some w2.heap.size) :
  w3.cell? ⟨a.m, 2, none⟩ = some v ∧ w3.frozen? ⟨a.m, 2, none⟩ = false ∧ Goes w (w3.setCell ⟨a.m, 2, none⟩ v1) lab a P n q T { M with pr := M.pr ++ [p] } := by
 have hml : a.m < w.heap.size := h.lt a.m (by rw [h.lm]; decide)
 have hvm : v.ownBlock ≠ some a.m := fun e => by have := hp.lb _ e; rw [h.lm] at this; cases this
 have hvl : ∀ k, v.ownBlock = some k → k < w.heap.size := fun k e => h.lt k (by rw [hp.lb k e]; decide)
 have b3 : ∀ k, k < w2.heap.size → v.ownBlock ≠ some k → w3.heap[k]? = w2.heap[k]? := fun k hk hn => hg.block k hk (fun e => hn e.symm)
 have s2 := hb2.size
 have s3 := hg.size
 have m3 : w3.heap[a.m]? = w.heap[a.m]? := (b3 a.m (by omega) hvm).trans (hb2.block _ hml)
 have hset : ∀ k, k ≠ a.m → (w3.setCell ⟨a.m, 2, none⟩ v1).heap[k]? = w3.heap[k]? := fun k hk => Below.heap_setCell _ _ _ _ hk
 have c23 : w3.cell? ⟨a.m, 2, none⟩ = some v := (World.cell?_of_block m3).trans e2
 have ful : ∀ k, u.ownBlock = some k → w.heap.size ≤ k ∧ k < w2.heap.size := fun k e => by
  obtain ⟨q1, q2, _⟩ := Pi.ownsRow_blk hu e
  exact ⟨q1, q2⟩
 have hcore : Core w3 a P n M.qu M.ag := h.co.kept m3
 have ec : ∀ o, o ≠ 2 → (w3.setCell ⟨a.m, 2, none⟩ v1).cell? ⟨a.m, o, none⟩ = w3.cell? ⟨a.m, o, none⟩ := fun o ho => cfar w3 (fun e => ho e.symm)
 have hf : Fr (fun k => lab k = 1 ∨ lab k = 2) w (w3.setCell ⟨a.m, 2, none⟩ v1) := by
  refine ⟨hg.os.trans hb2.os, hg.tape.trans hb2.tape, hg.output.trans hb2.output, by have : (w3.setCell ⟨a.m, 2, none⟩ v1).heap.size = w3.heap.size := by simp
                                                                                     omega, fun k hk hn => ?_⟩
  have k1 : k ≠ a.m := fun e => hn (.inl (by rw [e]; exact h.lm))
  rw [hset k k1, b3 k (by omega) (fun e => hn (.inr (hp.lb k e))), hb2.block k hk]
 let lab' : Nat → Nat := fun k => if k < w.heap.size then lab k else if u.ownBlock = some k ∨ v1.ownBlock = some k then 2 else 0
 have l1 : ∀ k, k < w.heap.size → lab' k = lab k := fun k hk => by show (if _ then _ else _) = _; rw [if_pos hk]
 have l2 : ∀ k, w.heap.size ≤ k → (u.ownBlock = some k ∨ v1.ownBlock = some k) → lab' k = 2 := fun k hk e => by show (if _ then _ else _) = _; rw [if_neg (by omega), if_pos e]
 have v1l : ∀ k, v1.ownBlock = some k → k < w3.heap.size := fun k e => (Pi.ownsRow_blk ho e).2.1
 have v1b : ∀ k, v1.ownBlock = some k → lab' k = 2 := fun k e => by
  rcases Nat.lt_or_ge k w.heap.size with q | q
  ·rw [l1 k q]
   rcases hat with r | r
   ·exact hp.lb k (r ▸ e)
   ·rw [r] at e; injection e with e; omega
  ·exact l2 k q (.inr e)
 have hl : Lab w (w3.setCell ⟨a.m, 2, none⟩ v1) lab lab' := by
  refine ⟨l1, fun k hk => ?_⟩
  have e3 : (w3.setCell ⟨a.m, 2, none⟩ v1).heap.size = w3.heap.size := by simp
  rw [e3]
  rcases Nat.lt_or_ge k w.heap.size with q | q
  ·omega
  ·by_cases e : u.ownBlock = some k ∨ v1.ownBlock = some k
   ·rcases e with e | e
    ·have := (ful k e).2; omega
    ·exact v1l k e
   ·exfalso
    apply hk
    show (if _ then _ else _) = _
    rw [if_neg (by omega), if_neg e]
 have v1m : ∀ k, v1.ownBlock = some k → k ≠ a.m := fun k e q => by
  have := v1b k e
  rw [q, l1 _ hml, h.lm] at this
  cases this
 have hprs : Prs (w3.setCell ⟨a.m, 2, none⟩ v1) lab' v1 (M.pr ++ [p]) (vs ++ [u]) := by
  refine ⟨?_, by rw [List.length_append, List.length_append, hp.len]; rfl, ?_, v1b, ?_⟩
  ·rw [List.length_append]
   exact row_keptF ho (fun k e => hset k (v1m k e))
  ·intro i x y hx hy
   rcases Nat.lt_or_ge i M.pr.length with q | q
   ·rw [List.getElem?_append_left q] at hx
    rw [List.getElem?_append_left (by rw [hp.len]; exact q)] at hy
    obtain ⟨r1, r2⟩ := hp.at_ i x y hx hy
    refine ⟨row_keptF r1 (fun k e => ?_), fun k e => by rw [l1 k (h.lt k (by rw [r2 k e]; decide))]; exact r2 k e⟩
    have hk := h.lt k (by rw [r2 k e]; decide)
    have hkm : k ≠ a.m := fun q => by have := r2 k e; rw [q, h.lm] at this; cases this
    rw [hset k hkm]
    by_cases ev : v.ownBlock = some k
    ·exfalso
     obtain ⟨_, _, x1, y1⟩ := Pi.ownsRow_blk r1 e
     obtain ⟨_, _, x2, y2⟩ := Pi.ownsRow_blk hp.row ev
     rw [y1] at y2
     simp at y2
    ·rw [b3 k (by omega) ev, hb2.block k hk]
   ·have hi : i = M.pr.length := by
     have := (List.getElem?_eq_some_iff.1 hx).1
     rw [List.length_append] at this
     simp at this
     omega
    subst hi
    rw [List.getElem?_append_right (Nat.le_refl _), Nat.sub_self] at hx
    rw [List.getElem?_append_right (by rw [hp.len]; exact Nat.le_refl _), hp.len, Nat.sub_self] at hy
    simp at hx hy
    subst hx hy
    refine ⟨?_, fun k e => l2 k (ful k e).1 (.inl e)⟩
    have hu0 : w2.ownsRow 0 64 2 u p.len (Ex.pcells p.O p.R p.len) := Pi.ownsRow_lift hu (fun k e => Nat.zero_le _)
    refine row_keptF hu0 (fun k e => ?_)
    obtain ⟨q1, q2⟩ := ful k e
    rw [hset k (by omega)]
    exact b3 k q2 (fun ev => by have := hvl k ev; omega)
  ·intro x hx
   rcases List.mem_append.1 hx with q | q
   ·exact hp.ok x q
   ·simp at q; subst q; exact hr
 refine ⟨c23, hcore.fz 2, lab', h.toPr hl hf ?_ (Gt.set_same _ _ _ _ c23) hprs, hl, hf.to (fun k _ q => by rcases q with q | q <;> rw [q] <;> decide)⟩
 exact ⟨(ec 0 (by decide)).trans hcore.c0, (ec 1 (by decide)).trans hcore.c1, (ec 3 (by decide)).trans hcore.c3, (ec 4 (by decide)).trans hcore.c4, (ec 5 (by decide)).trans hcore.c5, (ec 6 (by decide)).trans hcore.c6, (ec 7 (by decide)).trans hcore.c7, (ec 8 (by decide)).trans hcore.c8, (ec 9 (by decide)).trans hcore.c9, fun o => by rw [frozen_set]; exact hcore.fz o⟩
end
end Go.Proofs.YtjlbmmiomfpgiaaGreatDoor
namespace Go.Proofs.YtjlbmmiomfpgiaaGreatDoor
set_option maxRecDepth 100000
open Go.RowKit Go.Lib Go.Shelf
set_option linter.unusedVariables false
attribute [local go_sem ↓] Go.wp_at_zero Go.wp_at_succ
def newMc (P n m : Nat) (qu ag : Nat) : Mc := ⟨qu, ag, [], fun _ => ⟨-1, 0, false⟩, fun _ => noTr, fun _ => 0, fun _ => 0, [], Pi.newM n m, List.replicate (P + 1) [], 0, []⟩
def labN (s1 s2 s3 s4 s5 s6 m pr th : Nat) (k : Nat) : Nat := if k < s1 then 0 else if k < s2 then 5 else if k < s3 then 6 else if k < s4 then 7 else if k < s5 then 8 else if k < s6 then 9 else if k = m then 1 else if k = pr then 3 else if k = th then 4 else 0
def thZero : Value := .agg #[.int .i64 0, .int .u32 0, .int .i64 0, .int .u8 0, .int .u8 0, .int .i64 0, .int .i64 0, .int .i64 0, .int .i64 0, .int .u64 0]
theorem infoTh : (Tryz.prog.info? 111).map (fun i => (i.zero, i.size, i.bytes)) = some (some thZero, 10, 72) := by kernel_rfl
theorem buildMa (q g : Int) (t s gr p w' : Option Addr) (w : World) : (Instr.build 96 #[(0, .int .u64 q), (1, .int .u64 g), (5, .pointer t), (6, .pointer s), (7, .pointer gr), (8, .pointer p), (9, .pointer w')]).run Tryz.prog w = .ok (.agg #[.int .u64 q, .int .u64 g, .slice none 0 0, .slice none 0 0, .slice none 0 0, .pointer t, .pointer s, .pointer gr, .pointer p, .pointer w']) w := run_build w 96 _ _ (by kernel_rfl)
theorem labN_in {s1 s2 s3 s4 s5 s6 m pr th k : Nat} (h : s1 ≤ s2 ∧ s2 ≤ s3 ∧ s3 ≤ s4 ∧ s4 ≤ s5 ∧ s5 ≤ s6) :
  (s1 ≤ k → k < s2 → labN s1 s2 s3 s4 s5 s6 m pr th k = 5) ∧ (s2 ≤ k → k < s3 → labN s1 s2 s3 s4 s5 s6 m pr th k = 6) ∧ (s3 ≤ k → k < s4 → labN s1 s2 s3 s4 s5 s6 m pr th k = 7) ∧ (s4 ≤ k → k < s5 → labN s1 s2 s3 s4 s5 s6 m pr th k = 8) ∧ (s5 ≤ k → k < s6 → labN s1 s2 s3 s4 s5 s6 m pr th k = 9) ∧ (k < s1 → labN s1 s2 s3 s4 s5 s6 m pr th k = 0) := by
 refine ⟨fun a b => ?_, fun a b => ?_, fun a b => ?_, fun a b => ?_, fun a b => ?_, fun a => ?_⟩ <;> unfold labN
 ·rw [if_neg (by omega), if_pos (by omega)]
 ·rw [if_neg (by omega), if_neg (by omega), if_pos (by omega)]
 ·rw [if_neg (by omega), if_neg (by omega), if_neg (by omega), if_pos (by omega)]
 ·rw [if_neg (by omega), if_neg (by omega), if_neg (by omega), if_neg (by omega), if_pos (by omega)]
 ·rw [if_neg (by omega), if_neg (by omega), if_neg (by omega), if_neg (by omega), if_neg (by omega), if_pos (by omega)]
 ·rw [if_pos a]
structure Parts (W : World) (a : Ad) (P n q m qu ag s1 s2 s3 s4 s5 s6 : Nat) : Prop where
 hP : 1 ≤ P ∧ P ≤ 64
 hn : 1 ≤ n ∧ n ≤ 1024
 hq : qu < 18446744073709551616 ∧ ag < 18446744073709551616
 ss : s1 ≤ s2 ∧ s2 ≤ s3 ∧ s3 ≤ s4 ∧ s4 ≤ s5 ∧ s5 ≤ s6
 s0 : 0 < s1
 t0 : Gt.Tab W
 tb : Gt.Rep W a.tb a.tg n (fun _ => 0) (fun _ => 0)
 tbr : (s1 ≤ a.tb ∧ a.tb < s2) ∧ s1 ≤ a.tg ∧ a.tg < s2
 sv : ∃ base, Cb.Pep W base a.sb P (.slice none 0 0) []
 svr : s2 ≤ a.sb ∧ a.sb < s3
 gr : ∃ b O, Pi.PG W b O a.gb (Pi.newM n m) ∧ ∀ k, O k → s3 ≤ k ∧ k < s4
 pl : ∃ O, PQ W O a.pb n P q 0 (List.replicate (P + 1) []) ∧ ∀ k, O k → s4 ≤ k ∧ k < s5
 wh : Wh.IsW W a.wb a.wg a.wm n 0 []
 whr : ∀ k, Wh.O3 a.wb a.wg a.wm k → s5 ≤ k ∧ k < s6
 ms : s6 ≤ a.m ∧ s6 ≤ a.pr ∧ s6 ≤ a.th
 ne : a.m ≠ a.pr ∧ a.m ≠ a.th ∧ a.pr ≠ a.th
 lt : a.m < W.heap.size ∧ a.pr < W.heap.size ∧ a.th < W.heap.size ∧ s6 ≤ W.heap.size
 co : Core W a P n qu ag
 c2 : W.cell? ⟨a.m, 2, none⟩ = some (.slice none 0 0)
 pc : Pcs W a.pr P (fun _ => ⟨-1, 0, false⟩)
 th : Ths W a.th n (fun _ => noTr)
theorem Parts.is {W : World} {a : Ad} {P n q m qu ag s1 s2 s3 s4 s5 s6 : Nat} (h : Parts W a P n q m qu ag s1 s2 s3 s4 s5 s6) : IsMc W (labN s1 s2 s3 s4 s5 s6 a.m a.pr a.th) a P n q 0 (newMc P n m qu ag) ∧ ∀ k, labN s1 s2 s3 s4 s5 s6 a.m a.pr a.th k ≠ 0 → s1 ≤ k := by
 have L := fun k => labN_in (m := a.m) (pr := a.pr) (th := a.th) (k := k) h.ss
 have hms := h.ms
 have hss := h.ss
 have hne := h.ne
 have hlt := h.lt
 have Lm : labN s1 s2 s3 s4 s5 s6 a.m a.pr a.th a.m = 1 := by
  unfold labN
  rw [if_neg (by omega), if_neg (by omega), if_neg (by omega), if_neg (by omega), if_neg (by omega), if_neg (by omega), if_pos rfl]
 have Lp : labN s1 s2 s3 s4 s5 s6 a.m a.pr a.th a.pr = 3 := by
  unfold labN
  rw [if_neg (by omega), if_neg (by omega), if_neg (by omega), if_neg (by omega), if_neg (by omega), if_neg (by omega), if_neg (fun e => hne.1 e.symm), if_pos rfl]
 have Lt : labN s1 s2 s3 s4 s5 s6 a.m a.pr a.th a.th = 4 := by
  unfold labN
  rw [if_neg (by omega), if_neg (by omega), if_neg (by omega), if_neg (by omega), if_neg (by omega), if_neg (by omega), if_neg (fun e => hne.2.1 e.symm), if_neg (fun e => hne.2.2 e.symm), if_pos rfl]
 obtain ⟨b7, O7, g1, g2⟩ := h.gr
 obtain ⟨O8, p1, p2⟩ := h.pl
 obtain ⟨bs, hs⟩ := h.sv
 refine ⟨⟨h.hP, h.hn, h.hq, ?_, (L 0).2.2.2.2.2 h.s0, Lm, h.co, ⟨_, [], h.c2, ?_⟩, Lp, h.pc, Lt, h.th, ⟨(L _).1 h.tbr.1.1 h.tbr.1.2, (L _).1 h.tbr.2.1 h.tbr.2.2⟩, h.tb, h.t0, (L _).2.1 h.svr.1 h.svr.2, ⟨bs, _, hs, ?_⟩, ⟨b7, O7, g1, fun k hk => (L k).2.2.1 (g2 k hk).1 (g2 k hk).2⟩, ⟨O8, p1, fun k hk => (L k).2.2.2.1 (p2 k hk).1 (p2 k hk).2⟩, fun k hk => (L k).2.2.2.2.1 (h.whr k hk).1 (h.whr k hk).2, h.wh⟩, ?_⟩
 ·intro k hk
  rcases Nat.lt_or_ge k s6 with q | q
  ·omega
  ·unfold labN at hk
   rw [if_neg (by omega), if_neg (by omega), if_neg (by omega), if_neg (by omega), if_neg (by omega), if_neg (by omega)] at hk
   split at hk
   ·omega
   split at hk
   ·omega
   split at hk
   ·omega
   exact absurd rfl hk
 ·exact ⟨⟨rfl, .inl ⟨rfl, rfl⟩⟩, rfl, fun i p u hi _ => (by simp [newMc] at hi), fun k hk => (by cases hk), fun p hp => (by simp [newMc] at hp)⟩
 ·intro k hk; cases hk
 ·intro k hk
  rcases Nat.lt_or_ge k s1 with q | q
  ·exact absurd ((L k).2.2.2.2.2 q) hk
  ·exact q
theorem mcell {X : World} {mb : Nat} {cs : Array Value} {t : TypeId} (h : X.heap[mb]? = some (.cells cs t (0, 0))) (i : Nat) : X.cell? ⟨mb, i, none⟩ = cs[i]? := by
 unfold World.cell?
 simp only [h]
 try rfl
theorem mfz {X : World} {mb : Nat} {cs : Array Value} {t : TypeId} (h : X.heap[mb]? = some (.cells cs t (0, 0))) (i : Nat) : X.frozen? ⟨mb, i, none⟩ = false := by
 unfold World.frozen?
 simp only [h]
 simp
theorem th_made (n i j : Nat) (hi : i < n) (hj : j < 10) : (madeCells thZero.cells (n * 10))[i * 10 + j]? = some (thZero.cells[j]!) := by
 have := Pi.made_at thZero.cells (n * 10) (i * 10 + j) (by omega)
 rw [show (i * 10 + j) % thZero.cells.size = j by show (i * 10 + j) % 10 = j; omega] at this
 simpa using this
theorem Ths.made {W : World} {b n : Nat} (h : W.heap[b]? = some (.cells (madeCells thZero.cells (n * 10)) 111 (0, 0))) : Ths W b n (fun _ => noTr) := by
 have c : ∀ i j, i < n → j < 10 → W.cell? ⟨b, i * 10 + j, none⟩ = some (thZero.cells[j]!) := fun i j hi hj => (mcell h _).trans (th_made n i j hi hj)
 exact ⟨fun i hi => ⟨c i 0 hi (by decide), c i 1 hi (by decide), c i 2 hi (by decide), c i 3 hi (by decide), c i 4 hi (by decide), c i 5 hi (by decide), c i 6 hi (by decide), c i 7 hi (by decide), c i 8 hi (by decide), c i 9 hi (by decide)⟩, fun o => mfz h o, fun i hi => ⟨by decide, by decide, by decide, by decide, by decide⟩⟩
end Go.Proofs.YtjlbmmiomfpgiaaGreatDoor
namespace Go.Proofs.YtjlbmmiomfpgiaaGreatDoor
set_option maxRecDepth 100000
open Go.RowKit Go.Lib Go.Shelf
set_option linter.unusedVariables false
attribute [local go_sem ↓] Go.wp_at_zero Go.wp_at_succ
def lk (V0 V : World) : Prop := V.heap = V0.heap ∧ V.os = V0.os ∧ V.tape = V0.tape ∧ V.output = V0.output
theorem lk.bel {V0 V w' : World} (h : lk V0 V) (hb : Below V.heap.size V w') : Below V0.heap.size V0 w' := by
 obtain ⟨e1, e2, e3, e4⟩ := h
 exact ⟨hb.os.trans e2, hb.tape.trans e3, hb.output.trans e4, by rw [← e1]; exact hb.size, fun k hk => (hb.block k (by rw [e1]; exact hk)).trans (by rw [e1])⟩
theorem c4n {X : World} {mb : Nat} {v : Value} {o : Obj} {u : Value} (hm : mb < X.heap.size) (c : X.cell? ⟨mb, 4, none⟩ = some u) (f : X.frozen? ⟨mb, 4, none⟩ = false) : ((X.setCell ⟨mb, 3, none⟩ v).alloc o).cell? ⟨mb, 4, none⟩ = some u ∧ ((X.setCell ⟨mb, 3, none⟩ v).alloc o).frozen? ⟨mb, 4, none⟩ = false := by
 have hs : mb < (X.setCell ⟨mb, 3, none⟩ v).heap.size := by simpa using hm
 have hb : ((X.setCell ⟨mb, 3, none⟩ v).alloc o).heap[mb]? = (X.setCell ⟨mb, 3, none⟩ v).heap[mb]? := Below.heap_alloc _ _ _ hs
 refine ⟨?_, ?_⟩
 ·rw [World.cell?_of_block hb]
  exact (cfar X (by decide)).trans c
 ·rw [World.frozen?_of_block hb, frozen_set]
  exact f
theorem buildPn (w : World) : (Instr.build 99 #[(0, .int .i64 (-1))]).run Tryz.prog w = .ok (.agg #[.int .i64 (-1), .int .u64 0, .bool false]) w := run_build w 99 _ _ (by kernel_rfl)
set_option maxHeartbeats 8000000 in
theorem new_ok (P n q m qu ag : Nat) (hP : 1 ≤ P ∧ P ≤ 64) (hn : 1 ≤ n ∧ n ≤ 1024) (hq : 1 ≤ q ∧ q ≤ 256) (hm : m ≤ 32) (hqu : 1 ≤ qu ∧ qu < 18446744073709551616) (hag : 1 ≤ ag ∧ ag < 18446744073709551616) (w : World) (ht : Gt.Tab w) :
  Calls Tryz.prog 10 #[.agg #[.int .i64 (P : Int), .int .i64 (n : Int), .int .i64 (q : Int), .int .i64 (m : Int), .int .u64 (qu : Int), .int .u64 (ag : Int)]] w fun e w' => ∃ a lab, e = .returned (.pointer (some ⟨a.m, 0, none⟩)) ∧ IsMc w' lab a P n q 0 (newMc P n m qu ag) ∧ (∀ k, lab k ≠ 0 → w.heap.size ≤ k) ∧ Below w.heap.size w w' := by
 obtain ⟨W0, hW0⟩ : ∃ W0, w.alloc (.cells #[.int .i64 (P : Int), .int .i64 (n : Int), .int .i64 (q : Int), .int .i64 (m : Int), .int .u64 (qu : Int), .int .u64 (ag : Int)] 30) = W0 := ⟨_, rfl⟩
 obtain ⟨cb, hcb⟩ : ∃ cb, w.heap.size = cb := ⟨_, rfl⟩
 have HB0 : Hid (Below w.heap.size w W0) := by rw [← hW0]; exact (Below.refl _ _).alloc (Nat.le_refl _) _
 have c0 : W0.cell? ⟨cb, 0, none⟩ = some (.int .i64 (P : Int)) := by rw [← hW0, ← hcb]; exact newc _ _ _ 0 _ rfl
 have c1 : W0.cell? ⟨cb, 1, none⟩ = some (.int .i64 (n : Int)) := by rw [← hW0, ← hcb]; exact newc _ _ _ 1 _ rfl
 have c2 : W0.cell? ⟨cb, 2, none⟩ = some (.int .i64 (q : Int)) := by rw [← hW0, ← hcb]; exact newc _ _ _ 2 _ rfl
 have c3 : W0.cell? ⟨cb, 3, none⟩ = some (.int .i64 (m : Int)) := by rw [← hW0, ← hcb]; exact newc _ _ _ 3 _ rfl
 have c4 : W0.cell? ⟨cb, 4, none⟩ = some (.int .u64 (qu : Int)) := by rw [← hW0, ← hcb]; exact newc _ _ _ 4 _ rfl
 have c5 : W0.cell? ⟨cb, 5, none⟩ = some (.int .u64 (ag : Int)) := by rw [← hW0, ← hcb]; exact newc _ _ _ 5 _ rfl
 have hC : ∀ V, Below W0.heap.size W0 V → V.cell? ⟨cb, 0, none⟩ = some (.int .i64 (P : Int)) ∧ V.cell? ⟨cb, 1, none⟩ = some (.int .i64 (n : Int)) ∧ V.cell? ⟨cb, 2, none⟩ = some (.int .i64 (q : Int)) ∧ V.cell? ⟨cb, 3, none⟩ = some (.int .i64 (m : Int)) ∧ V.cell? ⟨cb, 4, none⟩ = some (.int .u64 (qu : Int)) ∧ V.cell? ⟨cb, 5, none⟩ = some (.int .u64 (ag : Int)) := fun V hb => ⟨kc hb c0, kc hb c1, kc hb c2, kc hb c3, kc hb c4, kc hb c5⟩
 have HC := veil hC
 have HT0 : Hid (Gt.Tab W0) := ht.below HB0.out
 have HZ : Hid (Below W0.heap.size W0 W0) := Below.refl _ _
 have HG : Hid (∀ V0 V, Below W0.heap.size W0 V0 → lk V0 V → Calls Tryz.prog 31 #[.int .i64 (n : Int)] V fun e w' => ∃ tb tg, e = .returned (.pointer (some ⟨tb, 0, none⟩)) ∧ Gt.Rep w' tb tg n (fun _ => 0) (fun _ => 0) ∧ ((V0.heap.size ≤ tb ∧ tb < w'.heap.size) ∧ V0.heap.size ≤ tg ∧ tg < w'.heap.size) ∧ Below V0.heap.size V0 w' ∧ Below W0.heap.size W0 w') := fun V0 V h0 hl => by
  refine (Gt.new_ok n V hn.1 hn.2).mono ?_
  rintro e w' ⟨rfl, hr, hb⟩
  have hb' := hl.bel hb
  obtain ⟨cp, hsl⟩ := hr.sl
  have h1 := World.block_lt_of_cell? w' _ hsl
  have h2 := World.block_lt_of_cell? w' _ (hr.gn 0 hn.1)
  have hs : V.heap.size = V0.heap.size := by rw [hl.1]
  exact ⟨_, _, rfl, hr, ⟨⟨by omega, h1⟩, by omega, h2⟩, hb', bt h0 hb'⟩
 have HS : Hid (∀ V0 V, Below W0.heap.size W0 V0 → lk V0 V → Calls Tryz.prog 32 #[.int .i64 (P : Int)] V fun e w' => ∃ sb, e = .returned (.pointer (some ⟨sb, 0, none⟩)) ∧ Cb.Pep w' V0.heap.size sb P (.slice none 0 0) [] ∧ (V0.heap.size ≤ sb ∧ sb < w'.heap.size) ∧ Below V0.heap.size V0 w' ∧ Below W0.heap.size W0 w') := fun V0 V h0 hl => by
  refine (Cb.new_ok V P hP.1 hP.2).mono ?_
  rintro e w' ⟨rfl, rfl⟩
  have hs : V.heap.size = V0.heap.size := by rw [hl.1]
  have hb' := hl.bel ((Below.refl V.heap.size V).alloc (Nat.le_refl _) (.cells #[.int .u64 (P : Int), .slice none 0 0] 137))
  exact ⟨_, rfl, Cb.Pep.new V P hP.1 hP.2 _ (by omega), ⟨by omega, by simp⟩, hb', bt h0 hb'⟩
 have HPI : Hid (∀ V0 V, Below W0.heap.size W0 V0 → lk V0 V → Calls Tryz.prog 33 #[.int .i64 (n : Int), .int .i64 (m : Int)] V fun e w' => ∃ gb O, e = .returned (.pointer (some ⟨gb, 0, none⟩)) ∧ Pi.PG w' V0.heap.size O gb (Pi.newM n m) ∧ (∀ k, O k → V0.heap.size ≤ k ∧ k < w'.heap.size) ∧ Below V0.heap.size V0 w' ∧ Below W0.heap.size W0 w') := fun V0 V h0 hl => by
  refine (Pi.pnew_ok n m V hn.1 hn.2 hm).mono ?_
  rintro e w' ⟨s, O, rfl, hg, hb⟩
  have hb' := hl.bel hb
  rw [hl.1] at hg
  exact ⟨_, _, rfl, hg, fun k hk => ⟨hg.ge hk, hg.lt hk⟩, hb', bt h0 hb'⟩
 have HPR : Hid (∀ V0 V, Below W0.heap.size W0 V0 → lk V0 V → Calls Tryz.prog 34 #[.int .i64 (P : Int), .int .i64 (n : Int), .int .i64 (q : Int)] V fun e w' => ∃ pb O, e = .returned (.pointer (some ⟨pb, 0, none⟩)) ∧ PQ w' O pb n P q 0 (List.replicate (P + 1) []) ∧ (∀ k, O k → V0.heap.size ≤ k ∧ k < w'.heap.size) ∧ Below V0.heap.size V0 w' ∧ Below W0.heap.size W0 w') := fun V0 V h0 hl => by
  refine (pnew_pq P n q V hP hn hq).mono ?_
  rintro e w' ⟨O, rfl, hg, ho, hb⟩
  have hb' := hl.bel hb
  rw [hl.1] at ho
  exact ⟨_, _, rfl, hg, fun k hk => ⟨ho k hk, hg.blocks k hk⟩, hb', bt h0 hb'⟩
 have HWH : Hid (∀ V0 V, Below W0.heap.size W0 V0 → lk V0 V → Calls Tryz.prog 35 #[.int .i64 (n : Int)] V fun e w' => ∃ b g mb, e = .returned (.pointer (some ⟨b, 0, none⟩)) ∧ Wh.IsW w' b g mb n 0 [] ∧ (∀ k, Wh.O3 b g mb k → V0.heap.size ≤ k ∧ k < w'.heap.size) ∧ Below V0.heap.size V0 w' ∧ Below W0.heap.size W0 w') := fun V0 V h0 hl => by
  refine (Wh.new_isW n V hn.1 hn.2).mono ?_
  rintro e w' ⟨b, g, mb, rfl, ho, hg, hb⟩
  have hb' := hl.bel hb
  rw [hl.1] at ho
  exact ⟨_, _, _, rfl, hg, ho, hb', bt h0 hb'⟩
 have hbm := buildMa
 have HW0 := veil hW0
 have HCB := veil hcb
 have hqu' : ¬ (qu : Int) < 1 := by omega
 have hag' : ¬ (ag : Int) < 1 := by omega
 clear ht
 go_enter Tryz.func10, Tryz.ntmps10
 go_wp2
 clear HW0 hW0 hcb
 go_region_held3 (fun w' => w'.cell? ⟨cb, 0, none⟩ = some (.int .i64 (P : Int)) ∧ w'.cell? ⟨cb, 1, none⟩ = some (.int .i64 (n : Int)) ∧ w'.cell? ⟨cb, 2, none⟩ = some (.int .i64 (q : Int)) ∧ w'.cell? ⟨cb, 3, none⟩ = some (.int .i64 (m : Int)) ∧ w'.cell? ⟨cb, 4, none⟩ = some (.int .u64 (qu : Int)) ∧ w'.cell? ⟨cb, 5, none⟩ = some (.int .u64 (ag : Int)))
  (first | exact HC.out _ HB5.out | exact HC.out _ HB4.out | exact HC.out _ HB3.out | exact HC.out _ HB2.out | exact HC.out _ HB1.out | go_keep)
  (first
   | (go_at_call 31; refine (HG.out W0 _ HZ.out (by exact ⟨rfl, rfl, rfl, rfl⟩)).mono ?_; rintro e w1 ⟨tb, tg, rfl, r1, r2, b1, b1'⟩; have HR1 := veil r1; have HD1 := veil r2; have HL1 := veil b1; have HB1 := veil b1'; clear r1 r2 b1 b1')
   | (go_at_call 32; refine (HS.out w1 _ HB1.out (by exact ⟨rfl, rfl, rfl, rfl⟩)).mono ?_; rintro e w2 ⟨sb, rfl, r1, r2, b1, b1'⟩; have HR2 := veil r1; have HD2 := veil r2; have HL2 := veil b1; have HB2 := veil b1'; clear r1 r2 b1 b1')
   | (go_at_call 33; refine (HPI.out w2 _ HB2.out (by exact ⟨rfl, rfl, rfl, rfl⟩)).mono ?_; rintro e w3 ⟨gb, O7, rfl, r1, r2, b1, b1'⟩; have HR3 := veil r1; have HD3 := veil r2; have HL3 := veil b1; have HB3 := veil b1'; clear r1 r2 b1 b1')
   | (go_at_call 34; refine (HPR.out w3 _ HB3.out (by exact ⟨rfl, rfl, rfl, rfl⟩)).mono ?_; rintro e w4 ⟨pb, O8, rfl, r1, r2, b1, b1'⟩; have HR4 := veil r1; have HD4 := veil r2; have HL4 := veil b1; have HB4 := veil b1'; clear r1 r2 b1 b1')
   | (go_at_call 35; refine (HWH.out w4 _ HB4.out (by exact ⟨rfl, rfl, rfl, rfl⟩)).mono ?_; rintro e w5 ⟨wb, wg, wm, rfl, r1, r2, b1, b1'⟩; have HR5 := veil r1; have HD5 := veil r2; have HL5 := veil b1; have HB5 := veil b1'; clear r1 r2 b1 b1'))
 rename_i hHeld
 clear hHeld
 have hblk : (w5.alloc (.cells #[.int .u64 (qu : Int), .int .u64 (ag : Int), .slice none 0 0, .slice none 0 0, .slice none 0 0, .pointer (some ⟨tb, 0, none⟩), .pointer (some ⟨sb, 0, none⟩), .pointer (some ⟨gb, 0, none⟩), .pointer (some ⟨pb, 0, none⟩), .pointer (some ⟨wb, 0, none⟩)] 96)).heap[w5.heap.size]? = some (.cells #[.int .u64 (qu : Int), .int .u64 (ag : Int), .slice none 0 0, .slice none 0 0, .slice none 0 0, .pointer (some ⟨tb, 0, none⟩), .pointer (some ⟨sb, 0, none⟩), .pointer (some ⟨gb, 0, none⟩), .pointer (some ⟨pb, 0, none⟩), .pointer (some ⟨wb, 0, none⟩)] 96 (0, 0)) := World.alloc_heap_new _ _
 have hb6 : Below w5.heap.size w5 (w5.alloc (.cells #[.int .u64 (qu : Int), .int .u64 (ag : Int), .slice none 0 0, .slice none 0 0, .slice none 0 0, .pointer (some ⟨tb, 0, none⟩), .pointer (some ⟨sb, 0, none⟩), .pointer (some ⟨gb, 0, none⟩), .pointer (some ⟨pb, 0, none⟩), .pointer (some ⟨wb, 0, none⟩)] 96)) := (Below.refl _ _).alloc (Nat.le_refl _) _
 have hs6 : (w5.alloc (.cells #[.int .u64 (qu : Int), .int .u64 (ag : Int), .slice none 0 0, .slice none 0 0, .slice none 0 0, .pointer (some ⟨tb, 0, none⟩), .pointer (some ⟨sb, 0, none⟩), .pointer (some ⟨gb, 0, none⟩), .pointer (some ⟨pb, 0, none⟩), .pointer (some ⟨wb, 0, none⟩)] 96)).heap.size = w5.heap.size + 1 := by simp
 generalize (w5.alloc (.cells #[.int .u64 (qu : Int), .int .u64 (ag : Int), .slice none 0 0, .slice none 0 0, .slice none 0 0, .pointer (some ⟨tb, 0, none⟩), .pointer (some ⟨sb, 0, none⟩), .pointer (some ⟨gb, 0, none⟩), .pointer (some ⟨pb, 0, none⟩), .pointer (some ⟨wb, 0, none⟩)] 96)) = W6 at *
 obtain ⟨mb, hmb⟩ : ∃ mb, w5.heap.size = mb := ⟨_, rfl⟩
 rw [hmb] at hblk hs6 hb6
 have hcl : cb < W0.heap.size := World.block_lt_of_cell? W0 _ c0
 have hcm : cb < mb := by have := HB5.out.size; omega
 have hb06 : Below W0.heap.size W0 W6 := bt HB5.out (by rw [hmb]; exact hb6)
 obtain ⟨d0, d1, _, _, d4, d5⟩ := hC _ hb06
 have x7 := mcell hblk 7
 have x8 := mcell hblk 8
 simp only [List.getElem?_toArray] at x7 x8
 have hrp := repeat_ok (W6.alloc (.cells #[.int .i64 (-1), .int .u64 0, .bool false] 99)) W6.heap.size P hP (newc _ _ _ 0 _ rfl) (newc _ _ _ 1 _ rfl) (newc _ _ _ 2 _ rfl)
 have hb7 : Below W6.heap.size W6 (W6.alloc (.cells #[.int .i64 (-1), .int .u64 0, .bool false] 99)) := (Below.refl _ _).alloc (Nat.le_refl _) _
 have HRP : Hid (Calls Tryz.prog 36 #[.slice (some ⟨W6.heap.size, 0, none⟩) 1 1, .int .i64 (P : Int)] (W6.alloc (.cells #[.int .i64 (-1), .int .u64 0, .bool false] 99)) fun e w' => ∃ b, e = .returned (.slice (some ⟨b, 0, none⟩) P P) ∧ (W6.heap.size ≤ b ∧ b < w'.heap.size) ∧ Pcs w' b P (fun _ => ⟨-1, 0, false⟩) ∧ Below W6.heap.size W6 w' ∧ W6.heap.size < w'.heap.size) := by
  refine hrp.mono ?_
  rintro e w' ⟨b, rfl, h1, h2, h3⟩
  refine ⟨b, rfl, ⟨by have := h1.1; simp at this; omega, h1.2⟩, h2, bt hb7 h3, by have := h3.size; simp at this; omega⟩
 have hbp := buildPn
 have d0' := (hC _ (bt hb06 hb7)).1
 obtain ⟨i0, hi, hz0, hz1, hz2⟩ := Cb.info_parts infoTh
 have hmk : ∀ w, (Instr.makeSlice 94 (.int .i64 (n : Int)) (.int .i64 (n : Int))).run Tryz.prog w = .ok (.slice (some ⟨w.heap.size, 0, none⟩) n n) (w.alloc (.cells (madeCells thZero.cells (n * 10)) 111)) := by
  intro w
  have := run_make w 94 111 i0 thZero Tryz.underlying94 hi hz0 .i64 .i64 (n : Int) (n : Int) (by omega) (by omega) (by rw [hz2]; omega) (by omega)
  rw [hz1, show (n : Int).toNat = n by omega] at this
  exact this
 obtain ⟨mc, hmc⟩ : ∃ mc, madeCells thZero.cells (n * 10) = mc := ⟨_, rfl⟩
 rw [hmc] at hmk
 have HMC := veil hmc
 clear hmc
 have HB06 := veil hb06
 have HBLK := veil hblk
 have HS6 := veil hs6
 have HMB := veil hmb
 have HB6 := veil hb6
 have HCL := veil hcl
 clear hrp hb7 hC c0 c1 c2 c3 c4 c5 hi hz0 hz1 hz2 hb06 hblk hs6 hb6 hcl
 rw [hmb]
 clear hmb
 go_wp2_with (go_at_call 36; refine (HRP.out).mono ?_; rintro e w8 ⟨pr, rfl, r1, r2, b1, s8⟩; have HR8 := veil r2; have HD8 := veil r1; have HB8 := veil b1; have HS8 := veil s8; have hc8 := HC.out _ (bt HB06.out b1); have y1 := hc8.2.1; have m8 := (b1.block mb (by have := HS6.out; omega)).trans HBLK.out; have x3 : w8.cell? ⟨mb, 3, none⟩ = some (.slice none 0 0) := (mcell m8 3); have x4 : w8.cell? ⟨mb, 4, none⟩ = some (.slice none 0 0) := (mcell m8 4); have f3 := mfz m8 3; have f4 := mfz m8 4; have hml : mb < w8.heap.size := (World.block_lt_of_cell? w8 _ x3); have z4 := c4n (v := .slice (some ⟨pr, 0, none⟩) P P) (o := .cells mc 111) hml x4 f4; have n1 : ¬ mb = cb := (by omega); have n2 : ¬ cb = mb := (by omega); have n3 : ¬ mb = w8.heap.size := (by have := HS6.out; omega); have n4 : ¬ cb = w8.heap.size := (by have := HS6.out; omega); have z4a := z4.1; have z4b := z4.2; have HM8 := veil m8; clear r1 r2 b1 s8 hc8 m8 z4)
 go_ret
 obtain ⟨WF, hWF⟩ : ∃ WF, ((w8.setCell ⟨mb, 3, none⟩ (.slice (some ⟨pr, 0, none⟩) P P)).setCell ⟨mb, 4, none⟩ (.slice (some ⟨w8.heap.size, 0, none⟩) n n)).alloc (.cells mc 111) = WF := ⟨_, rfl⟩
 have sX : ((w8.setCell ⟨mb, 3, none⟩ (.slice (some ⟨pr, 0, none⟩) P P)).setCell ⟨mb, 4, none⟩ (.slice (some ⟨w8.heap.size, 0, none⟩) n n)).heap.size = w8.heap.size := by simp
 have sF : WF.heap.size = w8.heap.size + 1 := by rw [← hWF]; simp
 have kX : ∀ k, k < w8.heap.size → WF.heap[k]? = ((w8.setCell ⟨mb, 3, none⟩ (.slice (some ⟨pr, 0, none⟩) P P)).setCell ⟨mb, 4, none⟩ (.slice (some ⟨w8.heap.size, 0, none⟩) n n)).heap[k]? := fun k hk => by rw [← hWF]; exact Below.heap_alloc _ _ _ (by rw [sX]; exact hk)
 have k8 : ∀ k, k < w8.heap.size → k ≠ mb → WF.heap[k]? = w8.heap[k]? := fun k hk hn => by
  rw [kX k hk, Below.heap_setCell _ _ _ _ hn, Below.heap_setCell _ _ _ _ hn]
 have cX : ∀ o, WF.cell? ⟨mb, o, none⟩ = ((w8.setCell ⟨mb, 3, none⟩ (.slice (some ⟨pr, 0, none⟩) P P)).setCell ⟨mb, 4, none⟩ (.slice (some ⟨w8.heap.size, 0, none⟩) n n)).cell? ⟨mb, o, none⟩ := fun o => World.cell?_of_block (kX mb hml)
 have cO : ∀ o, o ≠ 3 → o ≠ 4 → WF.cell? ⟨mb, o, none⟩ = w8.cell? ⟨mb, o, none⟩ := fun o h3 h4 => by
  rw [cX o, cfar _ (fun e => h4 e.symm), cfar _ (fun e => h3 e.symm)]
 have q3 : WF.cell? ⟨mb, 3, none⟩ = some (.slice (some ⟨pr, 0, none⟩) P P) := by
  rw [cX 3, cfar _ (by decide)]
  exact Gt.set_same _ _ _ _ x3
 have q4 : WF.cell? ⟨mb, 4, none⟩ = some (.slice (some ⟨w8.heap.size, 0, none⟩) n n) := by
  rw [cX 4]
  exact Gt.set_same _ _ _ _ ((cfar w8 (by decide)).trans x4)
 have qf : ∀ o, WF.frozen? ⟨mb, o, none⟩ = false := fun o => by
  rw [World.frozen?_of_block (kX mb hml), frozen_set, frozen_set]
  exact mfz HM8.out o
 have hs6 := HS6.out
 have hs8 := HS8.out
 have hd8 := HD8.out
 have hmb := HMB.out
 have b5F : Below w5.heap.size w5 WF := by
  rw [hmb, ← hWF]
  have b8 : Below mb w5 w8 := HB6.out.trans ((HB8.out).mono (by omega))
  exact (bset (bset b8 (a := ⟨mb, 3, none⟩) (Nat.le_refl _) _) (a := ⟨mb, 4, none⟩) (Nat.le_refl _) _).alloc (by rw [sX]; omega) _
 have b4F := bt HL5.out b5F
 have b3F := bt HL4.out b4F
 have b2F := bt HL3.out b3F
 have b1F := bt HL2.out b2F
 have b0F := bt HL1.out b1F
 have z1 := HL1.out.size
 have z2 := HL2.out.size
 have z3 := HL3.out.size
 have z4 := HL4.out.size
 have z5 := HL5.out.size
 have hz0 := HT0.out.pos
 have hcO : ∀ o u, o ≠ 3 → o ≠ 4 → (#[.int .u64 (qu : Int), .int .u64 (ag : Int), .slice none 0 0, .slice none 0 0, .slice none 0 0, .pointer (some ⟨tb, 0, none⟩), .pointer (some ⟨sb, 0, none⟩), .pointer (some ⟨gb, 0, none⟩), .pointer (some ⟨pb, 0, none⟩), .pointer (some ⟨wb, 0, none⟩)] : Array Value)[o]? = some u → WF.cell? ⟨mb, o, none⟩ = some u := fun o u h3 h4 hu => by
  rw [cO o h3 h4, mcell HM8.out o]
  exact hu
 have hPt : Parts WF ⟨mb, tb, tg, sb, gb, pb, wb, wg, wm, pr, w8.heap.size, P, n⟩ P n q m qu ag W0.heap.size w1.heap.size w2.heap.size w3.heap.size w4.heap.size w5.heap.size := by
  refine ⟨hP, hn, ⟨hqu.2, hag.2⟩, ⟨z1, z2, z3, z4, z5⟩, hz0, HT0.out.below b0F, HR1.out.below b1F, HD1.out, ⟨_, HR2.out.frame (ofBelow (S := fun _ => False) b2F).cb (fun q => q) (fun k hk => by cases hk)⟩, HD2.out, ⟨_, _, HR3.out.below b3F, HD3.out⟩, ⟨_, HR4.out.below b4F, HD4.out⟩, HR5.out.frame (ofBelow (S := fun _ => False) b5F).wh (fun _ _ q => q), HD5.out, ⟨by show w5.heap.size ≤ mb; omega, by show w5.heap.size ≤ pr; omega, by show w5.heap.size ≤ w8.heap.size; omega⟩, ⟨by show mb ≠ pr; omega, by show mb ≠ w8.heap.size; omega, by show pr ≠ w8.heap.size; omega⟩, ⟨by show mb < WF.heap.size; omega, by show pr < WF.heap.size; omega, by show w8.heap.size < WF.heap.size; omega, by omega⟩, ?_, hcO 2 _ (by decide) (by decide) rfl, ?_, ?_⟩
  ·exact ⟨hcO 0 _ (by decide) (by decide) rfl, hcO 1 _ (by decide) (by decide) rfl, q3, q4, hcO 5 _ (by decide) (by decide) rfl, hcO 6 _ (by decide) (by decide) rfl, hcO 7 _ (by decide) (by decide) rfl, hcO 8 _ (by decide) (by decide) rfl, hcO 9 _ (by decide) (by decide) rfl, qf⟩
  ·have hk := k8 pr (by omega) (by omega)
   exact ⟨fun i hi => (HR8.out.at_ i hi).kept hk, fun o => (World.frozen?_of_block hk).trans (HR8.out.fz o), HR8.out.ok⟩
  ·refine Ths.made ?_
   rw [HMC.out, ← hWF]
   have := World.alloc_heap_new ((w8.setCell ⟨mb, 3, none⟩ (.slice (some ⟨pr, 0, none⟩) P P)).setCell ⟨mb, 4, none⟩ (.slice (some ⟨w8.heap.size, 0, none⟩) n n)) (.cells mc 111)
   rw [sX] at this
   exact this
 obtain ⟨p1, p2⟩ := hPt.is
 rw [hWF]
 exact ⟨_, _, rfl, p1, fun k hk => Nat.le_trans HB0.out.size (p2 k hk), bt HB0.out b0F⟩
end Go.Proofs.YtjlbmmiomfpgiaaGreatDoor
namespace Go.Proofs.YtjlbmmiomfpgiaaGreatDoor
set_option maxRecDepth 100000
open Go.RowKit Go.Lib Go.Shelf
set_option linter.unusedVariables false
set_option linter.unusedSimpArgs false
attribute [local go_sem ↓] Go.wp_at_zero Go.wp_at_succ
section
variable {w w' : World} {lab lab' : Nat → Nat} {a : Ad} {P n q T : Nat} {M : Mc}
theorem Rt_le {len : Nat} {O R : Nat → Int} (h : Ex.Rt len O R) : 1 ≤ len ∧ len ≤ 64 := by
 obtain ⟨y, h⟩ := h
 rcases h with ⟨_, e, _⟩ | ⟨_, _, j, _, _, _, e, _⟩ | ⟨_, _, _, _, _, e, _⟩ | ⟨h1, h2, _⟩
 ·cases e
 ·cases e
 ·cases e
 ·exact ⟨h1, h2⟩
theorem infoPr : (Tryz.prog.info? 35).map (fun i => (i.zero, i.size, i.bytes)) = some (some (.slice none 0 0), 1, 24) := by kernel_rfl
set_option maxHeartbeats 4000000 in
theorem IsMc.load_yes (h : IsMc w lab a P n q T M) (ap : Option Addr) (len cap : Nat) (O R : Nat → Int) (hp : Ex.Prg w ap len O R) (hr : Ex.Rt len O R) (hf : M.pr.length < 16) :
  Calls Tryz.prog 17 #[.pointer (some ⟨a.m, 0, none⟩), .slice ap len cap] w fun e w' => e = .returned (.tuple #[.int .i64 (M.pr.length : Int), .int .i64 0]) ∧ Goes w w' lab a P n q T { M with pr := M.pr ++ [⟨len, O, R⟩] } := by
 have hle := Rt_le hr
 obtain ⟨i0, hi0, hz0, hz1, hz2⟩ := Cb.info_parts infoPr
 obtain ⟨y, hc⟩ := hr
 have HK := veil (Ex.check_known w ap len cap (by omega) O R hp 0 y hc)
 have HM1 : Hid (∀ V, Below w.heap.size w V → ∃ ad cp vs, V.cell? ⟨a.m, 2, none⟩ = some (.slice ad M.pr.length cp) ∧ Prs V lab (.slice ad M.pr.length cp) M.pr vs ∧ IsMc V lab a P n q T M ∧ Ex.Prg V ap len O R) := fun V hb => by
  obtain ⟨v, vs, e2, hps⟩ := (h.below hb).pg
  obtain ⟨ad, cp, rfl⟩ := hps.form
  exact ⟨ad, cp, vs, e2, hps, h.below hb, hp.below hb⟩
 have HR := veil (show Ex.Rt len O R from ⟨y, hc⟩)
 clear h hp hc
 have hf' : ((M.pr.length : Int) == 16) = false := by simp; omega
 have hf2 : M.pr.length ≠ 16 := by omega
 have HLE := veil hle
 go_enter Tryz.func17, Tryz.ntmps17
 go_wp2_with (go_at_call 47; refine (HK.out).mono ?_; rintro e w1 ⟨rfl, hb⟩; have HB := veil hb; obtain ⟨ad, cp, vs, e2, hps, hi1, hpr1⟩ := HM1.out _ hb; have HPS := veil hps; have HI1 := veil hi1; have HPR := veil hpr1; have HE2 := veil e2; clear hb hps hi1 hpr1)
 have HCL : Hid (∀ V, lk w1 V → Calls Tryz.prog 48 #[.slice ap len cap] V fun e w' => ∃ a1 d1, e = .returned (.slice a1 len d1) ∧ w'.ownsRow w1.heap.size 64 2 (.slice a1 len d1) len (Ex.pcells O R len) ∧ Below w1.heap.size w1 w') := fun V hl => by
  refine (clone_prg V ap len cap O R (HPR.out.below (hl.bel (Below.refl _ _))) HLE.out.1 HLE.out.2).mono ?_
  rintro e w' ⟨v', rfl, ho, hb⟩
  obtain ⟨a1, d1, rfl⟩ := Cb.owns_slice ho
  rw [hl.1] at ho
  exact ⟨a1, d1, rfl, ho, hl.bel hb⟩
 have HAP : Hid (∀ (w2 : World) (a1 : Option Addr) (d1 : Nat), Below w1.heap.size w1 w2 → Hid ((w2.alloc (.cells #[.slice a1 len d1] 35)).ownsRow 0 35 1 (.slice ad M.pr.length cp) M.pr.length vs) ∧ Hid (∀ j u, ([.slice a1 len d1] : List Value)[j]? = some u → (w2.alloc (.cells #[.slice a1 len d1] 35)).cell? ((⟨w2.heap.size, 0, none⟩ : Addr).add j) = some u)) := fun w2 a1 d1 hb => by
  refine ⟨row_keptF HPS.out.row (fun k hk => ?_), fun j u hu => ?_⟩
  ·exact (bt hb ((Below.refl w2.heap.size w2).alloc (Nat.le_refl _) _)).block k (Pi.ownsRow_blk HPS.out.row hk).2.1
  ·match j, hu with
   | 0, hu => injection hu with hu; subst hu; exact newc _ _ _ 0 _ rfl
 clear HM1 HK
 refine wp_region_held_drew (S := fun _ => True) (by kernel_rfl) ?_ (fun hHeld => ?_)
 ·trivial
 refine tkX 0 (v := ?_) rfl ?v0 ?_
 case v0 => (intro w hSw; (try dsimp only at hSw); go_simp; try with_reducible rfl)
 try simp only [puX]
 refine tkX 1 (v := ?_) rfl ?v1 ?_
 case v1 => (intro w hSw; (try dsimp only at hSw); go_simp; try with_reducible rfl)
 try simp only [puX]
 refine tkX 2 (v := ?_) rfl ?v2 ?_
 case v2 => (intro w hSw; (try dsimp only at hSw); go_simp; try with_reducible rfl)
 try simp only [puX]
 refine tkX 3 (v := ?_) rfl ?v3 ?_
 case v3 => (intro w hSw; (try dsimp only at hSw); go_simp; try with_reducible rfl)
 try simp only [puX]
 refine tkX 5 (v := ?_) rfl ?v5 ?_
 case v5 => (intro w hSw; (try dsimp only at hSw); go_simp; try with_reducible rfl)
 try simp only [puX]
 refine wpAnyH_ready (rs := [4, 6]) (by kernel_rfl) (by simp) ?_
 refine AllReadyH.cons rfl (fun K hK => ?_) (AllReadyH.cons rfl (fun K hK => ?_) AllReadyH.nil)
 ·skip
  go_simp
  refine hK.out _ _ ?_ (fun hHeld => ?_)
  ·trivial
  clear hK K
  try simp only [puX]
  refine wpAnyH_ready (rs := [6]) (by kernel_rfl) (by simp) ?_
  refine AllReadyH.cons rfl (fun K hK => ?_) AllReadyH.nil
  go_simp
  go_at_call 48
  refine (HCL.out _ (by exact ⟨rfl, rfl, rfl, rfl⟩)).mono ?_
  rintro e w2 ⟨a1, d1, rfl, ho1, hb2⟩
  have HO1 := veil ho1
  have HB2 := veil hb2
  have k2 := kc hb2 HE2.out
  have k3 := fun o => kc (bt hb2 ((Below.refl w2.heap.size w2).alloc (Nat.le_refl _) o)) HE2.out
  clear ho1 hb2
  refine hK.out _ _ ?_ (fun hHeld => ?_)
  ·trivial
  clear hK K
  try simp only [puX]
  refine wpAnyH_ready (rs := [7]) (by kernel_rfl) (by simp) ?_
  refine AllReadyH.cons rfl (fun K hK => ?_) AllReadyH.nil
  go_simp
  refine hK.out _ _ ?_ (fun hHeld => ?_)
  ·trivial
  clear hK K
  try simp only [puX]
  refine wpAnyH_ready (rs := [8]) (by kernel_rfl) (by simp) ?_
  refine AllReadyH.cons rfl (fun K hK => ?_) AllReadyH.nil
  obtain ⟨HOW, HNW⟩ := HAP.out w2 a1 d1 HB2.out
  refine step_append_ev _ (by rfl) _ _ _ (by rfl) 0 35 i0 (.slice none 0 0) 1 24 Tryz.underlying92 hi0 hz0 hz1 hz2 rfl (by omega) (.slice ad M.pr.length cp) M.pr.length vs (by rfl) HOW.out ⟨w2.heap.size, 0, none⟩ 1 1 [.slice a1 len d1] (by rfl) rfl HNW.out (by intro u hu; simp at hu; subst hu; rfl) (by unfold maxLen; omega) (by omega) (Nat.zero_le _) ?_
  intro v1 w3 ho3 hg3 hat3
  obtain ⟨y1, y2, hgo⟩ := HI1.out.loaded HE2.out HPS.out (bt HB2.out ((Below.refl w2.heap.size w2).alloc (Nat.le_refl _) (.cells #[.slice a1 len d1] 35))) (p := ⟨len, O, R⟩) (u := .slice a1 len d1) (row_keptF HO1.out (fun k hk => Below.heap_alloc _ _ _ (Pi.ownsRow_blk HO1.out hk).2.1)) HR.out ho3 hg3 hat3
  obtain ⟨a3, d3, rfl⟩ := Cb.owns_slice ho3
  have HGO := veil hgo
  have y5 := Gt.set_same w3 ⟨a.m, 2, none⟩ (.slice a3 (M.pr.length + 1) d3) _ y1
  clear hgo ho3 hg3 hat3 HOW HNW
  refine hK.out _ _ ?_ (fun hHeld => ?_)
  ·trivial
  clear hK K
  try simp only [puX]
  refine tkX 9 (v := ?_) rfl ?v9 ?_
  case v9 => (intro w hSw; (try dsimp only at hSw); go_simp; try with_reducible rfl)
  try simp only [puX]
  refine tkX 10 (v := ?_) rfl ?v10 ?_
  case v10 => (intro w hSw; (try dsimp only at hSw); go_simp; try with_reducible rfl)
  try simp only [puX]
  refine wpAnyH_ready (rs := [11]) (by kernel_rfl) (by simp) ?_
  refine AllReadyH.cons rfl (fun K hK => ?_) AllReadyH.nil
  go_simp
  refine hK.out _ _ ?_ (fun hHeld => ?_)
  ·trivial
  clear hK K
  try simp only [puX]
  refine wpAnyH_done (by kernel_rfl) ?_ _
  go_wp2
  go_ret2
  exact ⟨by simp, Goes.ahead HB.out HGO.out⟩
 ·skip
  go_simp
  go_at_call 48
  refine (HCL.out _ (by exact ⟨rfl, rfl, rfl, rfl⟩)).mono ?_
  rintro e w2 ⟨a1, d1, rfl, ho1, hb2⟩
  have HO1 := veil ho1
  have HB2 := veil hb2
  have k2 := kc hb2 HE2.out
  have k3 := fun o => kc (bt hb2 ((Below.refl w2.heap.size w2).alloc (Nat.le_refl _) o)) HE2.out
  clear ho1 hb2
  refine hK.out _ _ ?_ (fun hHeld => ?_)
  ·trivial
  clear hK K
  try simp only [puX]
  refine wpAnyH_ready (rs := [4, 7]) (by kernel_rfl) (by simp) ?_
  refine AllReadyH.cons rfl (fun K hK => ?_) (AllReadyH.cons rfl (fun K hK => ?_) AllReadyH.nil)
  ·skip
   go_simp
   refine hK.out _ _ ?_ (fun hHeld => ?_)
   ·trivial
   clear hK K
   try simp only [puX]
   refine wpAnyH_ready (rs := [7]) (by kernel_rfl) (by simp) ?_
   refine AllReadyH.cons rfl (fun K hK => ?_) AllReadyH.nil
   go_simp
   refine hK.out _ _ ?_ (fun hHeld => ?_)
   ·trivial
   clear hK K
   try simp only [puX]
   refine wpAnyH_ready (rs := [8]) (by kernel_rfl) (by simp) ?_
   refine AllReadyH.cons rfl (fun K hK => ?_) AllReadyH.nil
   obtain ⟨HOW, HNW⟩ := HAP.out w2 a1 d1 HB2.out
   refine step_append_ev _ (by rfl) _ _ _ (by rfl) 0 35 i0 (.slice none 0 0) 1 24 Tryz.underlying92 hi0 hz0 hz1 hz2 rfl (by omega) (.slice ad M.pr.length cp) M.pr.length vs (by rfl) HOW.out ⟨w2.heap.size, 0, none⟩ 1 1 [.slice a1 len d1] (by rfl) rfl HNW.out (by intro u hu; simp at hu; subst hu; rfl) (by unfold maxLen; omega) (by omega) (Nat.zero_le _) ?_
   intro v1 w3 ho3 hg3 hat3
   obtain ⟨y1, y2, hgo⟩ := HI1.out.loaded HE2.out HPS.out (bt HB2.out ((Below.refl w2.heap.size w2).alloc (Nat.le_refl _) (.cells #[.slice a1 len d1] 35))) (p := ⟨len, O, R⟩) (u := .slice a1 len d1) (row_keptF HO1.out (fun k hk => Below.heap_alloc _ _ _ (Pi.ownsRow_blk HO1.out hk).2.1)) HR.out ho3 hg3 hat3
   obtain ⟨a3, d3, rfl⟩ := Cb.owns_slice ho3
   have HGO := veil hgo
   have y5 := Gt.set_same w3 ⟨a.m, 2, none⟩ (.slice a3 (M.pr.length + 1) d3) _ y1
   clear hgo ho3 hg3 hat3 HOW HNW
   refine hK.out _ _ ?_ (fun hHeld => ?_)
   ·trivial
   clear hK K
   try simp only [puX]
   refine tkX 9 (v := ?_) rfl ?v9 ?_
   case v9 => (intro w hSw; (try dsimp only at hSw); go_simp; try with_reducible rfl)
   try simp only [puX]
   refine tkX 10 (v := ?_) rfl ?v10 ?_
   case v10 => (intro w hSw; (try dsimp only at hSw); go_simp; try with_reducible rfl)
   try simp only [puX]
   refine wpAnyH_ready (rs := [11]) (by kernel_rfl) (by simp) ?_
   refine AllReadyH.cons rfl (fun K hK => ?_) AllReadyH.nil
   go_simp
   refine hK.out _ _ ?_ (fun hHeld => ?_)
   ·trivial
   clear hK K
   try simp only [puX]
   refine wpAnyH_done (by kernel_rfl) ?_ _
   go_wp2
   go_ret2
   exact ⟨by simp, Goes.ahead HB.out HGO.out⟩
  ·skip
   go_simp
   refine hK.out _ _ ?_ (fun hHeld => ?_)
   ·trivial
   clear hK K
   try simp only [puX]
   refine wpAnyH_ready (rs := [4]) (by kernel_rfl) (by simp) ?_
   refine AllReadyH.cons rfl (fun K hK => ?_) AllReadyH.nil
   go_simp
   refine hK.out _ _ ?_ (fun hHeld => ?_)
   ·trivial
   clear hK K
   try simp only [puX]
   refine wpAnyH_ready (rs := [8]) (by kernel_rfl) (by simp) ?_
   refine AllReadyH.cons rfl (fun K hK => ?_) AllReadyH.nil
   obtain ⟨HOW, HNW⟩ := HAP.out w2 a1 d1 HB2.out
   refine step_append_ev _ (by rfl) _ _ _ (by rfl) 0 35 i0 (.slice none 0 0) 1 24 Tryz.underlying92 hi0 hz0 hz1 hz2 rfl (by omega) (.slice ad M.pr.length cp) M.pr.length vs (by rfl) HOW.out ⟨w2.heap.size, 0, none⟩ 1 1 [.slice a1 len d1] (by rfl) rfl HNW.out (by intro u hu; simp at hu; subst hu; rfl) (by unfold maxLen; omega) (by omega) (Nat.zero_le _) ?_
   intro v1 w3 ho3 hg3 hat3
   obtain ⟨y1, y2, hgo⟩ := HI1.out.loaded HE2.out HPS.out (bt HB2.out ((Below.refl w2.heap.size w2).alloc (Nat.le_refl _) (.cells #[.slice a1 len d1] 35))) (p := ⟨len, O, R⟩) (u := .slice a1 len d1) (row_keptF HO1.out (fun k hk => Below.heap_alloc _ _ _ (Pi.ownsRow_blk HO1.out hk).2.1)) HR.out ho3 hg3 hat3
   obtain ⟨a3, d3, rfl⟩ := Cb.owns_slice ho3
   have HGO := veil hgo
   have y5 := Gt.set_same w3 ⟨a.m, 2, none⟩ (.slice a3 (M.pr.length + 1) d3) _ y1
   clear hgo ho3 hg3 hat3 HOW HNW
   refine hK.out _ _ ?_ (fun hHeld => ?_)
   ·trivial
   clear hK K
   try simp only [puX]
   refine tkX 9 (v := ?_) rfl ?v9 ?_
   case v9 => (intro w hSw; (try dsimp only at hSw); go_simp; try with_reducible rfl)
   try simp only [puX]
   refine tkX 10 (v := ?_) rfl ?v10 ?_
   case v10 => (intro w hSw; (try dsimp only at hSw); go_simp; try with_reducible rfl)
   try simp only [puX]
   refine wpAnyH_ready (rs := [11]) (by kernel_rfl) (by simp) ?_
   refine AllReadyH.cons rfl (fun K hK => ?_) AllReadyH.nil
   go_simp
   refine hK.out _ _ ?_ (fun hHeld => ?_)
   ·trivial
   clear hK K
   try simp only [puX]
   refine wpAnyH_done (by kernel_rfl) ?_ _
   go_wp2
   go_ret2
   exact ⟨by simp, Goes.ahead HB.out HGO.out⟩
end
end Go.Proofs.YtjlbmmiomfpgiaaGreatDoor
