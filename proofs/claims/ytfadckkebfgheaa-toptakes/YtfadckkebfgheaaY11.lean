/-
  TopTakes: numbers that come in; what is put as it comes, and taken; the walk.
-/
import Derived.Test.YtfadckkebfgheaaY10
import Derived.ProofKit
import Derived.OpenShut
import Derived.RowKit3
import Derived.Laws.IdiomArrays
import Derived.WideShapes
import Derived.ChangeOld
import Derived.Deep.Strs
import Derived.Deep.Slices
namespace Go.Proofs.Ytfadckkebfgheaa
open Go.RowKit Go.Lib Go.Deep Go.ChangeShapes Go.WideShapes Go.ChangeAt
set_option linter.unusedVariables false

theorem choose_lt' {n : Nat} {α : Type} [Inhabited α] {p : Nat → α → Prop} (h : ∀ i, i < n → ∃ x, p i x) : ∃ f : Nat → α, ∀ i, i < n → p i (f i) :=
  ⟨fun i => if hi : i < n then (h i hi).choose else default, fun i hi => by simp only [dif_pos hi]; exact (h i hi).choose_spec⟩
def U16s (w : World) (a : Option Addr) (len : Nat) (D : Nat → Nat) : Prop :=
  len = 0 ∨ ∃ lb off, a = some ⟨lb, off, none⟩ ∧ lb < w.heap.size ∧ ∀ j, j < len → D j < 65536 ∧ w.cell? ⟨lb, off + j, none⟩ = some (.int .u16 (D j : Int))
theorem u16_of {z : Int} (h : (Lit.int .u16 z).wf = true) : ∃ n : Nat, z = n ∧ n < 65536 := by
  simp [Lit.wf, IntKind.min, IntKind.max, IntKind.bits, IntKind.signed] at h
  exact ⟨z.toNat, by omega, by omega⟩
section
variable {H : Type} {enc : TypeId × Value → H} {w : World} {base : Nat} {spare : Nat → Bool} {held : Bool}
theorem cellsU16 : Try.prog.cellsOf 56 = 1 := by kernel_rfl
theorem open_u16s {fuel : Nat} {a : Option Addr} {len cap : Nat} {x : DataW H × List MemPlace}
    (h : DataW.trod enc Try.prog w base spare held fuel 54 (Value.slice a len cap).cells.toList = some x) : len < 9223372036854775808 ∧ len ≤ cap ∧ cap < 9223372036854775808 ∧ ∃ D, U16s w a len D := by
  rcases open_slice Try.underlying54 h with ⟨hcs, _⟩ | ⟨a', len', cap', m, n, D, Pl, hcs, hbb, hl, hm, hmm, hx, hel⟩
  · simp [Value.cells] at hcs
    obtain ⟨rfl, rfl, rfl⟩ := hcs
    exact ⟨by omega, by omega, by omega, fun _ => 0, .inl rfl⟩
  · simp [Value.cells] at hcs
    obtain ⟨rfl, rfl, rfl⟩ := hcs
    have hlm : len ≤ m := by rw [hmm]; split <;> omega
    refine ⟨by unfold maxLen at hm; omega, hl, by unfold maxLen at hm; omega, ?_⟩
    have hone : ∀ i, i < len → ∃ r : Nat, r < 65536 ∧ w.cell? (a'.add (i * 1)) = some (.int .u16 (r : Int)) := by
      intro i hi'
      obtain ⟨cs', h1, h2⟩ := hel i (by omega)
      rw [cellsU16] at h1
      obtain ⟨_, hlen, hc⟩ := World.cells?_some h1
      match cs', hlen with
      | [c0], _ =>
        obtain ⟨z0, e0, _, w0⟩ := DataW.trod_int Try.underlying56 h2
        simp at e0
        subst e0
        obtain ⟨n0, rfl, q0⟩ := u16_of w0
        have a0 := hc 0 (by omega)
        have az : ∀ x : Addr, x.add 0 = x := fun x => by unfold Addr.add; split <;> simp_all
        rw [az] at a0
        exact ⟨n0, q0, a0⟩
    obtain ⟨f, hf⟩ := choose_lt' hone
    refine ⟨f, ?_⟩
    by_cases h0 : len = 0
    · exact .inl h0
    · right
      obtain ⟨b, off, spot⟩ := a'
      have hspot : spot = none := by
        have := World.cell?_spot (hf 0 (by omega)).2
        simpa [Addr.add] using this
      subst hspot
      have hlt : b < w.heap.size := by
        have := World.block_lt_of_cell? w _ (hf 0 (by omega)).2
        simpa [Addr.add] using this
      refine ⟨b, off, rfl, hlt, fun i hi' => ?_⟩
      obtain ⟨q0, q1⟩ := hf i hi'
      simp only [Go.WideShapes.add_plain, Nat.mul_one] at q1
      exact ⟨q0, q1⟩
end
theorem up_irr (a : Ke.K) : Ke.up a a = false := by simp [Ke.up]
theorem up_trans {a b c : Ke.K} (h : Ke.up a b = true) (k : Ke.up b c = true) : Ke.up a c = true := by
  obtain ⟨ae, ad, al⟩ := a
  obtain ⟨be, bd, bl⟩ := b
  obtain ⟨ce, cd, cl⟩ := c
  cases ae <;> cases be <;> cases ce <;> simp [Ke.up] at * <;> omega
theorem up_asym {a b : Ke.K} (h : Ke.up a b = true) : Ke.up b a = false := by
  cases k : Ke.up b a with
  | false => rfl
  | true => have := up_trans h k; rw [up_irr] at this; cases this
/-- One stands rightly ahead of another: it is not less urgent, and came first of the same. -/
def Rl (a b : En) : Prop := Ke.up b.2 a.2 = false ∧ (a.2 = b.2 → a.1 < b.1)
theorem rl_put {x : En} : ∀ {M : List En}, M.Pairwise Rl → (∀ y ∈ M, y.1 < x.1) → (put x M).Pairwise Rl
  | [], _, _ => by simp [put]
  | y :: M, h, hx => by
    rw [List.pairwise_cons] at h
    unfold put
    cases c : Ke.up x.2 y.2 with
    | true =>
      simp only [if_true]
      rw [List.pairwise_cons, List.pairwise_cons]
      refine ⟨fun z hz => ?_, h⟩
      have hzy : Ke.up z.2 x.2 = false ∧ x.2 ≠ z.2 := by
        rcases List.mem_cons.1 hz with rfl | q
        · exact ⟨up_asym c, fun e => by rw [e, up_irr] at c; cases c⟩
        · have h1 := (h.1 z q).1
          refine ⟨?_, fun e => by rw [e, h1] at c; cases c⟩
          cases k : Ke.up z.2 x.2 with
          | false => rfl
          | true => rw [up_trans k c] at h1; cases h1
      exact ⟨hzy.1, fun e => absurd e hzy.2⟩
    | false =>
      simp only [Bool.false_eq_true, if_false]
      rw [List.pairwise_cons]
      refine ⟨fun z hz => ?_, rl_put h.2 (fun z hz => hx z (by simp [hz]))⟩
      rcases mem_put.1 hz with rfl | q
      · exact ⟨c, fun _ => hx y (by simp)⟩
      · exact h.1 z q
/-- A box of a key. -/
structure Bx (w : World) (b : Nat) (k : Ke.K) : Prop where
  c0 : w.cell? ⟨b, 0, none⟩ = some (.bool k.e)
  c1 : w.cell? ⟨b, 1, none⟩ = some (.int .u64 k.d)
  c2 : w.cell? ⟨b, 2, none⟩ = some (.int .u8 k.l)
  fz : ∀ o, w.frozen? ⟨b, o, none⟩ = false
theorem Bx.fresh (w : World) (k : Ke.K) (t : TypeId) : Bx (w.alloc (.cells #[.bool k.e, .int .u64 k.d, .int .u8 k.l] t)) w.heap.size k :=
  ⟨by rw [Ph.cell_new]; rfl, by rw [Ph.cell_new]; rfl, by rw [Ph.cell_new]; rfl, fun o => Ph.frozen_new _ _ _ _⟩
theorem Bx.lt {w : World} {b : Nat} {k : Ke.K} (h : Bx w b k) : b < w.heap.size := World.block_lt_of_cell? w ⟨b, 0, none⟩ h.c0
theorem Bx.frame {S : Nat → Prop} {w w' : World} {b : Nat} {k : Ke.K} (h : Bx w b k) (hf : Fr S w w') (hn : ¬ S b) : Bx w' b k :=
  ⟨(hf.cell (a := ⟨b, 0, none⟩) h.lt hn).trans h.c0, (hf.cell (a := ⟨b, 1, none⟩) h.lt hn).trans h.c1, (hf.cell (a := ⟨b, 2, none⟩) h.lt hn).trans h.c2, fun o => (hf.frozen (a := ⟨b, o, none⟩) h.lt hn).trans (h.fz o)⟩
theorem Bx.below {w w' : World} {b : Nat} {k : Ke.K} (h : Bx w b k) (hb : Below w.heap.size w w') : Bx w' b k := h.frame (S := fun _ => False) (Fr.of_below' hb) (fun q => q)
theorem Bx.set {w : World} {b : Nat} {k : Ke.K} (h : Bx w b k) (k' : Ke.K) : Bx (((w.setCell ⟨b, 0, none⟩ (.bool k'.e)).setCell ⟨b, 1, none⟩ (.int .u64 k'.d)).setCell ⟨b, 2, none⟩ (.int .u8 k'.l)) b k' := by
  refine ⟨?_, ?_, ?_, fun o => by rw [World.frozen?_setCell, World.frozen?_setCell, World.frozen?_setCell]; exact h.fz o⟩
  · rw [Ph.set_other _ _ _ _ _ _ (by omega), Ph.set_other _ _ _ _ _ _ (by omega)]
    exact Ph.set_same _ _ _ _ h.c0
  · rw [Ph.set_other _ _ _ _ _ _ (by omega)]
    exact Ph.set_same _ _ _ _ (by rw [Ph.set_other _ _ _ _ _ _ (by omega)]; exact h.c1)
  · exact Ph.set_same _ _ _ _ (by rw [Ph.set_other _ _ _ _ _ _ (by omega), Ph.set_other _ _ _ _ _ _ (by omega)]; exact h.c2)
/-- A box that is written is none of the set's. -/
theorem box_set {w W : World} {sb qb gq hb gh n most turn : Nat} {M : List En} {B : Nat} (h : IsS W sb qb gq hb gh n most turn M) (hb0 : Below w.heap.size w W) (hn : ∀ k, OwnS sb qb gq hb gh k → k ≠ B) (hB : w.heap.size ≤ B) (a b c : Value) :
    IsS (((W.setCell ⟨B, 0, none⟩ a).setCell ⟨B, 1, none⟩ b).setCell ⟨B, 2, none⟩ c) sb qb gq hb gh n most turn M ∧ Below w.heap.size w (((W.setCell ⟨B, 0, none⟩ a).setCell ⟨B, 1, none⟩ b).setCell ⟨B, 2, none⟩ c) := by
  have F1 : Fr (fun k => k = B) W (((W.setCell ⟨B, 0, none⟩ a).setCell ⟨B, 1, none⟩ b).setCell ⟨B, 2, none⟩ c) := Fr.setCell (a := ⟨B, 2, none⟩) (Fr.setCell (a := ⟨B, 1, none⟩) (Fr.setCell (S := fun k => k = B) (a := ⟨B, 0, none⟩) (Fr.refl _ _) rfl a) rfl b) rfl c
  exact ⟨h.frame F1 hn, hb0.trans (F1.below hb0.size (fun k hk => by rw [hk]; exact hB))⟩
/-- The key that a number makes. -/
def tk (d : Nat) : Ke.K := if 4 ≤ d % 8 then Ke.deadK ((d % 4 : Nat) : Int) else Ke.fixK ((d % 4 : Nat) : Int)

set_option maxHeartbeats 4000000 in
set_option maxRecDepth 100000 in
theorem takes_walk (a : Option Addr) (len cap : Nat) (D : Nat → Nat) (w : World) (hl : len < 9223372036854775808) (hu : U16s w a len D) :
    Calls Try.prog 10 #[.slice a len cap] w fun e w' => e = .returned (.bool true) ∧ Below w.heap.size w w' := by
  have HNew := veil (new_isS 64 64 w (by omega) (by omega) (by omega) (by omega))
  go_enter Try.func10, Try.ntmps10
  go_wp2_with (go_at_call 26; refine (HNew.out).mono ?_; rintro e w1 ⟨sb, qb, gq, hb, gh, rfl, ho, hs, hb1⟩; have HO := veil ho; have HS := veil hs; have HB1 := veil hb1; clear ho hs hb1)
  have HU := veil hu
  have hcell : Hid (∀ j, j < len → ∃ lb off, a = some ⟨lb, off, none⟩ ∧ D j < 65536 ∧ ∀ W, Below w.heap.size w W → W.cell? ⟨lb, off + j, none⟩ = some (.int .u16 (D j : Int))) := fun j hj => by
    rcases hu with h0 | ⟨lb, off, e, hlb, hc⟩
    · omega
    · exact ⟨lb, off, e, (hc j hj).1, fun W hW => (hW.cell (p := ⟨lb, off + j, none⟩) hlb).trans (hc j hj).2⟩
  clear hu
  go_loopw [4, 5] (fun m i wr => ∃ (j : Nat) (M : List En), j ≤ len ∧ j ≤ 64 ∧ m = .int .i64 (j : Int) ∧ i = .int .i64 (j : Int) ∧ M.length = j ∧ M.Pairwise Rl ∧ (∀ y ∈ M, y.1 < j) ∧ IsS wr sb qb gq hb gh 64 64 j M ∧ Below w.heap.size w wr) (fun _ i _ => 64 - (intOf i).toNat)
  case atStart => exact ⟨0, [], by omega, by omega, rfl, rfl, rfl, by simp, by simp, HS.out, HB1.out⟩
  case round =>
    obtain ⟨j, M, hjl, hj64, rfl, rfl, hM, hP, hlt, hst, hbel⟩ := hrel
    have HP := veil hP
    have HLT := veil hlt
    have HST := veil hst
    have HBE := veil hbel
    have HM := veil hM
    clear hP hlt hst hM HS HB1 HNew
    by_cases hc : j < len ∧ j < 64
    · obtain ⟨hc1, hc2⟩ := hc
      obtain ⟨lb, off, rfl, hd, hcW⟩ := hcell.out j hc1
      have HCW := veil hcW
      have e1 := hcW wr hbel
      clear hcW hbel
      have hc1' : (j : Int) < (len : Int) := by omega
      have hc2' : (j : Int) < 64 := by omega
      have hm4 : (0 : Int) ≤ (D j : Int) % 4 ∧ (D j : Int) % 4 < 4 := by omega
      have hnm : keyOf M j = none := keyOf_none.2 (fun y hy => by have := HLT.out y hy; omega)
      have hmb := IsS.n_le HST.out
      by_cases h8 : 4 ≤ D j % 8
      · have h8' : (4 : Int) ≤ (D j : Int) % 8 := by omega
        have HPT : Hid (∀ W, IsS W sb qb gq hb gh 64 64 j M → _) := fun W hW => put_new hW (by omega) j (Ke.deadK ((D j : Int) % 4)) (by omega) (by simp [Ke.rightK, Ke.deadK]) (by simp only [Ke.K.ok, Ke.deadK]; omega) hnm (by rw [HM.out]; omega)
        go_wp2_with (first
          | (go_at_call 27; refine (Ke.fixed_ok _ _).mono ?_; rintro e w2 ⟨rfl, hb2⟩; have HB2 := veil (HBE.out.trans (hb2.mono HBE.out.size)); have HS2 := veil (HST.out.below hb2); have HB3 := veil (HB2.out.alloc HB2.out.size (.cells #[.bool (Ke.fixK ((D j : Int) % 4)).e, .int .u64 (Ke.fixK ((D j : Int) % 4)).d, .int .u8 (Ke.fixK ((D j : Int) % 4)).l] 34)); have e2 := HCW.out _ HB3.out; clear hb2)
          | (go_at_call 28; refine (Ke.dead_ok _ _).mono ?_; rintro e w3 ⟨rfl, hb3⟩; have HB4 := veil (HB3.out.trans (hb3.mono HB3.out.size)); have HSZ := veil hb3.size; have HS3 := veil ((HS2.out.below ((Below.refl _ _).alloc (Nat.le_refl _) _)).below hb3); have k0 := (hb3.cell (p := ⟨w2.heap.size, 0, none⟩) (by simp)).trans (Ph.cell_new _ _ _ _); have k1 := (hb3.cell (p := ⟨w2.heap.size, 1, none⟩) (by simp)).trans (Ph.cell_new _ _ _ _); have k2 := (hb3.cell (p := ⟨w2.heap.size, 2, none⟩) (by simp)).trans (Ph.cell_new _ _ _ _); have f0 := (World.frozen?_of_block (a := ⟨w2.heap.size, 0, none⟩) (hb3.block w2.heap.size (by simp))).trans (Ph.frozen_new _ _ _ _); have f1 := (World.frozen?_of_block (a := ⟨w2.heap.size, 1, none⟩) (hb3.block w2.heap.size (by simp))).trans (Ph.frozen_new _ _ _ _); have f2 := (World.frozen?_of_block (a := ⟨w2.heap.size, 2, none⟩) (hb3.block w2.heap.size (by simp))).trans (Ph.frozen_new _ _ _ _); have HE := veil (box_set HS3.out HB4.out (fun k hk => Nat.ne_of_lt (HS2.out.blocks k hk)) HB2.out.size); clear hb3)
          | (go_at_call 20; refine (HPT.out _ (HE.out _ _ _).1).mono ?_; rintro e w4 ⟨rfl, hs4, hf4⟩; have HS4 := veil hs4; have HB5 := veil ((HE.out _ _ _).2.trans (Fr.below hf4 (HE.out _ _ _).2.size HO.out)); clear hs4 hf4))
        go_roundw
        case rel =>
          refine ⟨j + 1, put (j, (Ke.deadK ((D j : Int) % 4))) M, by omega, by omega, by go_num, by go_num, by rw [len_put, HM.out], rl_put HP.out HLT.out, fun y hy => ?_, HS4.out, HB5.out⟩
          rcases mem_put.1 hy with rfl | q
          · exact Nat.lt_succ_self _
          · exact Nat.lt_succ_of_lt (HLT.out y q)
        case measure => simp [intOf]; omega
      · have h8' : ¬ (4 : Int) ≤ (D j : Int) % 8 := by omega
        have HPT : Hid (∀ W, IsS W sb qb gq hb gh 64 64 j M → _) := fun W hW => put_new hW (by omega) j (Ke.fixK ((D j : Int) % 4)) (by omega) (by simp [Ke.rightK, Ke.fixK]) (by simp only [Ke.K.ok, Ke.fixK]; omega) hnm (by rw [HM.out]; omega)
        go_wp2_with (first
          | (go_at_call 27; refine (Ke.fixed_ok _ _).mono ?_; rintro e w2 ⟨rfl, hb2⟩; have HB2 := veil (HBE.out.trans (hb2.mono HBE.out.size)); have HS2 := veil (HST.out.below hb2); have HB3 := veil (HB2.out.alloc HB2.out.size (.cells #[.bool (Ke.fixK ((D j : Int) % 4)).e, .int .u64 (Ke.fixK ((D j : Int) % 4)).d, .int .u8 (Ke.fixK ((D j : Int) % 4)).l] 34)); have e2 := HCW.out _ HB3.out; clear hb2)
          | (go_at_call 20; refine (HPT.out _ (HS2.out.below ((Below.refl _ _).alloc (Nat.le_refl _) _))).mono ?_; rintro e w4 ⟨rfl, hs4, hf4⟩; have HS4 := veil hs4; have HB5 := veil (HB3.out.trans (Fr.below hf4 HB3.out.size HO.out)); clear hs4 hf4))
        go_roundw
        case rel =>
          refine ⟨j + 1, put (j, (Ke.fixK ((D j : Int) % 4))) M, by omega, by omega, by go_num, by go_num, by rw [len_put, HM.out], rl_put HP.out HLT.out, fun y hy => ?_, HS4.out, HB5.out⟩
          rcases mem_put.1 hy with rfl | q
          · exact Nat.lt_succ_self _
          · exact Nat.lt_succ_of_lt (HLT.out y q)
        case measure => simp [intOf]; omega
    · have hcF : ¬ ((j : Int) < (len : Int) ∧ (j : Int) < 64) := by omega
      have hcc : (¬ (j : Int) < (len : Int)) ∨ ((j : Int) < (len : Int) ∧ ¬ (j : Int) < 64) := by omega
      clear hbel hcF hc hcell HU
      rcases hcc with hc1 | ⟨hc1, hc2⟩
      all_goals
        go_wp2
        generalize hL0 : wr.heap.size = L0 at *
        have HL0 := veil hL0
        clear hL0
        go_loopw [7, 9] (fun lo io wx => ∃ (i : Nat) (N : List En) (lk : Ke.K) (lid : Int), i ≤ j ∧ io = .int .i64 (i : Int) ∧ lo = .int .i64 lid ∧ N.length + i = j ∧ N.Pairwise Rl ∧ IsS wx sb qb gq hb gh 64 64 j N ∧ Bx wx L0 lk ∧ (0 < i → ∃ l : Nat, lid = (l : Int) ∧ ∀ y ∈ N, Rl (l, lk) y) ∧ (∀ y ∈ N, y.1 < 64) ∧ (-1 ≤ lid ∧ lid ≤ 1024) ∧ Below w.heap.size w wx) (fun _ io _ => 64 - (intOf io).toNat)
        case atStart => exact ⟨0, M, ⟨false, 0, 0⟩, -1, by omega, rfl, rfl, by rw [HM.out]; rfl, HP.out, HST.out.below ((Below.refl _ _).alloc (Nat.le_refl _) _), HL0.out ▸ Bx.fresh wr ⟨false, 0, 0⟩ _, fun h => by omega, fun y hy => by have := HLT.out y hy; omega, by omega, HBE.out.alloc HBE.out.size _⟩
        case round =>
          obtain ⟨i, N, lk, lid, hi, rfl, rfl, hN, hPN, hIS, hBx, hRl, h64, hlid, hBN⟩ := hrel
          have HPN := veil hPN
          have HIS := veil hIS
          have HBX := veil hBx
          have HRL := veil hRl
          have H64 := veil h64
          have HBN := veil hBN
          have HNL := veil hN
          clear hPN hIS hBx hRl h64 hBN
          have HNO : Hid (∀ k, OwnS sb qb gq hb gh k → k ≠ L0) := fun k hk => HL0.out ▸ Nat.ne_of_lt (HST.out.blocks k hk)
          cases N with
          | nil =>
            have hij : ¬ (i : Int) < (j : Int) := by simp at hN; omega
            have HTP := veil (stop_none HIS.out.nil_parts)
            go_wp2_with (go_at_call 24; refine (HTP.out).mono ?_; rintro e w5 ⟨rfl, hb5⟩; have HB5 := veil (HBN.out.trans (hb5.mono HBN.out.size)); clear hb5)
            go_ret
            exact ⟨rfl, (by first | exact HB5.out | exact HB5.out.alloc HB5.out.size _ | exact HB5.out.drew)⟩
          | cons y N =>
            have hij : (i : Int) < (j : Int) := by simp at hN; omega
            have hy64 := H64.out y (by simp)
            have HTK := veil (take_ok HIS.out)
            by_cases hi0 : i = 0
            · have hi0' : ¬ (0 : Int) < (i : Int) := by omega
              have hib : decide ((0 : Int) < (i : Int)) = false := by simp; omega
              go_wp2_with (go_at_call 15; refine (HTK.out).mono ?_; rintro e w2 ⟨rfl, hs2, hf2⟩; have HS2 := veil hs2; have hsz2 := hf2.size; have bx2 := HBX.out.frame hf2 (fun q => HNO.out L0 (.inr q) rfl); have HB2 := veil (HBN.out.trans (Fr.below hf2 HBN.out.size (fun k hk => HO.out k (.inr hk)))); have bx3 := bx2.below ((Below.refl _ _).alloc (Nat.le_refl _) (.cells #[.bool y.2.e, .int .u64 y.2.d, .int .u8 y.2.l] 34)); have HB3 := veil (HB2.out.alloc HB2.out.size (.cells #[.bool y.2.e, .int .u64 y.2.d, .int .u8 y.2.l] 34)); have HS3 := veil (hs2.below ((Below.refl _ _).alloc (Nat.le_refl _) (.cells #[.bool y.2.e, .int .u64 y.2.d, .int .u8 y.2.l] 34))); have k0 := bx3.c0; have k1 := bx3.c1; have k2 := bx3.c2; have f0 := bx3.fz 0; have f1 := bx3.fz 1; have f2 := bx3.fz 2; have hlt2 := bx2.lt; have j0 := bx2.c0; have j1 := bx2.c1; have j2 := bx2.c2; have i0 := bx2.fz 0; have i1 := bx2.fz 1; have i2 := bx2.fz 2; have y0 : ¬ L0 = w2.heap.size := (by omega); have y1 : ¬ w2.heap.size = L0 := (by omega); have HBX3 := veil bx3; have HBX2 := veil bx2; clear hs2 hf2 bx2 bx3)
              have HE0 := veil (box_set (B := L0) HS2.out HB2.out HNO.out (HL0.out ▸ HBE.out.size) (.bool y.2.e) (.int .u64 y.2.d) (.int .u8 y.2.l))
              have HE := veil (And.intro (HE0.out.1.below ((Below.refl _ _).alloc (Nat.le_refl _) (.cells #[.bool y.2.e, .int .u64 y.2.d, .int .u8 y.2.l] 34))) (HE0.out.2.alloc HE0.out.2.size (.cells #[.bool y.2.e, .int .u64 y.2.d, .int .u8 y.2.l] 34)))
              have HEB := veil ((HBX2.out.set y.2).below ((Below.refl _ _).alloc (Nat.le_refl _) (.cells #[.bool y.2.e, .int .u64 y.2.d, .int .u8 y.2.l] 34)))
              go_region_held3 (fun w' => w'.cell? ⟨w2.heap.size, 0, none⟩ = some (.bool y.2.e) ∧ w'.cell? ⟨w2.heap.size, 1, none⟩ = some (.int .u64 y.2.d) ∧ w'.cell? ⟨w2.heap.size, 2, none⟩ = some (.int .u8 y.2.l))
                (first | exact (show _ ∧ _ ∧ _ from ⟨(Bx.fresh w2 y.2 34).c0, (Bx.fresh w2 y.2 34).c1, (Bx.fresh w2 y.2 34).c2⟩) | exact ⟨by simp [go_sem], by simp [go_sem], by simp [go_sem]⟩ | go_keep)
                (fail)
              go_wp2
              go_roundw
              case rel =>
                refine ⟨i + 1, N, y.2, (y.1 : Int), by omega, by go_num, rfl, ?_, (List.pairwise_cons.1 HPN.out).2, HE.out.1.below ((Below.refl _ _).drew), HEB.out.below ((Below.refl _ _).drew), fun _ => ⟨y.1, rfl, (List.pairwise_cons.1 HPN.out).1⟩, fun z hz => H64.out z (by simp [hz]), by omega, HE.out.2.drew⟩
                have := HNL.out
                simp at this
                omega
              case measure => simp [intOf]; omega
            · have hi0' : (0 : Int) < (i : Int) := by omega
              have hib : decide ((0 : Int) < (i : Int)) = true := by simp; omega
              obtain ⟨l, rfl, hrl⟩ := HRL.out (by omega)
              have HUP := veil (hrl y (by simp)).1
              by_cases hsm : Ke.same y.2 lk = true
              · have hlt1 : ¬ (y.1 : Int) < (l : Int) := by
                  have := (hrl y (by simp)).2 (by rw [Ke.same_eq] at hsm; exact (of_decide_eq_true hsm).symm)
                  simp only at this
                  omega
                go_wp2_with (first
                  | (go_at_call 15; refine (HTK.out).mono ?_; rintro e w2 ⟨rfl, hs2, hf2⟩; have HS2 := veil hs2; have hsz2 := hf2.size; have bx2 := HBX.out.frame hf2 (fun q => HNO.out L0 (.inr q) rfl); have HB2 := veil (HBN.out.trans (Fr.below hf2 HBN.out.size (fun k hk => HO.out k (.inr hk)))); have bx3 := bx2.below ((Below.refl _ _).alloc (Nat.le_refl _) (.cells #[.bool y.2.e, .int .u64 y.2.d, .int .u8 y.2.l] 34)); have HB3 := veil (HB2.out.alloc HB2.out.size (.cells #[.bool y.2.e, .int .u64 y.2.d, .int .u8 y.2.l] 34)); have HS3 := veil (hs2.below ((Below.refl _ _).alloc (Nat.le_refl _) (.cells #[.bool y.2.e, .int .u64 y.2.d, .int .u8 y.2.l] 34))); have k0 := bx3.c0; have k1 := bx3.c1; have k2 := bx3.c2; have f0 := bx3.fz 0; have f1 := bx3.fz 1; have f2 := bx3.fz 2; have hlt2 := bx2.lt; have j0 := bx2.c0; have j1 := bx2.c1; have j2 := bx2.c2; have i0 := bx2.fz 0; have i1 := bx2.fz 1; have i2 := bx2.fz 2; have y0 : ¬ L0 = w2.heap.size := (by omega); have y1 : ¬ w2.heap.size = L0 := (by omega); have HBX3 := veil bx3; have HBX2 := veil bx2; clear hs2 hf2 bx2 bx3)
                  | (go_at_call 29; refine (Ke.above_ok _ y.2 lk).mono ?_; rw [HUP.out]; rintro e w3 ⟨rfl, hb3⟩; have bx4 := HBX3.out.below hb3; have by4 := (Bx.fresh w2 y.2 34).below hb3; have HB4 := veil (HB3.out.trans (hb3.mono HB3.out.size)); have HS4 := veil (HS3.out.below hb3); have m0 := bx4.c0; have m1 := bx4.c1; have m2 := bx4.c2; have g0 := bx4.fz 0; have g1 := bx4.fz 1; have g2 := bx4.fz 2; have n0 := by4.c0; have n1 := by4.c1; have n2 := by4.c2; have HBX4 := veil bx4; clear hb3 bx4 by4))
                have HE := veil (box_set (B := L0) HS4.out HB4.out HNO.out (HL0.out ▸ HBE.out.size) (.bool y.2.e) (.int .u64 y.2.d) (.int .u8 y.2.l))
                have HEB := veil (HBX4.out.set y.2)
                go_region_held3 (fun w' => w'.cell? ⟨w2.heap.size, 0, none⟩ = some (.bool y.2.e) ∧ w'.cell? ⟨w2.heap.size, 1, none⟩ = some (.int .u64 y.2.d) ∧ w'.cell? ⟨w2.heap.size, 2, none⟩ = some (.int .u8 y.2.l))
                  (first | exact ⟨n0, n1, n2⟩ | go_keep)
                  (fail)
                go_wp2
                go_roundw
                case rel =>
                  refine ⟨i + 1, N, y.2, (y.1 : Int), by omega, by go_num, rfl, ?_, (List.pairwise_cons.1 HPN.out).2, HE.out.1.below ((Below.refl _ _).drew), HEB.out.below ((Below.refl _ _).drew), fun _ => ⟨y.1, rfl, (List.pairwise_cons.1 HPN.out).1⟩, fun z hz => H64.out z (by simp [hz]), by omega, HE.out.2.drew⟩
                  have := HNL.out
                  simp at this
                  omega
                case measure => simp [intOf]; omega
              · have hsm' : Ke.same y.2 lk = false := by simpa using hsm
                go_wp2_with (first
                  | (go_at_call 15; refine (HTK.out).mono ?_; rintro e w2 ⟨rfl, hs2, hf2⟩; have HS2 := veil hs2; have hsz2 := hf2.size; have bx2 := HBX.out.frame hf2 (fun q => HNO.out L0 (.inr q) rfl); have HB2 := veil (HBN.out.trans (Fr.below hf2 HBN.out.size (fun k hk => HO.out k (.inr hk)))); have bx3 := bx2.below ((Below.refl _ _).alloc (Nat.le_refl _) (.cells #[.bool y.2.e, .int .u64 y.2.d, .int .u8 y.2.l] 34)); have HB3 := veil (HB2.out.alloc HB2.out.size (.cells #[.bool y.2.e, .int .u64 y.2.d, .int .u8 y.2.l] 34)); have HS3 := veil (hs2.below ((Below.refl _ _).alloc (Nat.le_refl _) (.cells #[.bool y.2.e, .int .u64 y.2.d, .int .u8 y.2.l] 34))); have k0 := bx3.c0; have k1 := bx3.c1; have k2 := bx3.c2; have f0 := bx3.fz 0; have f1 := bx3.fz 1; have f2 := bx3.fz 2; have hlt2 := bx2.lt; have j0 := bx2.c0; have j1 := bx2.c1; have j2 := bx2.c2; have i0 := bx2.fz 0; have i1 := bx2.fz 1; have i2 := bx2.fz 2; have y0 : ¬ L0 = w2.heap.size := (by omega); have y1 : ¬ w2.heap.size = L0 := (by omega); have HBX3 := veil bx3; have HBX2 := veil bx2; clear hs2 hf2 bx2 bx3)
                  | (go_at_call 29; refine (Ke.above_ok _ y.2 lk).mono ?_; rw [HUP.out]; rintro e w3 ⟨rfl, hb3⟩; have bx4 := HBX3.out.below hb3; have by4 := (Bx.fresh w2 y.2 34).below hb3; have HB4 := veil (HB3.out.trans (hb3.mono HB3.out.size)); have HS4 := veil (HS3.out.below hb3); have m0 := bx4.c0; have m1 := bx4.c1; have m2 := bx4.c2; have g0 := bx4.fz 0; have g1 := bx4.fz 1; have g2 := bx4.fz 2; have n0 := by4.c0; have n1 := by4.c1; have n2 := by4.c2; have HBX4 := veil bx4; clear hb3 bx4 by4))
                have HE := veil (box_set (B := L0) HS4.out HB4.out HNO.out (HL0.out ▸ HBE.out.size) (.bool y.2.e) (.int .u64 y.2.d) (.int .u8 y.2.l))
                have HEB := veil (HBX4.out.set y.2)
                go_region_held3 (fun w' => w'.cell? ⟨w2.heap.size, 0, none⟩ = some (.bool y.2.e) ∧ w'.cell? ⟨w2.heap.size, 1, none⟩ = some (.int .u64 y.2.d) ∧ w'.cell? ⟨w2.heap.size, 2, none⟩ = some (.int .u8 y.2.l))
                  (first | exact ⟨n0, n1, n2⟩ | go_keep)
                  (fail)
                go_wp2
                go_roundw
                case rel =>
                  refine ⟨i + 1, N, y.2, (y.1 : Int), by omega, by go_num, rfl, ?_, (List.pairwise_cons.1 HPN.out).2, HE.out.1.below ((Below.refl _ _).drew), HEB.out.below ((Below.refl _ _).drew), fun _ => ⟨y.1, rfl, (List.pairwise_cons.1 HPN.out).1⟩, fun z hz => H64.out z (by simp [hz]), by omega, HE.out.2.drew⟩
                  have := HNL.out
                  simp at this
                  omega
                case measure => simp [intOf]; omega
end Go.Proofs.Ytfadckkebfgheaa
