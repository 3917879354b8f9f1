/- YtjlbmmiomfpgiaaGreatDoorGl: of the texts C1 C2 C3 C4 C5 C6 C7 C8 C13 C14 C15 C16 what is wanted. -/
import Derived.Test.YtjlbmmiomfpgiaaGreatDoorG0
import Derived.Test.YtjlbmmiomfpgiaaGreatDoorChecked
import Derived.WalkKit
import Derived.ProofKit
import Derived.Below
import Derived.Carry
import Derived.Laws.OwnMore
import Derived.Maps.AppendAt
import Derived.Deep.AppendLies
import Derived.Deep.RegionHeld3
import Derived.Lib.SmallJoins
import Derived.OneCell
import Derived.Lib.BitFns
import Derived.LoopIn
import Derived.LoopNIn
import Derived.OrdersHeld
import Derived.OrdersIn
import Derived.OwnWalkIn
import Derived.RangeFuncBound
import Derived.RangeFuncBox
import Derived.RangeFuncCalls
import Derived.RangeFuncLeaves
import Derived.RangeFuncNested
import Derived.Shelf.Abstract
import Derived.Shelf.RegionOpen
import Derived.TacticsInMore
namespace Go.Proofs.YtjlbmmiomfpgiaaGreatDoor.Cb
set_option maxRecDepth 100000
open Go.RowKit Go.Lib
set_option linter.unusedVariables false
theorem veil {p : Prop} (h : p) : Hid p := h
structure Fr (S : Nat → Prop) (w w' : World) : Prop where
 os : w'.os = w.os
 tape : w'.tape = w.tape
 output : w'.output = w.output
 size : w.heap.size ≤ w'.heap.size
 block : ∀ k, k < w.heap.size → ¬ S k → w'.heap[k]? = w.heap[k]?
section
variable {S S' : Nat → Prop} {w w' w'' : World}
theorem Fr.setCell (h : Fr S w w') {a : Addr} (hb : S a.block) (u : Value) : Fr S w (w'.setCell a u) :=
 ⟨h.os, h.tape, h.output, by simpa using h.size, fun k hk hn => (Below.heap_setCell _ _ _ _ (fun e => hn (by rw [e]; exact hb))).trans (h.block k hk hn)⟩
theorem Fr.of_below' (h : Below w.heap.size w w') : Fr S w w' := ⟨h.os, h.tape, h.output, h.size, fun k hk _ => h.block k hk⟩
end
structure Srv where
 b : Nat
 p : Nat
 l : Nat
 d : Nat
def Srv.ok (x : Srv) : Prop := 1 ≤ x.b ∧ x.b ≤ x.p ∧ 232792560 % x.p = 0 ∧ x.l ≤ x.b ∧ x.d < 18446744073709551616
theorem Srv.ok.le {x : Srv} (h : x.ok) : x.p ≤ 232792560 := Nat.le_of_dvd (by decide) (Nat.dvd_of_mod_eq_zero h.2.2.1)
structure Fine (P : Nat) (L : List Srv) : Prop where
 p1 : 1 ≤ P
 p2 : P ≤ 64
 all : ∀ x ∈ L, x.ok
 len : L.length ≤ 32
def addN (a b : Nat) : Nat := if a + b ≤ 18446744073709551615 then a + b else 18446744073709551615
def fillS (x : Srv) (now : Nat) : Srv := ⟨x.b, x.p, x.b, addN now x.p⟩
theorem ownsRow_set {w : World} {base : Nat} {e : TypeId} {size g n cap : Nat} {xs : List Value} (h : w.ownsRow base e size (.slice (some ⟨g, 0, none⟩) n cap) n xs) (k : Nat) (hk : k < n * size) (u : Value) :
  (w.setCell ⟨g, k, none⟩ u).ownsRow base e size (.slice (some ⟨g, 0, none⟩) n cap) n (xs.set k u) := by
 refine ⟨by simpa using h.1, ?_⟩
 rcases h.2 with ⟨e1, _⟩ | ⟨g', cap', cur, e1, h0, h1, h2, h3, h4, h5⟩
 ·simp at e1
 ·simp at e1
  obtain ⟨rfl, rfl⟩ := e1
  refine .inr ⟨g, cap, cur.setIfInBounds k u, rfl, h0, ?_, h2, h3, by simpa using h4, ?_⟩
  ·exact Go.Joins.block_setCell h1 u
  ·rw [← h5]
   simp [List.take_set]
theorem frozen_row {w : World} {base : Nat} {e : TypeId} {size g n cap : Nat} {xs : List Value} (h : w.ownsRow base e size (.slice (some ⟨g, 0, none⟩) n cap) n xs) (k : Nat) : w.frozen? ⟨g, k, none⟩ = false := by
 rcases h.2 with ⟨e1, _⟩ | ⟨g', cap', cur, e1, h0, h1, h2, h3, h4, h5⟩
 ·simp at e1
 ·simp at e1
  obtain ⟨rfl, rfl⟩ := e1
  unfold World.frozen?
  simp [h1]
theorem ownsRow_far {w : World} {base : Nat} {e : TypeId} {size : Nat} {v : Value} {n : Nat} {xs : List Value} (h : w.ownsRow base e size v n xs) {w' : World} (hh : ∀ k, v.ownBlock = some k → w'.heap[k]? = w.heap[k]?) : w'.ownsRow base e size v n xs := by
 refine ⟨h.1, ?_⟩
 rcases h.2 with hn | ⟨g, cap, cur, rfl, hb, hgg, rest⟩
 ·exact .inl hn
 ·exact .inr ⟨g, cap, cur, rfl, hb, (hh g rfl).trans hgg, rest⟩
theorem ownsRow_blk {w : World} {base : Nat} {e : TypeId} {size : Nat} {v : Value} {n : Nat} {xs : List Value} (h : w.ownsRow base e size v n xs) {k : Nat} (hk : v.ownBlock = some k) : base ≤ k ∧ k < w.heap.size ∧ ∃ cur, w.heap[k]? = some (.cells cur e (0, 0)) := by
 rcases h.2 with ⟨rfl, _⟩ | ⟨g, cap, cur, rfl, hb, hgg, rest⟩
 ·simp [Value.ownBlock] at hk
 ·simp [Value.ownBlock] at hk
  subst hk
  exact ⟨hb, (Array.getElem?_eq_some_iff.1 hgg).1, cur, hgg⟩
def pone (x : Srv) : List Value := [.int .u64 (x.b : Int), .int .u64 (x.p : Int), .int .u64 (x.l : Int), .int .u64 (x.d : Int)]
def pcells (L : List Srv) : List Value := L.flatMap pone
theorem pcells_cons (x : Srv) (L : List Srv) : pcells (x :: L) = pone x ++ pcells L := rfl
theorem pcells_at : ∀ (L : List Srv) (i : Nat) (x : Srv), L[i]? = some x → (pcells L)[i * 4]? = some (.int .u64 (x.b : Int)) ∧ (pcells L)[i * 4 + 1]? = some (.int .u64 (x.p : Int)) ∧ (pcells L)[i * 4 + 2]? = some (.int .u64 (x.l : Int)) ∧ (pcells L)[i * 4 + 3]? = some (.int .u64 (x.d : Int))
 | [], i, x, h => by simp at h
 | y :: L, 0, x, h => by
  simp at h
  subst h
  exact ⟨rfl, rfl, rfl, rfl⟩
 | y :: L, i + 1, x, h => by
  have := pcells_at L i x (by simpa using h)
  rw [pcells_cons, show (i + 1) * 4 = i * 4 + 4 by omega]
  exact this
theorem pcells_set : ∀ (L : List Srv) (i : Nat) (x : Srv), i < L.length → pcells (L.set i x) = ((((pcells L).set (i * 4) (.int .u64 (x.b : Int))).set (i * 4 + 1) (.int .u64 (x.p : Int))).set (i * 4 + 2) (.int .u64 (x.l : Int))).set (i * 4 + 3) (.int .u64 (x.d : Int))
 | [], i, x, h => by simp at h
 | y :: L, 0, x, h => by simp [pcells_cons, pone]
 | y :: L, i + 1, x, h => by
  have := pcells_set L i x (by simpa using h)
  rw [List.set_cons_succ, pcells_cons, this, pcells_cons, show (i + 1) * 4 = i * 4 + 4 by omega]
  rfl
structure Pep (w : World) (base s P : Nat) (v : Value) (L : List Srv) : Prop where
 blk : w.heap[s]? = some (.cells #[.int .u64 (P : Int), v] 137 (0, 0))
 own : w.ownsRow base 165 4 v L.length (pcells L)
 bs : base ≤ w.heap.size
 f : Fine P L
section
variable {w w' : World} {base s P : Nat} {v : Value} {L : List Srv}
theorem Pep.lt (h : Pep w base s P v L) : s < w.heap.size := (Array.getElem?_eq_some_iff.1 h.blk).1
theorem Pep.ne (h : Pep w base s P v L) : v.ownBlock ≠ some s := by
 intro q
 obtain ⟨_, _, cur, e⟩ := ownsRow_blk h.own q
 rw [h.blk] at e
 simp at e
theorem Pep.c1 (h : Pep w base s P v L) : w.cell? ⟨s, 1, none⟩ = some v := by unfold World.cell?; simp [h.blk]
theorem Pep.form (h : Pep w base s P v L) : ∃ a cap, v = .slice a L.length cap ∧ L.length ≤ cap ∧ cap ≤ maxLen := by
 rcases h.own.2 with ⟨e, e0⟩ | ⟨g, cap, cur, e, _, _, h1, h2, _⟩
 ·exact ⟨none, 0, by rw [e, e0], by omega, by simp [maxLen]⟩
 ·exact ⟨_, cap, e, h1, h2⟩
theorem Pep.cells (h : Pep w base s P v L) (hL : 0 < L.length) : ∃ g cap, v = .slice (some ⟨g, 0, none⟩) L.length cap ∧ L.length ≤ cap ∧ cap ≤ maxLen ∧ g < w.heap.size ∧ g ≠ s ∧ (∀ k, w.frozen? ⟨g, k, none⟩ = false) ∧
  (∀ j x, L[j]? = some x → w.cell? ⟨g, j * 4, none⟩ = some (.int .u64 (x.b : Int)) ∧ w.cell? ⟨g, j * 4 + 1, none⟩ = some (.int .u64 (x.p : Int)) ∧ w.cell? ⟨g, j * 4 + 2, none⟩ = some (.int .u64 (x.l : Int)) ∧ w.cell? ⟨g, j * 4 + 3, none⟩ = some (.int .u64 (x.d : Int))) := by
 have hne := h.ne
 rcases h.own.2 with ⟨e, e0⟩ | ⟨g, cap, cur, e, h0, hg, h1, h2, _⟩
 ·omega
 ·have hown := h.own
  subst e
  refine ⟨g, cap, rfl, h1, h2, (Array.getElem?_eq_some_iff.1 hg).1, fun q => hne (by rw [q]; rfl), frozen_row hown, fun j x hj => ?_⟩
  have hjl : j < L.length := (List.getElem?_eq_some_iff.1 hj).1
  rw [hown.cellAt (j * 4) (by omega), hown.cellAt (j * 4 + 1) (by omega), hown.cellAt (j * 4 + 2) (by omega), hown.cellAt (j * 4 + 3) (by omega)]
  exact pcells_at L j x hj
theorem Pep.kept (h : Pep w base s P v L) (h0 : w.heap.size ≤ w'.heap.size) (h1 : w'.heap[s]? = w.heap[s]?) (h2 : ∀ k, v.ownBlock = some k → w'.heap[k]? = w.heap[k]?) : Pep w' base s P v L :=
 ⟨h1.trans h.blk, ownsRow_far h.own h2, Nat.le_trans h.bs h0, h.f⟩
theorem Pep.frame {S : Nat → Prop} (h : Pep w base s P v L) (hf : Fr S w w') (h1 : ¬ S s) (h2 : ∀ k, v.ownBlock = some k → ¬ S k) : Pep w' base s P v L :=
 h.kept hf.size (hf.block s h.lt h1) (fun k hk => hf.block k (ownsRow_blk h.own hk).2.1 (h2 k hk))
theorem Pep.below (h : Pep w base s P v L) (hf : Below w.heap.size w w') : Pep w' base s P v L :=
 h.frame (Fr.of_below' (S := fun _ => False) hf) id (fun _ _ => id)
end
section
variable {w w' : World} {base s P : Nat} {v : Value} {L : List Srv}
end
end Go.Proofs.YtjlbmmiomfpgiaaGreatDoor.Cb
namespace Go.Proofs.YtjlbmmiomfpgiaaGreatDoor.Cb
set_option maxRecDepth 100000
open Go.RowKit Go.Lib
set_option linter.unusedVariables false
theorem new_ok (w : World) (P : Nat) (h1 : 1 ≤ P) (h2 : P ≤ 64) : Calls Tryz.prog 32 #[.int .i64 (P : Int)] w fun e w' => e = .returned (.pointer (some ⟨w.heap.size, 0, none⟩)) ∧ w' = w.alloc (.cells #[.int .u64 (P : Int), .slice none 0 0] 137) := by
 have g1 : ¬ (P : Int) < 1 := by omega
 have g2 : ¬ (64 : Int) < (P : Int) := by omega
 have g3 : (P : Int) % 18446744073709551616 = P := by omega
 go_enter Tryz.func32, Tryz.ntmps32
 go_wp2
 go_ret
 exact ⟨rfl, rfl⟩
theorem over_ok (w : World) (x : Srv) (now : Nat) : Calls Tryz.prog 135 #[.agg #[.int .u64 (x.b : Int), .int .u64 (x.p : Int), .int .u64 (x.l : Int), .int .u64 (x.d : Int)], .int .u64 (now : Int)] w fun e w' => e = .returned (.bool (decide (x.d ≤ now))) ∧ ∃ c, w' = w.alloc (.cells c 165) := by
 go_enter Tryz.func135, Tryz.ntmps135
 go_wp2
 go_ret
 exact ⟨by simp, _, rfl⟩
end Go.Proofs.YtjlbmmiomfpgiaaGreatDoor.Cb
namespace Go.Proofs.YtjlbmmiomfpgiaaGreatDoor.Cb
set_option maxRecDepth 100000
open Go.RowKit Go.Lib
theorem add_ok (a b : Nat) (w : World) (ha : a < 18446744073709551616) (hb : b < 18446744073709551616) :
  Calls Tryz.prog 43 #[.int .u64 (a : Int), .int .u64 (b : Int)] w fun e w' => e = .returned (.int .u64 (addN a b : Int)) ∧ w' = w := by
 unfold addN
 by_cases h : a + b ≤ 18446744073709551615
 ·rw [if_pos h]
  have h' : ¬ (18446744073709551615 : Int) - b < a := by omega
  go_enter Tryz.func43, Tryz.ntmps43
  go_wp2
  go_ret
  exact ⟨by simp, rfl⟩
 ·rw [if_neg h]
  have h' : (18446744073709551615 : Int) - b < a := by omega
  go_enter Tryz.func43, Tryz.ntmps43
  go_wp2
  go_ret
  exact ⟨rfl, rfl⟩
theorem filled_ok (w : World) (x : Srv) (now : Nat) (hx : x.ok) (hn : now < 18446744073709551616) : Calls Tryz.prog 88 #[.agg #[.int .u64 (x.b : Int), .int .u64 (x.p : Int), .int .u64 (x.l : Int), .int .u64 (x.d : Int)], .int .u64 (now : Int)] w fun e w' => e = .returned (.agg #[.int .u64 ((fillS x now).b : Int), .int .u64 ((fillS x now).p : Int), .int .u64 ((fillS x now).l : Int), .int .u64 ((fillS x now).d : Int)]) ∧ ∃ c c', w' = ((w.alloc (.cells c 165)).alloc (.cells c' 165)).drew := by
 have HA := veil (fun w => add_ok now x.p w hn (by have := hx.le; omega))
 go_enter Tryz.func88, Tryz.ntmps88
 go_wp2
 go_region_held3 (fun w' => w'.cell? ⟨w.heap.size, 0, none⟩ = some (.int .u64 (x.b : Int)) ∧ w'.cell? ⟨w.heap.size, 1, none⟩ = some (.int .u64 (x.p : Int)))
  (first | simp [go_sem] | simp [go_sem, World.cell?_alloc_past])
  (first | (go_at_call 43; refine (HA.out _).mono ?_; rintro e w1 ⟨rfl, rfl⟩))
 go_wp2
 simp [bodyPost, results, Tryz.results88, go_sem, fillS]
 exact ⟨_, _, rfl⟩
section
variable {w : World} {base s P : Nat} {v : Value} {L : List Srv}
theorem has_ok (h : Pep w base s P v L) (i : Int) : Calls Tryz.prog 131 #[.pointer (some ⟨s, 0, none⟩), .int .i64 i] w fun e w' => e = .returned (.bool (decide (0 ≤ i ∧ i < (L.length : Int)))) ∧ w' = w := by
 obtain ⟨a, cap, rfl, _, _⟩ := h.form
 have c1 := h.c1
 clear h
 by_cases h0 : 0 ≤ i
 ·go_enter Tryz.func131, Tryz.ntmps131
  go_wp2
  go_ret
  exact ⟨by simp [h0], rfl⟩
 ·go_enter Tryz.func131, Tryz.ntmps131
  go_wp2
  go_ret
  exact ⟨by simp; omega, rfl⟩
theorem len_ok (h : Pep w base s P v L) : Calls Tryz.prog 50 #[.pointer (some ⟨s, 0, none⟩)] w fun e w' => e = .returned (.int .i64 (L.length : Int)) ∧ w' = w := by
 obtain ⟨a, cap, rfl, _, _⟩ := h.form
 have c1 := h.c1
 clear h
 go_enter Tryz.func50, Tryz.ntmps50
 go_wp2
 go_ret
 exact ⟨rfl, rfl⟩
def atL (L : List Srv) (i : Int) : Srv := if 0 ≤ i ∧ i < (L.length : Int) then (L[i.toNat]?).getD ⟨0, 0, 0, 0⟩ else ⟨0, 0, 0, 0⟩
theorem at_ok (h : Pep w base s P v L) (i : Int) : Calls Tryz.prog 80 #[.pointer (some ⟨s, 0, none⟩), .int .i64 i] w fun e w' => e = .returned (.agg #[.int .u64 ((atL L i).b : Int), .int .u64 ((atL L i).p : Int), .int .u64 ((atL L i).l : Int), .int .u64 ((atL L i).d : Int)]) ∧ ∃ c, w' = w.alloc (.cells c 165) := by
 unfold atL
 by_cases hi : 0 ≤ i ∧ i < (L.length : Int)
 ·rw [if_pos hi]
  obtain ⟨k, rfl⟩ : ∃ k : Nat, i = k := ⟨i.toNat, by omega⟩
  have hk : k < L.length := by omega
  obtain ⟨x, hx⟩ : ∃ x, L[k]? = some x := ⟨_, List.getElem?_eq_getElem hk⟩
  have HH := veil (fun w' (hb : Below w.heap.size w w') => has_ok (h.below hb) (k : Int))
  simp only [decide_eq_true hi] at HH
  obtain ⟨g, cap, rfl, hc1, hc2, hg, hgs, _, hc⟩ := h.cells (by omega)
  obtain ⟨y0, y1, y2, y3⟩ := hc k x hx
  have c1 := h.c1
  have hs := h.lt
  simp only [Int.toNat_natCast, hx, Option.getD_some]
  clear h hc hi
  go_enter Tryz.func80, Tryz.ntmps80
  go_wp2_with (go_at_call 131; refine (HH.out _ ((Below.refl _ _).alloc (Nat.le_refl _) _)).mono ?_; rintro e w1 ⟨rfl, hw⟩; subst hw)
  simp [bodyPost, results, Tryz.results80, go_sem]
  exact ⟨_, rfl⟩
 ·rw [if_neg hi]
  have HH := veil (fun w' (hb : Below w.heap.size w w') => has_ok (h.below hb) i)
  simp only [decide_eq_false hi] at HH
  clear h hi
  go_enter Tryz.func80, Tryz.ntmps80
  go_wp2_with (go_at_call 131; refine (HH.out _ ((Below.refl _ _).alloc (Nat.le_refl _) _)).mono ?_; rintro e w1 ⟨rfl, hw⟩; subst hw)
  simp [bodyPost, results, Tryz.results80, go_sem]
  exact ⟨_, rfl⟩
end
end Go.Proofs.YtjlbmmiomfpgiaaGreatDoor.Cb
namespace Go.Proofs.YtjlbmmiomfpgiaaGreatDoor.Cb
set_option maxRecDepth 100000
open Go.RowKit Go.Lib
@[go_sem] theorem field_left (a b c d : Int) (w : World) : (Instr.field 165 (.agg #[.int .u64 a, .int .u64 b, .int .u64 c, .int .u64 d]) 1).run Tryz.prog w = .ok (.int .u64 c) w := by kernel_rfl
@[go_sem] theorem field_dead (a b c d : Int) (w : World) : (Instr.field 165 (.agg #[.int .u64 a, .int .u64 b, .int .u64 c, .int .u64 d]) 2).run Tryz.prog w = .ok (.int .u64 d) w := by kernel_rfl
section
variable {w : World} {base s P : Nat} {v : Value} {L : List Srv}
theorem deadline_ok (h : Pep w base s P v L) (i : Int) : Calls Tryz.prog 58 #[.pointer (some ⟨s, 0, none⟩), .int .i64 i] w fun e w' => e = .returned (.int .u64 ((atL L i).d : Int)) ∧ ∃ c, w' = w.alloc (.cells c 165) := by
 have HA := veil (at_ok h i)
 clear h
 go_enter Tryz.func58, Tryz.ntmps58
 go_wp2_with (go_at_call 80; refine (HA.out).mono ?_; rintro e w1 ⟨rfl, c, rfl⟩)
 go_ret
 exact ⟨rfl, _, rfl⟩
theorem active_ok (h : Pep w base s P v L) (i : Int) : Calls Tryz.prog 127 #[.pointer (some ⟨s, 0, none⟩), .int .i64 i] w fun e w' => e = .returned (.bool (decide (0 < (atL L i).l))) ∧ ∃ c, w' = w.alloc (.cells c 165) := by
 have HA := veil (at_ok h i)
 clear h
 go_enter Tryz.func127, Tryz.ntmps127
 go_wp2_with (go_at_call 80; refine (HA.out).mono ?_; rintro e w1 ⟨rfl, c, rfl⟩)
 go_ret
 exact ⟨by simp, _, rfl⟩
theorem Pep.put (h : Pep w base s P v L) {g cap k : Nat} (hv : v = .slice (some ⟨g, 0, none⟩) L.length cap) (hk : k < L.length) (x : Srv) (hx : x.ok) :
  Pep ((((w.setCell ⟨g, k * 4, none⟩ (.int .u64 (x.b : Int))).setCell ⟨g, k * 4 + 1, none⟩ (.int .u64 (x.p : Int))).setCell ⟨g, k * 4 + 2, none⟩ (.int .u64 (x.l : Int))).setCell ⟨g, k * 4 + 3, none⟩ (.int .u64 (x.d : Int))) base s P v (L.set k x) := by
 have hne := h.ne
 subst hv
 have hgs : ¬ s = g := fun q => hne (by rw [q]; rfl)
 have h1 := ownsRow_set (ownsRow_set (ownsRow_set (ownsRow_set h.own (k * 4) (by omega) (.int .u64 (x.b : Int))) (k * 4 + 1) (by omega) (.int .u64 (x.p : Int))) (k * 4 + 2) (by omega) (.int .u64 (x.l : Int))) (k * 4 + 3) (by omega) (.int .u64 (x.d : Int))
 rw [← pcells_set L k x hk] at h1
 refine ⟨?_, by simpa using h1, by simpa using h.bs, ⟨h.f.p1, h.f.p2, ?_, by simpa using h.f.len⟩⟩
 ·rw [Below.heap_setCell _ _ _ _ hgs, Below.heap_setCell _ _ _ _ hgs, Below.heap_setCell _ _ _ _ hgs, Below.heap_setCell _ _ _ _ hgs]
  exact h.blk
 ·intro y hy
  rcases List.mem_or_eq_of_mem_set hy with q | q
  ·exact h.f.all y q
  ·rw [q]; exact hx
end
end Go.Proofs.YtjlbmmiomfpgiaaGreatDoor.Cb
namespace Go.Proofs.YtjlbmmiomfpgiaaGreatDoor.Cb
set_option maxRecDepth 100000
open Go.RowKit Go.Lib
set_option linter.unusedVariables false
theorem addN_lt (a b : Nat) : addN a b < 18446744073709551616 := by unfold addN; split <;> omega
theorem fill_ok {x : Srv} (h : x.ok) (now : Nat) : (fillS x now).ok := ⟨h.1, h.2.1, h.2.2.1, Nat.le_refl _, addN_lt _ _⟩
theorem fr_put {S : Nat → Prop} {w w1 : World} (hb : Below w.heap.size w w1) (g k0 k1 k2 k3 : Nat) (u0 u1 u2 u3 : Value) (hS : S g) : Fr S w ((((w1.setCell ⟨g, k0, none⟩ u0).setCell ⟨g, k1, none⟩ u1).setCell ⟨g, k2, none⟩ u2).setCell ⟨g, k3, none⟩ u3) :=
 ((((Fr.of_below' hb).setCell (a := ⟨g, k0, none⟩) hS _).setCell (a := ⟨g, k1, none⟩) hS _).setCell (a := ⟨g, k2, none⟩) hS _).setCell (a := ⟨g, k3, none⟩) hS _
section
variable {w : World} {base s P : Nat} {v : Value} {L : List Srv}
theorem Pep.one {g cap : Nat} (h : Pep w base s P (.slice (some ⟨g, 0, none⟩) L.length cap) L) {k : Nat} {x : Srv} (hx : L[k]? = some x) :
  w.cell? ⟨s, 1, none⟩ = some (.slice (some ⟨g, 0, none⟩) L.length cap) ∧ w.cell? ⟨g, k * 4, none⟩ = some (.int .u64 (x.b : Int)) ∧ w.cell? ⟨g, k * 4 + 1, none⟩ = some (.int .u64 (x.p : Int)) ∧ w.cell? ⟨g, k * 4 + 2, none⟩ = some (.int .u64 (x.l : Int)) ∧ w.cell? ⟨g, k * 4 + 3, none⟩ = some (.int .u64 (x.d : Int)) ∧
  w.frozen? ⟨g, k * 4, none⟩ = false ∧ w.frozen? ⟨g, k * 4 + 1, none⟩ = false ∧ w.frozen? ⟨g, k * 4 + 2, none⟩ = false ∧ w.frozen? ⟨g, k * 4 + 3, none⟩ = false := by
 have hk : k < L.length := (List.getElem?_eq_some_iff.1 hx).1
 obtain ⟨g', cap', e, _, _, _, _, hf, hc⟩ := h.cells (by omega)
 simp at e
 obtain ⟨rfl, rfl⟩ := e
 obtain ⟨y0, y1, y2, y3⟩ := hc k x hx
 exact ⟨h.c1, y0, y1, y2, y3, hf _, hf _, hf _, hf _⟩
theorem wake_range (h : Pep w base s P v L) (i : Int) (now : Nat) (hi : ¬ (0 ≤ i ∧ i < (L.length : Int))) : Calls Tryz.prog 90 #[.pointer (some ⟨s, 0, none⟩), .int .i64 i, .int .u64 (now : Int)] w fun e w' => e = .returned (.int .i64 2) ∧ w' = w := by
 have HH := veil (has_ok h i)
 rw [decide_eq_false hi] at HH
 clear h hi
 go_enter Tryz.func90, Tryz.ntmps90
 go_wp2_with (go_at_call 131; refine (HH.out).mono ?_; rintro e w1 ⟨rfl, hw⟩; subst hw)
 go_ret
 exact ⟨rfl, rfl⟩
theorem wake_not (h : Pep w base s P v L) (k now : Nat) (x : Srv) (hx : L[k]? = some x) (hd : ¬ x.d ≤ now) : Calls Tryz.prog 90 #[.pointer (some ⟨s, 0, none⟩), .int .i64 (k : Int), .int .u64 (now : Int)] w fun e w' => e = .returned (.int .i64 0) ∧ Below w.heap.size w w' := by
 have hk : k < L.length := (List.getElem?_eq_some_iff.1 hx).1
 have HH := veil (has_ok h k)
 rw [decide_eq_true (by omega)] at HH
 have HO := veil (fun w => over_ok w x now)
 simp only [decide_eq_false hd] at HO
 obtain ⟨g, cap, rfl, hc1, hc2, hg, hgs, hfz, hc⟩ := h.cells (by omega)
 obtain ⟨y0, y1, y2, y3⟩ := hc k x hx
 have c1 := h.c1
 clear h hc hd
 go_enter Tryz.func90, Tryz.ntmps90
 go_wp2_with (first
  | (go_at_call 131; refine (HH.out).mono ?_; rintro e w1 ⟨rfl, hw⟩; replace hw := hw.symm; subst hw)
  | (go_at_call 135; refine (HO.out _).mono ?_; rintro e w1 ⟨rfl, c, rfl⟩))
 go_ret
 exact ⟨rfl, (Below.refl _ _).alloc (Nat.le_refl _) _⟩
theorem wake_yes (h : Pep w base s P v L) (k now : Nat) (x : Srv) (hx : L[k]? = some x) (hd : x.d ≤ now) (hn : now < 18446744073709551616) : Calls Tryz.prog 90 #[.pointer (some ⟨s, 0, none⟩), .int .i64 (k : Int), .int .u64 (now : Int)] w fun e w' => e = .returned (.int .i64 0) ∧ Pep w' base s P v (L.set k (fillS x now)) ∧ Fr (fun k => some k = v.ownBlock) w w' := by
 have hk : k < L.length := (List.getElem?_eq_some_iff.1 hx).1
 have HH := veil (has_ok h k)
 rw [decide_eq_true (by omega)] at HH
 have HO := veil (fun w => over_ok w x now)
 simp only [decide_eq_true hd] at HO
 have hok := h.f.all x (List.mem_of_getElem? hx)
 have HF := veil (fun w => filled_ok w x now hok hn)
 have HE : Hid (∀ w1, Below w.heap.size w w1 → Pep w1 base s P v L) := fun w1 hb => h.below hb
 have HX := veil (fill_ok hok now)
 obtain ⟨g, cap, hv, hc1, hc2, hg, hgs, hfz, hc⟩ := h.cells (by omega)
 subst hv
 obtain ⟨y0, y1, y2, y3⟩ := hc k x hx
 have c1 := h.c1
 have f0 := hfz (k * 4)
 have f1 := hfz (k * 4 + 1)
 have f2 := hfz (k * 4 + 2)
 have f3 := hfz (k * 4 + 3)
 have hs := h.lt
 clear h hc hd hok hfz
 go_enter Tryz.func90, Tryz.ntmps90
 go_wp2_with (first
  | (go_at_call 131; refine (HH.out).mono ?_; rintro e w1 ⟨rfl, hw⟩; replace hw := hw.symm; subst hw)
  | (go_at_call 135; refine (HO.out _).mono ?_; rintro e w1 ⟨rfl, c, rfl⟩))
 refine wp_region_held_drew (S := (fun w' => w'.cell? ⟨s, 1, none⟩ = some (.slice (some ⟨g, 0, none⟩) L.length cap))) (by kernel_rfl) ?_ (fun hHeld => ?_)
 ·simp [go_sem, c1, hs]
 refine tkX 0 (v := ?_) rfl ?v0 ?_
 case v0 => (intro w hSw; (try dsimp only at hSw); go_simp; try with_reducible rfl)
 try simp only [puX]
 refine tkX 1 (v := ?_) rfl ?v1 ?_
 case v1 => (intro w hSw; (try dsimp only at hSw); go_simp; try with_reducible rfl)
 try simp only [puX]
 refine tkX 2 (v := ?_) rfl ?v2 ?_
 case v2 => (intro w hSw; (try dsimp only at hSw); go_simp; try with_reducible rfl)
 try simp only [puX]
 refine tkX 3 (v := ?_) rfl ?v3 ?_
 case v3 => (intro w hSw; (try dsimp only at hSw); go_simp; try with_reducible rfl)
 try simp only [puX]
 refine tkX 4 (v := ?_) rfl ?v4 ?_
 case v4 => (intro w hSw; (try dsimp only at hSw); go_simp; try with_reducible rfl)
 try simp only [puX]
 refine tkX 5 (v := ?_) rfl ?v5 ?_
 case v5 => (intro w hSw; (try dsimp only at hSw); go_simp; try with_reducible rfl)
 try simp only [puX]
 refine tkX 6 (v := ?_) rfl ?v6 ?_
 case v6 => (intro w hSw; (try dsimp only at hSw); go_simp; try with_reducible rfl)
 try simp only [puX]
 refine tkX 7 (v := ?_) rfl ?v7 ?_
 case v7 => (intro w hSw; (try dsimp only at hSw); go_simp; try with_reducible rfl)
 try simp only [puX]
 refine tkX 8 (v := ?_) rfl ?v8 ?_
 case v8 => (intro w hSw; (try dsimp only at hSw); go_simp; try with_reducible rfl)
 try simp only [puX]
 refine tkX 9 (v := ?_) rfl ?v9 ?_
 case v9 => (intro w hSw; (try dsimp only at hSw); go_simp; try with_reducible rfl)
 try simp only [puX]
 refine tkX 10 (v := ?_) rfl ?v10 ?_
 case v10 => (intro w hSw; (try dsimp only at hSw); go_simp; try with_reducible rfl)
 try simp only [puX]
 refine tkX 12 (v := ?_) rfl ?v12 ?_
 case v12 => (intro w hSw; (try dsimp only at hSw); go_simp; try with_reducible rfl)
 try simp only [puX]
 refine wpAnyH_ready (rs := [11]) (by kernel_rfl) (by simp) ?_
 refine AllReadyH.cons rfl (fun K hK => ?_) AllReadyH.nil
 go_simp
 refine hK.out _ _ ?_ (fun hHeld => ?_)
 ·go_keep
 clear hK K
 try simp only [puX]
 refine wpAnyH_ready (rs := [13]) (by kernel_rfl) (by simp) ?_
 refine AllReadyH.cons rfl (fun K hK => ?_) AllReadyH.nil
 go_simp
 refine (HF.out _).mono ?_
 rintro e w1 ⟨rfl, c', c2, hw⟩
 have hb : Below w.heap.size w w1 := by rw [hw]; exact (((((Below.refl _ _).alloc (Nat.le_refl _) _).drew).alloc (by simp) _).alloc (by simp; omega) _).drew
 clear hw
 have HP1 := veil (HE.out _ hb)
 have HB := veil hb
 obtain ⟨z1, y0', y1', y2', y3', f0', f1', f2', f3'⟩ := HP1.out.one hx
 clear hb
 go_wp2_with fail
 refine hK.out _ _ ?_ (fun hHeld => ?_)
 ·exact z1
 clear hK K
 try simp only [puX]
 refine tkX 14 (v := ?_) rfl ?v14 ?_
 case v14 => (intro w hSw; (try dsimp only at hSw); go_simp; try with_reducible rfl)
 try simp only [puX]
 refine wpAnyH_ready (rs := [15]) (by kernel_rfl) (by simp) ?_
 refine AllReadyH.cons rfl (fun K hK => ?_) AllReadyH.nil
 go_simp
 refine hK.out _ _ ?_ (fun hHeld => ?_)
 ·go_keep
 clear hK K
 try simp only [puX]
 refine wpAnyH_done (by kernel_rfl) ?_ _
 go_wp2
 go_ret
 exact ⟨rfl, HP1.out.put rfl hk _ HX.out, fr_put HB.out g _ _ _ _ _ _ _ _ rfl⟩
end
end Go.Proofs.YtjlbmmiomfpgiaaGreatDoor.Cb
namespace Go.Proofs.YtjlbmmiomfpgiaaGreatDoor.Cb
set_option maxRecDepth 100000
open Go.RowKit Go.Lib
set_option linter.unusedVariables false
@[go_sem] theorem buildT (a b : Int) (w : World) : (Instr.build 163 #[(0, .int .u64 a), (1, .int .u64 b)]).run Tryz.prog w = .ok (.agg #[.int .u64 a, .int .u64 b]) w := run_build w 163 _ _ (by kernel_rfl)
@[go_sem] theorem buildS (a b : Int) (w : World) : (Instr.build 165 #[(0, .agg #[.int .u64 a, .int .u64 b])]).run Tryz.prog w = .ok (.agg #[.int .u64 a, .int .u64 b, .int .u64 0, .int .u64 0]) w := run_build w 165 _ _ (by kernel_rfl)
section
variable {w : World} {base s P : Nat} {v : Value} {L : List Srv}
theorem owns_slice {w : World} {base : Nat} {e : TypeId} {size : Nat} {v : Value} {n : Nat} {xs : List Value} (h : w.ownsRow base e size v n xs) : ∃ a cap, v = .slice a n cap := by
 rcases h.2 with ⟨rfl, rfl⟩ | ⟨g, cap, cur, rfl, _⟩
 ·exact ⟨none, 0, rfl⟩
 ·exact ⟨_, cap, rfl⟩
theorem info_parts {P : Program} {e : TypeId} {z : Value} {n m : Nat} (h : (P.info? e).map (fun i => (i.zero, i.size, i.bytes)) = some (some z, n, m)) : ∃ i, P.info? e = some i ∧ i.zero = some z ∧ i.size = n ∧ i.bytes = m := by
 cases hh : P.info? e with
 | none => rw [hh] at h; cases h
 | some i =>
  rw [hh] at h
  simp at h
  exact ⟨i, rfl, h.1, h.2.1, h.2.2⟩
theorem news_of {w1 W : World} {c : List Value} {t : TypeId} (h : W.heap = (w1.alloc (.cells c.toArray t)).heap) : ∀ j u, c[j]? = some u → W.cell? ((⟨w1.heap.size, 0, none⟩ : Addr).add j) = some u := by
 intro j u hu
 have hb : W.heap[w1.heap.size]? = some (.cells c.toArray t) := by rw [h]; exact (MapKept.heap_alloc w1 _).1
 exact World.news_of_block (cs := c.toArray) hb j u (by simpa using hu)
end
end Go.Proofs.YtjlbmmiomfpgiaaGreatDoor.Cb
namespace Go.Proofs.YtjlbmmiomfpgiaaGreatDoor.Cb
set_option maxRecDepth 100000
open Go.RowKit Go.Lib
def inL (L : List Srv) (i : Int) : Bool := decide (0 ≤ i ∧ i < (L.length : Int))
def wakL (L : List Srv) (i : Int) (now : Nat) : List Srv := if inL L i ∧ (atL L i).d ≤ now then L.set i.toNat (fillS (atL L i) now) else L
theorem atL_some {L : List Srv} {k : Nat} {x : Srv} (hx : L[k]? = some x) : atL L (k : Int) = x ∧ inL L (k : Int) = true := by
 have hk : k < L.length := (List.getElem?_eq_some_iff.1 hx).1
 unfold atL inL
 rw [if_pos (by omega)]
 exact ⟨by rw [Int.toNat_natCast, hx]; rfl, by simp [hk]⟩
theorem inL_cases (L : List Srv) (i : Int) : inL L i = false ∧ ¬ (0 ≤ i ∧ i < (L.length : Int)) ∨ ∃ (k : Nat) (x : Srv), i = k ∧ L[k]? = some x := by
 by_cases h : 0 ≤ i ∧ i < (L.length : Int)
 ·refine .inr ⟨i.toNat, L[i.toNat]'(by omega), by omega, List.getElem?_eq_getElem _⟩
 ·exact .inl ⟨by unfold inL; simp only [decide_eq_false h], h⟩
section
variable {w : World} {base s P : Nat} {v : Value} {L : List Srv}
theorem Pep.new (w : World) (P : Nat) (h1 : 1 ≤ P) (h2 : P ≤ 64) (base : Nat) (hb : base ≤ w.heap.size) : Pep (w.alloc (.cells #[.int .u64 (P : Int), .slice none 0 0] 137)) base w.heap.size P (.slice none 0 0) [] :=
 ⟨(MapKept.heap_alloc w _).1, World.ownsRow_nil _ _ _ _, by simp; omega, h1, h2, by simp, by simp⟩
end
end Go.Proofs.YtjlbmmiomfpgiaaGreatDoor.Cb
namespace Go.Proofs.YtjlbmmiomfpgiaaGreatDoor.Cb
set_option maxRecDepth 100000
open Go.RowKit Go.Lib
theorem below_a {w w' : World} {c : Array Value} {t : TypeId} (h : w' = w.alloc (.cells c t)) : Below w.heap.size w w' := by rw [h]; exact (Below.refl _ _).alloc (Nat.le_refl _) _
end Go.Proofs.YtjlbmmiomfpgiaaGreatDoor.Cb
