/- YtjlbmmiomfpgiaaGreatDoorGc: of the texts Mk L1 what is wanted. -/
import Derived.Test.YtjlbmmiomfpgiaaGreatDoorG0
import Derived.Test.YtjlbmmiomfpgiaaGreatDoorChecked
import Derived.WalkKit
import Derived.ProofKit
import Derived.OpenShut
import Derived.RowKit3
import Derived.Lib.SmallJoins
import Derived.Laws.IdiomArrays
import Derived.WideShapes
import Derived.Deep.Strs
import Derived.Below
import Derived.Carry
import Derived.Deep.RegionHeld3
namespace Go.Proofs.YtjlbmmiomfpgiaaGreatDoor.Ke
set_option maxRecDepth 100000
open Go.ChangeShapes Go.WideShapes Go.ChangeAt Go.RowKit Go.Deep
set_option linter.unusedVariables false
def Hid (p : Prop) : Prop := p
theorem veil {p : Prop} (h : p) : Hid p := h
theorem Hid.out {p : Prop} (h : Hid p) : p := h
section
variable {H : Type} {enc : TypeId × Value → H} {w : World} {base : Nat} {spare : Nat → Bool} {held : Bool}
end
end Go.Proofs.YtjlbmmiomfpgiaaGreatDoor.Ke
namespace Go.Proofs.YtjlbmmiomfpgiaaGreatDoor.Ke
set_option maxRecDepth 100000
open Go.ChangeShapes Go.WideShapes Go.ChangeAt Go.RowKit
set_option linter.unusedVariables false
structure K where
 e : Bool
 d : Int
 l : Int
deriving DecidableEq
def K.ok (k : K) : Prop := (0 ≤ k.d ∧ k.d < 18446744073709551616) ∧ 0 ≤ k.l ∧ k.l < 256
def up (a b : K) : Bool := if a.e != b.e then a.e else if a.e then decide (a.d < b.d) else decide (b.l < a.l)
def fixK (l : Int) : K := ⟨false, 0, l⟩
def deadK (d : Int) : K := ⟨true, d, 0⟩
def rightK (k : K) : Bool := if k.e then k.l == 0 else k.d == 0
def maxK (a b : K) : K := if up b a then b else a
def same (a b : K) : Bool := a.e == b.e && a.d == b.d && a.l == b.l
@[go_sem] theorem buildFix (b : Int) (w : World) : (Instr.build 67 #[(2, .int .u8 b)]).run Tryz.prog w = .ok (.agg #[.bool false, .int .u64 0, .int .u8 b]) w := run_build w 67 _ _ (by kernel_rfl)
@[go_sem] theorem buildDead (e : Bool) (d : Int) (w : World) : (Instr.build 67 #[(0, .bool e), (1, .int .u64 d)]).run Tryz.prog w = .ok (.agg #[.bool e, .int .u64 d, .int .u8 0]) w := run_build w 67 _ _ (by kernel_rfl)
theorem eqAgg (e e' : Bool) (d d' l l' : Int) (w : World) : (Op.equalIn 10000 67 (.agg #[.bool e, .int .u64 d, .int .u8 l]) (.agg #[.bool e', .int .u64 d', .int .u8 l'])).run Tryz.prog w = .ok (e == e' && d == d' && l == l') w := by
 have u3 := Tryz.underlying25
 have a3 := Tryz.isAgg25
 have z3 := Tryz.sizeOf25
 have u4 := Tryz.underlying4
 have a4 := Tryz.isAgg4
 have z4 := Tryz.sizeOf4
 have u5 := Tryz.underlying5
 have a5 := Tryz.isAgg5
 have z5 := Tryz.sizeOf5
 have hS : Tryz.prog.underlying 67 = some (.struct (Tryz.prog.fieldsOf 67)) := by kernel_rfl
 rw [show (10000 : Nat) = 9999 + 1 from rfl, run_equalIn_agg w 9999 67 _ _ hS (by kernel_rfl)]
 simp only [Program.fieldsOf, Tryz.underlying67]
 go_simp
 by_cases h1 : e = e' <;> by_cases h2 : d = d' <;> by_cases h3 : l = l' <;> simp [h1, h2, h3]
@[go_sem high] theorem eqK (a b : K) (w : World) : (Op.equal 67 (.agg #[.bool a.e, .int .u64 a.d, .int .u8 a.l]) (.agg #[.bool b.e, .int .u64 b.d, .int .u8 b.l])).run Tryz.prog w = .ok (same a b) w := eqAgg _ _ _ _ _ _ w
@[go_sem high] theorem eqB (a b : K) (w : World) : (binOp .eql 67 (.agg #[.bool a.e, .int .u64 a.d, .int .u8 a.l]) (.agg #[.bool b.e, .int .u64 b.d, .int .u8 b.l])).run Tryz.prog w = .ok (.bool (same a b)) w := by
 simp [binOp, go_sem]
theorem below2 (w : World) (c c' : Array Value) (t t' : TypeId) : Below w.heap.size w ((w.alloc (.cells c t)).alloc (.cells c' t')) := ((Below.refl _ _).alloc (Nat.le_refl _) _).alloc (by simp) _
theorem fixed_ok (w : World) (l : Int) : Calls Tryz.prog 30 #[.int .u8 l] w fun e w' => e = .returned (.agg #[.bool (fixK l).e, .int .u64 (fixK l).d, .int .u8 (fixK l).l]) ∧ Below w.heap.size w w' := by
 go_enter Tryz.func30, Tryz.ntmps30
 go_wp2
 simp [bodyPost, results, Tryz.results30, go_sem, fixK]
 exact (Below.refl _ _).alloc (Nat.le_refl _) _
theorem dead_ok (w : World) (d : Int) : Calls Tryz.prog 128 #[.int .u64 d] w fun e w' => e = .returned (.agg #[.bool (deadK d).e, .int .u64 (deadK d).d, .int .u8 (deadK d).l]) ∧ Below w.heap.size w w' := by
 go_enter Tryz.func128, Tryz.ntmps128
 go_wp2
 simp [bodyPost, results, Tryz.results128, go_sem, deadK]
 exact (Below.refl _ _).alloc (Nat.le_refl _) _
theorem above_mk (w : World) (a b : K) : Calls Tryz.prog 119 #[.agg #[.bool a.e, .int .u64 a.d, .int .u8 a.l], .agg #[.bool b.e, .int .u64 b.d, .int .u8 b.l]] w fun e w' => e = .returned (.bool (up a b)) ∧ ∃ c1 c2, w' = (w.alloc (.cells c1 67)).alloc (.cells c2 67) := by
 unfold up
 go_enter Tryz.func119, Tryz.ntmps119
 cases he : a.e <;> cases he' : b.e <;> (go_wp2; go_ret; exact ⟨by simp , _, _, rfl⟩)
theorem above_ok (w : World) (a b : K) : Calls Tryz.prog 119 #[.agg #[.bool a.e, .int .u64 a.d, .int .u8 a.l], .agg #[.bool b.e, .int .u64 b.d, .int .u8 b.l]] w fun e w' => e = .returned (.bool (up a b)) ∧ Below w.heap.size w w' :=
 (above_mk w a b).mono fun e w' ⟨h, c1, c2, hw⟩ => ⟨h, by rw [hw]; exact below2 _ _ _ _ _⟩
end Go.Proofs.YtjlbmmiomfpgiaaGreatDoor.Ke
namespace Go.Proofs.YtjlbmmiomfpgiaaGreatDoor.Ke
set_option maxRecDepth 100000
open Go.ChangeShapes Go.WideShapes Go.ChangeAt Go.RowKit
set_option linter.unusedVariables false
def At (w : World) (b : Nat) (k : K) : Prop := w.cell? ⟨b, 0, none⟩ = some (.bool k.e) ∧ w.cell? ⟨b, 1, none⟩ = some (.int .u64 k.d) ∧ w.cell? ⟨b, 2, none⟩ = some (.int .u8 k.l)
theorem At.below {w w' : World} {b : Nat} {k : K} (h : At w b k) (hb : Below w.heap.size w w') : At w' b k :=
 ⟨(hb.cell (World.block_lt_of_cell? w _ h.1)).trans h.1, (hb.cell (World.block_lt_of_cell? w _ h.2.1)).trans h.2.1, (hb.cell (World.block_lt_of_cell? w _ h.2.2)).trans h.2.2⟩
theorem keep1 {w0 w w' : World} {b : Nat} {k : K} (h : w.cell? ⟨b, 0, none⟩ = some (.bool k.e) ∧ w.cell? ⟨b, 1, none⟩ = some (.int .u64 k.d) ∧ w.cell? ⟨b, 2, none⟩ = some (.int .u8 k.l) ∧ Below w0.heap.size w0 w) (hb : Below w.heap.size w w') :
  w'.cell? ⟨b, 0, none⟩ = some (.bool k.e) ∧ w'.cell? ⟨b, 1, none⟩ = some (.int .u64 k.d) ∧ w'.cell? ⟨b, 2, none⟩ = some (.int .u8 k.l) ∧ Below w0.heap.size w0 w' := by
 obtain ⟨h0, h1, h2, h3⟩ := h
 have := At.below ⟨h0, h1, h2⟩ hb
 exact ⟨this.1, this.2.1, this.2.2, h3.trans (hb.mono h3.size)⟩
theorem at_new (w : World) (k : K) (t : TypeId) : At (w.alloc (.cells #[.bool k.e, .int .u64 k.d, .int .u8 k.l] t)) w.heap.size k := by
 refine ⟨?_, ?_, ?_⟩ <;> (unfold World.cell?; simp only [(MapKept.heap_alloc w _).1]; rfl)
theorem start1 (w : World) (k : K) (t : TypeId) : (w.alloc (.cells #[.bool k.e, .int .u64 k.d, .int .u8 k.l] t)).drew.cell? ⟨w.heap.size, 0, none⟩ = some (.bool k.e) ∧ (w.alloc (.cells #[.bool k.e, .int .u64 k.d, .int .u8 k.l] t)).drew.cell? ⟨w.heap.size, 1, none⟩ = some (.int .u64 k.d) ∧ (w.alloc (.cells #[.bool k.e, .int .u64 k.d, .int .u8 k.l] t)).drew.cell? ⟨w.heap.size, 2, none⟩ = some (.int .u8 k.l) ∧ Below w.heap.size w (w.alloc (.cells #[.bool k.e, .int .u64 k.d, .int .u8 k.l] t)).drew :=
 ⟨(at_new w k t).1, (at_new w k t).2.1, (at_new w k t).2.2, ((Below.refl _ _).alloc (Nat.le_refl _) _).drew⟩
theorem fin1 {w0 w : World} {p q r : Prop} (h : p ∧ q ∧ r ∧ Below w0.heap.size w0 w) : Below w0.heap.size w0 w := h.2.2.2
theorem same_eq (a b : K) : same a b = decide (a = b) := by
 obtain ⟨e, d, l⟩ := a
 obtain ⟨e', d', l'⟩ := b
 unfold same
 by_cases h1 : e = e' <;> by_cases h2 : d = d' <;> by_cases h3 : l = l' <;> simp [h1, h2, h3]
theorem right_yes (k : K) (hc : same k (fixK k.l) = true) : rightK k = true := by
 unfold rightK; simp [same, fixK] at hc; simp [hc]
theorem right_no (k : K) (hc : same k (fixK k.l) = false) : same k (deadK k.d) = rightK k := by
 unfold rightK
 cases he : k.e <;> simp [same, fixK, deadK, he] at hc ⊢
 exact hc
set_option maxRecDepth 100000 in
theorem right_ok (w : World) (k : K) : Calls Tryz.prog 126 #[.agg #[.bool k.e, .int .u64 k.d, .int .u8 k.l]] w fun e w' => e = .returned (.bool (rightK k)) ∧ Below w.heap.size w w' := by
 have HF := veil fixed_ok
 have HD := veil dead_ok
 by_cases hc : same k (fixK k.l) = true
 ·have HR := veil (right_yes k hc)
  go_enter Tryz.func126, Tryz.ntmps126
  go_wp2
  refine wp_region_held_drew (S := (fun w' => w'.cell? ⟨w.heap.size, 0, none⟩ = some (.bool k.e) ∧ w'.cell? ⟨w.heap.size, 1, none⟩ = some (.int .u64 k.d) ∧ w'.cell? ⟨w.heap.size, 2, none⟩ = some (.int .u8 k.l) ∧ Below w.heap.size w w')) (by kernel_rfl) ?_ (fun hHeld => ?_)
  ·exact start1 _ _ _
  refine tkX 0 (v := ?_) rfl ?v0 ?_
  case v0 => (intro w hSw; (try dsimp only at hSw); go_simp; try with_reducible rfl)
  try simp only [puX]
  refine tkX 1 (v := ?_) rfl ?v1 ?_
  case v1 => (intro w hSw; (try dsimp only at hSw); go_simp; try with_reducible rfl)
  try simp only [puX]
  refine tkX 2 (v := ?_) rfl ?v2 ?_
  case v2 => (intro w hSw; (try dsimp only at hSw); go_simp; try with_reducible rfl)
  try simp only [puX]
  refine wpAnyH_ready (rs := [3]) (by kernel_rfl) (by simp) ?_
  refine AllReadyH.cons rfl (fun K hK => ?_) AllReadyH.nil
  go_simp
  refine (HF.out _ _).mono ?_
  rintro e w1 ⟨rfl, hb⟩
  go_wp2_with fail
  refine hK.out _ _ ?_ (fun hHeld => ?_)
  ·exact keep1 (by assumption) hb
  clear hK K
  try simp only [puX]
  refine tkX 4 (v := ?_) rfl ?v4 ?_
  case v4 => (intro w hSw; (try dsimp only at hSw); go_simp; try with_reducible rfl)
  try simp only [puX]
  refine tkX 5 (v := ?_) rfl ?v5 ?_
  case v5 => (intro w hSw; (try dsimp only at hSw); go_simp; try with_reducible rfl)
  try simp only [puX]
  refine wpAnyH_take (i := 6) (v := undef) rfl (by kernel_rfl) (by kernel_rfl) (by kernel_rfl) (fun _ _ _ h => h) (Or.inr ⟨by rfl, rfl⟩) (by assumption) ?_
  try simp only [puX]
  refine wpAnyH_take (i := 7) (v := undef) rfl (by kernel_rfl) (by kernel_rfl) (by kernel_rfl) (fun _ _ _ h => h) (Or.inr ⟨by rfl, rfl⟩) (by assumption) ?_
  try simp only [puX]
  refine wpAnyH_take (i := 8) (v := undef) rfl (by kernel_rfl) (by kernel_rfl) (by kernel_rfl) (fun _ _ _ h => h) (Or.inr ⟨by rfl, rfl⟩) (by assumption) ?_
  try simp only [puX]
  refine wpAnyH_take (i := 9) (v := undef) rfl (by kernel_rfl) (by kernel_rfl) (by kernel_rfl) (fun _ _ _ h => h) (Or.inr ⟨by rfl, rfl⟩) (by assumption) ?_
  try simp only [puX]
  refine wpAnyH_take (i := 10) (v := undef) rfl (by kernel_rfl) (by kernel_rfl) (by kernel_rfl) (fun _ _ _ h => h) (Or.inr ⟨by rfl, rfl⟩) (by assumption) ?_
  try simp only [puX]
  refine tkX 11 (v := ?_) rfl ?v11 ?_
  case v11 => (intro w hSw; (try dsimp only at hSw); go_simp; try with_reducible rfl)
  try simp only [puX]
  refine tkX 12 (v := ?_) rfl ?v12 ?_
  case v12 => (intro w hSw; (try dsimp only at hSw); go_simp; try with_reducible rfl)
  try simp only [puX]
  refine wpAnyH_done (by kernel_rfl) ?_ _
  go_wp2
  go_ret
  exact ⟨by rw [HR.out]; rfl, fin1 (by assumption)⟩
 simp only [Bool.not_eq_true] at hc
 have HR := veil (right_no k hc)
 go_enter Tryz.func126, Tryz.ntmps126
 go_wp2
 go_region_held3 (fun w' => w'.cell? ⟨w.heap.size, 0, none⟩ = some (.bool k.e) ∧ w'.cell? ⟨w.heap.size, 1, none⟩ = some (.int .u64 k.d) ∧ w'.cell? ⟨w.heap.size, 2, none⟩ = some (.int .u8 k.l) ∧ Below w.heap.size w w')
  (first | exact start1 _ _ _ | exact keep1 (by assumption) hb)
  (first
   | (go_at_call 30; refine (HF.out _ _).mono ?_; rintro e w1 ⟨rfl, hb⟩)
   | (go_at_call 128; refine (HD.out _ _).mono ?_; rintro e w2 ⟨rfl, hb⟩))
 go_wp2
 go_ret
 exact ⟨by rw [HR.out]; rfl, fin1 (by assumption)⟩
end Go.Proofs.YtjlbmmiomfpgiaaGreatDoor.Ke
namespace Go.Proofs.YtjlbmmiomfpgiaaGreatDoor
set_option maxRecDepth 100000
abbrev En := Nat × Ke.K
def put (x : En) : List En → List En
 | [] => [x]
 | y :: M => if Ke.up x.2 y.2 then x :: y :: M else y :: put x M
def cut (id : Nat) (M : List En) : List En := M.filter (fun y => y.1 != id)
theorem put_skip (x : En) : ∀ (A B : List En), (∀ y ∈ A, Ke.up x.2 y.2 = false) → put x (A ++ B) = A ++ put x B
 | [], _, _ => rfl
 | y :: A, B, h => by
  have e := h y (by simp)
  simp only [List.cons_append, put, e]
  rw [put_skip x A B (fun z hz => h z (by simp [hz]))]
  rfl
theorem put_here (x : En) : ∀ (B : List En), (∀ y ∈ B, Ke.up x.2 y.2 = true) → put x B = x :: B
 | [], _ => rfl
 | y :: B, h => by simp [put, h y (by simp)]
theorem cut_miss {M : List En} {id : Nat} (h : ∀ y ∈ M, y.1 ≠ id) : cut id M = M := by
 unfold cut
 rw [List.filter_eq_self]
 intro a ha
 simpa using h a ha
theorem cut_head {y : En} {M : List En} (h : ((y :: M).map (·.1)).Nodup) : cut y.1 (y :: M) = M := by
 rw [List.map_cons, List.nodup_cons] at h
 unfold cut
 rw [List.filter_cons_of_neg (by simp)]
 exact cut_miss (fun z hz e => h.1 (List.mem_map.2 ⟨z, hz, e⟩))
theorem nd_uniq {M : List En} (h : (M.map (·.1)).Nodup) {a b : En} (ha : a ∈ M) (hb : b ∈ M) (e : a.1 = b.1) : a = b := by
 induction M with
 | nil => cases ha
 | cons y M ih =>
  rw [List.map_cons, List.nodup_cons] at h
  rcases List.mem_cons.1 ha with e1 | ha'
  ·rcases List.mem_cons.1 hb with e2 | hb'
   ·rw [e1, e2]
   ·exact absurd (List.mem_map.2 ⟨b, hb', by rw [← e, e1]⟩) h.1
  ·rcases List.mem_cons.1 hb with e2 | hb'
   ·exact absurd (List.mem_map.2 ⟨a, ha', by rw [e, e2]⟩) h.1
   ·exact ih h.2 ha' hb'
theorem mem_put {x y : En} : ∀ {M : List En}, y ∈ put x M ↔ y = x ∨ y ∈ M
 | [] => by simp [put]
 | z :: M => by
  unfold put
  split
  ·simp
  ·rw [List.mem_cons, mem_put, List.mem_cons]
   constructor
   ·rintro (h | h | h)
    ·exact .inr (.inl h)
    ·exact .inl h
    ·exact .inr (.inr h)
   ·rintro (h | h | h)
    ·exact .inr (.inl h)
    ·exact .inl h
    ·exact .inr (.inr h)
theorem len_put {x : En} : ∀ {M : List En}, (put x M).length = M.length + 1
 | [] => rfl
 | z :: M => by
  unfold put
  split
  ·simp
  ·simp [len_put]
theorem nd_put {x : En} : ∀ {M : List En}, (M.map (·.1)).Nodup → (∀ y ∈ M, y.1 ≠ x.1) → ((put x M).map (·.1)).Nodup
 | [], _, _ => by simp [put]
 | z :: M, h, hx => by
  unfold put
  split
  ·rw [List.map_cons, List.nodup_cons]
   refine ⟨fun q => ?_, h⟩
   obtain ⟨y, hy, e⟩ := List.mem_map.1 q
   exact hx y hy e
  ·rw [List.map_cons, List.nodup_cons] at h ⊢
   refine ⟨fun q => ?_, nd_put h.2 (fun y hy => hx y (by simp [hy]))⟩
   obtain ⟨y, hy, e⟩ := List.mem_map.1 q
   rcases mem_put.1 hy with rfl | hy
   ·exact hx z (by simp) e.symm
   ·exact h.1 (List.mem_map.2 ⟨y, hy, e⟩)
theorem nd_cut {M : List En} {id : Nat} (h : (M.map (·.1)).Nodup) : ((cut id M).map (·.1)).Nodup :=
 List.Nodup.sublist (List.Sublist.map _ List.filter_sublist) h
theorem mem_cut {M : List En} {id : Nat} {y : En} : y ∈ cut id M ↔ y ∈ M ∧ y.1 ≠ id := by simp [cut]
theorem len_cut {id : Nat} {k : Ke.K} : ∀ {M : List En}, (M.map (·.1)).Nodup → (id, k) ∈ M → (cut id M).length + 1 = M.length
 | [], _, h => by cases h
 | y :: M, hn, h => by
  by_cases e : y.1 = id
  ·rw [← e, cut_head hn]; simp
  ·rw [List.map_cons, List.nodup_cons] at hn
   have : cut id (y :: M) = y :: cut id M := by unfold cut; rw [List.filter_cons_of_pos (by simpa using e)]
   rw [this]
   have hm : (id, k) ∈ M := by
    rcases List.mem_cons.1 h with h | h
    ·exact absurd (by rw [← h]) e
    ·exact h
   have := len_cut hn.2 hm
   simp
   omega
def keyOf (M : List En) (id : Nat) : Option Ke.K := (M.find? (fun y => y.1 == id)).map (·.2)
theorem keyOf_some {M : List En} {id : Nat} {k : Ke.K} (h : (M.map (·.1)).Nodup) : keyOf M id = some k ↔ (id, k) ∈ M := by
 unfold keyOf
 constructor
 ·intro q
  cases hf : M.find? (fun y => y.1 == id) with
  | none => rw [hf] at q; cases q
  | some y =>
   rw [hf] at q
   have h1 := List.mem_of_find?_eq_some hf
   have h2 := List.find?_some hf
   simp at q h2
   rw [← q, ← h2]
   exact h1
 ·intro q
  cases hf : M.find? (fun y => y.1 == id) with
  | none =>
   have := List.find?_eq_none.1 hf _ q
   simp at this
  | some y =>
   have h1 := List.mem_of_find?_eq_some hf
   have h2 := List.find?_some hf
   simp at h2
   have := nd_uniq h h1 q h2
   rw [this]
   rfl
theorem keyOf_none {M : List En} {id : Nat} : keyOf M id = none ↔ ∀ y ∈ M, y.1 ≠ id := by
 unfold keyOf
 rw [Option.map_eq_none_iff, List.find?_eq_none]
 simp
end Go.Proofs.YtjlbmmiomfpgiaaGreatDoor
