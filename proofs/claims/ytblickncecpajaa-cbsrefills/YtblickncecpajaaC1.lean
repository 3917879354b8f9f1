/-
  The servers of both kinds: how they lie in memory, and what stays as it is behind a call.
-/
import Derived.Test.YtblickncecpajaaChecked
import Derived.WalkKit
import Derived.ProofKit
import Derived.Below
import Derived.Carry
import Derived.Laws.OwnMore
import Derived.Maps.AppendAt
import Derived.Deep.AppendLies
import Derived.Deep.RegionHeld3
import Derived.Lib.SmallJoins
import Derived.OneCell
namespace Go.Proofs.Ytblickncecpajaa
open Go.RowKit Go.Lib
set_option linter.unusedVariables false

theorem veil {p : Prop} (h : p) : Hid p := h
/-- A frame: blocks that were there and do not belong to S are as they were. -/
structure Fr (S : Nat → Prop) (w w' : World) : Prop where
  os : w'.os = w.os
  tape : w'.tape = w.tape
  output : w'.output = w.output
  size : w.heap.size ≤ w'.heap.size
  block : ∀ k, k < w.heap.size → ¬ S k → w'.heap[k]? = w.heap[k]?
section
variable {S S' : Nat → Prop} {w w' w'' : World}
theorem Fr.refl (S : Nat → Prop) (w : World) : Fr S w w := ⟨rfl, rfl, rfl, Nat.le_refl _, fun _ _ _ => rfl⟩
theorem Fr.wide (h : Fr S w w') (hs : ∀ k, k < w.heap.size → S k → S' k) : Fr S' w w' := ⟨h.os, h.tape, h.output, h.size, fun k hk hn => h.block k hk (fun q => hn (hs k hk q))⟩
theorem Fr.trans (h : Fr S w w') (h' : Fr S w' w'') : Fr S w w'' :=
  ⟨h'.os.trans h.os, h'.tape.trans h.tape, h'.output.trans h.output, Nat.le_trans h.size h'.size, fun k hk hn => (h'.block k (Nat.lt_of_lt_of_le hk h.size) hn).trans (h.block k hk hn)⟩
theorem Fr.alloc (h : Fr S w w') (o : Obj) : Fr S w (w'.alloc o) :=
  ⟨h.os, h.tape, h.output, Nat.le_trans h.size (by simp), fun k hk hn => (Below.heap_alloc _ _ _ (Nat.lt_of_lt_of_le hk h.size)).trans (h.block k hk hn)⟩
theorem Fr.setCell (h : Fr S w w') {a : Addr} (hb : S a.block) (u : Value) : Fr S w (w'.setCell a u) :=
  ⟨h.os, h.tape, h.output, by simpa using h.size, fun k hk hn => (Below.heap_setCell _ _ _ _ (fun e => hn (by rw [e]; exact hb))).trans (h.block k hk hn)⟩
theorem Fr.cell (h : Fr S w w') {a : Addr} (hk : a.block < w.heap.size) (hn : ¬ S a.block) : w'.cell? a = w.cell? a := World.cell?_of_block (h.block _ hk hn)
theorem Fr.of_below' (h : Below w.heap.size w w') : Fr S w w' := ⟨h.os, h.tape, h.output, h.size, fun k hk _ => h.block k hk⟩
theorem Fr.below {B : Nat} (h : Fr S w w') (hb : B ≤ w.heap.size) (hs : ∀ k, S k → B ≤ k) : Below B w w' := ⟨h.os, h.tape, h.output, h.size, fun k hk => h.block k (by omega) (fun q => by have := hs k q; omega)⟩
theorem Fr.of_grown {row : Option Nat} (h : w.grownBy w' row) : Fr (fun k => some k = row) w w' := ⟨h.os, h.tape, h.output, h.size, h.block⟩
end

/-- A server: budget, period, what is left, its deadline (0: it sleeps). -/
structure Srv where
  b : Nat
  p : Nat
  l : Nat
  d : Nat
def Srv.ok (x : Srv) : Prop := 1 ≤ x.b ∧ x.b ≤ x.p ∧ 232792560 % x.p = 0 ∧ x.l ≤ x.b ∧ x.d < 18446744073709551616
theorem Srv.ok.pos {x : Srv} (h : x.ok) : 0 < x.p := by have := h.1; have := h.2.1; omega
theorem Srv.ok.le {x : Srv} (h : x.ok) : x.p ≤ 232792560 := Nat.le_of_dvd (by decide) (Nat.dvd_of_mod_eq_zero h.2.2.1)
/-- What one asks of a Hyper, and all. -/
def asks (x : Srv) : Nat := x.b * (232792560 / x.p)
def sumOf (L : List Srv) : Nat := (L.map asks).sum
theorem asks_le {x : Srv} (h : x.ok) : asks x ≤ 232792560 := by
  unfold asks
  refine Nat.le_trans (Nat.mul_le_mul_right _ h.2.1) ?_
  exact Nat.mul_div_le 232792560 x.p
theorem sum_le {L : List Srv} (h : ∀ x ∈ L, x.ok) : sumOf L ≤ L.length * 232792560 := by
  induction L with
  | nil => simp [sumOf]
  | cons x L ih =>
    have h1 := asks_le (h x (by simp))
    have h2 := ih (fun y hy => h y (by simp [hy]))
    simp only [sumOf, List.map_cons, List.sum_cons, List.length_cons] at h2 ⊢
    omega
/-- Some servers that may be. -/
structure Fine (P : Nat) (L : List Srv) : Prop where
  p1 : 1 ≤ P
  p2 : P ≤ 64
  all : ∀ x ∈ L, x.ok
  len : L.length ≤ 32
def addN (a b : Nat) : Nat := if a + b ≤ 18446744073709551615 then a + b else 18446744073709551615
def fillS (x : Srv) (now : Nat) : Srv := ⟨x.b, x.p, x.b, addN now x.p⟩

theorem ownsRow_set {w : World} {base : Nat} {e : TypeId} {size g n cap : Nat} {xs : List Value} (h : w.ownsRow base e size (.slice (some ⟨g, 0, none⟩) n cap) n xs) (k : Nat) (hk : k < n * size) (u : Value) :
    (w.setCell ⟨g, k, none⟩ u).ownsRow base e size (.slice (some ⟨g, 0, none⟩) n cap) n (xs.set k u) := by
  refine ⟨by simpa using h.1, ?_⟩
  rcases h.2 with ⟨e1, _⟩ | ⟨g', cap', cur, e1, h0, h1, h2, h3, h4, h5⟩
  · simp at e1
  · simp at e1
    obtain ⟨rfl, rfl⟩ := e1
    refine .inr ⟨g, cap, cur.setIfInBounds k u, rfl, h0, ?_, h2, h3, by simpa using h4, ?_⟩
    · exact Go.Joins.block_setCell h1 u
    · rw [← h5]
      simp [List.take_set]
theorem frozen_row {w : World} {base : Nat} {e : TypeId} {size g n cap : Nat} {xs : List Value} (h : w.ownsRow base e size (.slice (some ⟨g, 0, none⟩) n cap) n xs) (k : Nat) : w.frozen? ⟨g, k, none⟩ = false := by
  rcases h.2 with ⟨e1, _⟩ | ⟨g', cap', cur, e1, h0, h1, h2, h3, h4, h5⟩
  · simp at e1
  · simp at e1
    obtain ⟨rfl, rfl⟩ := e1
    unfold World.frozen?
    simp [h1]
theorem ownsRow_far {w : World} {base : Nat} {e : TypeId} {size : Nat} {v : Value} {n : Nat} {xs : List Value} (h : w.ownsRow base e size v n xs) {w' : World} (hh : ∀ k, v.ownBlock = some k → w'.heap[k]? = w.heap[k]?) : w'.ownsRow base e size v n xs := by
  refine ⟨h.1, ?_⟩
  rcases h.2 with hn | ⟨g, cap, cur, rfl, hb, hgg, rest⟩
  · exact .inl hn
  · exact .inr ⟨g, cap, cur, rfl, hb, (hh g rfl).trans hgg, rest⟩
theorem ownsRow_blk {w : World} {base : Nat} {e : TypeId} {size : Nat} {v : Value} {n : Nat} {xs : List Value} (h : w.ownsRow base e size v n xs) {k : Nat} (hk : v.ownBlock = some k) : base ≤ k ∧ k < w.heap.size ∧ ∃ cur, w.heap[k]? = some (.cells cur e (0, 0)) := by
  rcases h.2 with ⟨rfl, _⟩ | ⟨g, cap, cur, rfl, hb, hgg, rest⟩
  · simp [Value.ownBlock] at hk
  · simp [Value.ownBlock] at hk
    subst hk
    exact ⟨hb, (Array.getElem?_eq_some_iff.1 hgg).1, cur, hgg⟩

/-! The program's servers. -/
def pone (x : Srv) : List Value := [.int .u64 (x.b : Int), .int .u64 (x.p : Int), .int .u64 (x.l : Int), .int .u64 (x.d : Int)]
def pcells (L : List Srv) : List Value := L.flatMap pone
theorem pcells_cons (x : Srv) (L : List Srv) : pcells (x :: L) = pone x ++ pcells L := rfl
theorem pcells_append (L M : List Srv) : pcells (L ++ M) = pcells L ++ pcells M := by unfold pcells; rw [List.flatMap_append]
theorem pcells_length : ∀ L, (pcells L).length = L.length * 4
  | [] => rfl
  | x :: L => by rw [pcells_cons]; simp [pone, pcells_length L]; omega
theorem pcells_at : ∀ (L : List Srv) (i : Nat) (x : Srv), L[i]? = some x → (pcells L)[i * 4]? = some (.int .u64 (x.b : Int)) ∧ (pcells L)[i * 4 + 1]? = some (.int .u64 (x.p : Int)) ∧ (pcells L)[i * 4 + 2]? = some (.int .u64 (x.l : Int)) ∧ (pcells L)[i * 4 + 3]? = some (.int .u64 (x.d : Int))
  | [], i, x, h => by simp at h
  | y :: L, 0, x, h => by
    simp at h
    subst h
    exact ⟨rfl, rfl, rfl, rfl⟩
  | y :: L, i + 1, x, h => by
    have := pcells_at L i x (by simpa using h)
    rw [pcells_cons, show (i + 1) * 4 = i * 4 + 4 by omega]
    exact this
theorem pcells_oneCell (L : List Srv) : ∀ u ∈ pcells L, u.oneCell' = true := by
  intro u hu
  unfold pcells at hu
  rw [List.mem_flatMap] at hu
  obtain ⟨x, _, h⟩ := hu
  simp [pone] at h
  rcases h with rfl | rfl | rfl | rfl <;> rfl
theorem pcells_set : ∀ (L : List Srv) (i : Nat) (x : Srv), i < L.length → pcells (L.set i x) = ((((pcells L).set (i * 4) (.int .u64 (x.b : Int))).set (i * 4 + 1) (.int .u64 (x.p : Int))).set (i * 4 + 2) (.int .u64 (x.l : Int))).set (i * 4 + 3) (.int .u64 (x.d : Int))
  | [], i, x, h => by simp at h
  | y :: L, 0, x, h => by simp [pcells_cons, pone]
  | y :: L, i + 1, x, h => by
    have := pcells_set L i x (by simpa using h)
    rw [List.set_cons_succ, pcells_cons, this, pcells_cons, show (i + 1) * 4 = i * 4 + 4 by omega]
    rfl
structure Pep (w : World) (base s P : Nat) (v : Value) (L : List Srv) : Prop where
  blk : w.heap[s]? = some (.cells #[.int .u64 (P : Int), v] 65 (0, 0))
  own : w.ownsRow base 69 4 v L.length (pcells L)
  bs : base ≤ w.heap.size
  f : Fine P L
section
variable {w w' : World} {base s P : Nat} {v : Value} {L : List Srv}
theorem Pep.lt (h : Pep w base s P v L) : s < w.heap.size := (Array.getElem?_eq_some_iff.1 h.blk).1
theorem Pep.ne (h : Pep w base s P v L) : v.ownBlock ≠ some s := by
  intro q
  obtain ⟨_, _, cur, e⟩ := ownsRow_blk h.own q
  rw [h.blk] at e
  simp at e
theorem Pep.c0 (h : Pep w base s P v L) : w.cell? ⟨s, 0, none⟩ = some (.int .u64 (P : Int)) := by unfold World.cell?; simp [h.blk]
theorem Pep.c1 (h : Pep w base s P v L) : w.cell? ⟨s, 1, none⟩ = some v := by unfold World.cell?; simp [h.blk]
theorem Pep.f1 (h : Pep w base s P v L) : w.frozen? ⟨s, 1, none⟩ = false := by unfold World.frozen?; simp [h.blk]
theorem Pep.form (h : Pep w base s P v L) : ∃ a cap, v = .slice a L.length cap ∧ L.length ≤ cap ∧ cap ≤ maxLen := by
  rcases h.own.2 with ⟨e, e0⟩ | ⟨g, cap, cur, e, _, _, h1, h2, _⟩
  · exact ⟨none, 0, by rw [e, e0], by omega, by simp [maxLen]⟩
  · exact ⟨_, cap, e, h1, h2⟩
theorem Pep.cells (h : Pep w base s P v L) (hL : 0 < L.length) : ∃ g cap, v = .slice (some ⟨g, 0, none⟩) L.length cap ∧ L.length ≤ cap ∧ cap ≤ maxLen ∧ g < w.heap.size ∧ g ≠ s ∧ (∀ k, w.frozen? ⟨g, k, none⟩ = false) ∧
    (∀ j x, L[j]? = some x → w.cell? ⟨g, j * 4, none⟩ = some (.int .u64 (x.b : Int)) ∧ w.cell? ⟨g, j * 4 + 1, none⟩ = some (.int .u64 (x.p : Int)) ∧ w.cell? ⟨g, j * 4 + 2, none⟩ = some (.int .u64 (x.l : Int)) ∧ w.cell? ⟨g, j * 4 + 3, none⟩ = some (.int .u64 (x.d : Int))) := by
  have hne := h.ne
  rcases h.own.2 with ⟨e, e0⟩ | ⟨g, cap, cur, e, h0, hg, h1, h2, _⟩
  · omega
  · have hown := h.own
    subst e
    refine ⟨g, cap, rfl, h1, h2, (Array.getElem?_eq_some_iff.1 hg).1, fun q => hne (by rw [q]; rfl), frozen_row hown, fun j x hj => ?_⟩
    have hjl : j < L.length := (List.getElem?_eq_some_iff.1 hj).1
    rw [hown.cellAt (j * 4) (by omega), hown.cellAt (j * 4 + 1) (by omega), hown.cellAt (j * 4 + 2) (by omega), hown.cellAt (j * 4 + 3) (by omega)]
    exact pcells_at L j x hj
theorem Pep.kept (h : Pep w base s P v L) (h0 : w.heap.size ≤ w'.heap.size) (h1 : w'.heap[s]? = w.heap[s]?) (h2 : ∀ k, v.ownBlock = some k → w'.heap[k]? = w.heap[k]?) : Pep w' base s P v L :=
  ⟨h1.trans h.blk, ownsRow_far h.own h2, Nat.le_trans h.bs h0, h.f⟩
theorem Pep.frame {S : Nat → Prop} (h : Pep w base s P v L) (hf : Fr S w w') (h1 : ¬ S s) (h2 : ∀ k, v.ownBlock = some k → ¬ S k) : Pep w' base s P v L :=
  h.kept hf.size (hf.block s h.lt h1) (fun k hk => hf.block k (ownsRow_blk h.own hk).2.1 (h2 k hk))
theorem Pep.below (h : Pep w base s P v L) (hf : Below w.heap.size w w') : Pep w' base s P v L :=
  h.frame (Fr.of_below' (S := fun _ => False) hf) id (fun _ _ => id)
theorem Pep.like (h : Pep w base s P v L) (a : w'.heap = w.heap) : Pep w' base s P v L := h.kept (by rw [a]; exact Nat.le_refl _) (by rw [a]) (fun k _ => by rw [a])
/-- The slice anew: one more. -/
theorem Pep.stored {v' : Value} {L' : List Srv} (hb : w.heap[s]? = some (.cells #[.int .u64 (P : Int), v] 65 (0, 0)))
    (hown : w.ownsRow base 69 4 v' L'.length (pcells L')) (hbs : base ≤ w.heap.size) (hf : Fine P L') : Pep (w.setCell ⟨s, 1, none⟩ v') base s P v' L' := by
  have hne : v'.ownBlock ≠ some s := by
    intro q
    obtain ⟨_, _, cur, e⟩ := ownsRow_blk hown q
    rw [hb] at e
    simp at e
  exact ⟨Go.Joins.block_setCell hb v', ownsRow_setCell_other hown hne v', by simpa using hbs, hf⟩
end

/-! The document's servers. -/
def rone (x : Srv) : List Value := [.int .u64 (x.b : Int), .int .u64 (x.p : Int), .int .u64 (x.l : Int), .int .u64 (x.d : Int), .bool (x.d == 0)]
def rcells (L : List Srv) : List Value := L.flatMap rone
theorem rcells_cons (x : Srv) (L : List Srv) : rcells (x :: L) = rone x ++ rcells L := rfl
theorem rcells_append (L M : List Srv) : rcells (L ++ M) = rcells L ++ rcells M := by unfold rcells; rw [List.flatMap_append]
theorem rcells_length : ∀ L, (rcells L).length = L.length * 5
  | [] => rfl
  | x :: L => by rw [rcells_cons]; simp [rone, rcells_length L]; omega
theorem rcells_at : ∀ (L : List Srv) (i : Nat) (x : Srv), L[i]? = some x → (rcells L)[i * 5]? = some (.int .u64 (x.b : Int)) ∧ (rcells L)[i * 5 + 1]? = some (.int .u64 (x.p : Int)) ∧ (rcells L)[i * 5 + 2]? = some (.int .u64 (x.l : Int)) ∧ (rcells L)[i * 5 + 3]? = some (.int .u64 (x.d : Int)) ∧ (rcells L)[i * 5 + 4]? = some (.bool (x.d == 0))
  | [], i, x, h => by simp at h
  | y :: L, 0, x, h => by
    simp at h
    subst h
    exact ⟨rfl, rfl, rfl, rfl, rfl⟩
  | y :: L, i + 1, x, h => by
    have := rcells_at L i x (by simpa using h)
    rw [rcells_cons, show (i + 1) * 5 = i * 5 + 5 by omega]
    exact this
theorem rcells_oneCell (L : List Srv) : ∀ u ∈ rcells L, u.oneCell' = true := by
  intro u hu
  unfold rcells at hu
  rw [List.mem_flatMap] at hu
  obtain ⟨x, _, h⟩ := hu
  simp [rone] at h
  rcases h with rfl | rfl | rfl | rfl | rfl <;> rfl
theorem rcells_set : ∀ (L : List Srv) (i : Nat) (x : Srv), i < L.length → rcells (L.set i x) = (((((rcells L).set (i * 5) (.int .u64 (x.b : Int))).set (i * 5 + 1) (.int .u64 (x.p : Int))).set (i * 5 + 2) (.int .u64 (x.l : Int))).set (i * 5 + 3) (.int .u64 (x.d : Int))).set (i * 5 + 4) (.bool (x.d == 0))
  | [], i, x, h => by simp at h
  | y :: L, 0, x, h => by simp [rcells_cons, rone]
  | y :: L, i + 1, x, h => by
    have := rcells_set L i x (by simpa using h)
    rw [List.set_cons_succ, rcells_cons, this, rcells_cons, show (i + 1) * 5 = i * 5 + 5 by omega]
    rfl
structure Rep (w : World) (base s P : Nat) (v : Value) (L : List Srv) : Prop where
  blk : w.heap[s]? = some (.cells #[.int .i64 (P : Int), v] 79 (0, 0))
  own : w.ownsRow base 82 5 v L.length (rcells L)
  bs : base ≤ w.heap.size
  f : Fine P L
section
variable {w w' : World} {base s P : Nat} {v : Value} {L : List Srv}
theorem Rep.lt (h : Rep w base s P v L) : s < w.heap.size := (Array.getElem?_eq_some_iff.1 h.blk).1
theorem Rep.ne (h : Rep w base s P v L) : v.ownBlock ≠ some s := by
  intro q
  obtain ⟨_, _, cur, e⟩ := ownsRow_blk h.own q
  rw [h.blk] at e
  simp at e
theorem Rep.c0 (h : Rep w base s P v L) : w.cell? ⟨s, 0, none⟩ = some (.int .i64 (P : Int)) := by unfold World.cell?; simp [h.blk]
theorem Rep.c1 (h : Rep w base s P v L) : w.cell? ⟨s, 1, none⟩ = some v := by unfold World.cell?; simp [h.blk]
theorem Rep.f1 (h : Rep w base s P v L) : w.frozen? ⟨s, 1, none⟩ = false := by unfold World.frozen?; simp [h.blk]
theorem Rep.form (h : Rep w base s P v L) : ∃ a cap, v = .slice a L.length cap ∧ L.length ≤ cap ∧ cap ≤ maxLen := by
  rcases h.own.2 with ⟨e, e0⟩ | ⟨g, cap, cur, e, _, _, h1, h2, _⟩
  · exact ⟨none, 0, by rw [e, e0], by omega, by simp [maxLen]⟩
  · exact ⟨_, cap, e, h1, h2⟩
theorem Rep.cells (h : Rep w base s P v L) (hL : 0 < L.length) : ∃ g cap, v = .slice (some ⟨g, 0, none⟩) L.length cap ∧ L.length ≤ cap ∧ cap ≤ maxLen ∧ g < w.heap.size ∧ g ≠ s ∧ (∀ k, w.frozen? ⟨g, k, none⟩ = false) ∧
    (∀ j x, L[j]? = some x → w.cell? ⟨g, j * 5, none⟩ = some (.int .u64 (x.b : Int)) ∧ w.cell? ⟨g, j * 5 + 1, none⟩ = some (.int .u64 (x.p : Int)) ∧ w.cell? ⟨g, j * 5 + 2, none⟩ = some (.int .u64 (x.l : Int)) ∧ w.cell? ⟨g, j * 5 + 3, none⟩ = some (.int .u64 (x.d : Int)) ∧ w.cell? ⟨g, j * 5 + 4, none⟩ = some (.bool (x.d == 0))) := by
  have hne := h.ne
  rcases h.own.2 with ⟨e, e0⟩ | ⟨g, cap, cur, e, h0, hg, h1, h2, _⟩
  · omega
  · have hown := h.own
    subst e
    refine ⟨g, cap, rfl, h1, h2, (Array.getElem?_eq_some_iff.1 hg).1, fun q => hne (by rw [q]; rfl), frozen_row hown, fun j x hj => ?_⟩
    have hjl : j < L.length := (List.getElem?_eq_some_iff.1 hj).1
    rw [hown.cellAt (j * 5) (by omega), hown.cellAt (j * 5 + 1) (by omega), hown.cellAt (j * 5 + 2) (by omega), hown.cellAt (j * 5 + 3) (by omega), hown.cellAt (j * 5 + 4) (by omega)]
    exact rcells_at L j x hj
theorem Rep.kept (h : Rep w base s P v L) (h0 : w.heap.size ≤ w'.heap.size) (h1 : w'.heap[s]? = w.heap[s]?) (h2 : ∀ k, v.ownBlock = some k → w'.heap[k]? = w.heap[k]?) : Rep w' base s P v L :=
  ⟨h1.trans h.blk, ownsRow_far h.own h2, Nat.le_trans h.bs h0, h.f⟩
theorem Rep.frame {S : Nat → Prop} (h : Rep w base s P v L) (hf : Fr S w w') (h1 : ¬ S s) (h2 : ∀ k, v.ownBlock = some k → ¬ S k) : Rep w' base s P v L :=
  h.kept hf.size (hf.block s h.lt h1) (fun k hk => hf.block k (ownsRow_blk h.own hk).2.1 (h2 k hk))
theorem Rep.below (h : Rep w base s P v L) (hf : Below w.heap.size w w') : Rep w' base s P v L :=
  h.frame (Fr.of_below' (S := fun _ => False) hf) id (fun _ _ => id)
theorem Rep.like (h : Rep w base s P v L) (a : w'.heap = w.heap) : Rep w' base s P v L := h.kept (by rw [a]; exact Nat.le_refl _) (by rw [a]) (fun k _ => by rw [a])
/-- The slice anew: one more. -/
theorem Rep.stored {v' : Value} {L' : List Srv} (hb : w.heap[s]? = some (.cells #[.int .i64 (P : Int), v] 79 (0, 0)))
    (hown : w.ownsRow base 82 5 v' L'.length (rcells L')) (hbs : base ≤ w.heap.size) (hf : Fine P L') : Rep (w.setCell ⟨s, 1, none⟩ v') base s P v' L' := by
  have hne : v'.ownBlock ≠ some s := by
    intro q
    obtain ⟨_, _, cur, e⟩ := ownsRow_blk hown q
    rw [hb] at e
    simp at e
  exact ⟨Go.Joins.block_setCell hb v', ownsRow_setCell_other hown hne v', by simpa using hbs, hf⟩
end
end Go.Proofs.Ytblickncecpajaa
