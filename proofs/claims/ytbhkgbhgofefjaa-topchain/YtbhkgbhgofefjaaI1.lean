/-
  The locks' model: keys, holders, lines; no circle; a thread's key. How the program's graph lies in memory.
-/
import Derived.Test.YtbhkgbhgofefjaaMk
import Derived.Laws.OwnMore
import Derived.Maps.AppendAt
import Derived.Deep.AppendLies
import Derived.OneCell
namespace Go.Proofs.Ytbhkgbhgofefjaa
open Go.RowKit Go.Lib
set_option linter.unusedVariables false

/-- A frame: blocks that were there and do not belong to S are as they were. -/
structure Fr (S : Nat → Prop) (w w' : World) : Prop where
  os : w'.os = w.os
  tape : w'.tape = w.tape
  output : w'.output = w.output
  size : w.heap.size ≤ w'.heap.size
  block : ∀ k, k < w.heap.size → ¬ S k → w'.heap[k]? = w.heap[k]?
section
variable {S S' : Nat → Prop} {w w' w'' : World}
theorem Fr.refl (S : Nat → Prop) (w : World) : Fr S w w := ⟨rfl, rfl, rfl, Nat.le_refl _, fun _ _ _ => rfl⟩
theorem Fr.wide (h : Fr S w w') (hs : ∀ k, k < w.heap.size → S k → S' k) : Fr S' w w' := ⟨h.os, h.tape, h.output, h.size, fun k hk hn => h.block k hk (fun q => hn (hs k hk q))⟩
theorem Fr.trans (h : Fr S w w') (h' : Fr S w' w'') : Fr S w w'' :=
  ⟨h'.os.trans h.os, h'.tape.trans h.tape, h'.output.trans h.output, Nat.le_trans h.size h'.size, fun k hk hn => (h'.block k (Nat.lt_of_lt_of_le hk h.size) hn).trans (h.block k hk hn)⟩
theorem Fr.alloc (h : Fr S w w') (o : Obj) : Fr S w (w'.alloc o) :=
  ⟨h.os, h.tape, h.output, Nat.le_trans h.size (by simp), fun k hk hn => (Below.heap_alloc _ _ _ (Nat.lt_of_lt_of_le hk h.size)).trans (h.block k hk hn)⟩
theorem Fr.setCell (h : Fr S w w') {a : Addr} (hb : S a.block) (u : Value) : Fr S w (w'.setCell a u) :=
  ⟨h.os, h.tape, h.output, by simpa using h.size, fun k hk hn => (Below.heap_setCell _ _ _ _ (fun e => hn (by rw [e]; exact hb))).trans (h.block k hk hn)⟩
theorem Fr.cell (h : Fr S w w') {a : Addr} (hk : a.block < w.heap.size) (hn : ¬ S a.block) : w'.cell? a = w.cell? a := World.cell?_of_block (h.block _ hk hn)
theorem Fr.of_below' (h : Below w.heap.size w w') : Fr S w w' := ⟨h.os, h.tape, h.output, h.size, fun k hk _ => h.block k hk⟩
theorem Fr.below {B : Nat} (h : Fr S w w') (hb : B ≤ w.heap.size) (hs : ∀ k, S k → B ≤ k) : Below B w w' := ⟨h.os, h.tape, h.output, h.size, fun k hk => h.block k (by omega) (fun q => by have := hs k q; omega)⟩
theorem Fr.of_grown {row : Option Nat} (h : w.grownBy w' row) : Fr (fun k => some k = row) w w' := ⟨h.os, h.tape, h.output, h.size, h.block⟩
end

theorem ownsRow_set {w : World} {base : Nat} {e : TypeId} {size g n cap : Nat} {xs : List Value} (h : w.ownsRow base e size (.slice (some ⟨g, 0, none⟩) n cap) n xs) (k : Nat) (hk : k < n * size) (u : Value) :
    (w.setCell ⟨g, k, none⟩ u).ownsRow base e size (.slice (some ⟨g, 0, none⟩) n cap) n (xs.set k u) := by
  refine ⟨by simpa using h.1, ?_⟩
  rcases h.2 with ⟨e1, _⟩ | ⟨g', cap', cur, e1, h0, h1, h2, h3, h4, h5⟩
  · simp at e1
  · simp at e1
    obtain ⟨rfl, rfl⟩ := e1
    refine .inr ⟨g, cap, cur.setIfInBounds k u, rfl, h0, ?_, h2, h3, by simpa using h4, ?_⟩
    · exact Go.Joins.block_setCell h1 u
    · rw [← h5]
      simp [List.take_set]
theorem frozen_row {w : World} {base : Nat} {e : TypeId} {size g n cap : Nat} {xs : List Value} (h : w.ownsRow base e size (.slice (some ⟨g, 0, none⟩) n cap) n xs) (k : Nat) : w.frozen? ⟨g, k, none⟩ = false := by
  rcases h.2 with ⟨e1, _⟩ | ⟨g', cap', cur, e1, h0, h1, h2, h3, h4, h5⟩
  · simp at e1
  · simp at e1
    obtain ⟨rfl, rfl⟩ := e1
    unfold World.frozen?
    simp [h1]
theorem ownsRow_far {w : World} {base : Nat} {e : TypeId} {size : Nat} {v : Value} {n : Nat} {xs : List Value} (h : w.ownsRow base e size v n xs) {w' : World} (hh : ∀ k, v.ownBlock = some k → w'.heap[k]? = w.heap[k]?) : w'.ownsRow base e size v n xs := by
  refine ⟨h.1, ?_⟩
  rcases h.2 with hn | ⟨g, cap, cur, rfl, hb, hgg, rest⟩
  · exact .inl hn
  · exact .inr ⟨g, cap, cur, rfl, hb, (hh g rfl).trans hgg, rest⟩
theorem ownsRow_blk {w : World} {base : Nat} {e : TypeId} {size : Nat} {v : Value} {n : Nat} {xs : List Value} (h : w.ownsRow base e size v n xs) {k : Nat} (hk : v.ownBlock = some k) : base ≤ k ∧ k < w.heap.size ∧ ∃ cur, w.heap[k]? = some (.cells cur e (0, 0)) := by
  rcases h.2 with ⟨rfl, _⟩ | ⟨g, cap, cur, rfl, hb, hgg, rest⟩
  · simp [Value.ownBlock] at hk
  · simp [Value.ownBlock] at hk
    subst hk
    exact ⟨hb, (Array.getElem?_eq_some_iff.1 hgg).1, cur, hgg⟩

/-- A thread: its own key, the lock that it waits for (-1: none). -/
structure Th where
  k : K
  u : Int
/-- A lock: its holder (-1: nobody), those that wait, as they came. -/
structure Lk where
  h : Int
  l : List Nat
def Th.ok (n : Nat) (x : Th) : Prop := x.k.ok ∧ -1 ≤ x.u ∧ x.u < n
def Lk.ok (n : Nat) (x : Lk) : Prop := -1 ≤ x.h ∧ x.h < n ∧ (∀ t ∈ x.l, t < n) ∧ x.l.Nodup ∧ (x.l ≠ [] → 0 ≤ x.h)
/-- t waits for a lock that s holds. -/
def Edge (L : List Lk) (t s : Nat) : Prop := ∃ y ∈ L, t ∈ y.l ∧ y.h = (s : Int)
/-- No circle: who waits stands lower than who holds. -/
def Acyc (L : List Lk) : Prop := ∃ (B : Nat) (r : Nat → Nat), (∀ x, r x ≤ B) ∧ ∀ t s, Edge L t s → r t < r s
structure Fine (T : List Th) (L : List Lk) : Prop where
  t1 : 1 ≤ T.length
  t2 : T.length ≤ 1024
  l2 : L.length ≤ 32
  th : ∀ x ∈ T, x.ok L.length
  lk : ∀ y ∈ L, y.ok T.length
  /-- Who waits stands in that line and in no other. -/
  wt : ∀ (t : Nat) x, T[t]? = some x → ∀ (m : Nat) y, L[m]? = some y → (t ∈ y.l ↔ x.u = (m : Int))
  ac : Acyc L
/-- Those behind a thread, in the order in which they are asked. -/
def behind (L : List Lk) (t : Nat) : List Nat := (L.filter (fun y => y.h == (t : Int))).flatMap (·.l)
theorem mem_behind {L : List Lk} {t s : Nat} : s ∈ behind L t ↔ Edge L s t := by
  unfold behind Edge
  simp only [List.mem_flatMap, List.mem_filter, beq_iff_eq]
  constructor
  · rintro ⟨y, ⟨h1, h2⟩, h3⟩
    exact ⟨y, h1, h3, h2⟩
  · rintro ⟨y, h1, h3, h2⟩
    exact ⟨y, ⟨h1, h2⟩, h3⟩
def ownK (T : List Th) (t : Nat) : K := (T[t]?.map (·.k)).getD (fixK 0)
/-- A thread's key, asked n threads far. -/
def kf (T : List Th) (L : List Lk) : Nat → Nat → K
  | 0, t => ownK T t
  | n + 1, t => (behind L t).foldl (fun k x => maxK k (kf T L n x)) (ownK T t)
theorem foldl_same {α β : Type} {f g : β → α → β} : ∀ (l : List α) (b : β), (∀ x ∈ l, ∀ b, f b x = g b x) → l.foldl f b = l.foldl g b
  | [], b, _ => rfl
  | x :: l, b, h => by
    rw [List.foldl_cons, List.foldl_cons, h x (by simp)]
    exact foldl_same l _ (fun y hy => h y (by simp [hy]))
/-- Farther than its rank there is nobody to ask. -/
theorem kf_stays {T : List Th} {L : List Lk} {r : Nat → Nat} (h : ∀ t s, Edge L t s → r t < r s) : ∀ (n : Nat) (t : Nat), r t ≤ n → ∀ m, r t ≤ m → kf T L n t = kf T L m t := by
  intro n
  induction n with
  | zero =>
    intro t hn m _
    cases m with
    | zero => rfl
    | succ m =>
      have e : behind L t = [] := by
        rw [List.eq_nil_iff_forall_not_mem]
        intro x hx
        have := h x t (mem_behind.1 hx)
        omega
      unfold kf
      rw [e]
      rfl
  | succ n ih =>
    intro t hn m hm
    cases m with
    | zero =>
      have e : behind L t = [] := by
        rw [List.eq_nil_iff_forall_not_mem]
        intro x hx
        have := h x t (mem_behind.1 hx)
        omega
      unfold kf
      rw [e]
      rfl
    | succ m =>
      show (behind L t).foldl (fun k x => maxK k (kf T L n x)) (ownK T t) = (behind L t).foldl (fun k x => maxK k (kf T L m x)) (ownK T t)
      refine foldl_same _ _ ?_
      intro x hx b
      have := h x t (mem_behind.1 hx)
      rw [ih x (by omega) m (by omega)]
open Classical in
/-- A thread's key: the most urgent of its own and of all that wait. -/
noncomputable def keyOf (T : List Th) (L : List Lk) (t : Nat) : K := if h : Acyc L then kf T L h.choose t else fixK 0
theorem keyOf_eq {T : List Th} {L : List Lk} (h : Acyc L) (t : Nat) : keyOf T L t = (behind L t).foldl (fun k x => maxK k (keyOf T L x)) (ownK T t) := by
  obtain ⟨r, hb, hr⟩ := h.choose_spec
  unfold keyOf
  simp only [h, dite_true]
  rw [kf_stays hr h.choose t (hb t) (h.choose + 1) (by have := hb t; omega)]
  rfl
/-- One more waits: no circle, where the holder does not wait for it, through whatever locks. -/
inductive Leads (L : List Lk) : Nat → Nat → Prop
  | here (t) : Leads L t t
  | on {t s v} : Edge L t s → Leads L s v → Leads L t v
theorem Leads.snoc {L : List Lk} {t s v : Nat} (h : Leads L t s) (e : Edge L s v) : Leads L t v := by
  induction h with
  | here t => exact .on e (.here _)
  | on e1 _ ih => exact .on e1 (ih e)
open Classical in
theorem Acyc.more {L L' : List Lk} {t s : Nat} (h : Acyc L) (hn : ¬ Leads L s t) (hE : ∀ a b, Edge L' a b → Edge L a b ∨ a = t ∧ b = s) : Acyc L' := by
  obtain ⟨B, r, hb, hr⟩ := h
  refine ⟨B + B + 1, fun x => if Leads L s x then r x + r t + 1 else r x, fun x => ?_, fun a b e => ?_⟩
  · have h1 := hb x
    have h2 := hb t
    show (if Leads L s x then r x + r t + 1 else r x) ≤ B + B + 1
    split <;> omega
  · show (if Leads L s a then r a + r t + 1 else r a) < (if Leads L s b then r b + r t + 1 else r b)
    rcases hE a b e with q | ⟨rfl, rfl⟩
    · have h1 := hr a b q
      by_cases ha : Leads L s a
      · rw [if_pos ha, if_pos (ha.snoc q)]
        omega
      · rw [if_neg ha]
        split <;> omega
    · rw [if_neg hn, if_pos (.here _)]
      omega
theorem Acyc.less {L L' : List Lk} (h : Acyc L) (hE : ∀ a b, Edge L' a b → Edge L a b) : Acyc L' := by
  obtain ⟨B, r, hb, hr⟩ := h
  exact ⟨B, r, hb, fun a b e => hr a b (hE a b e)⟩

/-! The program's graph. -/
def tone (x : Th) : List Value := [.bool x.k.e, .int .u64 x.k.d, .int .u8 x.k.l, .int .i64 x.u]
def tcells (T : List Th) : List Value := T.flatMap tone
theorem tcells_cons (x : Th) (T : List Th) : tcells (x :: T) = tone x ++ tcells T := rfl
theorem tcells_length : ∀ T, (tcells T).length = T.length * 4
  | [] => rfl
  | x :: T => by rw [tcells_cons]; simp [tone, tcells_length T]; omega
theorem tcells_at : ∀ (T : List Th) (i : Nat) (x : Th), T[i]? = some x → (tcells T)[i * 4]? = some (.bool x.k.e) ∧ (tcells T)[i * 4 + 1]? = some (.int .u64 x.k.d) ∧ (tcells T)[i * 4 + 2]? = some (.int .u8 x.k.l) ∧ (tcells T)[i * 4 + 3]? = some (.int .i64 x.u)
  | [], i, x, h => by simp at h
  | y :: T, 0, x, h => by
    simp at h
    subst h
    exact ⟨rfl, rfl, rfl, rfl⟩
  | y :: T, i + 1, x, h => by
    have := tcells_at T i x (by simpa using h)
    rw [tcells_cons, show (i + 1) * 4 = i * 4 + 4 by omega]
    exact this
theorem tcells_set : ∀ (T : List Th) (i : Nat) (x : Th), i < T.length → tcells (T.set i x) = ((((tcells T).set (i * 4) (.bool x.k.e)).set (i * 4 + 1) (.int .u64 x.k.d)).set (i * 4 + 2) (.int .u8 x.k.l)).set (i * 4 + 3) (.int .i64 x.u)
  | [], i, x, h => by simp at h
  | y :: T, 0, x, h => by simp [tcells_cons, tone]
  | y :: T, i + 1, x, h => by
    have := tcells_set T i x (by simpa using h)
    rw [List.set_cons_succ, tcells_cons, this, tcells_cons, show (i + 1) * 4 = i * 4 + 4 by omega]
    rfl
/-- Locks' cells: holders and lines' slices. -/
def lcells (Z : List (Int × Value)) : List Value := Z.flatMap (fun z => [.int .i64 z.1, z.2])
theorem lcells_cons (z : Int × Value) (Z : List (Int × Value)) : lcells (z :: Z) = [.int .i64 z.1, z.2] ++ lcells Z := rfl
theorem lcells_at : ∀ (Z : List (Int × Value)) (i : Nat) (z : Int × Value), Z[i]? = some z → (lcells Z)[i * 2]? = some (.int .i64 z.1) ∧ (lcells Z)[i * 2 + 1]? = some z.2
  | [], i, x, h => by simp at h
  | y :: Z, 0, x, h => by
    simp at h
    subst h
    exact ⟨rfl, rfl⟩
  | y :: Z, i + 1, x, h => by
    have := lcells_at Z i x (by simpa using h)
    rw [lcells_cons, show (i + 1) * 2 = i * 2 + 2 by omega]
    exact this
theorem lcells_set : ∀ (Z : List (Int × Value)) (i : Nat) (z : Int × Value), i < Z.length → lcells (Z.set i z) = ((lcells Z).set (i * 2) (.int .i64 z.1)).set (i * 2 + 1) z.2
  | [], i, x, h => by simp at h
  | y :: Z, 0, x, h => by simp [lcells_cons]
  | y :: Z, i + 1, x, h => by
    have := lcells_set Z i x (by simpa using h)
    rw [List.set_cons_succ, lcells_cons, this, lcells_cons, show (i + 1) * 2 = i * 2 + 2 by omega]
    rfl
def ints (l : List Nat) : List Value := l.map (fun (t : Nat) => .int .i64 (t : Int))
/-- The graph at s: threads at vt, locks at vl, the lines' slices Z. -/
structure IsG (w : World) (base s : Nat) (vt vl : Value) (V : List Value) (T : List Th) (L : List Lk) : Prop where
  blk : w.heap[s]? = some (.cells #[vt, vl] 72 (0, 0))
  lo : base ≤ s
  tho : w.ownsRow base 75 4 vt T.length (tcells T)
  lko : w.ownsRow base 68 2 vl L.length (lcells ((L.map (·.h)).zip V))
  vs : V.length = L.length
  lin : ∀ (j : Nat) y v, L[j]? = some y → V[j]? = some v → w.ownsRow base 3 1 v y.l.length (ints y.l)
  apart : ∀ (i j : Nat) u v k, V[i]? = some u → V[j]? = some v → u.ownBlock = some k → v.ownBlock = some k → i = j
  bs : base ≤ w.heap.size
  f : Fine T L
/-- The graph's blocks. -/
def own (s : Nat) (vt vl : Value) (V : List Value) (k : Nat) : Prop := k = s ∨ vt.ownBlock = some k ∨ vl.ownBlock = some k ∨ ∃ v ∈ V, v.ownBlock = some k
section
variable {w w' : World} {base s : Nat} {vt vl : Value} {V : List Value} {T : List Th} {L : List Lk}
theorem IsG.lt (h : IsG w base s vt vl V T L) : s < w.heap.size := (Array.getElem?_eq_some_iff.1 h.blk).1
theorem IsG.own_lt (h : IsG w base s vt vl V T L) {k : Nat} (hk : own s vt vl V k) : k < w.heap.size := by
  rcases hk with rfl | q | q | ⟨v, hv, q⟩
  · exact h.lt
  · exact (ownsRow_blk h.tho q).2.1
  · exact (ownsRow_blk h.lko q).2.1
  · obtain ⟨j, hj⟩ := List.mem_iff_getElem?.1 hv
    have hjl := (List.getElem?_eq_some_iff.1 hj).1
    rw [h.vs] at hjl
    exact (ownsRow_blk (h.lin j _ v (List.getElem?_eq_getElem hjl) hj) q).2.1
theorem IsG.kept (h : IsG w base s vt vl V T L) (h0 : w.heap.size ≤ w'.heap.size) (h1 : ∀ k, own s vt vl V k → w'.heap[k]? = w.heap[k]?) : IsG w' base s vt vl V T L :=
  ⟨(h1 s (.inl rfl)).trans h.blk, h.lo, ownsRow_far h.tho (fun k hk => h1 k (.inr (.inl hk))), ownsRow_far h.lko (fun k hk => h1 k (.inr (.inr (.inl hk)))), h.vs,
    fun j y v hy hv => ownsRow_far (h.lin j y v hy hv) (fun k hk => h1 k (.inr (.inr (.inr ⟨v, List.mem_of_getElem? hv, hk⟩)))), h.apart, Nat.le_trans h.bs h0, h.f⟩
theorem IsG.frame {S : Nat → Prop} (h : IsG w base s vt vl V T L) (hf : Fr S w w') (h1 : ∀ k, own s vt vl V k → ¬ S k) : IsG w' base s vt vl V T L :=
  h.kept hf.size (fun k hk => hf.block k (h.own_lt hk) (h1 k hk))
theorem IsG.below (h : IsG w base s vt vl V T L) (hf : Below w.heap.size w w') : IsG w' base s vt vl V T L :=
  h.frame (Fr.of_below' (S := fun _ => False) hf) (fun _ _ => id)
theorem IsG.c0 (h : IsG w base s vt vl V T L) : w.cell? ⟨s, 0, none⟩ = some vt := by unfold World.cell?; simp [h.blk]
theorem IsG.c1 (h : IsG w base s vt vl V T L) : w.cell? ⟨s, 1, none⟩ = some vl := by unfold World.cell?; simp [h.blk]
theorem form_of {e : TypeId} {size n : Nat} {v : Value} {xs : List Value} (h : w.ownsRow base e size v n xs) : ∃ a cap, v = .slice a n cap ∧ n ≤ cap ∧ cap ≤ maxLen := by
  rcases h.2 with ⟨e, e0⟩ | ⟨g, cap, cur, e, _, _, h1, h2, _⟩
  · exact ⟨none, 0, by rw [e, e0], by omega, by simp [maxLen]⟩
  · exact ⟨_, cap, e, h1, h2⟩
theorem IsG.tform (h : IsG w base s vt vl V T L) : ∃ g cap, vt = .slice (some ⟨g, 0, none⟩) T.length cap ∧ T.length ≤ cap ∧ cap ≤ maxLen ∧ g < w.heap.size ∧ g ≠ s ∧ (∀ k, w.frozen? ⟨g, k, none⟩ = false) ∧
    (∀ j x, T[j]? = some x → w.cell? ⟨g, j * 4, none⟩ = some (.bool x.k.e) ∧ w.cell? ⟨g, j * 4 + 1, none⟩ = some (.int .u64 x.k.d) ∧ w.cell? ⟨g, j * 4 + 2, none⟩ = some (.int .u8 x.k.l) ∧ w.cell? ⟨g, j * 4 + 3, none⟩ = some (.int .i64 x.u)) := by
  have ht := h.f.t1
  have hown := h.tho
  rcases h.tho.2 with ⟨e, e0⟩ | ⟨g, cap, cur, e, h0, hg, h1, h2, _⟩
  · omega
  · subst e
    refine ⟨g, cap, rfl, h1, h2, (Array.getElem?_eq_some_iff.1 hg).1, fun q => ?_, frozen_row hown, fun j x hj => ?_⟩
    · subst q
      rw [h.blk] at hg
      simp at hg
    · have hjl : j < T.length := (List.getElem?_eq_some_iff.1 hj).1
      rw [hown.cellAt (j * 4) (by omega), hown.cellAt (j * 4 + 1) (by omega), hown.cellAt (j * 4 + 2) (by omega), hown.cellAt (j * 4 + 3) (by omega)]
      exact tcells_at T j x hj
theorem IsG.lform (h : IsG w base s vt vl V T L) (hL : 0 < L.length) : ∃ g cap, vl = .slice (some ⟨g, 0, none⟩) L.length cap ∧ L.length ≤ cap ∧ cap ≤ maxLen ∧ g < w.heap.size ∧ g ≠ s ∧ (∀ k, w.frozen? ⟨g, k, none⟩ = false) ∧
    (∀ (j : Nat) y v, L[j]? = some y → V[j]? = some v → w.cell? ⟨g, j * 2, none⟩ = some (.int .i64 y.h) ∧ w.cell? ⟨g, j * 2 + 1, none⟩ = some v) := by
  have hown := h.lko
  rcases h.lko.2 with ⟨e, e0⟩ | ⟨g, cap, cur, e, h0, hg, h1, h2, _⟩
  · omega
  · subst e
    refine ⟨g, cap, rfl, h1, h2, (Array.getElem?_eq_some_iff.1 hg).1, fun q => ?_, frozen_row hown, fun j y v hj hv => ?_⟩
    · subst q
      rw [h.blk] at hg
      simp at hg
    · have hjl : j < L.length := (List.getElem?_eq_some_iff.1 hj).1
      rw [hown.cellAt (j * 2) (by omega), hown.cellAt (j * 2 + 1) (by omega)]
      have e : ((L.map (·.h)).zip V)[j]? = some (y.h, v) := by rw [List.getElem?_zip_eq_some]; simp [hj, hv]
      exact lcells_at _ j (y.h, v) e
end
end Go.Proofs.Ytbhkgbhgofefjaa
