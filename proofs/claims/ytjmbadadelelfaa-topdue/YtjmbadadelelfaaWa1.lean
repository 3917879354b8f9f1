/- The wheel's model: items in the order of their times, as they were set; what is due at a time; lists of spots that are linked both ways. -/
import Derived.Test.YtjmbadadelelfaaV1
namespace Go.Proofs.Ytjmbadadelelfaa
set_option linter.unusedVariables false
set_option linter.unusedSimpArgs false
/-- An id, and its time. -/
structure It where
  i : Nat
  t : Nat
/-- In the order of times. -/
def Srt (S : List It) : Prop := S.Pairwise (fun a c => a.t ≤ c.t)
/-- One more, behind all whose time is not above its own. -/
def ins (x : It) (S : List It) : List It := S.filter (fun y => decide (y.t ≤ x.t)) ++ x :: S.filter (fun y => !decide (y.t ≤ x.t))
/-- The time at which one is due, from now on. -/
def ky (nw : Nat) (x : It) : Nat := max x.t nw
/-- Those that are due at a time. -/
def grp (nw : Nat) (S : List It) (k : Nat) : List It := S.filter (fun x => ky nw x == k)
/-- All without an id. -/
def rem (i : Nat) (S : List It) : List It := S.filter (fun x => !(x.i == i))
/-- What is due, and what is left. -/
def due (to : Nat) (S : List It) : List It := S.filter (fun x => decide (x.t ≤ to))
def late (to : Nat) (S : List It) : List It := S.filter (fun x => !decide (x.t ≤ to))
def spots (S : List It) : List Nat := S.map (fun x => x.i + 1)
section
variable {S : List It} {x : It} {p : It → Bool}
theorem Srt.filter (h : Srt S) (q : It → Bool) : Srt (S.filter q) := List.Pairwise.filter q h
theorem split_down : ∀ {S : List It}, Srt S → (∀ a c : It, a.t ≤ c.t → p c = true → p a = true) → S.filter p ++ S.filter (fun y => !p y) = S
  | [], _, _ => rfl
  | a :: S, h, hp => by
    obtain ⟨h1, h2⟩ := List.pairwise_cons.1 h
    cases hq : p a with
    | true => simp [hq, split_down h2 hp]
    | false =>
      have e : ∀ y ∈ S, p y = false := fun y hy => by
        cases hz : p y with
        | false => rfl
        | true => rw [hp a y (h1 y hy) hz] at hq; cases hq
      have e1 : S.filter p = [] := List.filter_eq_nil_iff.2 (fun y hy => by rw [e y hy]; simp)
      have e2 : S.filter (fun y => !p y) = S := List.filter_eq_self.2 (fun y hy => by rw [e y hy]; rfl)
      simp [hq, e1, e2]
theorem split_at (h : Srt S) (a : Nat) : S.filter (fun y => decide (y.t ≤ a)) ++ S.filter (fun y => !decide (y.t ≤ a)) = S :=
  split_down h (fun c d hcd hd => by simp at hd ⊢; omega)
theorem due_late (h : Srt S) (to : Nat) : due to S ++ late to S = S := split_at h to
theorem Srt.ins (h : Srt S) (x : It) : Srt (ins x S) := by
  refine List.pairwise_append.2 ⟨h.filter _, List.pairwise_cons.2 ⟨fun y hy => ?_, h.filter _⟩, fun a ha c hc => ?_⟩
  · have := (List.mem_filter.1 hy).2
    simp at this
    omega
  · have h1 := (List.mem_filter.1 ha).2
    simp at h1
    rcases List.mem_cons.1 hc with rfl | hc
    · exact h1
    · have h2 := (List.mem_filter.1 hc).2
      simp at h2
      omega
theorem mem_ins {y : It} : y ∈ Go.Proofs.Ytjmbadadelelfaa.ins x S ↔ y = x ∨ y ∈ S := by
  unfold Go.Proofs.Ytjmbadadelelfaa.ins
  rw [List.mem_append, List.mem_cons, List.mem_filter, List.mem_filter]
  constructor
  · rintro (⟨h, _⟩ | h | ⟨h, _⟩)
    · exact .inr h
    · exact .inl h
    · exact .inr h
  · rintro (h | h)
    · exact .inr (.inl h)
    · cases hd : decide (y.t ≤ x.t)
      · exact .inr (.inr ⟨h, by simp⟩)
      · exact .inl ⟨h, rfl⟩
theorem ins_perm (h : Srt S) : (Go.Proofs.Ytjmbadadelelfaa.ins x S).Perm (x :: S) := by
  have e : Go.Proofs.Ytjmbadadelelfaa.ins x S = S.filter (fun y => decide (y.t ≤ x.t)) ++ x :: S.filter (fun y => !decide (y.t ≤ x.t)) := rfl
  rw [e]
  refine List.perm_middle.trans ?_
  rw [split_at h]
theorem ins_length (h : Srt S) : (Go.Proofs.Ytjmbadadelelfaa.ins x S).length = S.length + 1 := by rw [(ins_perm h).length_eq]; rfl
theorem filter_ins (h : Srt S) (q : It → Bool) : (Go.Proofs.Ytjmbadadelelfaa.ins x S).filter q = if q x then Go.Proofs.Ytjmbadadelelfaa.ins x (S.filter q) else S.filter q := by
  have e : Go.Proofs.Ytjmbadadelelfaa.ins x S = S.filter (fun y => decide (y.t ≤ x.t)) ++ x :: S.filter (fun y => !decide (y.t ≤ x.t)) := rfl
  have e' : Go.Proofs.Ytjmbadadelelfaa.ins x (S.filter q) = (S.filter q).filter (fun y => decide (y.t ≤ x.t)) ++ x :: (S.filter q).filter (fun y => !decide (y.t ≤ x.t)) := rfl
  have c1 : ∀ (a b : It → Bool), (S.filter a).filter b = (S.filter b).filter a := fun a b => by
    rw [List.filter_filter, List.filter_filter]
    congr 1
    funext y
    exact Bool.and_comm _ _
  rw [e, e', List.filter_append, c1 _ q, List.filter_cons, c1 _ q]
  by_cases hq : q x = true
  · rw [if_pos hq, if_pos hq]
  · rw [if_neg hq, if_neg hq]
    exact split_at (h.filter q) _
theorem grp_ins (h : Srt S) (nw k : Nat) : grp nw (Go.Proofs.Ytjmbadadelelfaa.ins x S) k = if ky nw x = k then Go.Proofs.Ytjmbadadelelfaa.ins x (grp nw S k) else grp nw S k := by
  unfold grp
  rw [filter_ins h]
  simp
theorem grp_rem (nw k i : Nat) : grp nw (rem i S) k = rem i (grp nw S k) := by
  unfold grp rem
  rw [List.filter_filter, List.filter_filter]
  congr 1
  funext y
  exact Bool.and_comm _ _
/-- Those of some times in a row. -/
def upTo (nw : Nat) (S : List It) (lo : Nat) : Nat → List It
  | 0 => []
  | m + 1 => upTo nw S lo m ++ grp nw S (lo + m)
theorem upTo_eq (h : Srt S) (nw lo m : Nat) : upTo nw S lo m = S.filter (fun x => decide (lo ≤ ky nw x) && decide (ky nw x < lo + m)) := by
  induction m with
  | zero =>
    unfold upTo
    symm
    rw [List.filter_eq_nil_iff]
    intro a ha
    simp
  | succ m ih =>
    unfold upTo
    rw [ih]
    have hs := split_down (p := fun x => decide (ky nw x < lo + m)) (h.filter (fun x => decide (lo ≤ ky nw x) && decide (ky nw x < lo + (m + 1)))) (fun a c hac hc => decide_eq_true (by have hc := of_decide_eq_true hc; unfold ky at *; omega))
    rw [← hs, List.filter_filter, List.filter_filter]
    congr 1
    · congr 1
      funext y
      rw [Bool.eq_iff_iff]
      simp
      omega
    · unfold grp
      congr 1
      funext y
      rw [Bool.eq_iff_iff]
      simp
      omega
/-- Those of some times, one behind the other. -/
def many (nw : Nat) (S : List It) (ts : List Nat) : List It := ts.flatMap (grp nw S)
theorem many_eq (h : Srt S) (nw : Nat) : ∀ (ts : List Nat), ts.Pairwise (· < ·) → many nw S ts = S.filter (fun x => decide (ky nw x ∈ ts))
  | [], _ => by
    symm
    rw [show many nw S [] = [] from rfl, List.filter_eq_nil_iff]
    intro a ha
    simp
  | t :: ts, hp => by
    obtain ⟨h1, h2⟩ := List.pairwise_cons.1 hp
    have e : many nw S (t :: ts) = grp nw S t ++ many nw S ts := rfl
    rw [e, many_eq h nw ts h2]
    have hs := split_down (p := fun x => decide (ky nw x ≤ t)) (h.filter (fun x => decide (ky nw x ∈ t :: ts))) (fun a c hac hc => decide_eq_true (by have hc := of_decide_eq_true hc; unfold ky at *; omega))
    rw [← hs, List.filter_filter, List.filter_filter]
    congr 1
    · unfold grp
      congr 1
      funext y
      rw [Bool.eq_iff_iff]
      simp
      constructor
      · rintro rfl; exact ⟨Nat.le_refl _, .inl rfl⟩
      · rintro ⟨q1, q2 | q2⟩
        · exact q2
        · have := h1 _ q2; omega
    · congr 1
      funext y
      rw [Bool.eq_iff_iff]
      simp
      constructor
      · intro q; have := h1 _ q; exact ⟨by omega, .inr q⟩
      · rintro ⟨q1, q2 | q2⟩
        · omega
        · exact q2
theorem spots_len (S : List It) : (spots S).length = S.length := by simp [spots]
theorem spots_append (S T : List It) : spots (S ++ T) = spots S ++ spots T := by simp [spots]
theorem mem_spots {q : Nat} : q ∈ spots S ↔ ∃ y ∈ S, y.i + 1 = q := by simp [spots]
theorem spots_ne0 : ∀ q ∈ spots S, q ≠ 0 := fun q hq => by obtain ⟨y, _, rfl⟩ := mem_spots.1 hq; omega
end
/-! Lists of spots. -/
/-- Spots that are linked, between p and q. -/
def Seg (A B : Nat → Nat) : Nat → List Nat → Nat → Prop
  | _, [], _ => True
  | p, x :: xs, q => A x = p ∧ B x = xs.headD q ∧ Seg A B x xs q
/-- A list with its ends. -/
structure Lst (A B : Nat → Nat) (f l : Nat) (xs : List Nat) : Prop where
  f : f = xs.headD 0
  l : l = xs.getLastD 0
  s : Seg A B 0 xs 0
def updz (f : Nat → Nat) (i x : Nat) : Nat → Nat := if i = 0 then f else upd f i x
section
variable {A B A' B' : Nat → Nat} {xs ys : List Nat} {p q x : Nat}
theorem getLastD_append (xs ys : List Nat) (d : Nat) : (xs ++ ys).getLastD d = ys.getLastD (xs.getLastD d) := by
  induction ys generalizing xs with
  | nil => simp
  | cons a ys ih => simp [List.getLastD_eq_getLast?, List.getLast?_append]
theorem headD_append (xs ys : List Nat) (d : Nat) : (xs ++ ys).headD d = xs.headD (ys.headD d) := by cases xs <;> simp
theorem Seg.append : ∀ {xs : List Nat} {p : Nat}, Seg A B p (xs ++ ys) q ↔ Seg A B p xs (ys.headD q) ∧ Seg A B (xs.getLastD p) ys q
  | [], p => by simp [Seg]
  | x :: xs, p => by
    show (A x = p ∧ B x = (xs ++ ys).headD q ∧ Seg A B x (xs ++ ys) q) ↔ (A x = p ∧ B x = xs.headD (ys.headD q) ∧ Seg A B x xs (ys.headD q)) ∧ Seg A B ((x :: xs).getLastD p) ys q
    rw [headD_append, Seg.append (xs := xs), show (x :: xs).getLastD p = xs.getLastD x by cases xs <;> simp [List.getLastD]]
    constructor
    · rintro ⟨a, b, c, d⟩; exact ⟨⟨a, b, c⟩, d⟩
    · rintro ⟨⟨a, b, c⟩, d⟩; exact ⟨a, b, c, d⟩
theorem Seg.congr : ∀ {xs : List Nat} {p : Nat}, Seg A B p xs q → (∀ x ∈ xs, A' x = A x ∧ B' x = B x) → Seg A' B' p xs q
  | [], _, _, _ => trivial
  | x :: xs, p, ⟨a, b, c⟩, h => by
    have hx := h x (by simp)
    exact ⟨hx.1.trans a, hx.2.trans b, c.congr (fun y hy => h y (by simp [hy]))⟩
theorem last_mem' {xs : List Nat} (h : xs ≠ []) : xs.getLastD 0 ∈ xs := by
  rcases xs.eq_nil_or_concat with rfl | ⟨ys, y, rfl⟩
  · exact absurd rfl h
  · simp
/-- The end linked anew. -/
theorem Seg.toEnd : ∀ {xs : List Nat} {p q q' : Nat}, Seg A B p xs q → xs.Nodup → (∀ y ∈ xs, y ≠ 0) → Seg A (updz B (xs.getLastD 0) q') p xs q'
  | [], _, _, _, _, _, _ => trivial
  | [x], p, q, q', ⟨a, b, _⟩, hn, h0 => by
    refine ⟨a, ?_, trivial⟩
    show updz B x q' x = q'
    unfold updz
    rw [if_neg (h0 x (by simp)), upd_same]
  | x :: y :: xs, p, q, q', ⟨a, b, c⟩, hn, h0 => by
    obtain ⟨h1, h2⟩ := List.nodup_cons.1 hn
    refine ⟨a, ?_, ?_⟩
    · show updz B ((x :: y :: xs).getLastD 0) q' x = y
      unfold updz
      split
      · exact b
      · rw [upd_other]
        · exact b
        · intro e
          have hm : (x :: y :: xs).getLastD 0 ∈ y :: xs := by
            rw [show (x :: y :: xs).getLastD 0 = (y :: xs).getLastD 0 by simp [List.getLastD]]
            exact last_mem' (by simp)
          rw [← e] at hm
          exact h1 hm
    · have := Seg.toEnd (q' := q') c h2 (fun z hz => h0 z (by simp [hz]))
      rwa [show (x :: y :: xs).getLastD 0 = (y :: xs).getLastD 0 by simp [List.getLastD]]
/-- The beginning linked anew. -/
theorem Seg.toBegin {xs : List Nat} {p p' q : Nat} (h : Seg A B p xs q) (hn : xs.Nodup) (h0 : ∀ y ∈ xs, y ≠ 0) : Seg (updz A (xs.headD 0) p') B p' xs q := by
  match xs, h with
  | [], _ => trivial
  | x :: xs, ⟨a, b, c⟩ =>
    obtain ⟨h1, h2⟩ := List.nodup_cons.1 hn
    have e : updz A ((x :: xs).headD 0) p' = upd A x p' := by
      show updz A x p' = _
      unfold updz
      rw [if_neg (h0 x (by simp))]
    rw [e]
    refine ⟨upd_same _ _ _, b, c.congr (fun y hy => ⟨upd_other _ _ _ _ (fun e => h1 (by rw [← e]; exact hy)), rfl⟩)⟩
theorem updz_other (f : Nat → Nat) (i v j : Nat) (h : j ≠ i) : updz f i v j = f j := by
  unfold updz
  split
  · rfl
  · exact upd_other _ _ _ _ h
theorem last_mem {xs : List Nat} (h : xs.getLastD 0 ≠ 0) : xs.getLastD 0 ∈ xs := by
  rcases xs.eq_nil_or_concat with rfl | ⟨ys, y, rfl⟩
  · exact absurd rfl h
  · simp
theorem head_mem {xs : List Nat} (h : xs.headD 0 ≠ 0) : xs.headD 0 ∈ xs := by
  cases xs with
  | nil => exact absurd rfl h
  | cons y ys => simp
theorem last_zero {xs : List Nat} (h0 : ∀ y ∈ xs, y ≠ 0) (h : xs.getLastD 0 = 0) : xs = [] := by
  rcases xs.eq_nil_or_concat with rfl | ⟨ys, y, rfl⟩
  · rfl
  · simp at h; exact absurd h (h0 y (by simp))
theorem head_zero {xs : List Nat} (h0 : ∀ y ∈ xs, y ≠ 0) (h : xs.headD 0 = 0) : xs = [] := by
  cases xs with
  | nil => rfl
  | cons y ys => exact absurd h (h0 y (by simp))
variable {P Q : List Nat} {f l : Nat}
/-- One more between P and Q. -/
theorem Lst.tie (h : Lst A B f l (P ++ Q)) (hn : (P ++ Q).Nodup) (h0 : ∀ y ∈ P ++ Q, y ≠ 0) (hx : x ∉ P ++ Q) (hx0 : x ≠ 0) :
    Lst (updz (upd A x (P.getLastD 0)) (Q.headD 0) x) (updz (upd B x (Q.headD 0)) (P.getLastD 0) x) (if P.getLastD 0 = 0 then x else f) (if Q.headD 0 = 0 then x else l) (P ++ x :: Q) := by
  obtain ⟨hnP, hnQ, hd⟩ := List.nodup_append.1 hn
  have hP0 : ∀ y ∈ P, y ≠ 0 := fun y hy => h0 y (by simp [hy])
  have hQ0 : ∀ y ∈ Q, y ≠ 0 := fun y hy => h0 y (by simp [hy])
  have hxP : x ∉ P := fun q => hx (by simp [q])
  have hxQ : x ∉ Q := fun q => hx (by simp [q])
  have hlP : P.getLastD 0 ≠ 0 → P.getLastD 0 ∈ P := last_mem
  have hhQ : Q.headD 0 ≠ 0 → Q.headD 0 ∈ Q := head_mem
  obtain ⟨s1, s2⟩ := Seg.append.1 h.s
  refine ⟨?_, ?_, Seg.append.2 ⟨?_, ?_⟩⟩
  · split
    · rename_i e; rw [last_zero hP0 e]; rfl
    · rename_i e
      rw [h.f]
      cases P with
      | nil => exact absurd rfl e
      | cons y ys => rfl
  · rw [getLastD_append]
    split
    · rename_i e; rw [head_zero hQ0 e]; rfl
    · rename_i e
      rw [h.l, getLastD_append]
      cases Q with
      | nil => exact absurd rfl e
      | cons y ys => simp [List.getLastD]
  · refine (s1.toEnd (q' := x) hnP hP0).congr (fun y hy => ⟨?_, ?_⟩)
    · rw [updz_other _ _ _ _ (fun e => ?_), upd_other _ _ _ _ (fun e => hxP (by rw [← e]; exact hy))]
      by_cases hz : Q.headD 0 = 0
      · exact hP0 y hy (e.trans hz)
      · exact hd y hy _ (hhQ hz) e
    · unfold updz
      split
      · exact upd_other _ _ _ _ (fun e => hxP (by rw [← e]; exact hy))
      · unfold upd
        by_cases e : y = P.getLastD 0
        · rw [if_pos e, if_pos e]
        · rw [if_neg e, if_neg e, if_neg (fun e => hxP (by rw [← e]; exact hy))]
  · refine ⟨?_, ?_, ?_⟩
    · rw [updz_other _ _ _ _ (fun e => ?_), upd_same]
      by_cases hz : Q.headD 0 = 0
      · exact hx0 (e.trans hz)
      · exact hxQ (by rw [e]; exact hhQ hz)
    · rw [updz_other _ _ _ _ (fun e => ?_), upd_same]
      by_cases hz : P.getLastD 0 = 0
      · exact hx0 (e.trans hz)
      · exact hxP (by rw [e]; exact hlP hz)
    · refine (s2.toBegin (p' := x) hnQ hQ0).congr (fun y hy => ⟨?_, ?_⟩)
      · unfold updz
        split
        · exact upd_other _ _ _ _ (fun e => hxQ (by rw [← e]; exact hy))
        · unfold upd
          by_cases e : y = Q.headD 0
          · rw [if_pos e, if_pos e]
          · rw [if_neg e, if_neg e, if_neg (fun e => hxQ (by rw [← e]; exact hy))]
      · rw [updz_other _ _ _ _ (fun e => ?_), upd_other _ _ _ _ (fun e => hxQ (by rw [← e]; exact hy))]
        by_cases hz : P.getLastD 0 = 0
        · exact hQ0 y hy (e.trans hz)
        · exact hd _ (hlP hz) y hy e.symm
/-- What is read of one between P and Q. -/
theorem Lst.mid (h : Lst A B f l (P ++ x :: Q)) : A x = P.getLastD 0 ∧ B x = Q.headD 0 := by
  obtain ⟨_, s2⟩ := Seg.append.1 h.s
  exact ⟨s2.1, s2.2.1⟩
/-- The one between P and Q taken out. -/
theorem Lst.untie (h : Lst A B f l (P ++ x :: Q)) (hn : (P ++ x :: Q).Nodup) (h0 : ∀ y ∈ P ++ x :: Q, y ≠ 0) (u v : Nat) :
    Lst (upd (updz A (Q.headD 0) (P.getLastD 0)) x u) (upd (updz B (P.getLastD 0) (Q.headD 0)) x v) (if P.getLastD 0 = 0 then Q.headD 0 else f) (if Q.headD 0 = 0 then P.getLastD 0 else l) (P ++ Q) := by
  obtain ⟨hnP, hnQ', hd⟩ := List.nodup_append.1 hn
  obtain ⟨hxQ, hnQ⟩ := List.nodup_cons.1 hnQ'
  have hP0 : ∀ y ∈ P, y ≠ 0 := fun y hy => h0 y (by simp [hy])
  have hQ0 : ∀ y ∈ Q, y ≠ 0 := fun y hy => h0 y (by simp [hy])
  have hxP : x ∉ P := fun q => hd x q x (by simp) rfl
  have hlP : P.getLastD 0 ≠ 0 → P.getLastD 0 ∈ P := last_mem
  have hhQ : Q.headD 0 ≠ 0 → Q.headD 0 ∈ Q := head_mem
  obtain ⟨s1, _, _, s2⟩ := Seg.append.1 h.s
  refine ⟨?_, ?_, Seg.append.2 ⟨?_, ?_⟩⟩
  · split
    · rename_i e; rw [last_zero hP0 e]; rfl
    · rename_i e
      rw [h.f]
      cases P with
      | nil => exact absurd rfl e
      | cons y ys => rfl
  · rw [getLastD_append]
    split
    · rename_i e; rw [head_zero hQ0 e]; rfl
    · rename_i e
      rw [h.l, getLastD_append]
      cases Q with
      | nil => exact absurd rfl e
      | cons y ys => simp [List.getLastD]
  · refine (s1.toEnd (q' := Q.headD 0) hnP hP0).congr (fun y hy => ?_)
    have hyx : y ≠ x := fun e => hxP (by rw [← e]; exact hy)
    rw [upd_other _ _ _ _ hyx, upd_other _ _ _ _ hyx]
    refine ⟨updz_other _ _ _ _ (fun e => ?_), rfl⟩
    by_cases hz : Q.headD 0 = 0
    · exact hP0 y hy (e.trans hz)
    · exact hd y hy _ (List.mem_cons_of_mem _ (hhQ hz)) e
  · have hb := s2.toBegin (p' := P.getLastD 0) hnQ hQ0
    refine hb.congr (fun y hy => ?_)
    have hyx : y ≠ x := fun e => hxQ (by rw [← e]; exact hy)
    rw [upd_other _ _ _ _ hyx, upd_other _ _ _ _ hyx]
    refine ⟨rfl, updz_other _ _ _ _ (fun e => ?_)⟩
    by_cases hz : P.getLastD 0 = 0
    · exact hQ0 y hy (e.trans hz)
    · exact hd _ (hlP hz) y (by simp [hy]) e.symm
theorem Lst.congr (h : Lst A B f l xs) (hc : ∀ x ∈ xs, A' x = A x ∧ B' x = B x) : Lst A' B' f l xs := ⟨h.f, h.l, h.s.congr hc⟩
theorem Lst.nil : Lst A B 0 0 [] := ⟨rfl, rfl, trivial⟩
end
end Go.Proofs.Ytjmbadadelelfaa
