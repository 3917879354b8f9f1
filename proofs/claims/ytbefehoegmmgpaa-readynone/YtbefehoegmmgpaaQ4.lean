/-
  What a queue's arrays and links say of the ids that stand in it, and that a push and a removal keep to it: lists alone, no walk.
-/
import Derived.Test.YtbefehoegmmgpaaQ3
import Derived.Laws.BitsAllLaws
import Derived.Laws.Bits64b
namespace Go.Proofs.Ytbefehoegmmgpaa.Bq

/-- The spots of a level, in order, of ids and levels as they were pushed. -/
def QL (R : List (Nat × Nat)) (lv : Nat) : List Nat := (R.filter (fun it => it.2 == lv)).map (fun it => it.1 + 1)
/-- Spots that are linked one behind the other, p ahead of them. -/
def Chain (A B : Nat → Nat) : Nat → List Nat → Prop
  | _, [] => True
  | p, x :: xs => A x = p ∧ B x = xs.headD 0 ∧ Chain A B x xs

theorem chain_congr (A B A' B' : Nat → Nat) : ∀ (l : List Nat) (p : Nat), (∀ s ∈ l, A' s = A s ∧ B' s = B s) → Chain A B p l → Chain A' B' p l
  | [], _, _, _ => trivial
  | x :: xs, p, h, hc => by
    obtain ⟨a, b, c⟩ := hc
    obtain ⟨ha, hb⟩ := h x (by simp)
    exact ⟨ha.trans a, hb.trans b, chain_congr A B A' B' xs x (fun s hs => h s (by simp [hs])) c⟩

theorem lastD_mem : ∀ (l : List Nat) (p : Nat), l ≠ [] → l.getLastD p ∈ l
  | [], _, h => absurd rfl h
  | [x], p, _ => by simp
  | x :: y :: ys, p, _ => by
    have := lastD_mem (y :: ys) x (by simp)
    rw [List.getLastD_cons]
    exact List.mem_cons_of_mem _ this

theorem chain_snoc (A B A' B' : Nat → Nat) (sp : Nat) : ∀ (l : List Nat) (p : Nat), l.Nodup → Chain A B p l → A' sp = l.getLastD p → B' sp = 0 → (∀ s ∈ l, A' s = A s) →
    (∀ s ∈ l, B' s = if s = l.getLastD p then sp else B s) → Chain A' B' p (l ++ [sp])
  | [], p, _, _, h1, h2, _, _ => ⟨h1, h2, trivial⟩
  | x :: xs, p, hn, hc, h1, h2, h3, h4 => by
    obtain ⟨a, b, c⟩ := hc
    rw [List.nodup_cons] at hn
    rw [List.getLastD_cons] at h1 h4
    refine ⟨(h3 x (by simp)).trans a, ?_, chain_snoc A B A' B' sp xs x hn.2 c h1 h2 (fun s hs => h3 s (by simp [hs])) (fun s hs => h4 s (by simp [hs]))⟩
    rw [h4 x (by simp)]
    cases xs with
    | nil => simp
    | cons y ys =>
      have hx : x ≠ (y :: ys).getLastD x := fun e => hn.1 (by rw [e]; exact lastD_mem _ _ (by simp))
      rw [if_neg hx, b]
      rfl

theorem chain_mid (A B : Nat → Nat) (sp : Nat) (l2 : List Nat) : ∀ (l1 : List Nat) (p : Nat), Chain A B p (l1 ++ sp :: l2) → A sp = l1.getLastD p ∧ B sp = l2.headD 0 ∧ Chain A B sp l2
  | [], p, h => ⟨h.1, h.2.1, h.2.2⟩
  | x :: xs, p, h => by
    have := chain_mid A B sp l2 xs x h.2.2
    rw [List.getLastD_cons]
    exact this

theorem chain_remove (A B A' B' : Nat → Nat) (sp : Nat) (l2 : List Nat) : ∀ (l1 : List Nat) (p : Nat), (l1 ++ sp :: l2).Nodup → Chain A B p (l1 ++ sp :: l2) →
    (∀ s ∈ l1, A' s = A s) → (∀ s ∈ l2, A' s = if s = l2.headD 0 then l1.getLastD p else A s) → (∀ s ∈ l1, B' s = if s = l1.getLastD p then l2.headD 0 else B s) → (∀ s ∈ l2, B' s = B s) → Chain A' B' p (l1 ++ l2)
  | [], p, hn, hc, _, h2, _, h4 => by
    cases l2 with
    | nil => trivial
    | cons y ys =>
      obtain ⟨_, _, a, b, c⟩ := hc
      simp only [List.nil_append, List.nodup_cons] at hn
      refine ⟨by rw [h2 y (by simp)]; simp, (h4 y (by simp)).trans b, chain_congr A B A' B' ys y (fun s hs => ⟨?_, h4 s (by simp [hs])⟩) c⟩
      rw [h2 s (by simp [hs]), if_neg]
      intro e
      simp at e
      subst e
      exact hn.2.1 hs
  | x :: xs, p, hn, hc, h1, h2, h3, h4 => by
    obtain ⟨a, b, c⟩ := hc
    simp only [List.cons_append, List.nodup_cons] at hn
    rw [List.getLastD_cons] at h2 h3
    refine ⟨(h1 x (by simp)).trans a, ?_, chain_remove A B A' B' sp l2 xs x hn.2 c (fun s hs => h1 s (by simp [hs])) h2 (fun s hs => h3 s (by simp [hs])) h4⟩
    rw [h3 x (by simp)]
    cases xs with
    | nil => simp
    | cons y ys =>
      have hx : x ≠ (y :: ys).getLastD x := fun e => hn.1 (by
        have hm : x ∈ y :: ys := by rw [e]; exact lastD_mem _ _ (by simp)
        exact List.mem_append_left _ hm)
      rw [if_neg hx, b]
      rfl

/-- The arrays and links tell just the ids and levels of R, each level's in R's order. -/
structure Inv (n : Nat) (F L m : Nat → Nat) (c : Nat) (A B V : Nat → Nat) (T : Nat → Bool) (R : List (Nat × Nat)) : Prop where
  ids : (R.map (·.1)).Nodup
  rng : ∀ it ∈ R, it.1 < n ∧ it.2 < 256
  there : ∀ s, s ≤ n → (T s = true ↔ ∃ it ∈ R, it.1 + 1 = s)
  lev : ∀ it ∈ R, V (it.1 + 1) = it.2
  nolev : ∀ s, s ≤ n → T s = false → V s = 0
  ch : ∀ lv, lv < 256 → Chain A B 0 (QL R lv)
  hd : ∀ lv, lv < 256 → F lv = (QL R lv).headD 0
  tl : ∀ lv, lv < 256 → L lv = (QL R lv).getLastD 0
  bit : ∀ lv, lv < 256 → (m (lv / 64)).testBit (lv % 64) = !(QL R lv).isEmpty
  mlt : ∀ i, i < 4 → m i < 18446744073709551616
  cnt : c = R.length

theorem mem_QL {R : List (Nat × Nat)} {lv s : Nat} : s ∈ QL R lv ↔ ∃ it ∈ R, it.2 = lv ∧ it.1 + 1 = s := by
  unfold QL
  simp only [List.mem_map, List.mem_filter, beq_iff_eq]
  constructor
  · rintro ⟨it, ⟨a, b⟩, c⟩; exact ⟨it, a, b, c⟩
  · rintro ⟨it, a, b, c⟩; exact ⟨it, ⟨a, b⟩, c⟩
theorem QL_snoc (R : List (Nat × Nat)) (id lv k : Nat) : QL (R ++ [(id, lv)]) k = if k = lv then QL R k ++ [id + 1] else QL R k := by
  unfold QL
  rw [List.filter_append, List.map_append]
  by_cases h : k = lv
  · subst h; simp
  · rw [if_neg h]
    have : (lv == k) = false := by rw [beq_eq_false_iff_ne]; exact fun e => h e.symm
    simp [this]

theorem nodup_map_add (l : List Nat) (h : l.Nodup) : (l.map (· + 1)).Nodup := by
  rw [List.Nodup, List.pairwise_map]
  exact List.Pairwise.imp (fun hne e => hne (by omega)) h
theorem QL_nodup {R : List (Nat × Nat)} (h : (R.map (·.1)).Nodup) (lv : Nat) : (QL R lv).Nodup := by
  have h1 : ((R.filter (fun it => it.2 == lv)).map (·.1)).Nodup := h.sublist (List.Sublist.map _ (List.filter_sublist))
  have e : QL R lv = ((R.filter (fun it => it.2 == lv)).map (·.1)).map (· + 1) := by unfold QL; rw [List.map_map]; rfl
  rw [e]
  exact nodup_map_add _ h1

theorem orBit_nat (x lv : Nat) (h : x < 18446744073709551616) : orBit (x : Int) lv = ((x ||| 2 ^ (lv % 64) : Nat) : Int) := by
  have hp : 2 ^ (lv % 64) ≤ 2 ^ 63 := Nat.pow_le_pow_right (by decide) (by omega)
  have h63 : (2 : Nat) ^ 63 = 9223372036854775808 := by decide
  unfold orBit
  have e : IntKind.u64.wrap ((2 : Int) ^ (lv % 64)) = ((2 ^ (lv % 64) : Nat) : Int) := by
    have c : ((2 : Int) ^ (lv % 64)) = ((2 ^ (lv % 64) : Nat) : Int) := by simp
    rw [c, IntKind.wrap_u64]
    generalize 2 ^ (lv % 64) = q at *
    omega
  rw [e, bits_or_u64_nat x _ h (by omega)]
theorem andBit_nat (x lv : Nat) (h : x < 18446744073709551616) : andBit (x : Int) lv = ((x &&& (18446744073709551615 - 2 ^ (lv % 64)) : Nat) : Int) := by
  have hp : 2 ^ (lv % 64) ≤ 2 ^ 63 := Nat.pow_le_pow_right (by decide) (by omega)
  have h63 : (2 : Nat) ^ 63 = 9223372036854775808 := by decide
  unfold andBit
  have e : IntKind.u64.wrap ((2 : Int) ^ (lv % 64)) = ((2 ^ (lv % 64) : Nat) : Int) := by
    have c : ((2 : Int) ^ (lv % 64)) = ((2 ^ (lv % 64) : Nat) : Int) := by simp
    rw [c, IntKind.wrap_u64]
    generalize 2 ^ (lv % 64) = q at *
    omega
  rw [e, u64_andNot_nat x _ h (by omega)]
theorem or_lt (x lv : Nat) (h : x < 18446744073709551616) : x ||| 2 ^ (lv % 64) < 18446744073709551616 :=
  Nat.or_lt_two_pow (n := 64) h (Nat.pow_lt_pow_right (by decide) (by omega))
theorem and_lt (x y : Nat) (h : x < 18446744073709551616) : x &&& y < 18446744073709551616 := Nat.lt_of_le_of_lt Nat.and_le_left h
theorem or_bit (x k j : Nat) : (x ||| 2 ^ k).testBit j = (x.testBit j || decide (k = j)) := by
  rw [Nat.testBit_or, Nat.testBit_two_pow]
theorem and_bit (x k j : Nat) (hk : k < 64) (hj : j < 64) : (x &&& (18446744073709551615 - 2 ^ k)).testBit j = (x.testBit j && !decide (k = j)) := by
  rw [Nat.testBit_and]
  congr 1
  have e : 18446744073709551615 - 2 ^ k = 2 ^ 64 - (2 ^ k + 1) := by
    have : (2 : Nat) ^ 64 = 18446744073709551616 := by decide
    omega
  rw [e, Nat.testBit_two_pow_sub_succ (Nat.pow_lt_pow_right (by decide) hk), Nat.testBit_two_pow]
  simp [hj]
end Go.Proofs.Ytbefehoegmmgpaa.Bq
