/- The program's calls, each said by one function of what there is. -/
import Derived.Test.YtblickncecpajaaC6
namespace Go.Proofs.Ytblickncecpajaa
open Go.RowKit Go.Lib
def admC (P : Nat) (L : List Srv) (b p : Nat) : Nat := if rightB b p = false then 2 else if L.length = 32 then 4 else if P * 232792560 < sumOf L + asks ⟨b, p, 0, 0⟩ then 10 else 0
def admN (P : Nat) (L : List Srv) (b p : Nat) : Nat := if admC P L b p = 0 then L.length else 0
def admL (P : Nat) (L : List Srv) (b p : Nat) : List Srv := if admC P L b p = 0 then L ++ [⟨b, p, 0, 0⟩] else L
def inL (L : List Srv) (i : Int) : Bool := decide (0 ≤ i ∧ i < (L.length : Int))
def wakC (L : List Srv) (i : Int) : Nat := if inL L i then 0 else 2
def wakL (L : List Srv) (i : Int) (now : Nat) : List Srv := if inL L i ∧ (atL L i).d ≤ now then L.set i.toNat (fillS (atL L i) now) else L
def chgC (L : List Srv) (i : Int) : Nat := if inL L i then (if (atL L i).l = 0 then 6 else 0) else 2
def chgB (L : List Srv) (i : Int) : Bool := decide (inL L i = true ∧ (atL L i).l = 1)
def chgL (L : List Srv) (i : Int) : List Srv := if inL L i ∧ 1 ≤ (atL L i).l then L.set i.toNat (tickS (atL L i)) else L
theorem atL_some {L : List Srv} {k : Nat} {x : Srv} (hx : L[k]? = some x) : atL L (k : Int) = x ∧ inL L (k : Int) = true := by
  have hk : k < L.length := (List.getElem?_eq_some_iff.1 hx).1
  unfold atL inL
  rw [if_pos (by omega)]
  exact ⟨by rw [Int.toNat_natCast, hx]; rfl, by simp [hk]⟩
theorem inL_cases (L : List Srv) (i : Int) : inL L i = false ∧ ¬ (0 ≤ i ∧ i < (L.length : Int)) ∨ ∃ (k : Nat) (x : Srv), i = k ∧ L[k]? = some x := by
  by_cases h : 0 ≤ i ∧ i < (L.length : Int)
  · refine .inr ⟨i.toNat, L[i.toNat]'(by omega), by omega, List.getElem?_eq_getElem _⟩
  · exact .inl ⟨by unfold inL; simp only [decide_eq_false h], h⟩
section
variable {w : World} {base s P : Nat} {v : Value} {L : List Srv}
theorem admit_all (h : Pep w base s P v L) (b p : Nat) : Calls Try.prog 14 #[.pointer (some ⟨s, 0, none⟩), .int .u64 (b : Int), .int .u64 (p : Int)] w fun e w' => e = .returned (.tuple #[.int .i64 (admN P L b p : Int), .int .i64 (admC P L b p : Int)]) ∧ (∃ v', Pep w' base s P v' (admL P L b p)) ∧ Fr (fun k => k = s ∨ some k = v.ownBlock) w w' := by
  unfold admL admN admC
  cases hr : rightB b p
  · refine (admit_range h b p hr).mono ?_
    rintro e w' ⟨rfl, hb⟩
    exact ⟨by simp, ⟨v, by simpa using h.below hb⟩, Fr.of_below' hb⟩
  have hl := h.f.len
  by_cases h1 : L.length = 32
  · refine (admit_full h b p hr h1).mono ?_
    rintro e w' ⟨rfl, hb⟩
    exact ⟨by simp [h1], ⟨v, by simpa [h1] using h.below hb⟩, Fr.of_below' hb⟩
  by_cases h2 : P * 232792560 < sumOf L + asks ⟨b, p, 0, 0⟩
  · refine (admit_load h b p hr (by omega) h2).mono ?_
    rintro e w' ⟨rfl, hb⟩
    exact ⟨by simp [h1, h2], ⟨v, by simpa [h1, h2] using h.below hb⟩, Fr.of_below' hb⟩
  · refine (admit_ok h b p hr (by omega) h2).mono ?_
    rintro e w' ⟨rfl, ⟨v', hv⟩, hf⟩
    exact ⟨by simp [h1, h2], ⟨v', by simpa [h1, h2] using hv⟩, hf⟩
theorem wake_all (h : Pep w base s P v L) (i : Int) (now : Nat) (hn : now < 18446744073709551616) : Calls Try.prog 15 #[.pointer (some ⟨s, 0, none⟩), .int .i64 i, .int .u64 (now : Int)] w fun e w' => e = .returned (.int .i64 (wakC L i : Int)) ∧ (∃ v', Pep w' base s P v' (wakL L i now)) ∧ Fr (fun k => k = s ∨ some k = v.ownBlock) w w' := by
  unfold wakC wakL
  rcases inL_cases L i with ⟨h0, h1⟩ | ⟨k, x, rfl, hx⟩
  · refine (wake_range h i now h1).mono ?_
    rintro e w' ⟨rfl, rfl⟩
    exact ⟨by simp [h0], ⟨v, by simpa [h0] using h⟩, Fr.refl _ _⟩
  · obtain ⟨e1, e2⟩ := atL_some hx
    rw [e1, e2]
    by_cases hd : x.d ≤ now
    · refine (wake_yes h k now x hx hd hn).mono ?_
      rintro e w' ⟨rfl, hp, hf⟩
      exact ⟨by simp, ⟨v, by simpa [hd] using hp⟩, hf.wide (fun _ _ q => .inr q)⟩
    · refine (wake_not h k now x hx hd).mono ?_
      rintro e w' ⟨rfl, hb⟩
      exact ⟨by simp, ⟨v, by simpa [hd] using h.below hb⟩, Fr.of_below' hb⟩
theorem charge_all (h : Pep w base s P v L) (i : Int) : Calls Try.prog 17 #[.pointer (some ⟨s, 0, none⟩), .int .i64 i] w fun e w' => e = .returned (.tuple #[.bool (chgB L i), .int .i64 (chgC L i : Int)]) ∧ Pep w' base s P v (chgL L i) ∧ Fr (fun k => k = s ∨ some k = v.ownBlock) w w' := by
  unfold chgC chgB chgL
  rcases inL_cases L i with ⟨h0, h1⟩ | ⟨k, x, rfl, hx⟩
  · refine (charge_range h i h1).mono ?_
    rintro e w' ⟨rfl, rfl⟩
    exact ⟨by simp [h0], by simpa [h0] using h, Fr.refl _ _⟩
  · obtain ⟨e1, e2⟩ := atL_some hx
    rw [e1, e2]
    by_cases hd : x.l = 0
    · refine (charge_none h k x hx hd).mono ?_
      rintro e w' ⟨rfl, rfl⟩
      exact ⟨by simp [hd], by simpa [hd] using h, Fr.refl _ _⟩
    · refine (charge_ok h k x hx (by omega)).mono ?_
      rintro e w' ⟨rfl, hp, hf⟩
      have g : 1 ≤ x.l := by omega
      refine ⟨?_, by simpa [g] using hp, hf.wide (fun _ _ q => .inr q)⟩
      have q : (x.l - 1 == 0) = decide (x.l = 1) := by rw [Bool.eq_iff_iff]; simp; omega
      simp [hd, q]
theorem Pep.low (h : Pep w base s P v L) (hs : base ≤ s) {w' : World} (hf : Fr (fun k => k = s ∨ some k = v.ownBlock) w w') : Below base w w' :=
  hf.below h.bs (fun k q => by rcases q with rfl | q; exact hs; exact (ownsRow_blk h.own q.symm).1)
theorem Pep.new (w : World) (P : Nat) (h1 : 1 ≤ P) (h2 : P ≤ 64) (base : Nat) (hb : base ≤ w.heap.size) : Pep (w.alloc (.cells #[.int .u64 (P : Int), .slice none 0 0] 65)) base w.heap.size P (.slice none 0 0) [] :=
  ⟨(MapKept.heap_alloc w _).1, World.ownsRow_nil _ _ _ _, by simp; omega, h1, h2, by simp, by simp⟩
end
end Go.Proofs.Ytblickncecpajaa
