/-
  Lists of ids that a call made; what a Pop leaves of each level.
-/
import Derived.Test.YthehnicmjiidiaaE6
namespace Go.Proofs.Ythehnicmjiidiaa
open Go.RowKit Go.Lib

/-- A slice of ids that lies in a block from base on. -/
def IL (w : World) (base : Nat) (v : Value) (xs : List Int) : Prop := w.ownsRow base 3 1 v xs.length (xs.map (Value.int .i64))
theorem IL.slice {w : World} {base : Nat} {v : Value} {xs : List Int} (h : IL w base v xs) : ∃ a cap, v = .slice a xs.length cap := owns_slice h
theorem IL.cells {w : World} {base : Nat} {v : Value} {xs : List Int} (h : IL w base v xs) (hx : xs ≠ []) : ∃ g cap, v = .slice (some ⟨g, 0, none⟩) xs.length cap ∧ base ≤ g ∧ g < w.heap.size ∧ ∀ j, j < xs.length → w.cell? ⟨g, j, none⟩ = some (.int .i64 (xs.getD j 0)) := by
  have hpos : 0 < xs.length := List.length_pos_iff.2 hx
  obtain ⟨g, cap, rfl, h1, h2⟩ := World.ownsRow.form h hpos
  refine ⟨g, cap, rfl, h1, h2, fun j hj => ?_⟩
  rw [World.ownsRow.cellAt h j (by omega)]
  simp [List.getD, hj]
theorem owns_fr {w w' : World} {S : Nat → Prop} {base : Nat} {e : TypeId} {size : Nat} {v : Value} {n : Nat} {xs : List Value} (h : w.ownsRow base e size v n xs) (hf : Fr S w w') (h2 : ∀ k, base ≤ k → k < w.heap.size → ¬ S k) : w'.ownsRow base e size v n xs := by
  refine ⟨h.1, ?_⟩
  rcases h.2 with hn | ⟨g, cap, cur, rfl, hb, hgg, rest⟩
  · exact .inl hn
  · refine .inr ⟨g, cap, cur, rfl, hb, ?_, rest⟩
    rw [hf.block g (Array.getElem?_eq_some_iff.1 hgg).1 (h2 g hb (Array.getElem?_eq_some_iff.1 hgg).1)]
    exact hgg
theorem IL.below {w w' : World} {base : Nat} {v : Value} {xs : List Int} (h : IL w base v xs) (hb : Below w.heap.size w w') : IL w' base v xs := owns_fr h (Fr.of_below' (S := fun _ => False) hb) (fun _ _ _ q => q)
theorem IL.apart {w w' : World} {base b g : Nat} {v : Value} {xs : List Int} (h : IL w base v xs) (hf : Fr (fun k => k = b ∨ k = g) w w') (h1 : b < base) (h2 : g < base) : IL w' base v xs := owns_fr h hf (fun k hk _ q => by omega)

/-- List, in these words. -/
theorem list_il (b g n lv : Nat) (R : List (Nat × Nat)) (w : World) (hq : IsQ w b g n R) (hlv : lv < 256) :
    Calls Try.prog 17 #[.pointer (some ⟨b, 0, none⟩), .int .u8 lv] w fun e W' => ∃ v, e = .returned v ∧ IL W' w.heap.size v (idsOf R lv) ∧ Below w.heap.size w W' := list_ok b g n lv R w hq hlv

theorem pop_head (n : Nat) (R : List (Nat × Nat)) (hids : (R.map (·.1)).Nodup) (lv id : Nat) (rest : List Nat) (hb : Best R lv) (hq : QL R lv = (id + 1) :: rest) :
    ∃ R', DoesQ 14 [] n R (.tuple #[.int .u8 lv, .int .i64 id, .bool true]) R' ∧ QL R' lv = rest ∧ (∀ k, k ≠ lv → QL R' k = QL R k) := by
  obtain ⟨R1, R2, rfl, h0⟩ := head_split R lv id rest hq
  have hx : ∀ k, QL (R1 ++ (id, lv) :: R2) k = QL R1 k ++ ((if k = lv then [id + 1] else []) ++ QL R2 k) := by
    intro k
    rw [QL_append, QL_cons]
    by_cases e : k = lv
    · rw [if_pos e, if_pos e]; rfl
    · rw [if_neg e, if_neg e]; rfl
  refine ⟨R1 ++ R2, fun w b g h => (pop_some w b g n _ id lv rest h hb hq).mono ?_, ?_, fun k hk => ?_⟩
  · rintro e w' ⟨he, ⟨S1, S2, e1, hq⟩, ho⟩
    obtain ⟨rfl, _, rfl⟩ := split_uniq R1 S1 id lv lv R2 S2 hids e1
    exact ⟨he, hq, Fr.of_only ho⟩
  · have := hx lv
    rw [hq, if_pos rfl, h0] at this
    rw [QL_append, h0]
    simpa using this.symm
  · rw [hx k, if_neg hk, QL_append]; rfl
end Go.Proofs.Ythehnicmjiidiaa
