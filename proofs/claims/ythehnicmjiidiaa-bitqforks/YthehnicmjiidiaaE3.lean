/-
  Top before and behind a Push; what a world keeps.
-/
import Derived.Test.YthehnicmjiidiaaE2
namespace Go.Proofs.Ythehnicmjiidiaa
open Go.RowKit Go.Lib

/-- What Top tells of a queue that holds R. -/
def TopsQ (n : Nat) (R : List (Nat × Nat)) (l i : Nat) (ok : Bool) : Prop :=
  ∀ (w : World) (b g : Nat), IsQ w b g n R → Calls Try.prog 16 #[.pointer (some ⟨b, 0, none⟩)] w fun e w' => e = .returned (.tuple #[.int .u8 l, .int .i64 i, .bool ok]) ∧ Below w.heap.size w w'
theorem tops_nil (n : Nat) : TopsQ n [] 0 0 false := fun w b g h => top_none w b g n h
theorem tops_best {n : Nat} {R : List (Nat × Nat)} {lv id : Nat} {rest : List Nat} (hb : Best R lv) (hq : QL R lv = (id + 1) :: rest) : TopsQ n R lv id true := fun w b g h => top_some w b g n R id lv rest h hb hq
theorem best_push_up {R : List (Nat × Nat)} {k l : Nat} (hl : l < 256) (h : ∀ j, j < 256 → l ≤ j → QL R j = []) : Best (R ++ [(k, l)]) l ∧ QL (R ++ [(k, l)]) l = [k + 1] := by
  have e : QL (R ++ [(k, l)]) l = [k + 1] := by rw [QL_append, h l hl (Nat.le_refl _), QL_cons, if_pos rfl]; rfl
  refine ⟨⟨hl, by rw [e]; simp, fun j hj hlj => ?_⟩, e⟩
  rw [QL_append, h j hj (by omega), QL_cons, if_neg (by omega)]
  rfl
theorem best_push_same {R : List (Nat × Nat)} {k l lv id : Nat} {rest : List Nat} (hb : Best R lv) (hq : QL R lv = (id + 1) :: rest) (hl : l ≤ lv) : Best (R ++ [(k, l)]) lv ∧ ∃ rest', QL (R ++ [(k, l)]) lv = (id + 1) :: rest' := by
  have e : QL (R ++ [(k, l)]) lv = (id + 1) :: (rest ++ QL [(k, l)] lv) := by rw [QL_append, hq]; rfl
  refine ⟨⟨hb.1, by rw [e]; simp, fun j hj hlj => ?_⟩, _, e⟩
  rw [QL_append, hb.2.2 j hj hlj, QL_cons, if_neg (by omega)]
  rfl

theorem push_cases (n : Nat) (R : List (Nat × Nat)) (lv : Nat) (id : Int) (hlv : lv < 256) :
    (∃ r : Int, r ≠ 0 ∧ DoesQ 22 [.int .u8 lv, .int .i64 id] n R (.int .i64 r) R) ∨
    (∃ k : Nat, id = k ∧ k < n ∧ DoesQ 22 [.int .u8 lv, .int .i64 id] n R (.int .i64 0) (R ++ [(k, lv)])) := by
  by_cases hi : id < 0 ∨ (n : Int) ≤ id
  · refine .inl ⟨2, by decide, fun w b g h => (push_range h lv id hi).mono ?_⟩
    rintro e w' ⟨he, rfl⟩
    exact ⟨he, h, Fr.refl _ _⟩
  · obtain ⟨k, rfl⟩ := Int.eq_ofNat_of_zero_le (show 0 ≤ id by omega)
    have hk : k < n := by omega
    by_cases hm : ∃ it ∈ R, it.1 = k
    · obtain ⟨R1, l0, R2, rfl⟩ := mem_split R k hm
      refine .inl ⟨5, by decide, fun w b g h => (push_known h lv).mono ?_⟩
      rintro e w' ⟨he, rfl⟩
      exact ⟨he, h, Fr.refl _ _⟩
    · have hid : ∀ it ∈ R, it.1 ≠ k := fun it hit e => hm ⟨it, hit, e⟩
      refine .inr ⟨k, rfl, hk, fun w b g h => (push_ok w b g n R k lv h hk hlv hid).mono ?_⟩
      rintro e w' ⟨he, hq, ho⟩
      exact ⟨he, hq, Fr.of_only ho⟩

theorem Deeds.alloc {w : World} {a : Option Addr} {len : Nat} {X Y : Nat → Int} {Z : Nat → Nat} (h : Deeds w a len X Y Z) (o : Obj) : Deeds (w.alloc o) a len X Y Z := by
  rcases h with h | ⟨lb, off, rfl, hlb, hc⟩
  · exact .inl h
  · refine .inr ⟨lb, off, rfl, by simp; omega, fun j hj => ?_⟩
    obtain ⟨q0, q1, q2, q3⟩ := hc j hj
    exact ⟨q0, (World.cell?_alloc_lt _ _ _ (by simpa using hlb)).trans q1, (World.cell?_alloc_lt _ _ _ (by simpa using hlb)).trans q2, (World.cell?_alloc_lt _ _ _ (by simpa using hlb)).trans q3⟩
theorem Deeds.below {w w' : World} {a : Option Addr} {len : Nat} {X Y : Nat → Int} {Z : Nat → Nat} (h : Deeds w a len X Y Z) (hb : Below w.heap.size w w') : Deeds w' a len X Y Z := by
  rcases h with h | ⟨lb, off, rfl, hlb, hc⟩
  · exact .inl h
  · refine .inr ⟨lb, off, rfl, Nat.lt_of_lt_of_le hlb hb.size, fun j hj => ?_⟩
    obtain ⟨q0, q1, q2, q3⟩ := hc j hj
    exact ⟨q0, (hb.cell (p := ⟨lb, off + j * 3, none⟩) hlb).trans q1, (hb.cell (p := ⟨lb, off + j * 3 + 1, none⟩) hlb).trans q2, (hb.cell (p := ⟨lb, off + j * 3 + 2, none⟩) hlb).trans q3⟩

/-- The box of a deed, read later. -/
theorem box_cells {w w' : World} {x0 x1 : Int} {x2 : Nat} (h : Below (w.heap.size + 1) (w.alloc (.cells #[.int .i64 x0, .int .i64 x1, .int .u8 x2] 24)) w') :
    w'.cell? ⟨w.heap.size, 1, none⟩ = some (.int .i64 x1) ∧ w'.cell? ⟨w.heap.size, 2, none⟩ = some (.int .u8 x2) := by
  constructor
  · rw [h.cell (p := ⟨w.heap.size, 1, none⟩) (by simp), cell_new]; rfl
  · rw [h.cell (p := ⟨w.heap.size, 2, none⟩) (by simp), cell_new]; rfl
theorem below_box {w w' : World} {o : Obj} (h : Below (w.heap.size + 1) (w.alloc o) w') : Below w.heap.size w w' := ((Below.refl _ _).alloc (Nat.le_refl _) o).trans (h.mono (by omega))
theorem below_fr {B b g : Nat} {w w' w'' : World} (h : Below B w w') (hB : B ≤ w.heap.size) (hf : Fr (fun k => k = b ∨ k = g) w' w'') (h1 : B ≤ b) (h2 : B ≤ g) : Below B w w'' := by
  refine h.trans (hf.below (Nat.le_trans hB h.size) ?_)
  rintro k (q | q) <;> omega
theorem IsQ.belowLive {w w' : World} {b g n : Nat} {R : List (Nat × Nat)} (h : IsQ w b g n R) (hb : Below w.heap.size w w') : IsQ w' b g n R := h.below hb
end Go.Proofs.Ythehnicmjiidiaa
