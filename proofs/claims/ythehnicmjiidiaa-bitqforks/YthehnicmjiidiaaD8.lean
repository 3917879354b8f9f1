/-
  What Push, Pop and Remove answer, of the program's queue and of the document's, both at once.
-/
import Derived.Test.YthehnicmjiidiaaD7
namespace Go.Proofs.Ythehnicmjiidiaa
open Go.RowKit Go.Lib

theorem IsQ.ids {w : World} {b g n : Nat} {R : List (Nat × Nat)} (h : IsQ w b g n R) : (R.map (·.1)).Nodup := by
  obtain ⟨hn, F, L, m, c, A, B, V, T, hr, hv⟩ := h
  exact hv.ids
theorem IsQ.drewN {w : World} {b g n : Nat} {R : List (Nat × Nat)} (h : IsQ w b g n R) (q : Nat) : IsQ (w.drewN q) b g n R := h.frame (S := fun _ => False) ((Fr.refl _ _).drewN q) (fun q => q) (fun q => q)

set_option maxHeartbeats 1000000 in
theorem top_none (w : World) (b g n : Nat) (h : IsQ w b g n []) :
    Calls Try.prog 16 #[.pointer (some ⟨b, 0, none⟩)] w fun e w' => e = .returned (.tuple #[.int .u8 0, .int .i64 0, .bool false]) ∧ Below w.heap.size w w' := by
  obtain ⟨m0, m1, m2, m3, hM, hH⟩ := mask_none w b g n h
  have HM := veil hM
  have HH := veil hH
  clear hM hH h
  go_enter Try.func16, Try.ntmps16
  go_wp2_with (first
    | (go_at_call 15; refine (HM.out).mono ?_; rintro e w' ⟨rfl, d, hw⟩; subst hw)
    | (go_at_call 34; refine (HH.out _).mono ?_; rintro e w' ⟨rfl, d2, hw⟩; subst hw))
  go_ret3
  exact ⟨rfl, ((Below.refl _ _).alloc (Nat.le_refl _) _).alloc (by simp) _⟩
theorem pop_none (w : World) (b g n : Nat) (h : IsQ w b g n []) :
    Calls Try.prog 14 #[.pointer (some ⟨b, 0, none⟩)] w fun e w' => e = .returned (.tuple #[.int .u8 0, .int .i64 0, .bool false]) ∧ Below w.heap.size w w' := by
  have HT := veil (top_none w b g n h)
  clear h
  go_enter Try.func14, Try.ntmps14
  go_wp2_with (go_at_call 16; refine (HT.out).mono ?_; rintro e w1 ⟨rfl, hbel⟩; have HB := veil hbel; clear hbel)
  go_ret3
  exact ⟨rfl, HB.out⟩

theorem best_split {R : List (Nat × Nat)} {lv id : Nat} {rest : List Nat} (hr : ∀ it ∈ R, it.2 < 256) (hb : Best R lv) (hq : QL R lv = (id + 1) :: rest) : ∃ R1 R2, R = R1 ++ (id, lv) :: R2 ∧ (∀ it ∈ R1, it.2 < lv) ∧ (∀ it ∈ R2, it.2 ≤ lv) := by
  obtain ⟨R1, R2, e1, e2⟩ := head_split R lv id rest hq
  have hle : ∀ it ∈ R, it.2 ≤ lv := fun it hit => by
    apply Classical.byContradiction
    intro hn
    have h1 := hb.2.2 it.2 (hr it hit) (by omega)
    have : it.1 + 1 ∈ QL R it.2 := mem_QL.2 ⟨it, hit, rfl, rfl⟩
    rw [h1] at this
    cases this
  refine ⟨R1, R2, e1, fun it hit => ?_, fun it hit => hle it (by rw [e1]; exact List.mem_append_right _ (List.mem_cons_of_mem _ hit))⟩
  have a1 := hle it (by rw [e1]; exact List.mem_append_left _ hit)
  rcases Nat.lt_or_ge it.2 lv with q | q
  · exact q
  · have e : it.2 = lv := by omega
    have : it.1 + 1 ∈ QL R1 lv := mem_QL.2 ⟨it, hit, e, rfl⟩
    rw [e2] at this
    cases this

/-- What a call of the program's queue does: answers x, and holds R' then. -/
def DoesQ (f : Nat) (args : List Value) (n : Nat) (R : List (Nat × Nat)) (x : Value) (R' : List (Nat × Nat)) : Prop :=
  ∀ (w : World) (b g : Nat), IsQ w b g n R → Calls Try.prog f (Value.pointer (some ⟨b, 0, none⟩) :: args).toArray w fun e w' => e = .returned x ∧ IsQ w' b g n R' ∧ Fr (fun k => k = b ∨ k = g) w w'
/-- The same of the document's. -/
def DoesR (f : Nat) (args : List Value) (n : Nat) (R : List (Nat × Nat)) (x : Value) (R' : List (Nat × Nat)) : Prop :=
  ∀ (w : World) (base rb : Nat) (v : Value), IsRef w base rb n v R → Calls Try.prog f (Value.pointer (some ⟨rb, 0, none⟩) :: args).toArray w fun e w' => e = .returned x ∧ (∃ v', IsRef w' base rb n v' R') ∧ Fr (fun k => k = rb ∨ some k = v.ownBlock) w w'

theorem push_both (n : Nat) (R : List (Nat × Nat)) (hids : (R.map (·.1)).Nodup) (lv : Nat) (id : Int) (hlv : lv < 256) :
    ∃ (r : Int) (R' : List (Nat × Nat)), (R'.map (·.1)).Nodup ∧ DoesQ 22 [.int .u8 lv, .int .i64 id] n R (.int .i64 r) R' ∧ DoesR 39 [.int .u8 lv, .int .i64 id] n R (.int .i64 r) R' := by
  by_cases hi : id < 0 ∨ (n : Int) ≤ id
  · refine ⟨2, R, hids, fun w b g h => (push_range h lv id hi).mono ?_, fun w base rb v h => (rpush_range h lv id hi).mono ?_⟩
    · rintro e w' ⟨he, rfl⟩
      exact ⟨he, h, Fr.refl _ _⟩
    · rintro e w' ⟨he, rfl⟩
      exact ⟨he, ⟨v, h⟩, Fr.refl _ _⟩
  · obtain ⟨k, rfl⟩ := Int.eq_ofNat_of_zero_le (show 0 ≤ id by omega)
    have hk : k < n := by omega
    by_cases hm : ∃ it ∈ R, it.1 = k
    · obtain ⟨R1, l0, R2, rfl⟩ := mem_split R k hm
      refine ⟨5, _, hids, fun w b g h => (push_known h lv).mono ?_, fun w base rb v h => (rpush_known h lv).mono ?_⟩
      · rintro e w' ⟨he, rfl⟩
        exact ⟨he, h, Fr.refl _ _⟩
      · rintro e w' ⟨he, rfl⟩
        exact ⟨he, ⟨v, h⟩, Fr.refl _ _⟩
    · have hid : ∀ it ∈ R, it.1 ≠ k := fun it hit e => hm ⟨it, hit, e⟩
      refine ⟨0, R ++ [(k, lv)], push_nodup hids hid, fun w b g h => (push_ok w b g n R k lv h hk hlv hid).mono ?_, fun w base rb v h => (rpush_ok h k lv hk hlv hid).mono ?_⟩
      · rintro e w' ⟨he, hq, ho⟩
        exact ⟨he, hq, Fr.of_only ho⟩
      · rintro e w' ⟨he, hv, hf⟩
        exact ⟨he, hv, hf⟩
theorem remove_both (n : Nat) (R : List (Nat × Nat)) (hids : (R.map (·.1)).Nodup) (id : Int) :
    ∃ (r : Int) (R' : List (Nat × Nat)), (R'.map (·.1)).Nodup ∧ DoesQ 20 [.int .i64 id] n R (.int .i64 r) R' ∧ DoesR 41 [.int .i64 id] n R (.int .i64 r) R' := by
  by_cases hi : id < 0 ∨ (n : Int) ≤ id
  · refine ⟨2, R, hids, fun w b g h => (remove_range h id hi).mono ?_, fun w base rb v h => (rRemove_range h id hi).mono ?_⟩
    · rintro e w' ⟨he, rfl⟩
      exact ⟨he, h, Fr.refl _ _⟩
    · rintro e w' ⟨he, rfl⟩
      exact ⟨he, ⟨v, h⟩, Fr.refl _ _⟩
  · obtain ⟨k, rfl⟩ := Int.eq_ofNat_of_zero_le (show 0 ≤ id by omega)
    have hk : k < n := by omega
    by_cases hm : ∃ it ∈ R, it.1 = k
    · obtain ⟨R1, l0, R2, rfl⟩ := mem_split R k hm
      refine ⟨0, R1 ++ R2, cut_map hids, fun w b g h => (remove_some h).mono ?_, fun w base rb v h => (rRemove_some h).mono ?_⟩
      · rintro e w' ⟨he, hq, ho⟩
        exact ⟨he, hq, Fr.of_only ho⟩
      · rintro e w' ⟨he, hv, hf⟩
        exact ⟨he, hv, hf.wide (fun _ _ q => .inl q)⟩
    · have hid : ∀ it ∈ R, it.1 ≠ k := fun it hit e => hm ⟨it, hit, e⟩
      refine ⟨6, R, hids, fun w b g h => (remove_none h hk hid).mono ?_, fun w base rb v h => (rRemove_none h hk hid).mono ?_⟩
      · rintro e w' ⟨he, rfl⟩
        exact ⟨he, h, Fr.refl _ _⟩
      · rintro e w' ⟨he, rfl⟩
        exact ⟨he, ⟨v, h⟩, Fr.refl _ _⟩
theorem pop_both (n : Nat) (R : List (Nat × Nat)) (hids : (R.map (·.1)).Nodup) (hrng : ∀ it ∈ R, it.2 < 256) :
    ∃ (l i : Nat) (ok : Bool) (R' : List (Nat × Nat)), (R'.map (·.1)).Nodup ∧ DoesQ 14 [] n R (.tuple #[.int .u8 l, .int .i64 i, .bool ok]) R' ∧ DoesR 40 [] n R (.tuple #[.int .u8 l, .int .i64 i, .bool ok]) R' := by
  by_cases hR : R = []
  · subst hR
    refine ⟨0, 0, false, [], hids, fun w b g h => (pop_none w b g n h).mono ?_, fun w base rb v h => (rPop_none h).mono ?_⟩
    · rintro e w' ⟨he, hb⟩
      exact ⟨he, h.below hb, Fr.of_below' hb⟩
    · rintro e w' ⟨he, rfl⟩
      exact ⟨he, ⟨v, h⟩, Fr.refl _ _⟩
  · obtain ⟨lv, id, rest, hbest, hql⟩ := best_exists R hR hrng
    obtain ⟨R1, R2, rfl, hlo, hhi⟩ := best_split hrng hbest hql
    refine ⟨lv, id, true, R1 ++ R2, cut_map hids, fun w b g h => (pop_some w b g n _ id lv rest h hbest hql).mono ?_, fun w base rb v h => (rPop_some h hlo hhi).mono ?_⟩
    · rintro e w' ⟨he, ⟨S1, S2, e1, hq⟩, ho⟩
      obtain ⟨rfl, _, rfl⟩ := split_uniq R1 S1 id lv lv R2 S2 hids e1
      exact ⟨he, hq, Fr.of_only ho⟩
    · rintro e w' ⟨he, hv, hf⟩
      exact ⟨he, hv, hf.wide (fun _ _ q => .inl q)⟩
end Go.Proofs.Ythehnicmjiidiaa
