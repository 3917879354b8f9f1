/-
  The walks of 'live' and of a nil table's calls.
-/
import Derived.Test.YtfhnepoegdhjmaaDoorT10
namespace Go.Proofs.YtfhnepoegdhjmaaDoor
open Go.RowKit Go.Lib
attribute [local go_sem ↓] Go.wp_at_zero Go.wp_at_succ

set_option maxHeartbeats 4000000 in
theorem live_law (w : World) :
    Calls Tryd.prog 12 #[] w fun e w' => e = .returned (.bool true) ∧ Below w.heap.size w w' := by
  have HN := veil (new_ok 2 w (by omega) (by omega))
  have HA1 : Hid (∀ w1, Rep w1 (w.heap.size + 1) w.heap.size 2 (fun _ => 0) (fun _ => 0) → Calls Tryd.prog 24 #[.pointer (some ⟨w.heap.size + 1, 0, none⟩)] w1 fun e w' => e = .returned (.tuple #[.agg #[.int .i64 0, .int .u32 1], .int .i64 0]) ∧ Rep w' (w.heap.size + 1) w.heap.size 2 (upd (fun _ => 0) 0 1) (upd (fun _ => 0) 0 1) ∧ Fr (fun k => k = w.heap.size) w1 w') := by
    intro w1 h
    refine (alloc_some h (fun _ _ => by omega) 0 (by omega) rfl (fun j hj => by omega)).mono ?_
    rintro e w' ⟨he, hr, hf⟩
    exact ⟨by simpa using he, hr, hf⟩
  have HRel : Hid (∀ w1, Rep w1 (w.heap.size + 1) w.heap.size 2 (upd (fun _ => 0) 0 1) (upd (fun _ => 0) 0 1) → Calls Tryd.prog 17 #[.pointer (some ⟨w.heap.size + 1, 0, none⟩), .agg #[.int .i64 0, .int .u32 1]] w1 fun e w' => e = .returned (.int .i64 0) ∧ Rep w' (w.heap.size + 1) w.heap.size 2 (upd (fun _ => 0) 0 1) (upd (upd (fun _ => 0) 0 1) 0 0) ∧ Fr (fun k => k = w.heap.size) w1 w') := by
    intro w1 h
    exact release_some h 0 1 (by omega) (by simp [upd]) (by simp [upd])
  have HA2 : Hid (∀ w1, Rep w1 (w.heap.size + 1) w.heap.size 2 (upd (fun _ => 0) 0 1) (upd (upd (fun _ => 0) 0 1) 0 0) → Calls Tryd.prog 24 #[.pointer (some ⟨w.heap.size + 1, 0, none⟩)] w1 fun e w' => e = .returned (.tuple #[.agg #[.int .i64 0, .int .u32 2], .int .i64 0]) ∧ Rep w' (w.heap.size + 1) w.heap.size 2 (upd (upd (fun _ => 0) 0 1) 0 2) (upd (upd (upd (fun _ => 0) 0 1) 0 0) 0 1) ∧ Fr (fun k => k = w.heap.size) w1 w') := by
    intro w1 h
    refine (alloc_some h (fun x _ => by unfold upd; split <;> simp) 0 (by omega) (by simp [upd]) (fun j hj => by omega)).mono ?_
    rintro e w' ⟨he, hr, hf⟩
    exact ⟨by simpa [upd] using he, by simpa [upd] using hr, hf⟩
  have HL : Hid (∀ w1, Rep w1 (w.heap.size + 1) w.heap.size 2 (upd (upd (fun _ => 0) 0 1) 0 2) (upd (upd (upd (fun _ => 0) 0 1) 0 0) 0 1) → Calls Tryd.prog 20 #[.pointer (some ⟨w.heap.size + 1, 0, none⟩)] w1 fun e w' => e = .returned (.int .i64 1) ∧ Below w1.heap.size w1 w') := by
    intro w1 h
    refine (len_ok h).mono ?_
    rintro e w' ⟨he, hb⟩
    exact ⟨by rw [he]; rfl, hb⟩
  have HB : Hid (∀ w1 w2 : World, Below w.heap.size w w1 → Fr (fun k => k = w.heap.size) w1 w2 → Below w.heap.size w w2) := by
    intro w1 w2 h1 h2
    exact h1.trans (h2.below h1.size (fun k e => by omega))
  have HC : Hid (∀ (w1 w2 : World) (B : Nat) (p q : Int), w.heap.size < B → B < w1.heap.size → Fr (fun k => k = w.heap.size) w1 w2 → w1.cell? ⟨B, 0, none⟩ = some (.int .i64 p) ∧ w1.cell? ⟨B, 1, none⟩ = some (.int .u32 q) → w2.cell? ⟨B, 0, none⟩ = some (.int .i64 p) ∧ w2.cell? ⟨B, 1, none⟩ = some (.int .u32 q)) := by
    intro w1 w2 B p q h1 h2 hf hc
    exact ⟨(hf.cell (a := ⟨B, 0, none⟩) h2 (by simp; omega)).trans hc.1, (hf.cell (a := ⟨B, 1, none⟩) h2 (by simp; omega)).trans hc.2⟩
  go_enter Tryd.func12, Tryd.ntmps12
  go_wp2_with (first
    | (go_at_call 25; refine (HN.out).mono ?_; rintro e w1 ⟨rfl, hr, hb⟩; have HR1 := veil hr; have HB1 := veil hb; clear hr hb)
    | (go_at_call 17; refine (HRel.out _ (HR2.out.alloc _)).mono ?_; rintro e w3 ⟨rfl, hr, hf⟩; have hlt := HR2.out.lt_b; have HP3 := veil (HC.out _ _ w2.heap.size 0 1 (by omega) (by simp) hf ⟨by rw [cell_new]; rfl, by rw [cell_new]; rfl⟩); have HR3 := veil hr; have HB3 := veil (HB.out _ _ (HB2.out.alloc HB2.out.size _) hf); have hsz3 : w2.heap.size < w3.heap.size := (by have := hf.size; simp at this; omega); clear hr hf HR2)
    | (go_at_call 24; refine (HA1.out _ HR1.out).mono ?_; rintro e w2 ⟨rfl, hr, hf⟩; have HR2 := veil hr; have HB2 := veil (HB.out _ _ HB1.out hf); clear hr hf HA1 HR1)
    | (go_at_call 24; refine (HA2.out _ HR3.out).mono ?_; rintro e w4 ⟨rfl, hr, hf⟩; have HP4 := veil (HC.out _ _ w2.heap.size 0 1 (by omega) hsz3 hf HP3.out); have HR4 := veil hr; have HB4 := veil (HB.out _ _ HB3.out hf); have hsz4 : w2.heap.size < w4.heap.size := (Nat.lt_of_lt_of_le hsz3 hf.size); have p0 := HP4.out.1; have p1 := HP4.out.2; have hne4 : ¬ w2.heap.size = w4.heap.size := (by omega); clear hr hf)
    | (go_at_call 20; refine (HL.out _ (HR4.out.alloc _)).mono ?_; rintro e w5 ⟨rfl, hb⟩; have HB5 := veil ((HB4.out.alloc HB4.out.size _).trans (hb.mono (by have := HB4.out.size; simp; omega))); clear hb))
  go_ret
  exact ⟨by simp, HB5.out⟩
end Go.Proofs.YtfhnepoegdhjmaaDoor
