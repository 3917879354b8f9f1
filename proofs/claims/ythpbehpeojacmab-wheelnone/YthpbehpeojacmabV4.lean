/-
  The walks of ids, as far as a list of none or one asks it.
-/
import Derived.Test.YthpbehpeojacmabV3
namespace Go.Proofs.Ythpbehpeojacmab
open Go.RowKit
attribute [local go_sem ↓] Go.wp_at_zero Go.wp_at_succ

theorem infoInt : (Try.prog.info? 3).map (fun i => (i.zero, i.size, i.bytes)) = some (some (.int .i64 0), 1, 8) := by kernel_rfl
section
variable {w : World} {b g n nw ct : Nat} {fm : Value} {F L A B E : Nat → Nat} {T : Nat → Bool}
theorem ids_none (w : World) (b l : Nat) :
    Calls Try.prog 46 #[.pointer (some ⟨b, 0, none⟩), .agg #[.int .i64 0, .int .i64 (l : Int)]] w fun e w' => e = .returned (.slice none 0 0) ∧ Below w.heap.size w w' := by
  go_enter Try.func46, Try.ntmps46
  go_wp2
  go_loopw [5, 6] (fun v s wr => v = .slice none 0 0 ∧ s = .int .i64 0 ∧ wr = w.alloc (.cells #[.int .i64 0, .int .i64 (l : Int)] 66)) (fun _ _ _ => 0)
  case atStart => exact ⟨rfl, rfl, rfl⟩
  case round =>
    obtain ⟨rfl, rfl, rfl⟩ := hrel
    go_wp2
    go_ret
    exact ⟨rfl, (Below.refl _ _).alloc (Nat.le_refl _) _⟩
set_option maxHeartbeats 2000000 in
set_option maxRecDepth 100000 in
theorem ids_one (h : Rep w b g n nw ct fm F L A B E T) (x l : Nat) (hx : 1 ≤ x) (hxn : x ≤ n) (hn : n ≤ 1024) (h0 : B x = 0) :
    Calls Try.prog 46 #[.pointer (some ⟨b, 0, none⟩), .agg #[.int .i64 (x : Int), .int .i64 (l : Int)]] w fun e w' => (∃ v, e = .returned v ∧ w'.ownsRow w.heap.size 3 1 v 1 [.int .i64 ((x : Int) - 1)]) ∧ Below w.heap.size w w' := by
  obtain ⟨i0, hi, hz0, hz1, hz2⟩ := info_parts infoInt
  obtain ⟨cp, e0⟩ := h.en
  have e1 := h.eb x hxn
  rw [h0] at e1
  have e1' : w.cell? ⟨g, x * 4 + 1, none⟩ = some (.int .i64 0) := e1
  have hbb := h.lt_b
  have hgg := h.lt_g
  have x0 : ¬ (x : Int) = 0 := by omega
  have xl : x < n + 1 := by omega
  have xb : x ≤ 1024 := by omega
  have E0 := veil e0
  have E1 := veil e1'
  clear h e1 h0 e0 e1'
  go_enter Try.func46, Try.ntmps46
  go_wp2
  go_loopw [5, 6] (fun v s wr => Below w.heap.size w wr ∧ ((v = .slice none 0 0 ∧ s = .int .i64 (x : Int)) ∨ (s = .int .i64 0 ∧ (∃ a c, v = .slice a 1 c) ∧ wr.ownsRow w.heap.size 3 1 v 1 [.int .i64 ((x : Int) - 1)]))) (fun _ s _ => (intOf s).toNat)
  case atStart => exact ⟨(Below.refl _ _).alloc (Nat.le_refl _) _, .inl ⟨rfl, rfl⟩⟩
  case round =>
    obtain ⟨hbel, hcase⟩ := hrel
    rcases hcase with ⟨rfl, rfl⟩ | ⟨rfl, ⟨a, c, rfl⟩, hown⟩
    · have HB := veil hbel
      have hsz := hbel.size
      clear hbel
      go_wp2_with (at_builtin; refine wpList_append_own _ rfl _ _ 33 rfl w.heap.size 3 i0 (.int .i64 0) 1 8 Try.underlying33 hi hz0 hz1 hz2 rfl (by decide) (.slice none 0 0) 0 [] rfl (World.ownsRow_nil _ _ _ _) ⟨wr.heap.size, 0, none⟩ 1 1 [.int .i64 ((x : Int) - 1)] rfl rfl (cell_one_new _ _ _) (by simp [Value.oneCell']) (by unfold maxLen; omega) (by omega) (by simp; omega) ?_; intro v' w1 hown' hgrow _; have hb1 := (HB.out.alloc HB.out.size _).grown hgrow (by simp; omega) (fun k hk => by simp [Value.ownBlock] at hk); have y0 := (hb1.cell (p := ⟨b, 130, none⟩) hbb).trans E0.out; have y1 := (hb1.cell (p := ⟨g, x * 4 + 1, none⟩) hgg).trans E1.out; have HO := veil hown'; have HB1 := veil hb1; clear hown' hgrow hb1)
      go_roundw
      case rel =>
        refine ⟨HB1.out, .inr ⟨rfl, ?_, by simpa using HO.out⟩⟩
        rcases HO.out.2 with ⟨_, h0⟩ | ⟨g', cap, cur, e, _⟩
        · omega
        · exact ⟨_, _, by simpa using e⟩
      case measure => simp [intOf]; omega
    · have HB := veil hbel
      have HO := veil hown
      clear hbel hown
      go_wp2
      go_ret
      exact ⟨⟨_, rfl, HO.out⟩, HB.out⟩
end
end Go.Proofs.Ythpbehpeojacmab
