/-
  A set's own calls: may, Len, put, Put, Top, Remove, Take, as far as a small set asks them.
-/
import Derived.Test.YtlfejgjhamcahaaY2
import Derived.Deep.RegionHeld3
import Derived.Deep.DrawnRows
namespace Go.Proofs.Ytlfejgjhamcahaa
open Go.RowKit
set_option linter.unusedVariables false
attribute [local go_sem ↓] Go.wp_at_zero Go.wp_at_succ

section
variable {w w' : World} {sb qb gq hb gh n most turn : Nat} {R R' : List (Nat × Nat)} {L L' : List Ph.Item}
theorem St.turned (h : St w sb qb gq hb gh n most turn R L) (t : Nat) : St (w.setCell ⟨sb, 4, none⟩ (.int .u64 (t : Int))) sb qb gq hb gh n most t R L := by
  have hf : Fr (fun k => k = sb) w (w.setCell ⟨sb, 4, none⟩ (.int .u64 (t : Int))) := Fr.setCell (S := fun k => k = sb) (a := ⟨sb, 4, none⟩) (Fr.refl _ _) rfl _
  have hne := h.ne
  have b1 := h.q.blocks
  have b2 := h.h.blocks
  exact ⟨by rw [Ph.set_other _ _ _ _ _ _ (by omega)]; exact h.c0, by rw [Ph.set_other _ _ _ _ _ _ (by omega)]; exact h.c1, by rw [Ph.set_other _ _ _ _ _ _ (by omega)]; exact h.c2, by rw [Ph.set_other _ _ _ _ _ _ (by omega)]; exact h.c3, Ph.set_same _ _ _ _ h.c4, fun o => by rw [World.frozen?_setCell]; exact h.fz o, h.q.kept (hf.block qb b1.1 (by omega)) (hf.block gq b1.2.1 (by omega)), h.h.kept (hf.block hb b2.1 (by omega)) (hf.block gh b2.2.1 (by omega)), hne⟩
set_option maxHeartbeats 1000000 in
theorem smay_ok (h : St w sb qb gq hb gh n most turn R L) (id : Nat) (hi : id < n) (k : Ke.K) (hk : Ke.rightK k = true) :
    Calls Try.prog 74 #[.pointer (some ⟨sb, 0, none⟩), .int .i64 (id : Int), .agg #[.bool k.e, .int .u64 k.d, .int .u8 k.l]] w fun e w' => e = .returned (.int .i64 0) ∧ Below w.heap.size w w' := by
  have c2 := h.c2
  have hlt := h.lt
  have hn := h.h.nle
  have hR : ∀ W, Calls Try.prog 49 #[.agg #[.bool k.e, .int .u64 k.d, .int .u8 k.l]] W fun e w' => e = .returned (.bool true) ∧ Below W.heap.size W w' := fun W => by
    have := Ke.right_ok W k
    rw [hk] at this
    exact this
  have HR := veil hR
  clear h hR hk
  go_enter Try.func74, Try.ntmps74
  go_wp2_with (go_at_call 49; refine (HR.out _).mono ?_; rintro e w1 ⟨rfl, hb1⟩; have HB := veil (((Below.refl w.heap.size w).alloc (Nat.le_refl _) _).trans (hb1.mono (by simp))); clear hb1)
  go_ret
  exact ⟨rfl, HB.out⟩
set_option maxHeartbeats 1000000 in
theorem slen_ok (h : St w sb qb gq hb gh n most turn R L) (hl : R.length + L.length ≤ 4096) :
    Calls Try.prog 44 #[.pointer (some ⟨sb, 0, none⟩)] w fun e w' => e = .returned (.int .i64 ((R.length + L.length : Nat) : Int)) ∧ Below w.heap.size w w' := by
  have c0 := h.c0
  have c1 := h.c1
  have HQ := veil h.q
  have HH := veil h.h
  have hwr : IntKind.i64.wrap ((R.length : Int) + (L.length : Int)) = (R.length : Int) + (L.length : Int) := by simp [IntKind.wrap, IntKind.bits, IntKind.signed]; omega
  clear h
  go_enter Try.func44, Try.ntmps44
  go_wp2
  go_region_held3 (fun w' => w'.cell? ⟨sb, 0, none⟩ = some (.pointer (some ⟨qb, 0, none⟩)) ∧ w'.cell? ⟨sb, 1, none⟩ = some (.pointer (some ⟨hb, 0, none⟩)))
    (first | go_keep)
    (first
      | (go_at_call 69; refine (Bq.len_is _ qb gq n R (HQ.out.kept (w' := w.drew) rfl rfl)).mono ?_; rintro e w1 ⟨rfl, hw⟩; replace hw := hw.symm; subst hw)
      | (go_at_call 70; refine (Ph.hlen_ok (HH.out.kept (w' := w.drew) rfl rfl)).mono ?_; rintro e w1 ⟨rfl, hw⟩; replace hw := hw.symm; subst hw))
  go_wp2
  go_ret
  exact ⟨by simp , (Below.refl _ _).drew⟩
set_option maxHeartbeats 1000000 in
theorem sput_level (h : St w sb qb gq hb gh n most turn R L) (ht : turn ≤ 1000) (id lv : Nat) (hi : id < n) (hlv : lv < 256) (hno : ∀ it ∈ R, it.1 ≠ id) :
    Calls Try.prog 75 #[.pointer (some ⟨sb, 0, none⟩), .int .i64 (id : Int), .agg #[.bool false, .int .u64 0, .int .u8 (lv : Int)]] w fun e w' => e = .returned (.tuple #[]) ∧ St w' sb qb gq hb gh n most (turn + 1) (R ++ [(id, lv)]) L ∧ Fr (fun k => k = sb ∨ k = qb ∨ k = gq) w w' := by
  have hA := (Below.refl w.heap.size w).alloc (Nat.le_refl _) (.cells #[.bool false, .int .u64 0, .int .u8 (lv : Int)] 25)
  have hS := h.below hA
  have c0 := hS.c0
  have c1 := hS.c1
  have c4 := hS.c4
  have HA := veil hA
  have HS := veil hS
  have HP := veil (fun q => pput_level (hS.below (below_drewN (Below.refl _ _) q)) id lv turn hi hlv hno)
  have HC : Hid (∀ i v, i < 3 → (#[.bool false, .int .u64 0, .int .u8 (lv : Int)] : Array Value)[i]? = some v → (w.alloc (.cells #[.bool false, .int .u64 0, .int .u8 (lv : Int)] 25)).cell? ⟨w.heap.size, i, none⟩ = some v) := fun i v _ e => by rw [Ph.cell_new]; exact e
  have NQ : Hid (¬ (w.heap.size = qb ∨ w.heap.size = gq)) := by have := h.q.blocks; unfold Hid; omega
  clear h hS hA
  go_enter Try.func75, Try.ntmps75
  go_wp2
  go_region_held3 (fun w' => w'.cell? ⟨sb, 0, none⟩ = some (.pointer (some ⟨qb, 0, none⟩)) ∧ w'.cell? ⟨sb, 1, none⟩ = some (.pointer (some ⟨hb, 0, none⟩)) ∧ w'.cell? ⟨sb, 4, none⟩ = some (.int .u64 (turn : Int)) ∧ w'.cell? ⟨w.heap.size, 0, none⟩ = some (.bool false) ∧ w'.cell? ⟨w.heap.size, 1, none⟩ = some (.int .u64 0) ∧ w'.cell? ⟨w.heap.size, 2, none⟩ = some (.int .u8 (lv : Int)))
    (first | exact HK.out | go_keep)
    ((go_at_call 95; refine (HP.out 1).mono ?_; rintro e w1 ⟨rfl, hx, hf⟩; have HX := veil hx; have HF := veil hf; have d4 := hx.c4; have f4 := hx.fz 4; have hsb := hx.lt; have HK := veil (And.intro hx.c0 (And.intro hx.c1 (And.intro hx.c4 (And.intro ((hf.cell (a := ⟨w.heap.size, 0, none⟩) (by simp) NQ.out).trans (HC.out 0 _ (by decide) rfl)) (And.intro ((hf.cell (a := ⟨w.heap.size, 1, none⟩) (by simp) NQ.out).trans (HC.out 1 _ (by decide) rfl)) ((hf.cell (a := ⟨w.heap.size, 2, none⟩) (by simp) NQ.out).trans (HC.out 2 _ (by decide) rfl))))))); clear hx hf))
  go_wp2
  go_end0
  exact ⟨rfl, HX.out.turned (turn + 1), Fr.setCell (S := fun k => k = sb ∨ k = qb ∨ k = gq) (a := ⟨sb, 4, none⟩) (((Fr.of_below' HA.out).drewN 1).trans (HF.out.wide (fun k _ q => .inr q))) (.inl rfl) _⟩
set_option maxHeartbeats 1000000 in
theorem sput_dead (h : St w sb qb gq hb gh n most turn R L) (ht : turn ≤ 1000) (id d : Nat) (hi : id < n) (hno : ∀ it ∈ L, it.1 ≠ id) :
    Calls Try.prog 75 #[.pointer (some ⟨sb, 0, none⟩), .int .i64 (id : Int), .agg #[.bool true, .int .u64 (d : Int), .int .u8 0]] w fun e w' => e = .returned (.tuple #[]) ∧ St w' sb qb gq hb gh n most (turn + 1) R (Ph.ins (id, d, turn) L) ∧ Fr (fun k => k = sb ∨ k = hb ∨ k = gh) w w' := by
  have hA := (Below.refl w.heap.size w).alloc (Nat.le_refl _) (.cells #[.bool true, .int .u64 (d : Int), .int .u8 0] 25)
  have hS := h.below hA
  have c0 := hS.c0
  have c1 := hS.c1
  have c4 := hS.c4
  have HA := veil hA
  have HS := veil hS
  have HP := veil (fun q => pput_dead (hS.below (below_drewN (Below.refl _ _) q)) id d turn hi hno)
  have HC : Hid (∀ i v, i < 3 → (#[.bool true, .int .u64 (d : Int), .int .u8 0] : Array Value)[i]? = some v → (w.alloc (.cells #[.bool true, .int .u64 (d : Int), .int .u8 0] 25)).cell? ⟨w.heap.size, i, none⟩ = some v) := fun i v _ e => by rw [Ph.cell_new]; exact e
  have NQ : Hid (¬ (w.heap.size = hb ∨ w.heap.size = gh)) := by have := h.h.blocks; unfold Hid; omega
  clear h hS hA
  go_enter Try.func75, Try.ntmps75
  go_wp2
  go_region_held3 (fun w' => w'.cell? ⟨sb, 0, none⟩ = some (.pointer (some ⟨qb, 0, none⟩)) ∧ w'.cell? ⟨sb, 1, none⟩ = some (.pointer (some ⟨hb, 0, none⟩)) ∧ w'.cell? ⟨sb, 4, none⟩ = some (.int .u64 (turn : Int)) ∧ w'.cell? ⟨w.heap.size, 0, none⟩ = some (.bool true) ∧ w'.cell? ⟨w.heap.size, 1, none⟩ = some (.int .u64 (d : Int)) ∧ w'.cell? ⟨w.heap.size, 2, none⟩ = some (.int .u8 0))
    (first | exact HK.out | go_keep)
    ((go_at_call 95; refine (HP.out 1).mono ?_; rintro e w1 ⟨rfl, hx, hf⟩; have HX := veil hx; have HF := veil hf; have d4 := hx.c4; have f4 := hx.fz 4; have hsb := hx.lt; have HK := veil (And.intro hx.c0 (And.intro hx.c1 (And.intro hx.c4 (And.intro ((hf.cell (a := ⟨w.heap.size, 0, none⟩) (by simp) NQ.out).trans (HC.out 0 _ (by decide) rfl)) (And.intro ((hf.cell (a := ⟨w.heap.size, 1, none⟩) (by simp) NQ.out).trans (HC.out 1 _ (by decide) rfl)) ((hf.cell (a := ⟨w.heap.size, 2, none⟩) (by simp) NQ.out).trans (HC.out 2 _ (by decide) rfl))))))); clear hx hf))
  go_wp2
  go_end0
  exact ⟨rfl, HX.out.turned (turn + 1), Fr.setCell (S := fun k => k = sb ∨ k = hb ∨ k = gh) (a := ⟨sb, 4, none⟩) (((Fr.of_below' HA.out).drewN 1).trans (HF.out.wide (fun k _ q => .inr q))) (.inl rfl) _⟩
end
end Go.Proofs.Ytlfejgjhamcahaa
