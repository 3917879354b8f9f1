/-
  exec: Step and Tick walked, and the document's.
-/
import Derived.Test.YteknpjjgppmlmaaJ1
namespace Go.Proofs.Yteknpjjgppmlmaa
open Go.RowKit Go.Lib
set_option linter.unusedVariables false

/-- Where one goes on behind an instruction. -/
def nxI (op arg pl : Int) : Int := if op = 8 then arg else if op = 9 then pl else pl + 1
/-- What is left behind it. -/
def lfI (op arg left : Int) : Int := if op = 1 then arg else left

theorem has_yes (w : World) (a : Option Addr) (len cap : Nat) (hlen : len < 9223372036854775808) (O R : Nat → Int) (hp : Prg w a len O R) (pl : Int) (hr : Rt len O R) (h0 : 0 ≤ pl) (h1 : pl < len) :
    Calls Try.prog 20 #[.slice a len cap, .int .i64 pl] w fun e w' => e = .returned (.bool true) ∧ Below w.heap.size w w' := by
  obtain ⟨y, hy⟩ := hr
  have HC := veil (check_known w a len cap hlen O R hp 0 y hy)
  clear hy hp
  go_enter Try.func20, Try.ntmps20
  go_wp2_with (go_at_call 23; refine (HC.out).mono ?_; rintro e w1 ⟨rfl, hb⟩; have HB := veil hb; clear hb)
  go_ret
  exact ⟨rfl, HB.out⟩
theorem has_no (w : World) (a : Option Addr) (len cap : Nat) (hlen : len < 9223372036854775808) (O R : Nat → Int) (hp : Prg w a len O R) (pl : Int) (hn : ¬ (Rt len O R ∧ 0 ≤ pl ∧ pl < len)) :
    Calls Try.prog 20 #[.slice a len cap, .int .i64 pl] w fun e w' => e = .returned (.bool false) ∧ Below w.heap.size w w' := by
  obtain ⟨x, y, hxy⟩ := chk_total len O R
  have HC := veil (check_known w a len cap hlen O R hp x y hxy)
  by_cases hx : x = 0
  · subst hx
    have hn' : ¬ (0 ≤ pl ∧ pl < len) := fun q => hn ⟨⟨y, hxy⟩, q⟩
    clear hn hxy hp
    by_cases h0 : 0 ≤ pl
    · have h1 : ¬ pl < (len : Int) := fun q => hn' ⟨h0, q⟩
      have h1' : decide (pl < (len : Int)) = false := decide_eq_false h1
      clear hn'
      go_enter Try.func20, Try.ntmps20
      go_wp2_with (go_at_call 23; refine (HC.out).mono ?_; rintro e w1 ⟨rfl, hb⟩; have HB := veil hb; clear hb)
      go_ret
      exact ⟨rfl, HB.out⟩
    · have h0' : decide (0 ≤ pl) = false := decide_eq_false h0
      clear hn'
      go_enter Try.func20, Try.ntmps20
      go_wp2_with (go_at_call 23; refine (HC.out).mono ?_; rintro e w1 ⟨rfl, hb⟩; have HB := veil hb; clear hb)
      go_ret
      exact ⟨rfl, HB.out⟩
  · have hx' : (x == 0) = false := by simpa using hx
    clear hxy hn hp
    go_enter Try.func20, Try.ntmps20
    go_wp2_with (go_at_call 23; refine (HC.out).mono ?_; rintro e w1 ⟨rfl, hb⟩; have HB := veil hb; clear hb)
    go_ret
    exact ⟨rfl, HB.out⟩

theorem behind_ok (w : World) (op arg pl left : Int) (h0 : 0 ≤ pl) (h1 : pl < 9223372036854775807) :
    Calls Try.prog 21 #[.agg #[.int .i64 op, .int .i64 arg], .agg #[.int .i64 pl, .int .i64 left]] w fun e w' => e = .returned (.agg #[.int .i64 (nxI op arg pl), .int .i64 (lfI op arg left)]) ∧ Below w.heap.size w w' := by
  by_cases h8 : op = 8
  · subst h8
    go_enter Try.func21, Try.ntmps21
    go_wp2
    refine bodyPost_ret (v := .agg #[.int .i64 arg, .int .i64 left]) ?_ rfl ⟨?_, ?_⟩
    · simp [results, Try.f21, go_sem]
    · simp [nxI, lfI]
    · exact (((Below.refl _ _).alloc (Nat.le_refl _) _).alloc (by simp) _).alloc (by simp; omega) _
  by_cases h9 : op = 9
  · subst h9
    go_enter Try.func21, Try.ntmps21
    go_wp2
    refine bodyPost_ret (v := .agg #[.int .i64 pl, .int .i64 left]) ?_ rfl ⟨?_, ?_⟩
    · simp [results, Try.f21, go_sem]
    · simp [nxI, lfI]
    · exact (((Below.refl _ _).alloc (Nat.le_refl _) _).alloc (by simp) _).alloc (by simp; omega) _
  by_cases hc : op = 1
  · subst hc
    go_enter Try.func21, Try.ntmps21
    go_wp2
    refine bodyPost_ret (v := .agg #[.int .i64 (pl + 1), .int .i64 arg]) ?_ rfl ⟨?_, ?_⟩
    · simp [results, Try.f21, go_sem]
    · simp [nxI, lfI]
    · exact (((Below.refl _ _).alloc (Nat.le_refl _) _).alloc (by simp) _).alloc (by simp; omega) _
  · have b8 : (op == 8) = false := by simpa using h8
    have b9 : (op == 9) = false := by simpa using h9
    have b1 : (op == 1) = false := by simpa using hc
    go_enter Try.func21, Try.ntmps21
    go_wp2
    refine bodyPost_ret (v := .agg #[.int .i64 (pl + 1), .int .i64 left]) ?_ rfl ⟨?_, ?_⟩
    · simp [results, Try.f21, go_sem]
    · simp [nxI, lfI, h8, h9, hc]
    · exact (((Below.refl _ _).alloc (Nat.le_refl _) _).alloc (by simp) _).alloc (by simp; omega) _

theorem step_busy (w : World) (a : Option Addr) (len cap : Nat) (pl left : Int) (h : 0 < left) :
    Calls Try.prog 11 #[.slice a len cap, .agg #[.int .i64 pl, .int .i64 left]] w fun e w' => e = .returned (.tuple #[.agg #[.int .i64 0, .int .i64 0], .agg #[.int .i64 pl, .int .i64 left], .bool true]) ∧ Below w.heap.size w w' := by
  go_enter Try.func11, Try.ntmps11
  go_wp2
  go_region_held3 (fun w' => w'.cell? ⟨w.heap.size, 0, none⟩ = some (.int .i64 pl) ∧ w'.cell? ⟨w.heap.size, 1, none⟩ = some (.int .i64 left))
    (first | go_keep)
    (fail)
  go_wp2
  refine bodyPost_ret (v := .tuple #[.agg #[.int .i64 0, .int .i64 0], .agg #[.int .i64 pl, .int .i64 left], .bool true]) ?_ rfl ⟨rfl, ?_⟩
  · simp [results, Try.f11, go_sem]
  · exact ((((Below.refl _ _).alloc (Nat.le_refl _) _).alloc (by simp) _).alloc (by simp; omega) _).drew
theorem rstep_busy (w : World) (a : Option Addr) (len cap : Nat) (pl left : Int) (h : 0 < left) :
    Calls Try.prog 12 #[.slice a len cap, .agg #[.int .i64 pl, .int .i64 left]] w fun e w' => e = .returned (.tuple #[.agg #[.int .i64 0, .int .i64 0], .agg #[.int .i64 pl, .int .i64 left], .bool true]) ∧ Below w.heap.size w w' := by
  go_enter Try.func12, Try.ntmps12
  go_wp2
  go_region_held3 (fun w' => w'.cell? ⟨w.heap.size, 0, none⟩ = some (.int .i64 pl) ∧ w'.cell? ⟨w.heap.size, 1, none⟩ = some (.int .i64 left))
    (first | go_keep)
    (fail)
  go_wp2
  refine bodyPost_ret (v := .tuple #[.agg #[.int .i64 0, .int .i64 0], .agg #[.int .i64 pl, .int .i64 left], .bool true]) ?_ rfl ⟨rfl, ?_⟩
  · simp [results, Try.f12, go_sem]
  · exact ((((Below.refl _ _).alloc (Nat.le_refl _) _).alloc (by simp) _).alloc (by simp; omega) _).drew
theorem tick_ok (w : World) (pl left : Int) (hw : left < 9223372036854775808) :
    Calls Try.prog 13 #[.agg #[.int .i64 pl, .int .i64 left]] w fun e w' => e = .returned (.agg #[.int .i64 pl, .int .i64 (if 0 < left then left - 1 else left)]) ∧ Below w.heap.size w w' := by
  by_cases h : 0 < left
  · rw [if_pos h]
    go_enter Try.func13, Try.ntmps13
    go_wp2
    refine bodyPost_ret (v := .agg #[.int .i64 pl, .int .i64 (left - 1)]) ?_ rfl ⟨rfl, ?_⟩
    · simp [results, Try.f13, go_sem]
    · exact ((Below.refl _ _).alloc (Nat.le_refl _) _).alloc (by simp) _
  · rw [if_neg h]
    go_enter Try.func13, Try.ntmps13
    go_wp2
    refine bodyPost_ret (v := .agg #[.int .i64 pl, .int .i64 left]) ?_ rfl ⟨rfl, ?_⟩
    · simp [results, Try.f13, go_sem]
    · exact ((Below.refl _ _).alloc (Nat.le_refl _) _).alloc (by simp) _
theorem rtick_ok (w : World) (pl left : Int) (hw : left < 9223372036854775808) :
    Calls Try.prog 14 #[.agg #[.int .i64 pl, .int .i64 left]] w fun e w' => e = .returned (.agg #[.int .i64 pl, .int .i64 (if 0 < left then left - 1 else left)]) ∧ Below w.heap.size w w' := by
  by_cases h : 0 < left
  · rw [if_pos h]
    go_enter Try.func14, Try.ntmps14
    go_wp2
    refine bodyPost_ret (v := .agg #[.int .i64 pl, .int .i64 (left - 1)]) ?_ rfl ⟨rfl, ?_⟩
    · simp [results, Try.f14, go_sem]
    · exact ((Below.refl _ _).alloc (Nat.le_refl _) _).alloc (by simp) _
  · rw [if_neg h]
    go_enter Try.func14, Try.ntmps14
    go_wp2
    refine bodyPost_ret (v := .agg #[.int .i64 pl, .int .i64 left]) ?_ rfl ⟨rfl, ?_⟩
    · simp [results, Try.f14, go_sem]
    · exact ((Below.refl _ _).alloc (Nat.le_refl _) _).alloc (by simp) _
theorem three_cells (w w1 : World) (x0 x1 y0 y1 z0 z1 : Value) (t1 t2 t3 : Nat)
    (hb : Below (((w.alloc (.cells #[x0, x1] t1)).alloc (.cells #[y0, y1] t2)).alloc (.cells #[z0, z1] t3)).heap.size (((w.alloc (.cells #[x0, x1] t1)).alloc (.cells #[y0, y1] t2)).alloc (.cells #[z0, z1] t3)) w1) :
    w1.heap[w.heap.size]? = some (.cells #[x0, x1] t1 (0, 0)) ∧ w1.heap[w.heap.size + 1]? = some (.cells #[y0, y1] t2 (0, 0)) ∧ w1.heap[w.heap.size + 1 + 1]? = some (.cells #[z0, z1] t3 (0, 0)) ∧ Below w.heap.size w w1 := by
  refine ⟨?_, ?_, ?_, ?_⟩
  · rw [hb.block _ (by simp; omega), Below.heap_alloc _ _ _ (by simp; omega), Below.heap_alloc _ _ _ (by simp)]
    exact (MapKept.heap_alloc w _).1
  · rw [hb.block _ (by simp), Below.heap_alloc _ _ _ (by simp)]
    have := (MapKept.heap_alloc (w.alloc (.cells #[x0, x1] t1)) (.cells #[y0, y1] t2)).1
    rwa [World.size_alloc] at this
  · rw [hb.block _ (by simp)]
    have := (MapKept.heap_alloc ((w.alloc (.cells #[x0, x1] t1)).alloc (.cells #[y0, y1] t2)) (.cells #[z0, z1] t3)).1
    rwa [World.size_alloc, World.size_alloc] at this
  · exact (((Below.refl _ _).alloc (Nat.le_refl _) _).alloc (by simp) _).alloc (by simp; omega) _ |>.trans (hb.mono (by simp; omega))
theorem two_cells {w : World} {b : Nat} {x0 x1 : Value} {t : Nat} (h : w.heap[b]? = some (.cells #[x0, x1] t (0, 0))) :
    w.cell? ⟨b, 0, none⟩ = some x0 ∧ w.cell? ⟨b, 1, none⟩ = some x1 ∧ w.frozen? ⟨b, 0, none⟩ = false ∧ w.frozen? ⟨b, 1, none⟩ = false := by
  refine ⟨?_, ?_, ?_, ?_⟩
  · unfold World.cell?; simp only [h]; rfl
  · unfold World.cell?; simp only [h]; rfl
  · unfold World.frozen?; simp only [h]; rfl
  · unfold World.frozen?; simp only [h]; rfl
theorem step_no (w : World) (a : Option Addr) (len cap : Nat) (hlen : len < 9223372036854775808) (O R : Nat → Int) (hp : Prg w a len O R) (pl left : Int) (hl : ¬ 0 < left) (hn : ¬ (Rt len O R ∧ 0 ≤ pl ∧ pl < len)) :
    Calls Try.prog 11 #[.slice a len cap, .agg #[.int .i64 pl, .int .i64 left]] w fun e w' => e = .returned (.tuple #[.agg #[.int .i64 9, .int .i64 0], .agg #[.int .i64 pl, .int .i64 left], .bool false]) ∧ Below w.heap.size w w' := by
  have HH := veil (fun w1 (hb : Below w.heap.size w w1) => has_no w1 a len cap hlen O R (hp.below hb) pl hn)
  clear hp hn
  go_enter Try.func11, Try.ntmps11
  go_wp2_with (go_at_call 20; refine (HH.out _ ((((Below.refl _ _).alloc (Nat.le_refl _) _).alloc (by simp) _).alloc (by simp; omega) _)).mono ?_; rintro e w1 ⟨rfl, hb⟩; obtain ⟨b1, b2, b3, hb2⟩ := three_cells _ _ _ _ _ _ _ _ _ _ _ hb; obtain ⟨c0, c1, f0, f1⟩ := two_cells b1; obtain ⟨c2, c3, f2, f3⟩ := two_cells b2; obtain ⟨c4, c5, f4, f5⟩ := two_cells b3; have HB := veil hb2; clear hb hb2 HH b1 b2 b3)
  go_region
  go_wp2
  refine bodyPost_ret (v := .tuple #[.agg #[.int .i64 9, .int .i64 0], .agg #[.int .i64 pl, .int .i64 left], .bool false]) ?_ rfl ⟨rfl, ?_⟩
  · simp [results, Try.f11, go_sem, c2, c3, c4, c5]
  · exact ((((HB.out.setCell (p := ⟨w.heap.size + 1, 0, none⟩) (by simp) _).setCell (p := ⟨w.heap.size + 1, 1, none⟩) (by simp) _).setCell (p := ⟨w.heap.size + 1 + 1, 0, none⟩) (by simp; omega) _).setCell (p := ⟨w.heap.size + 1 + 1, 1, none⟩) (by simp; omega) _).drew
/-- The cells of three structs of two, and that they may be written. -/
def Six (W : World) (b : Nat) (x0 x1 y0 y1 z0 z1 : Value) : Prop :=
  (W.cell? ⟨b, 0, none⟩ = some x0 ∧ W.cell? ⟨b, 1, none⟩ = some x1 ∧ W.cell? ⟨b + 1, 0, none⟩ = some y0 ∧ W.cell? ⟨b + 1, 1, none⟩ = some y1 ∧ W.cell? ⟨b + 1 + 1, 0, none⟩ = some z0 ∧ W.cell? ⟨b + 1 + 1, 1, none⟩ = some z1) ∧
  W.frozen? ⟨b + 1, 0, none⟩ = false ∧ W.frozen? ⟨b + 1, 1, none⟩ = false ∧ W.frozen? ⟨b + 1 + 1, 0, none⟩ = false ∧ W.frozen? ⟨b + 1 + 1, 1, none⟩ = false
theorem Six.below {W W' : World} {b : Nat} {x0 x1 y0 y1 z0 z1 : Value} (h : Six W b x0 x1 y0 y1 z0 z1) (hb : Below W.heap.size W W') : Six W' b x0 x1 y0 y1 z0 z1 := by
  obtain ⟨⟨h1, h2, h3, h4, h5, h6⟩, g1, g2, g3, g4⟩ := h
  have l : ∀ {p : Addr} {v : Value}, W.cell? p = some v → W'.cell? p = some v := fun {p v} h => (hb.cell (World.block_lt_of_cell? W p h)).trans h
  have g : ∀ {p : Addr} {v : Value}, W.cell? p = some v → W.frozen? p = false → W'.frozen? p = false := fun {p v} h h' => (hb.frozen (World.block_lt_of_cell? W p h)).trans h'
  exact ⟨⟨l h1, l h2, l h3, l h4, l h5, l h6⟩, g h3 g1, g h4 g2, g h5 g3, g h6 g4⟩
theorem Rt.at {len : Nat} {O R : Nat → Int} (h : Rt len O R) : len ≤ 64 := by
  obtain ⟨y, hy⟩ := h
  exact hy.zero.2.1
theorem step_yes (w : World) (a : Option Addr) (len cap : Nat) (O R : Nat → Int) (hp : Prg w a len O R) (j : Nat) (left : Int) (hl : ¬ 0 < left) (hr : Rt len O R) (hj : j < len) :
    Calls Try.prog 11 #[.slice a len cap, .agg #[.int .i64 (j : Int), .int .i64 left]] w fun e w' => e = .returned (.tuple #[.agg #[.int .i64 (O j), .int .i64 (R j)], .agg #[.int .i64 (nxI (O j) (R j) j), .int .i64 (lfI (O j) (R j) left)], .bool false]) ∧ Below w.heap.size w w' := by
  have h64 := hr.at
  have HH := veil (fun w1 (hb : Below w.heap.size w w1) => has_yes w1 a len cap (by omega) O R (hp.below hb) j hr (by omega) (by omega))
  have HV := veil (fun w1 => behind_ok w1 (O j) (R j) j left (by omega) (by omega))
  have HP : Hid (∀ w1, Below w.heap.size w w1 → ∃ lb off, a = some ⟨lb, off, none⟩ ∧ lb < w.heap.size ∧ w1.cell? ⟨lb, off + j * 2, none⟩ = some (.int .i64 (O j)) ∧ w1.cell? ⟨lb, off + j * 2 + 1, none⟩ = some (.int .i64 (R j))) := by
    intro w1 hb
    rcases hp with h0 | ⟨lb, off, rfl, hlb, hc⟩
    · omega
    · exact ⟨lb, off, rfl, hlb, (hb.cell (p := ⟨lb, off + j * 2, none⟩) hlb).trans (hc j hj).1, (hb.cell (p := ⟨lb, off + j * 2 + 1, none⟩) hlb).trans (hc j hj).2⟩
  have hj' : (j : Int) < (len : Int) := by omega
  clear hp hr
  go_enter Try.func11, Try.ntmps11
  go_wp2_with (go_at_call 20; refine (HH.out _ ((((Below.refl _ _).alloc (Nat.le_refl _) _).alloc (by simp) _).alloc (by simp; omega) _)).mono ?_; rintro e w1 ⟨rfl, hb⟩; obtain ⟨b1, b2, b3, hb2⟩ := three_cells _ _ _ _ _ _ _ _ _ _ _ hb; obtain ⟨c0, c1, f0, f1⟩ := two_cells b1; obtain ⟨c2, c3, f2, f3⟩ := two_cells b2; obtain ⟨c4, c5, f4, f5⟩ := two_cells b3; obtain ⟨lb, off, rfl, hlb, p0, p1⟩ := HP.out _ hb2; have q0 : ¬ lb = w.heap.size + 1 := (by omega); have HB := veil hb2; clear hb hb2 HH HP b1 b2 b3)
  have H6 : Six ((w1.setCell ⟨w.heap.size + 1, 0, none⟩ (.int .i64 (O j))).setCell ⟨w.heap.size + 1, 1, none⟩ (.int .i64 (R j))) w.heap.size (.int .i64 (j : Int)) (.int .i64 left) (.int .i64 (O j)) (.int .i64 (R j)) (.int .i64 0) (.int .i64 0) := by
    refine ⟨⟨?_, ?_, ?_, ?_, ?_, ?_⟩, ?_, ?_, ?_, ?_⟩ <;> simp [go_sem, c0, c1, c2, c3, c4, c5, f2, f3, f4, f5]
  have HB1 : Hid (Below w.heap.size w ((w1.setCell ⟨w.heap.size + 1, 0, none⟩ (.int .i64 (O j))).setCell ⟨w.heap.size + 1, 1, none⟩ (.int .i64 (R j)))) := (HB.out.setCell (p := ⟨w.heap.size + 1, 0, none⟩) (by simp) _).setCell (p := ⟨w.heap.size + 1, 1, none⟩) (by simp) _
  clear c0 c1 c2 c3 c4 c5 f0 f1 f2 f3 f4 f5 p0 p1 HB
  generalize (w1.setCell ⟨w.heap.size + 1, 0, none⟩ (.int .i64 (O j))).setCell ⟨w.heap.size + 1, 1, none⟩ (.int .i64 (R j)) = W at H6 HB1 ⊢
  have H7 := veil H6
  obtain ⟨⟨c0, c1, c2, c3, c4, c5⟩, f2, f3, f4, f5⟩ := H6
  go_region_held3 (fun w' => w'.cell? ⟨w.heap.size, 0, none⟩ = some (.int .i64 (j : Int)) ∧ w'.cell? ⟨w.heap.size, 1, none⟩ = some (.int .i64 left) ∧ w'.cell? ⟨w.heap.size + 1, 0, none⟩ = some (.int .i64 (O j)) ∧ w'.cell? ⟨w.heap.size + 1, 1, none⟩ = some (.int .i64 (R j)))
    (first | with_reducible exact ⟨c0, c1, c2, c3⟩ | with_reducible exact ⟨d0, d1, d2, d3⟩ | (refine ⟨?_, ?_, ?_, ?_⟩ <;> simp [go_sem, d0, d1, d2, d3]; done) | go_keep)
    (first | (go_at_call 21; refine (HV.out _).mono ?_; rintro e w2 ⟨rfl, hb0⟩; have hb : Below W.heap.size W w2 := ((Below.refl _ W).drew).trans hb0; clear hb0; obtain ⟨⟨d0, d1, d2, d3, d4, d5⟩, g2, g3, g4, g5⟩ := H7.out.below hb; have HB2 := veil (HB1.out.trans (hb.mono HB1.out.size)); clear hb))
  go_wp2
  refine bodyPost_ret (v := .tuple #[.agg #[.int .i64 (O j), .int .i64 (R j)], .agg #[.int .i64 (nxI (O j) (R j) j), .int .i64 (lfI (O j) (R j) left)], .bool false]) ?_ rfl ⟨rfl, ?_⟩
  · simp [results, Try.f11, go_sem, d2, d3, d4, d5]
  · exact ((((HB2.out.setCell (p := ⟨w.heap.size + 1, 0, none⟩) (by simp) _).setCell (p := ⟨w.heap.size + 1, 1, none⟩) (by simp) _).setCell (p := ⟨w.heap.size + 1 + 1, 0, none⟩) (by simp; omega) _).setCell (p := ⟨w.heap.size + 1 + 1, 1, none⟩) (by simp; omega) _)
end Go.Proofs.Yteknpjjgppmlmaa
