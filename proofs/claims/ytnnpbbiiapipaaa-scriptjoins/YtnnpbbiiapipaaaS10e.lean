/-
  prog: Decode on both sides, with the row that it answers.
-/
import Derived.Test.YtnnpbbiiapipaaaO25
namespace Go.Proofs.Ytnnpbbiiapipaaa
open Go.RowKit Go.Lib
set_option linter.unusedVariables false
theorem decode_row (w : World) (a : Option Addr) (len cap : Nat) (X : Nat → Nat) (hb : Byt w a len X) (hc : len ≤ cap) (hcap : cap < 9223372036854775808) (hx : X 0 < 256) (he : len = 1 + 4 * X 0) (hr : Rt (X 0) (deO X) (deR X)) :
    Calls Try.prog 42 #[.slice a len cap] w fun e w' => ∃ a' cap', e = .returned (.tuple #[.slice a' (X 0) cap', .int .i64 0]) ∧ w'.ownsRow w.heap.size 64 2 (.slice a' (X 0) cap') (X 0) (pcells (deO X) (deR X) (X 0)) ∧ Below w.heap.size w w' := by
  have HR := veil (read_ok w a len cap X hb hc hcap)
  have HN := veil (fun w1 a1 cap1 hp => right_yes w1 a1 (X 0) cap1 (by omega) (deO X) (deR X) hp hr)
  have HE := veil he
  clear hb he hr
  go_enter Try.func42, Try.ntmps42
  go_wp2_with (first
    | (go_at_call 47; refine (HR.out).mono ?_; rintro e w1 ⟨v, rfl, hb, hv⟩; have hv2 : w1.ownsRow w.heap.size 64 2 v (X 0) (pcells (deO X) (deR X) (X 0)) := (by rcases hv with ⟨_, q⟩ | ⟨q, _⟩; exact q; exact absurd HE.out q); obtain ⟨a1, cap1, rfl, hp1⟩ := prg_any hv2; have HP1 := veil hp1; have HRW := veil hv2; have HB := veil hb; clear hb hv hv2 hp1)
    | (go_at_call 45; refine (HN.out _ _ _ HP1.out).mono ?_; rintro e w2 ⟨rfl, hb⟩; have HB2 := veil (HB.out.trans (hb.mono HB.out.size)); have HP2 := veil (row_below HRW.out hb); clear hb))
  go_ret2
  exact ⟨_, _, rfl, HP2.out, HB2.out⟩
set_option maxHeartbeats 4000000 in
theorem rdecode_row (w : World) (lb off len cap : Nat) (X : Nat → Nat) (hlb : lb < w.heap.size) (hx : ∀ j, j < len → w.cell? ⟨lb, off + j, none⟩ = some (.int .u8 (X j : Int)) ∧ X j < 256) (hx0 : X 0 < 256) (he : len = 1 + 4 * X 0) (hcap : cap < 9223372036854775808) :
    Calls Try.prog 44 #[.slice (some ⟨lb, off, none⟩) len cap] w fun e w' => (Rt (X 0) (deO X) (deR X) ∧ (∃ a' cap', e = .returned (.tuple #[.slice a' (X 0) cap', .int .i64 0]) ∧ w'.ownsRow w.heap.size 64 2 (.slice a' (X 0) cap') (X 0) (pcells (deO X) (deR X) (X 0))) ∨ ¬ Rt (X 0) (deO X) (deR X) ∧ e = .returned (.tuple #[.slice none 0 0, .int .i64 3])) ∧ Below w.heap.size w w' := by
  obtain ⟨y0, x0⟩ := hx 0 (by omega)
  rw [Nat.add_zero] at y0
  have h0' : ¬ (len : Int) < 1 := by omega
  have h1 : (0 : Int) < (len : Int) := by omega
  have h2 : (len : Int) = 1 + 4 * (X 0 : Int) := by omega
  have h3 : ((len : Int) != 1 + 4 * (X 0 : Int)) = false := by simpa using h2
  have HX := veil hx
  clear hx
  generalize hk : X 0 = k at *
  have HE := veil he
  have HK := veil hk
  clear he hk h2
  go_enter Try.func44, Try.ntmps44
  go_wp2
  go_loopw [4, 5] (fun s i wr => ∃ (m t : Nat), m ≤ k ∧ t = 1 + 4 * m ∧ i = .int .i64 t ∧ wr.ownsRow w.heap.size 64 2 s m (pcells (deO X) (deR X) m) ∧ Below w.heap.size w wr) (fun _ i _ => len - (intOf i).toNat)
  case atStart => exact ⟨0, 1, by omega, rfl, rfl, World.ownsRow_nil _ _ _ _, Below.refl _ _⟩
  case round =>
    obtain ⟨m, t, hm, ht, rfl, hown, hbel⟩ := hrel
    have hlen := HE.out
    by_cases hml : m < k
    · have g0 : (t : Int) < (len : Int) := by omega
      obtain ⟨t1, ht1⟩ : ∃ t1, t1 = t + 1 := ⟨_, rfl⟩
      obtain ⟨t2, ht2⟩ : ∃ t2, t2 = t + 2 := ⟨_, rfl⟩
      obtain ⟨t3, ht3⟩ : ∃ t3, t3 = t + 3 := ⟨_, rfl⟩
      obtain ⟨t4, ht4⟩ : ∃ t4, t4 = t + 4 := ⟨_, rfl⟩
      have s1 : (t : Int) + 1 = (t1 : Int) := by omega
      have s2 : (t : Int) + 2 = (t2 : Int) := by omega
      have s3 : (t : Int) + 3 = (t3 : Int) := by omega
      have s4 : (t : Int) + 4 = (t4 : Int) := by omega
      have g1 : (t1 : Int) < (len : Int) := by omega
      have g2 : (t2 : Int) < (len : Int) := by omega
      have g3 : (t3 : Int) < (len : Int) := by omega
      have g4 : t4 < 2000 := by omega
      have r1 : IntKind.i64.wrap (t1 : Int) = (t1 : Int) := wrapI _ (by omega) (by omega)
      have r2 : IntKind.i64.wrap (t2 : Int) = (t2 : Int) := wrapI _ (by omega) (by omega)
      have r3 : IntKind.i64.wrap (t3 : Int) = (t3 : Int) := wrapI _ (by omega) (by omega)
      have r4 : IntKind.i64.wrap (t4 : Int) = (t4 : Int) := wrapI _ (by omega) (by omega)
      have l1 : t1 < len := by omega
      have l2 : t2 < len := by omega
      have l3 : t3 < len := by omega
      have l0 : t < len := by omega
      have cc : ∀ q, q < len → wr.cell? ⟨lb, off + q, none⟩ = some (.int .u8 (X q : Int)) := fun q hq => (hbel.cell (p := ⟨lb, off + q, none⟩) hlb).trans (HX.out q hq).1
      have z0 := cc t (by omega)
      have z1 := cc t1 (by omega)
      have z2 := cc t2 (by omega)
      have z3 := cc t3 (by omega)
      have x0' := (HX.out t (by omega)).2
      have x1' := (HX.out t1 (by omega)).2
      have x2' := (HX.out t2 (by omega)).2
      have x3' := (HX.out t3 (by omega)).2
      clear cc
      generalize hd0 : X t = d0 at z0 x0'
      generalize hd1 : X t1 = d1 at z1 x1'
      generalize hd2 : X t2 = d2 at z2 x2'
      generalize hd3 : X t3 = d3 at z3 x3'
      have hD : Hid (deO X m = (d0 : Int) ∧ deR X m = ((d1 * 65536 + d2 * 256 + d3 : Nat) : Int)) := by
        unfold deO deR
        rw [show 2 + 4 * m = t1 by omega, show 3 + 4 * m = t2 by omega, show 4 + 4 * m = t3 by omega, show 1 + 4 * m = t by omega, hd0, hd1, hd2, hd3]
        exact ⟨rfl, rfl⟩
      have HT4 := veil (show t4 = 1 + 4 * (m + 1) by omega)
      have HTL := veil (show len - t4 < len - t by omega)
      clear ht1 ht2 ht3 ht4
      have o1 : bits .or .i64 ((d1 : Int) * 65536) ((d2 : Int) * 256) = (d1 : Int) * 65536 + (d2 : Int) * 256 := by
        have q := or16 d1 (d2 * 256) (by omega) (by omega)
        simpa using q
      have o2 : bits .or .i64 ((d1 : Int) * 65536 + (d2 : Int) * 256) (d3 : Int) = (d1 : Int) * 65536 + (d2 : Int) * 256 + (d3 : Int) := by
        have q := or8 (d1 * 256 + d2) d3 (by omega) x3'
        have e : ((d1 * 256 + d2 : Nat) : Int) * 256 = (d1 : Int) * 65536 + (d2 : Int) * 256 := by omega
        rw [e] at q
        exact q
      have v0' : IntKind.i64.wrap (d0 : Int) = (d0 : Int) := wrapI _ (by omega) (by omega)
      have v1' : IntKind.i64.wrap (d1 : Int) = (d1 : Int) := wrapI _ (by omega) (by omega)
      have v2' : IntKind.i64.wrap (d2 : Int) = (d2 : Int) := wrapI _ (by omega) (by omega)
      have v3' : IntKind.i64.wrap (d3 : Int) = (d3 : Int) := wrapI _ (by omega) (by omega)
      have v4' : IntKind.i64.wrap ((d1 : Int) * 65536) = (d1 : Int) * 65536 := wrapI _ (by omega) (by omega)
      have v5' : IntKind.i64.wrap ((d2 : Int) * 256) = (d2 : Int) * 256 := wrapI _ (by omega) (by omega)
      have HT := veil ht
      have HO := veil hown
      have HB := veil hbel
      clear hd0 hd1 hd2 hd3 ht hown hbel hlen
      have hsz := HB.out.size
      have HK1 := veil (grow_keeps HO.out HB.out hlb z0 z1)
      have HK2 := veil (grow_keeps HO.out HB.out hlb z2 z3)
      have HOW := veil (fun (W : World) (ob : Obj) (hW : W.heap = (wr.alloc ob).heap) => own_like (HO.out.alloc ob) hW)
      have HNW := veil (fun (W : World) (hW : W.heap = (wr.alloc (.cells #[.int .i64 (d0 : Int), .int .i64 ((d1 : Int) * 65536 + (d2 : Int) * 256 + (d3 : Int))] 64)).heap) => news_like (c := [.int .i64 (d0 : Int), .int .i64 ((d1 : Int) * 65536 + (d2 : Int) * 256 + (d3 : Int))]) hW)
      obtain ⟨i0, hi, hz0', hz1', hz2'⟩ := info_parts info_instr
      go_wp2
      refine wp_region_held_drew (S := (fun w' => w'.cell? ⟨lb, off + t, none⟩ = some (.int .u8 (d0 : Int)) ∧ w'.cell? ⟨lb, off + t1, none⟩ = some (.int .u8 (d1 : Int)) ∧ w'.cell? ⟨lb, off + t2, none⟩ = some (.int .u8 (d2 : Int)) ∧ w'.cell? ⟨lb, off + t3, none⟩ = some (.int .u8 (d3 : Int)))) (by kernel_rfl) ?_ (fun hHeld => ?_)
      · exact ⟨z0, z1, z2, z3⟩
      refine wpAnyH_take (i := 0) (v := ?_) rfl (by kernel_rfl) (by kernel_rfl) (by kernel_rfl) (fun _ _ _ h => h) (Or.inl ⟨by rfl, ?v0⟩) (by assumption) ?_
      case v0 => (intro w hSw; (try dsimp only at hSw); go_simp; try with_reducible rfl)
      try simp only [Act.put, List.setIfInBounds_toArray, List.set_cons_zero, List.set_cons_succ, List.getElem_toArray, List.getElem_cons_zero]
      refine wpAnyH_take (i := 1) (v := ?_) rfl (by kernel_rfl) (by kernel_rfl) (by kernel_rfl) (fun _ _ _ h => h) (Or.inl ⟨by rfl, ?v1⟩) (by assumption) ?_
      case v1 => (intro w hSw; (try dsimp only at hSw); go_simp; try with_reducible rfl)
      try simp only [Act.put, List.setIfInBounds_toArray, List.set_cons_zero, List.set_cons_succ, List.getElem_toArray, List.getElem_cons_succ, List.getElem_cons_zero]
      refine wpAnyH_take (i := 2) (v := ?_) rfl (by kernel_rfl) (by kernel_rfl) (by kernel_rfl) (fun _ _ _ h => h) (Or.inl ⟨by rfl, ?v2⟩) (by assumption) ?_
      case v2 => (intro w hSw; (try dsimp only at hSw); go_simp; try with_reducible rfl)
      try simp only [Act.put, List.setIfInBounds_toArray, List.set_cons_zero, List.set_cons_succ, List.getElem_toArray, List.getElem_cons_succ, List.getElem_cons_zero]
      refine wpAnyH_take (i := 3) (v := ?_) rfl (by kernel_rfl) (by kernel_rfl) (by kernel_rfl) (fun _ _ _ h => h) (Or.inl ⟨by rfl, ?v3⟩) (by assumption) ?_
      case v3 => (intro w hSw; (try dsimp only at hSw); go_simp; try with_reducible rfl)
      try simp only [Act.put, List.setIfInBounds_toArray, List.set_cons_zero, List.set_cons_succ, List.getElem_toArray, List.getElem_cons_succ, List.getElem_cons_zero]
      refine wpAnyH_take (i := 4) (v := ?_) rfl (by kernel_rfl) (by kernel_rfl) (by kernel_rfl) (fun _ _ _ h => h) (Or.inl ⟨by rfl, ?v4⟩) (by assumption) ?_
      case v4 => (intro w hSw; (try dsimp only at hSw); go_simp; try with_reducible rfl)
      try simp only [Act.put, List.setIfInBounds_toArray, List.set_cons_zero, List.set_cons_succ, List.getElem_toArray, List.getElem_cons_succ, List.getElem_cons_zero]
      refine wpAnyH_take (i := 5) (v := ?_) rfl (by kernel_rfl) (by kernel_rfl) (by kernel_rfl) (fun _ _ _ h => h) (Or.inl ⟨by rfl, ?v5⟩) (by assumption) ?_
      case v5 => (intro w hSw; (try dsimp only at hSw); go_simp; try with_reducible rfl)
      try simp only [Act.put, List.setIfInBounds_toArray, List.set_cons_zero, List.set_cons_succ, List.getElem_toArray, List.getElem_cons_succ, List.getElem_cons_zero]
      refine wpAnyH_take (i := 6) (v := ?_) rfl (by kernel_rfl) (by kernel_rfl) (by kernel_rfl) (fun _ _ _ h => h) (Or.inl ⟨by rfl, ?v6⟩) (by assumption) ?_
      case v6 => (intro w hSw; (try dsimp only at hSw); go_simp; try with_reducible rfl)
      try simp only [Act.put, List.setIfInBounds_toArray, List.set_cons_zero, List.set_cons_succ, List.getElem_toArray, List.getElem_cons_succ, List.getElem_cons_zero]
      refine wpAnyH_take (i := 7) (v := ?_) rfl (by kernel_rfl) (by kernel_rfl) (by kernel_rfl) (fun _ _ _ h => h) (Or.inl ⟨by rfl, ?v7⟩) (by assumption) ?_
      case v7 => (intro w hSw; (try dsimp only at hSw); go_simp; try with_reducible rfl)
      try simp only [Act.put, List.setIfInBounds_toArray, List.set_cons_zero, List.set_cons_succ, List.getElem_toArray, List.getElem_cons_succ, List.getElem_cons_zero]
      refine wpAnyH_take (i := 8) (v := ?_) rfl (by kernel_rfl) (by kernel_rfl) (by kernel_rfl) (fun _ _ _ h => h) (Or.inl ⟨by rfl, ?v8⟩) (by assumption) ?_
      case v8 => (intro w hSw; (try dsimp only at hSw); go_simp; try with_reducible rfl)
      try simp only [Act.put, List.setIfInBounds_toArray, List.set_cons_zero, List.set_cons_succ, List.getElem_toArray, List.getElem_cons_succ, List.getElem_cons_zero]
      refine wpAnyH_take (i := 9) (v := ?_) rfl (by kernel_rfl) (by kernel_rfl) (by kernel_rfl) (fun _ _ _ h => h) (Or.inl ⟨by rfl, ?v9⟩) (by assumption) ?_
      case v9 => (intro w hSw; (try dsimp only at hSw); go_simp; try with_reducible rfl)
      try simp only [Act.put, List.setIfInBounds_toArray, List.set_cons_zero, List.set_cons_succ, List.getElem_toArray, List.getElem_cons_succ, List.getElem_cons_zero]
      refine wpAnyH_take (i := 10) (v := ?_) rfl (by kernel_rfl) (by kernel_rfl) (by kernel_rfl) (fun _ _ _ h => h) (Or.inl ⟨by rfl, ?v10⟩) (by assumption) ?_
      case v10 => (intro w hSw; (try dsimp only at hSw); go_simp; try with_reducible rfl)
      try simp only [Act.put, List.setIfInBounds_toArray, List.set_cons_zero, List.set_cons_succ, List.getElem_toArray, List.getElem_cons_succ, List.getElem_cons_zero]
      refine wpAnyH_take (i := 11) (v := ?_) rfl (by kernel_rfl) (by kernel_rfl) (by kernel_rfl) (fun _ _ _ h => h) (Or.inl ⟨by rfl, ?v11⟩) (by assumption) ?_
      case v11 => (intro w hSw; (try dsimp only at hSw); go_simp; try with_reducible rfl)
      try simp only [Act.put, List.setIfInBounds_toArray, List.set_cons_zero, List.set_cons_succ, List.getElem_toArray, List.getElem_cons_succ, List.getElem_cons_zero]
      refine wpAnyH_take (i := 12) (v := ?_) rfl (by kernel_rfl) (by kernel_rfl) (by kernel_rfl) (fun _ _ _ h => h) (Or.inl ⟨by rfl, ?v12⟩) (by assumption) ?_
      case v12 => (intro w hSw; (try dsimp only at hSw); go_simp; try with_reducible rfl)
      try simp only [Act.put, List.setIfInBounds_toArray, List.set_cons_zero, List.set_cons_succ, List.getElem_toArray, List.getElem_cons_succ, List.getElem_cons_zero]
      refine wpAnyH_take (i := 13) (v := ?_) rfl (by kernel_rfl) (by kernel_rfl) (by kernel_rfl) (fun _ _ _ h => h) (Or.inl ⟨by rfl, ?v13⟩) (by assumption) ?_
      case v13 => (intro w hSw; (try dsimp only at hSw); go_simp; try with_reducible rfl)
      try simp only [Act.put, List.setIfInBounds_toArray, List.set_cons_zero, List.set_cons_succ, List.getElem_toArray, List.getElem_cons_succ, List.getElem_cons_zero]
      refine wpAnyH_take (i := 14) (v := ?_) rfl (by kernel_rfl) (by kernel_rfl) (by kernel_rfl) (fun _ _ _ h => h) (Or.inl ⟨by rfl, ?v14⟩) (by assumption) ?_
      case v14 => (intro w hSw; (try dsimp only at hSw); go_simp; try with_reducible rfl)
      try simp only [Act.put, List.setIfInBounds_toArray, List.set_cons_zero, List.set_cons_succ, List.getElem_toArray, List.getElem_cons_succ, List.getElem_cons_zero]
      refine wpAnyH_take (i := 15) (v := ?_) rfl (by kernel_rfl) (by kernel_rfl) (by kernel_rfl) (fun _ _ _ h => h) (Or.inl ⟨by rfl, ?v15⟩) (by assumption) ?_
      case v15 => (intro w hSw; (try dsimp only at hSw); go_simp; try with_reducible rfl)
      try simp only [Act.put, List.setIfInBounds_toArray, List.set_cons_zero, List.set_cons_succ, List.getElem_toArray, List.getElem_cons_succ, List.getElem_cons_zero]
      refine wpAnyH_take (i := 16) (v := ?_) rfl (by kernel_rfl) (by kernel_rfl) (by kernel_rfl) (fun _ _ _ h => h) (Or.inl ⟨by rfl, ?v16⟩) (by assumption) ?_
      case v16 => (intro w hSw; (try dsimp only at hSw); go_simp; try with_reducible rfl)
      try simp only [Act.put, List.setIfInBounds_toArray, List.set_cons_zero, List.set_cons_succ, List.getElem_toArray, List.getElem_cons_succ, List.getElem_cons_zero]
      refine wpAnyH_take (i := 17) (v := ?_) rfl (by kernel_rfl) (by kernel_rfl) (by kernel_rfl) (fun _ _ _ h => h) (Or.inl ⟨by rfl, ?v17⟩) (by assumption) ?_
      case v17 => (intro w hSw; (try dsimp only at hSw); go_simp; try with_reducible rfl)
      try simp only [Act.put, List.setIfInBounds_toArray, List.set_cons_zero, List.set_cons_succ, List.getElem_toArray, List.getElem_cons_succ, List.getElem_cons_zero]
      refine wpAnyH_take (i := 18) (v := ?_) rfl (by kernel_rfl) (by kernel_rfl) (by kernel_rfl) (fun _ _ _ h => h) (Or.inl ⟨by rfl, ?v18⟩) (by assumption) ?_
      case v18 => (intro w hSw; (try dsimp only at hSw); go_simp; try with_reducible rfl)
      try simp only [Act.put, List.setIfInBounds_toArray, List.set_cons_zero, List.set_cons_succ, List.getElem_toArray, List.getElem_cons_succ, List.getElem_cons_zero]
      refine wpAnyH_take (i := 19) (v := ?_) rfl (by kernel_rfl) (by kernel_rfl) (by kernel_rfl) (fun _ _ _ h => h) (Or.inl ⟨by rfl, ?v19⟩) (by assumption) ?_
      case v19 => (intro w hSw; (try dsimp only at hSw); go_simp; try with_reducible rfl)
      try simp only [Act.put, List.setIfInBounds_toArray, List.set_cons_zero, List.set_cons_succ, List.getElem_toArray, List.getElem_cons_succ, List.getElem_cons_zero]
      refine wpAnyH_take (i := 20) (v := ?_) rfl (by kernel_rfl) (by kernel_rfl) (by kernel_rfl) (fun _ _ _ h => h) (Or.inl ⟨by rfl, ?v20⟩) (by assumption) ?_
      case v20 => (intro w hSw; (try dsimp only at hSw); go_simp; try with_reducible rfl)
      try simp only [Act.put, List.setIfInBounds_toArray, List.set_cons_zero, List.set_cons_succ, List.getElem_toArray, List.getElem_cons_succ, List.getElem_cons_zero]
      refine wpAnyH_take (i := 21) (v := ?_) rfl (by kernel_rfl) (by kernel_rfl) (by kernel_rfl) (fun _ _ _ h => h) (Or.inl ⟨by rfl, ?v21⟩) (by assumption) ?_
      case v21 => (intro w hSw; (try dsimp only at hSw); go_simp; try with_reducible rfl)
      try simp only [Act.put, List.setIfInBounds_toArray, List.set_cons_zero, List.set_cons_succ, List.getElem_toArray, List.getElem_cons_succ, List.getElem_cons_zero]
      refine wpAnyH_take (i := 22) (v := ?_) rfl (by kernel_rfl) (by kernel_rfl) (by kernel_rfl) (fun _ _ _ h => h) (Or.inl ⟨by rfl, ?v22⟩) (by assumption) ?_
      case v22 => (intro w hSw; (try dsimp only at hSw); go_simp; try with_reducible rfl)
      try simp only [Act.put, List.setIfInBounds_toArray, List.set_cons_zero, List.set_cons_succ, List.getElem_toArray, List.getElem_cons_succ, List.getElem_cons_zero]
      refine wpAnyH_take (i := 23) (v := ?_) rfl (by kernel_rfl) (by kernel_rfl) (by kernel_rfl) (fun _ _ _ h => h) (Or.inl ⟨by rfl, ?v23⟩) (by assumption) ?_
      case v23 => (intro w hSw; (try dsimp only at hSw); go_simp; try with_reducible rfl)
      try simp only [Act.put, List.setIfInBounds_toArray, List.set_cons_zero, List.set_cons_succ, List.getElem_toArray, List.getElem_cons_succ, List.getElem_cons_zero]
      refine wpAnyH_take (i := 24) (v := ?_) rfl (by kernel_rfl) (by kernel_rfl) (by kernel_rfl) (fun _ _ _ h => h) (Or.inl ⟨by rfl, ?v24⟩) (by assumption) ?_
      case v24 => (intro w hSw; (try dsimp only at hSw); go_simp; try with_reducible rfl)
      try simp only [Act.put, List.setIfInBounds_toArray, List.set_cons_zero, List.set_cons_succ, List.getElem_toArray, List.getElem_cons_succ, List.getElem_cons_zero]
      refine wpAnyH_take (i := 25) (v := ?_) rfl (by kernel_rfl) (by kernel_rfl) (by kernel_rfl) (fun _ _ _ h => h) (Or.inl ⟨by rfl, ?v25⟩) (by assumption) ?_
      case v25 => (intro w hSw; (try dsimp only at hSw); go_simp; try with_reducible rfl)
      try simp only [Act.put, List.setIfInBounds_toArray, List.set_cons_zero, List.set_cons_succ, List.getElem_toArray, List.getElem_cons_succ, List.getElem_cons_zero]
      refine wpAnyH_take (i := 26) (v := ?_) rfl (by kernel_rfl) (by kernel_rfl) (by kernel_rfl) (fun _ _ _ h => h) (Or.inl ⟨by rfl, ?v26⟩) (by assumption) ?_
      case v26 => (intro w hSw; (try dsimp only at hSw); go_simp; try with_reducible rfl)
      try simp only [Act.put, List.setIfInBounds_toArray, List.set_cons_zero, List.set_cons_succ, List.getElem_toArray, List.getElem_cons_succ, List.getElem_cons_zero]
      refine wpAnyH_take (i := 27) (v := ?_) rfl (by kernel_rfl) (by kernel_rfl) (by kernel_rfl) (fun _ _ _ h => h) (Or.inl ⟨by rfl, ?v27⟩) (by assumption) ?_
      case v27 => (intro w hSw; (try dsimp only at hSw); go_simp; try with_reducible rfl)
      try simp only [Act.put, List.setIfInBounds_toArray, List.set_cons_zero, List.set_cons_succ, List.getElem_toArray, List.getElem_cons_succ, List.getElem_cons_zero]
      refine wpAnyH_take (i := 28) (v := ?_) rfl (by kernel_rfl) (by kernel_rfl) (by kernel_rfl) (fun _ _ _ h => h) (Or.inl ⟨by rfl, ?v28⟩) (by assumption) ?_
      case v28 => (intro w hSw; (try dsimp only at hSw); go_simp; try with_reducible rfl)
      try simp only [Act.put, List.setIfInBounds_toArray, List.set_cons_zero, List.set_cons_succ, List.getElem_toArray, List.getElem_cons_succ, List.getElem_cons_zero]
      refine wpAnyH_ready (rs := [29]) (by kernel_rfl) (by simp) ?_
      refine AllReadyH.cons rfl (fun K hK => ?_) AllReadyH.nil
      go_simp
      refine hK.out _ _ ?_ (fun hHeld => ?_)
      · go_keep
      clear hK K
      try simp only [Act.put, List.setIfInBounds_toArray, List.set_cons_zero, List.set_cons_succ, List.getElem_toArray, List.getElem_cons_succ, List.getElem_cons_zero]
      refine wpAnyH_ready (rs := [30]) (by kernel_rfl) (by simp) ?_
      refine AllReadyH.cons rfl (fun K hK => ?_) AllReadyH.nil
      refine step_append_any _ (by rfl) _ _ _ (by rfl) w.heap.size 64 i0 (.agg #[.int .i64 0, .int .i64 0]) 2 16 Try.underlying34 hi hz0' hz1' hz2' rfl (by decide) u4 m (pcells (deO X) (deR X) m) (by rfl) (HOW.out _ (.cells #[.int .i64 (d0 : Int), .int .i64 ((d1 : Int) * 65536 + (d2 : Int) * 256 + (d3 : Int))] 64) rfl) ⟨wr.heap.size, 0, none⟩ 1 1 [.int .i64 (d0 : Int), .int .i64 ((d1 : Int) * 65536 + (d2 : Int) * 256 + (d3 : Int))] (by rfl) rfl (HNW.out _ rfl) (by simp [Value.oneCell']) (by unfold maxLen; omega) (by omega) (by simp; omega) ?_
      intro v2 w2 ho2 hg2
      obtain ⟨hx1, hx2, hb2⟩ := HK1.out _ _ (.cells #[.int .i64 (d0 : Int), .int .i64 ((d1 : Int) * 65536 + (d2 : Int) * 256 + (d3 : Int))] 64) hg2 rfl rfl rfl rfl
      obtain ⟨hx3, hx4, _⟩ := HK2.out _ _ (.cells #[.int .i64 (d0 : Int), .int .i64 ((d1 : Int) * 65536 + (d2 : Int) * 256 + (d3 : Int))] 64) hg2 rfl rfl rfl rfl
      have HO2 := veil ho2
      have HB2 := veil hb2
      clear ho2 hg2 hb2
      refine hK.out _ _ ?_ (fun hHeld => ?_)
      · exact ⟨hx1, hx2, hx3, hx4⟩
      clear hK K
      try simp only [Act.put, List.setIfInBounds_toArray, List.set_cons_zero, List.set_cons_succ, List.getElem_toArray, List.getElem_cons_succ, List.getElem_cons_zero]
      refine wpAnyH_take (i := 31) (v := ?_) rfl (by kernel_rfl) (by kernel_rfl) (by kernel_rfl) (fun _ _ _ h => h) (Or.inl ⟨by rfl, ?v31⟩) (by assumption) ?_
      case v31 => (intro w hSw; (try dsimp only at hSw); go_simp; try with_reducible rfl)
      try simp only [Act.put, List.setIfInBounds_toArray, List.set_cons_zero, List.set_cons_succ, List.getElem_toArray, List.getElem_cons_succ, List.getElem_cons_zero]
      refine wpAnyH_done (by kernel_rfl) ?_ _
      go_wp2
      go_roundw
      case rel =>
        refine ⟨m + 1, t4, by omega, HT4.out, by go_num, ?_, HB2.out⟩
        have e : pcells (deO X) (deR X) (m + 1) = pcells (deO X) (deR X) m ++ [.int .i64 (d0 : Int), .int .i64 ((d1 : Int) * 65536 + (d2 : Int) * 256 + (d3 : Int))] := by
          simp only [pcells, hD.out.1, hD.out.2]
          simp
        rw [e]
        exact HO2.out
      case measure => have := HTL.out; simp [intOf]; omega
    · obtain rfl : m = k := by omega
      have g0 : ¬ (t : Int) < (len : Int) := by omega
      obtain ⟨a1, c1, rfl, hp1⟩ := prg_any hown
      have HP := veil hp1
      have HRW := veil hown
      have HB := veil hbel
      clear hown hbel hp1
      by_cases hr : Rt m (deO X) (deR X)
      · have HC := veil (rcheck_yes wr a1 m c1 (by omega) (deO X) (deR X) HP.out hr)
        have HR := veil hr
        clear hr
        go_wp2_with (go_at_call 27; refine (HC.out).mono ?_; rintro e w1 ⟨rfl, hb⟩; have HP1 := veil (row_below HRW.out hb); have HB1 := veil (HB.out.trans (hb.mono HB.out.size)); clear hb)
        go_ret2
        exact ⟨.inl ⟨HR.out, _, _, rfl, HP1.out⟩, HB1.out⟩
      · have HC := veil (rcheck_no wr a1 m c1 (by omega) (deO X) (deR X) HP.out hr)
        have HR := veil hr
        clear hr
        go_wp2_with (go_at_call 27; refine (HC.out).mono ?_; rintro e w1 ⟨y, rfl, hb, hk⟩; have HB1 := veil (HB.out.trans (hb.mono HB.out.size)); clear hb hk)
        go_ret2
        exact ⟨.inr ⟨HR.out, rfl⟩, HB1.out⟩
end Go.Proofs.Ytnnpbbiiapipaaa
