/-
  The walk of 'do': a deed on both.
-/
import Derived.Test.YtblickncecpajaaC25
namespace Go.Proofs.Ytblickncecpajaa
open Go.RowKit Go.Lib
set_option linter.unusedVariables false
attribute [local go_sem ↓] Go.wp_at_zero Go.wp_at_succ
theorem cell_new5 (w : World) (c : Array Value) (t : TypeId) (j : Nat) : (w.alloc (.cells c t)).cell? ⟨w.heap.size, j, none⟩ = c[j]? := by
  unfold World.cell?
  simp only [(MapKept.heap_alloc w _).1]
  rfl
def Bx (w : World) (nb : Nat) (x1 : Int) (b p n : Nat) : Prop := w.cell? ⟨nb, 1, none⟩ = some (.int .i64 x1) ∧ w.cell? ⟨nb, 2, none⟩ = some (.int .u64 (b : Int)) ∧ w.cell? ⟨nb, 3, none⟩ = some (.int .u64 (p : Int)) ∧ w.cell? ⟨nb, 4, none⟩ = some (.int .u64 (n : Int))
theorem Bx.new (w : World) (x0 x1 : Int) (b p n : Nat) (t : TypeId) : Bx (w.alloc (.cells #[.int .i64 x0, .int .i64 x1, .int .u64 (b : Int), .int .u64 (p : Int), .int .u64 (n : Int)] t)) w.heap.size x1 b p n := by
  refine ⟨?_, ?_, ?_, ?_⟩ <;> (rw [cell_new5]; rfl)
theorem Bx.fr {S : Nat → Prop} {w w' : World} {nb : Nat} {x1 : Int} {b p n : Nat} (h : Bx w nb x1 b p n) (hf : Fr S w w') (hn : ¬ S nb) : Bx w' nb x1 b p n :=
  have hs : nb < w.heap.size := World.block_lt_of_cell? w ⟨nb, 1, none⟩ h.1
  ⟨(hf.cell (a := ⟨nb, 1, none⟩) hs hn).trans h.1, (hf.cell (a := ⟨nb, 2, none⟩) hs hn).trans h.2.1, (hf.cell (a := ⟨nb, 3, none⟩) hs hn).trans h.2.2.1, (hf.cell (a := ⟨nb, 4, none⟩) hs hn).trans h.2.2.2⟩
theorem Fr.pre {S : Nat → Prop} {w0 w w' : World} (h : Fr S w w') (a : w.heap = w0.heap) (b : w.os = w0.os) (c : w.tape = w0.tape) (d : w.output = w0.output) : Fr S w0 w' :=
  ⟨h.os.trans b, h.tape.trans c, h.output.trans d, by rw [← a]; exact h.size, fun k hk hn => (h.block k (by rw [a]; exact hk) hn).trans (by rw [a])⟩
section
variable {w w' : World} {base s r P : Nat} {v u : Value} {L : List Srv}
theorem Both.below (h : Both w base s r P v u L) (hb : Below w.heap.size w w') : Both w' base s r P v u L := ⟨h.p.below hb, h.d.below hb, h.hs, h.hr⟩
theorem Both.na (h : Both w base s r P v u L) : ¬ (w.heap.size = s ∨ some w.heap.size = v.ownBlock) := fun q => by
  rcases q with q | q
  · have := h.p.lt; omega
  · obtain ⟨_, h2, _, _⟩ := ownsRow_blk h.p.own q.symm; omega
theorem Both.nb (h : Both w base s r P v u L) : ¬ (w.heap.size = r ∨ some w.heap.size = u.ownBlock) := fun q => by
  rcases q with q | q
  · have := h.d.lt; omega
  · obtain ⟨_, h2, _, _⟩ := ownsRow_blk h.d.own q.symm; omega
theorem Done.pre {w0 : World} (h : Done w base s r P w') (hb : Below base w0 w) : Done w0 base s r P w' := ⟨h.1, hb.trans h.2⟩
theorem charge_any (h : Pep w base s P v L) (i : Int) : Calls Try.prog 17 #[.pointer (some ⟨s, 0, none⟩), .int .i64 i] w fun e w' => e = .returned (.tuple #[.bool (chgB L i), .int .i64 (chgC L i : Int)]) ∧ (∃ v', Pep w' base s P v' (chgL L i)) ∧ Fr (fun k => k = s ∨ some k = v.ownBlock) w w' :=
  (charge_all h i).mono fun e w' ⟨a, b, c⟩ => ⟨a, ⟨v, b⟩, c⟩
end
set_option maxHeartbeats 4000000 in
theorem do_admit {w : World} {base s r P : Nat} {v u : Value} {L : List Srv} (h : Both w base s r P v u L) (x1 : Int) (b p n : Nat) :
    Calls Try.prog 24 #[.pointer (some ⟨s, 0, none⟩), .pointer (some ⟨r, 0, none⟩), .agg #[.int .i64 0, .int .i64 x1, .int .u64 (b : Int), .int .u64 (p : Int), .int .u64 (n : Int)]] w fun e w' => e = .returned (.bool true) ∧ Done w base s r P w' := by
  have hlow : Below base w (w.alloc (.cells #[.int .i64 0, .int .i64 x1, .int .u64 (b : Int), .int .u64 (p : Int), .int .u64 (n : Int)] 38)) := ((Below.refl _ _).alloc (Nat.le_refl _) _).mono h.p.bs
  have HL := veil hlow
  have HA := veil (h.below ((Below.refl _ _).alloc (Nat.le_refl _) (.cells #[.int .i64 0, .int .i64 x1, .int .u64 (b : Int), .int .u64 (p : Int), .int .u64 (n : Int)] 38)))
  have NA := veil h.na
  have HX := veil (Bx.new w 0 x1 b p n 38)
  have c1 := HX.out.1
  have c2 := HX.out.2.1
  have c3 := HX.out.2.2.1
  have c4 := HX.out.2.2.2
  clear h hlow
  go_enter Try.func24, Try.ntmps24
  go_wp2_with (first
    | (go_at_call 14; refine (admit_all HA.out.p b p).mono ?_; rintro e w1 ⟨rfl, hq1, hf1⟩; have HF1 := veil hf1; have HQ1 := veil hq1; have hx1 := HX.out.fr hf1 NA.out; have d1 := hx1.1; have d2 := hx1.2.1; have d3 := hx1.2.2.1; have d4 := hx1.2.2.2; clear hx1 hq1 hf1)
    | (go_at_call 43; refine (radmit_all (HA.out.prog HF1.out).1 b p).mono ?_; rintro e w2 ⟨rfl, hr2, hf2⟩; have HD := veil (Done.of HA.out HQ1.out HF1.out hr2 hf2); clear hr2 hf2))
  go_ret
  exact ⟨by simp, HD.out.pre HL.out⟩
set_option maxHeartbeats 4000000 in
theorem do_charge {w : World} {base s r P : Nat} {v u : Value} {L : List Srv} (h : Both w base s r P v u L) (x1 : Int) (b p n : Nat) :
    Calls Try.prog 24 #[.pointer (some ⟨s, 0, none⟩), .pointer (some ⟨r, 0, none⟩), .agg #[.int .i64 2, .int .i64 x1, .int .u64 (b : Int), .int .u64 (p : Int), .int .u64 (n : Int)]] w fun e w' => e = .returned (.bool true) ∧ Done w base s r P w' := by
  have hlow : Below base w (w.alloc (.cells #[.int .i64 2, .int .i64 x1, .int .u64 (b : Int), .int .u64 (p : Int), .int .u64 (n : Int)] 38)) := ((Below.refl _ _).alloc (Nat.le_refl _) _).mono h.p.bs
  have HL := veil hlow
  have HA := veil (h.below ((Below.refl _ _).alloc (Nat.le_refl _) (.cells #[.int .i64 2, .int .i64 x1, .int .u64 (b : Int), .int .u64 (p : Int), .int .u64 (n : Int)] 38)))
  have NA := veil h.na
  have HX := veil (Bx.new w 2 x1 b p n 38)
  have c1 := HX.out.1
  have c2 := HX.out.2.1
  have c3 := HX.out.2.2.1
  have c4 := HX.out.2.2.2
  clear h hlow
  go_enter Try.func24, Try.ntmps24
  go_wp2_with (first
    | (go_at_call 17; refine (charge_any HA.out.p x1).mono ?_; rintro e w1 ⟨rfl, hq1, hf1⟩; have HF1 := veil hf1; have HQ1 := veil hq1; have hx1 := HX.out.fr hf1 NA.out; have d1 := hx1.1; have d2 := hx1.2.1; have d3 := hx1.2.2.1; have d4 := hx1.2.2.2; clear hx1 hq1 hf1)
    | (go_at_call 45; refine (rcharge_all (HA.out.prog HF1.out).1 x1).mono ?_; rintro e w2 ⟨rfl, hr2, hf2⟩; have HD := veil (Done.of HA.out HQ1.out HF1.out hr2 hf2); clear hr2 hf2))
  go_ret
  exact ⟨by simp, HD.out.pre HL.out⟩
set_option maxHeartbeats 4000000 in
theorem do_wake {w : World} {base s r P : Nat} {v u : Value} {L : List Srv} (h : Both w base s r P v u L) (x1 : Int) (b p n : Nat) (hn : n < 18446744073709551616) :
    Calls Try.prog 24 #[.pointer (some ⟨s, 0, none⟩), .pointer (some ⟨r, 0, none⟩), .agg #[.int .i64 1, .int .i64 x1, .int .u64 (b : Int), .int .u64 (p : Int), .int .u64 (n : Int)]] w fun e w' => e = .returned (.bool true) ∧ Done w base s r P w' := by
  have hlow : Below base w (w.alloc (.cells #[.int .i64 1, .int .i64 x1, .int .u64 (b : Int), .int .u64 (p : Int), .int .u64 (n : Int)] 38)) := ((Below.refl _ _).alloc (Nat.le_refl _) _).mono h.p.bs
  have HL := veil hlow
  have HA := veil (h.below ((Below.refl _ _).alloc (Nat.le_refl _) (.cells #[.int .i64 1, .int .i64 x1, .int .u64 (b : Int), .int .u64 (p : Int), .int .u64 (n : Int)] 38)))
  have NA := veil h.na
  have NB := veil h.nb
  have HX := veil (Bx.new w 1 x1 b p n 38)
  have HC : Hid ((w.alloc (.cells #[.int .i64 1, .int .i64 x1, .int .u64 (b : Int), .int .u64 (p : Int), .int .u64 (n : Int)] 38)).drew.cell? ⟨w.heap.size, 1, none⟩ = some (.int .i64 x1) ∧ (w.alloc (.cells #[.int .i64 1, .int .i64 x1, .int .u64 (b : Int), .int .u64 (p : Int), .int .u64 (n : Int)] 38)).drew.cell? ⟨w.heap.size, 2, none⟩ = some (.int .u64 (b : Int)) ∧ (w.alloc (.cells #[.int .i64 1, .int .i64 x1, .int .u64 (b : Int), .int .u64 (p : Int), .int .u64 (n : Int)] 38)).drew.cell? ⟨w.heap.size, 3, none⟩ = some (.int .u64 (p : Int)) ∧ (w.alloc (.cells #[.int .i64 1, .int .i64 x1, .int .u64 (b : Int), .int .u64 (p : Int), .int .u64 (n : Int)] 38)).drew.cell? ⟨w.heap.size, 4, none⟩ = some (.int .u64 (n : Int))) := HX.out
  clear h hlow
  go_enter Try.func24, Try.ntmps24
  go_wp2
  go_region_held3 (fun w' => w'.cell? ⟨w.heap.size, 1, none⟩ = some (.int .i64 x1) ∧ w'.cell? ⟨w.heap.size, 2, none⟩ = some (.int .u64 (b : Int)) ∧ w'.cell? ⟨w.heap.size, 3, none⟩ = some (.int .u64 (p : Int)) ∧ w'.cell? ⟨w.heap.size, 4, none⟩ = some (.int .u64 (n : Int)))
    (first
      | exact HC.out
      | exact HX.out.fr HF1.out NA.out
      | exact (HX.out.fr HF1.out NA.out).fr HF2.out NB.out
      | go_keep)
    (first
      | (go_at_call 15; refine (wake_all (by exact HA.out.p.like rfl) x1 n hn).mono ?_; rintro e w1 ⟨rfl, hq1, hf1⟩; have HF1 := veil (Fr.pre (w0 := (w.alloc (.cells #[.int .i64 1, .int .i64 x1, .int .u64 (b : Int), .int .u64 (p : Int), .int .u64 (n : Int)] 38))) hf1 rfl rfl rfl rfl); have HQ1 := veil hq1; clear hq1 hf1)
      | (go_at_call 44; refine (rwake_all (HA.out.prog HF1.out).1 x1 n hn).mono ?_; rintro e w2 ⟨rfl, hr2, hf2⟩; have HF2 := veil hf2; have HR2 := veil hr2; clear hr2 hf2))
  have HD := veil (Done.of HA.out HQ1.out HF1.out HR2.out HF2.out)
  clear HQ1 HF1 HR2 HF2 HA
  go_wp2
  go_ret
  exact ⟨by simp, HD.out.pre HL.out⟩
theorem IL.of_row {w : World} {base : Nat} {lv : Value} {l : List Nat} (h : w.ownsRow base 3 1 lv l.length (intsN l)) : IL w base lv (l.map Int.ofNat) := by
  unfold IL
  rw [List.length_map, List.map_map]
  exact h
section
variable {w : World} {base s P : Nat} {v : Value} {L : List Srv}
def xsN (L : List Srv) (now : Nat) : List Int := (dueN L now L.length).map Int.ofNat
theorem refill_any (h : Pep w base s P v L) (now : Nat) (hn : now < 18446744073709551616) : Calls Try.prog 16 #[.pointer (some ⟨s, 0, none⟩), .int .u64 (now : Int)] w fun e w' => ∃ lv, e = .returned lv ∧ IL w' w.heap.size lv (xsN L now) ∧ (∃ v', Pep w' base s P v' (L.map (refS now))) ∧ Fr (fun k => k = s ∨ some k = v.ownBlock) w w' :=
  (refill_ok h now hn).mono fun e w' ⟨lv, a, b, c, d⟩ => ⟨lv, a, .of_row b, ⟨v, c⟩, d.wide (fun _ _ q => .inr q)⟩
theorem rrefill_any (h : Rep w base s P v L) (now : Nat) (hn : now < 18446744073709551616) : Calls Try.prog 47 #[.pointer (some ⟨s, 0, none⟩), .int .u64 (now : Int)] w fun e w' => ∃ lv, e = .returned lv ∧ IL w' w.heap.size lv (xsN L now) ∧ (∃ v', Rep w' base s P v' (L.map (refS now))) ∧ Fr (fun k => k = s ∨ some k = v.ownBlock) w w' :=
  (rrefill_ok h now hn).mono fun e w' ⟨lv, a, b, c, d⟩ => ⟨lv, a, .of_row b, ⟨v, c⟩, d.wide (fun _ _ q => .inr q)⟩
theorem Rep.lts (h : Rep w base s P v L) (k : Nat) (q : k = s ∨ some k = v.ownBlock) : k < w.heap.size := by
  rcases q with rfl | q
  · exact h.lt
  · exact (ownsRow_blk h.own q.symm).2.1
end
theorem Done.more {w w' w'' : World} {base s r P : Nat} (h : Done w base s r P w') (hb : Below w'.heap.size w' w'') : Done w base s r P w'' := by
  obtain ⟨⟨v, u, L, h1⟩, h2⟩ := h
  exact ⟨⟨v, u, L, h1.below hb⟩, h2.trans (hb.mono h1.p.bs)⟩
set_option maxHeartbeats 4000000 in
theorem do_refill {w : World} {base s r P : Nat} {v u : Value} {L : List Srv} (h : Both w base s r P v u L) (x1 : Int) (b p n : Nat) (hn : n < 18446744073709551616) :
    Calls Try.prog 24 #[.pointer (some ⟨s, 0, none⟩), .pointer (some ⟨r, 0, none⟩), .agg #[.int .i64 3, .int .i64 x1, .int .u64 (b : Int), .int .u64 (p : Int), .int .u64 (n : Int)]] w fun e w' => e = .returned (.bool true) ∧ Done w base s r P w' := by
  have hlow : Below base w (w.alloc (.cells #[.int .i64 3, .int .i64 x1, .int .u64 (b : Int), .int .u64 (p : Int), .int .u64 (n : Int)] 38)) := ((Below.refl _ _).alloc (Nat.le_refl _) _).mono h.p.bs
  have HL := veil hlow
  have HA := veil (h.below ((Below.refl _ _).alloc (Nat.le_refl _) (.cells #[.int .i64 3, .int .i64 x1, .int .u64 (b : Int), .int .u64 (p : Int), .int .u64 (n : Int)] 38)))
  have NA := veil h.na
  have NB := veil h.nb
  have HX := veil (Bx.new w 3 x1 b p n 38)
  have HC : Hid ((w.alloc (.cells #[.int .i64 3, .int .i64 x1, .int .u64 (b : Int), .int .u64 (p : Int), .int .u64 (n : Int)] 38)).drew.cell? ⟨w.heap.size, 1, none⟩ = some (.int .i64 x1) ∧ (w.alloc (.cells #[.int .i64 3, .int .i64 x1, .int .u64 (b : Int), .int .u64 (p : Int), .int .u64 (n : Int)] 38)).drew.cell? ⟨w.heap.size, 2, none⟩ = some (.int .u64 (b : Int)) ∧ (w.alloc (.cells #[.int .i64 3, .int .i64 x1, .int .u64 (b : Int), .int .u64 (p : Int), .int .u64 (n : Int)] 38)).drew.cell? ⟨w.heap.size, 3, none⟩ = some (.int .u64 (p : Int)) ∧ (w.alloc (.cells #[.int .i64 3, .int .i64 x1, .int .u64 (b : Int), .int .u64 (p : Int), .int .u64 (n : Int)] 38)).drew.cell? ⟨w.heap.size, 4, none⟩ = some (.int .u64 (n : Int))) := HX.out
  have hll : (xsN L n).length ≤ 1024 := by have := dueN_len L n L.length; have := h.p.f.len; simp [xsN]; omega
  generalize hxs : xsN L n = xs at hll
  have HV : Hid (∀ W, Pep W base s P v L → Calls Try.prog 16 #[.pointer (some ⟨s, 0, none⟩), .int .u64 (n : Int)] W fun e w' => ∃ lv, e = .returned lv ∧ IL w' W.heap.size lv xs ∧ (∃ v', Pep w' base s P v' (L.map (refS n))) ∧ Fr (fun k => k = s ∨ some k = v.ownBlock) W w') := fun W q => by rw [← hxs]; exact refill_any q n hn
  have HU : Hid (∀ W, Rep W base r P u L → Calls Try.prog 47 #[.pointer (some ⟨r, 0, none⟩), .int .u64 (n : Int)] W fun e w' => ∃ lv, e = .returned lv ∧ IL w' W.heap.size lv xs ∧ (∃ v', Rep w' base r P v' (L.map (refS n))) ∧ Fr (fun k => k = r ∨ some k = u.ownBlock) W w') := fun W q => by rw [← hxs]; exact rrefill_any q n hn
  have HLT : Hid (∀ k, k = r ∨ some k = u.ownBlock → k < (w.alloc (.cells #[.int .i64 3, .int .i64 x1, .int .u64 (b : Int), .int .u64 (p : Int), .int .u64 (n : Int)] 38)).heap.size) := fun k q => HA.out.d.lts k q
  clear h hlow hxs
  go_enter Try.func24, Try.ntmps24
  go_wp2
  go_region_held3 (fun w' => w'.cell? ⟨w.heap.size, 1, none⟩ = some (.int .i64 x1) ∧ w'.cell? ⟨w.heap.size, 2, none⟩ = some (.int .u64 (b : Int)) ∧ w'.cell? ⟨w.heap.size, 3, none⟩ = some (.int .u64 (p : Int)) ∧ w'.cell? ⟨w.heap.size, 4, none⟩ = some (.int .u64 (n : Int)))
    (first
      | exact HC.out
      | exact HX.out.fr HF1.out NA.out
      | exact (HX.out.fr HF1.out NA.out).fr HF2.out NB.out
      | exact ((HX.out.fr HF1.out NA.out).fr HF2.out NB.out).fr HF3.out id
      | go_keep)
    (first
      | (go_at_call 16; refine (HV.out _ (by exact HA.out.p.like rfl)).mono ?_; rintro e w1 ⟨lv1, rfl, hi1, hq1, hf1⟩; have HF1 := veil (Fr.pre (w0 := (w.alloc (.cells #[.int .i64 3, .int .i64 x1, .int .u64 (b : Int), .int .u64 (p : Int), .int .u64 (n : Int)] 38))) hf1 rfl rfl rfl rfl); have HQ1 := veil hq1; have HI1 : Hid (IL w1 (w.alloc (.cells #[.int .i64 3, .int .i64 x1, .int .u64 (b : Int), .int .u64 (p : Int), .int .u64 (n : Int)] 38)).heap.size lv1 xs) := hi1; clear hq1 hf1 hi1)
      | (go_at_call 47; refine (HU.out _ (HA.out.prog HF1.out).1).mono ?_; rintro e w2 ⟨lv2, rfl, hi2, hr2, hf2⟩; have HF2 := veil hf2; have HR2 := veil hr2; have HI2 := veil hi2; have HI3 : Hid (IL w2 (w.alloc (.cells #[.int .i64 3, .int .i64 x1, .int .u64 (b : Int), .int .u64 (p : Int), .int .u64 (n : Int)] 38)).heap.size lv1 xs) := owns_fr HI1.out hf2 (fun k hk _ q => by have := HLT.out k q; omega); clear hr2 hf2 hi2)
      | (go_at_call 46; refine (same_yes _ _ _ lv1 lv2 xs hll HI3.out HI2.out).mono ?_; rintro e w3 ⟨rfl, q, hw⟩; have HF3 : Hid (Fr (fun _ => False) w2 w3) := (by rw [hw]; exact ⟨rfl, rfl, rfl, Nat.le_refl _, fun _ _ _ => rfl⟩); have HB3 : Hid (Below w2.heap.size w2 w3) := (by rw [hw]; exact below_drewN (Below.refl _ _) _); clear hw))
  have HD := veil ((Done.of HA.out HQ1.out HF1.out HR2.out HF2.out).more HB3.out)
  clear HQ1 HF1 HR2 HF2 HA
  go_wp2
  go_ret
  exact ⟨by simp, HD.out.pre HL.out⟩
theorem do_other {w : World} {base s r P : Nat} {v u : Value} {L : List Srv} (h : Both w base s r P v u L) (x0 x1 : Int) (b p n : Nat) (h0 : ¬ x0 = 0) (h1 : ¬ x0 = 1) (h2 : ¬ x0 = 2) (h3 : ¬ x0 = 3) :
    Calls Try.prog 24 #[.pointer (some ⟨s, 0, none⟩), .pointer (some ⟨r, 0, none⟩), .agg #[.int .i64 x0, .int .i64 x1, .int .u64 (b : Int), .int .u64 (p : Int), .int .u64 (n : Int)]] w fun e w' => e = .returned (.bool true) ∧ Done w base s r P w' := by
  have HB := veil h
  clear h
  go_enter Try.func24, Try.ntmps24
  go_wp2
  go_ret
  have hb : Below w.heap.size w (w.alloc (.cells #[.int .i64 x0, .int .i64 x1, .int .u64 (b : Int), .int .u64 (p : Int), .int .u64 (n : Int)] 38)) := (Below.refl _ _).alloc (Nat.le_refl _) _
  exact ⟨rfl, ⟨_, _, _, HB.out.below hb⟩, hb.mono HB.out.p.bs⟩
theorem do_ok {w : World} {base s r P : Nat} {v u : Value} {L : List Srv} (h : Both w base s r P v u L) (x : Dd) (hx : x.ok) :
    Calls Try.prog 24 #[.pointer (some ⟨s, 0, none⟩), .pointer (some ⟨r, 0, none⟩), .agg #[.int .i64 x.k, .int .i64 x.i, .int .u64 (x.b : Int), .int .u64 (x.p : Int), .int .u64 (x.n : Int)]] w fun e w' => e = .returned (.bool true) ∧ Done w base s r P w' := by
  obtain ⟨x0, x1, b, p, n⟩ := x
  have hn : n < 18446744073709551616 := hx.2.2.2
  by_cases h0 : x0 = 0
  · subst h0; exact do_admit h x1 b p n
  by_cases h1 : x0 = 1
  · subst h1; exact do_wake h x1 b p n hn
  by_cases h2 : x0 = 2
  · subst h2; exact do_charge h x1 b p n
  by_cases h3 : x0 = 3
  · subst h3; exact do_refill h x1 b p n hn
  exact do_other h x0 x1 b p n h0 h1 h2 h3
end Go.Proofs.Ytblickncecpajaa
