/- Frames; what a map's size can be; the walk of keep. -/
import Derived.Test.YtjmbadadelelfaaWa3
namespace Go.Proofs.Ytjmbadadelelfaa
open Go.RowKit
set_option linter.unusedVariables false
set_option linter.unusedSimpArgs false
attribute [local go_sem ↓] Go.wp_at_zero Go.wp_at_succ
/-- A frame: blocks that were there and do not belong to S are as they were. -/
structure Fr (S : Nat → Prop) (w w' : World) : Prop where
  os : w'.os = w.os
  tape : w'.tape = w.tape
  output : w'.output = w.output
  size : w.heap.size ≤ w'.heap.size
  block : ∀ k, k < w.heap.size → ¬ S k → w'.heap[k]? = w.heap[k]?
section
variable {S S' : Nat → Prop} {w w' w'' : World}
theorem Fr.refl (S : Nat → Prop) (w : World) : Fr S w w := ⟨rfl, rfl, rfl, Nat.le_refl _, fun _ _ _ => rfl⟩
theorem Fr.wide (h : Fr S w w') (hs : ∀ k, k < w.heap.size → S k → S' k) : Fr S' w w' := ⟨h.os, h.tape, h.output, h.size, fun k hk hn => h.block k hk (fun q => hn (hs k hk q))⟩
theorem Fr.trans (h : Fr S w w') (h' : Fr S w' w'') : Fr S w w'' :=
  ⟨h'.os.trans h.os, h'.tape.trans h.tape, h'.output.trans h.output, Nat.le_trans h.size h'.size, fun k hk hn => (h'.block k (Nat.lt_of_lt_of_le hk h.size) hn).trans (h.block k hk hn)⟩
theorem Fr.alloc (h : Fr S w w') (o : Obj) : Fr S w (w'.alloc o) :=
  ⟨h.os, h.tape, h.output, Nat.le_trans h.size (by simp), fun k hk hn => (Below.heap_alloc _ _ _ (Nat.lt_of_lt_of_le hk h.size)).trans (h.block k hk hn)⟩
theorem Fr.setCell (h : Fr S w w') {a : Addr} (hb : S a.block) (u : Value) : Fr S w (w'.setCell a u) :=
  ⟨h.os, h.tape, h.output, by simpa using h.size, fun k hk hn => (Below.heap_setCell _ _ _ _ (fun e => hn (by rw [e]; exact hb))).trans (h.block k hk hn)⟩
theorem Fr.drewN (h : Fr S w w') (q : Nat) : Fr S w (w'.drewN q) := ⟨h.os, h.tape, h.output, h.size, h.block⟩
theorem Fr.cell (h : Fr S w w') {a : Addr} (hk : a.block < w.heap.size) (hn : ¬ S a.block) : w'.cell? a = w.cell? a := World.cell?_of_block (h.block _ hk hn)
theorem Fr.frozen (h : Fr S w w') {a : Addr} (hk : a.block < w.heap.size) (hn : ¬ S a.block) : w'.frozen? a = w.frozen? a := World.frozen?_of_block (h.block _ hk hn)
theorem Fr.of_below {B : Nat} (h : Below B w w') : Fr (fun k => B ≤ k) w w' := ⟨h.os, h.tape, h.output, h.size, fun k _ hn => h.block k (by omega)⟩
theorem Fr.of_below' (h : Below w.heap.size w w') : Fr S w w' := ⟨h.os, h.tape, h.output, h.size, fun k hk _ => h.block k hk⟩
theorem Fr.below {B : Nat} (h : Fr S w w') (hb : B ≤ w.heap.size) (hs : ∀ k, S k → B ≤ k) : Below B w w' := ⟨h.os, h.tape, h.output, h.size, fun k hk => h.block k (by omega) (fun q => by have := hs k q; omega)⟩
theorem Fr.of_only {b g : Nat} (h : Only b g w w') (h1 : S b) (h2 : S g) : Fr S w w' := ⟨h.os, h.tape, h.output, h.size, fun k hk hn => h.block k hk (fun e => hn (by rw [e]; exact h1)) (fun e => hn (by rw [e]; exact h2))⟩
theorem Fr.of_grown {row : Option Nat} (h : w.grownBy w' row) : Fr (fun k => some k = row) w w' := ⟨h.os, h.tape, h.output, h.size, h.block⟩
theorem Fr.grown {row : Option Nat} (h : Fr S w w') : (∀ k, k < w.heap.size → S k → some k = row) → w.grownBy w' row := fun hs => ⟨h.os, h.tape, h.output, h.size, fun k hk hn => h.block k hk (fun q => hn (hs k hk q))⟩
theorem Fr.drew (h : Fr S w w') : Fr S w w'.drew := ⟨h.os, h.tape, h.output, h.size, h.block⟩
theorem Fr.of_grown' {k : Nat} (h : w.grownBy w' (some k)) (hk : S k) : Fr S w w' := ⟨h.os, h.tape, h.output, h.size, fun j hj hn => h.block j hj (fun e => hn (by injection e with e; rw [e]; exact hk))⟩
end


theorem len_le_of_sub : ∀ {l m : List Int}, l.Nodup → (∀ x ∈ l, x ∈ m) → l.length ≤ m.length
  | [], _, _, _ => by simp
  | a :: l, m, hn, hs => by
    obtain ⟨h1, h2⟩ := List.nodup_cons.1 hn
    have ha : a ∈ m := hs a (by simp)
    have := len_le_of_sub (l := l) (m := m.erase a) h2 (fun x hx => (List.mem_erase_of_ne (fun e => h1 (by rw [← e]; exact hx))).2 (hs x (by simp [hx])))
    rw [List.length_erase_of_mem ha] at this
    have := List.length_pos_of_mem ha
    simp
    omega
def litI : Lit → Int
  | .int _ i => i
  | _ => 0
theorem IsM.size_le {w : World} {mb s : Nat} {f : Int → Option (Nat × Nat)} (h : IsM w mb f s) (ks : List Int) (hk : ∀ i, (f i).isSome = true → i ∈ ks) : s ≤ ks.length := by
  obtain ⟨D, h1, h2, h3, h4⟩ := h
  have hform : ∀ es, D = .map es → ∀ p ∈ es, ∃ i, p.1 = Lit.int .u64 i := by
    obtain ⟨mes, clock, hb, Ft, hs, hD⟩ := h1
    intro es e p hp
    rw [hD] at e
    injection e with e
    rw [← e] at hp
    obtain ⟨x, hx, rfl⟩ := List.mem_map.1 (mem_sorted.1 hp)
    obtain ⟨y, hy⟩ := Ft.reads x hx
    rw [WideElems.rg_of hy]
    obtain ⟨i, _, e2, _⟩ := Maps.keyOf_int_inv Try.underlying30 (WideElems.rd_key hy)
    exact ⟨i, e2⟩
  obtain ⟨es, rfl, hp, hkey⟩ := h1.entries keyU
  have hf := hform es rfl
  rw [← h4]
  show es.length ≤ _
  rw [← List.length_map (f := fun p : Lit × DataW Unit => litI p.1)]
  refine len_le_of_sub ?_ ?_
  · rw [List.Nodup, List.pairwise_map]
    refine List.Pairwise.imp_of_mem ?_ hp
    intro p q hpm hqm hne e
    obtain ⟨i, e1⟩ := hf p hpm
    obtain ⟨j, e2⟩ := hf q hqm
    rw [e1, e2] at e
    exact hne (by rw [e1, e2, show i = j from e])
  · intro i hi
    obtain ⟨p, hpm, rfl⟩ := List.mem_map.1 hi
    obtain ⟨j, e1⟩ := hf p hpm
    refine hk _ ?_
    rw [e1]
    show (f j).isSome = true
    rw [← h2 j]
    exact List.any_eq_true.2 ⟨p, hpm, by rw [e1]; exact WideAt.sameKey_self trivial⟩
set_option maxRecDepth 100000 in
/-- 'm[k] = v', as it runs. -/
theorem IsM.store {w : World} {mb s : Nat} {f : Int → Option (Nat × Nat)} (h : IsM w mb f s) (hn : s < maxLen) (i : Int) (c : Nat × Nat) (hi : (Lit.int .u64 i).wf = true) :
    ∃ w', (Instr.mapUpdate 71 (.map (some mb)) (.int .u64 i) (.agg #[.int .i64 (c.1 : Int), .int .i64 (c.2 : Int)])).run Try.prog w = .ok () w' ∧ (∃ s', IsM w' mb (setF f i (some c)) s') ∧ w.grownBy w' (some mb) := by
  obtain ⟨D, h1, h2, h3, h4⟩ := h
  obtain ⟨w', hr, q1, q2⟩ := h1.store keyU (t := 71) (e := 69) Try.underlying71 hn (keyI i hi) (RL_mk (c.1 : Int) (c.2 : Int))
  refine ⟨w', hr, ⟨Maps.size (D.put (.int .u64 i) (.agg [.lit (.int .i64 (c.1 : Int)), .lit (.int .i64 (c.2 : Int))])), D.put (.int .u64 i) (.agg [.lit (.int .i64 (c.1 : Int)), .lit (.int .i64 (c.2 : Int))]), tight q1 rfl, fun j => ?_, fun j c' zd hj => ?_, rfl⟩, World.mapTurned.grown q2⟩
  · unfold setF
    by_cases e : j = i
    · subst e
      rw [if_pos rfl, Maps.has_put_same h1.isMap (lit_key _)]
      rfl
    · rw [if_neg e, Maps.has_put_other (lit_ne e), h2 j]
  · unfold setF at hj
    by_cases e : j = i
    · subst e
      rw [if_pos rfl] at hj
      injection hj with hj
      rw [Maps.atKey_put_same h1.isMap (lit_key _), hj]
    · rw [if_neg e] at hj
      rw [Maps.atKey_put_other (lit_ne e)]
      exact h3 j c' zd hj
section
variable {w : World} {b g mb n nw ct s : Nat} {F L A B E : Nat → Nat} {T : Nat → Bool} {fr : Int → Option (Nat × Nat)}
def O3 (b g mb : Nat) : Nat → Prop := fun k => k = b ∨ k = g ∨ k = mb
set_option maxRecDepth 100000 in
set_option maxHeartbeats 2000000 in
theorem keep_ok (h : Rep w b g n nw ct (.map (some mb)) F L A B E T) (hm : IsM w mb fr s) (hbm : b ≠ mb) (hgm : g ≠ mb) (hs : s < maxLen) (t f l : Nat) (ht : t < 18446744073709551616) (hn : nw < 18446744073709551616) :
    Calls Try.prog 44 #[.pointer (some ⟨b, 0, none⟩), .int .u64 (t : Int), .agg #[.int .i64 (f : Int), .int .i64 (l : Int)]] w fun e w' => e = .returned (.tuple #[]) ∧ Rep w' b g n nw ct (.map (some mb)) (keepN nw F (max t nw) f) (keepN nw L (max t nw) l) A B E T ∧ (∃ s', IsM w' mb (keepM nw fr (max t nw) f l) s') ∧ Fr (O3 b g mb) w w' := by
  by_cases hle : nw ≤ t
  · rw [Nat.max_eq_left hle]
    unfold keepN keepM
    by_cases htn : t / 64 = nw / 64
    · rw [if_pos htn, if_pos htn, if_pos htn]
      refine (keep_same h t f l ht hle htn).mono ?_
      rintro e w' ⟨rfl, hr, ho⟩
      exact ⟨rfl, hr, ⟨s, hm.block (ho.block mb hm.lt (fun e => hbm e.symm) (fun e => hgm e.symm))⟩, Fr.of_only ho (.inl rfl) (.inr (.inl rfl))⟩
    · rw [if_neg htn, if_neg htn, if_neg htn]
      have e0 := h.tn
      have e1 := h.tm
      have hbb := h.lt_b
      have y1 : ¬ b = w.heap.size := by omega
      have hm' : (nw : Int) ≤ (t : Int) := by omega
      have HT1 := veil (turn_ok t ht)
      have HT2 := veil (turn_ok nw hn)
      have hne : ¬ ((t / 64 : Nat) : Int) = ((nw / 64 : Nat) : Int) := by omega
      have HM := veil (fun o => hm.block (w' := (w.alloc o).drew) (Below.heap_alloc _ _ _ hm.lt))
      have HR := veil h
      have hmlt := hm.lt
      have HEnd : Hid (∀ o w1, (w.alloc o).drew.grownBy w1 (some mb) → Rep w1 b g n nw ct (.map (some mb)) F L A B E T ∧ Fr (O3 b g mb) w w1) := fun o w1 hg => by
        have hf : Fr (O3 b g mb) (w.alloc o).drew w1 := Fr.of_grown' hg (.inr (.inr rfl))
        have hr := (h.alloc o).drew
        refine ⟨hr.kept (hg.block b hr.lt_b (fun e => hbm (by injection e))) (hg.block g hr.lt_g (fun e => hgm (by injection e))), (((Fr.refl _ w).alloc o).drew).trans hf⟩
      have hwf := u64wf t ht
      generalize ((t / 64 : Nat) : Int) = q1 at *
      generalize ((nw / 64 : Nat) : Int) = q2 at *
      clear h htn hm
      by_cases hf0 : f = 0
      · rw [if_pos hf0]
        have hf1 : (f : Int) = 0 := by omega
        clear hf0
        go_enter Try.func44, Try.ntmps44
        go_wp2
        go_region_held3 (fun w' => w'.cell? ⟨b, 0, none⟩ = some (.int .u64 (nw : Int))) (go_keep)
          (first
            | (go_at_call 41; first
                | (refine (HT1.out _).mono ?_; rintro e w1 ⟨rfl, hw⟩; subst hw)
                | (refine (HT2.out _).mono ?_; rintro e w1 ⟨rfl, hw⟩; subst hw)))
        go_wp2_with (at_delete; refine wpList_delete_m rfl _ _ rfl (by exact HM.out _) (t : Int) hwf rfl rfl ?_; intro w1 hm1 hg1; have HM1 := veil hm1; have HE := veil (HEnd.out _ _ hg1); clear hm1 hg1)
        go_end0
        exact ⟨rfl, HE.out.1, ⟨_, HM1.out⟩, HE.out.2⟩
      · rw [if_neg hf0]
        have hf1 : ¬ (f : Int) = 0 := by omega
        clear hf0
        go_enter Try.func44, Try.ntmps44
        go_wp2
        go_region_held3 (fun w' => w'.cell? ⟨b, 0, none⟩ = some (.int .u64 (nw : Int))) (go_keep)
          (first
            | (go_at_call 41; first
                | (refine (HT1.out _).mono ?_; rintro e w1 ⟨rfl, hw⟩; subst hw)
                | (refine (HT2.out _).mono ?_; rintro e w1 ⟨rfl, hw⟩; subst hw)))
        obtain ⟨w1, hst, hm1, hg1⟩ := (HM.out (.cells #[.int .i64 (f : Int), .int .i64 (l : Int)] 69)).block (w' := ((w.alloc (.cells #[.int .i64 (f : Int), .int .i64 (l : Int)] 69)).drew).drew) rfl |>.store hs (t : Int) (f, l) hwf
        have HM1 := veil hm1
        have HE := veil (HEnd.out _ _ (show (w.alloc (.cells #[.int .i64 (f : Int), .int .i64 (l : Int)] 69)).drew.grownBy w1 (some mb) from ⟨hg1.os, hg1.tape, hg1.output, hg1.size, hg1.block⟩))
        clear hm1 hg1
        go_wp2
        go_region
        go_wp2
        go_end0
        exact ⟨rfl, HE.out.1, HM1.out, HE.out.2⟩
  · rw [Nat.max_eq_right (by omega)]
    unfold keepN keepM
    rw [if_pos rfl, if_pos rfl, if_pos rfl]
    have hlt : nw % 64 < 64 := Nat.mod_lt _ (by decide)
    have e0 := h.tn
    have e1 := h.sf (nw % 64) hlt
    have e2 := h.sl (nw % 64) hlt
    have fb := h.fb
    have hbb := h.lt_b
    have y1 : ¬ b = w.heap.size := by omega
    have hm' : (t : Int) ≤ (nw : Int) := by omega
    have HT2 := veil (turn_ok nw hn)
    have r1 : (0 : Int) ≤ ((nw % 64 : Nat) : Int) := by omega
    have r2 : ((nw % 64 : Nat) : Int) < 64 := by omega
    have HR := veil h
    have HM := veil hm
    clear h hm
    go_enter Try.func44, Try.ntmps44
    go_wp2
    go_region_held3 (fun w' => w'.cell? ⟨b, 0, none⟩ = some (.int .u64 (nw : Int))) (go_keep)
      (first
        | (go_at_call 41; refine (HT2.out _).mono ?_; rintro e w1 ⟨rfl, hw⟩; subst hw))
    go_wp2
    go_region
    go_wp2
    go_end0
    have hO : Only b g w _ := (((((Only.refl b g w).set ⟨b, 1 + nw % 64 * 2, none⟩ (.int .i64 (f : Int)) (Or.inl rfl)).set ⟨b, 1 + nw % 64 * 2 + 1, none⟩ (.int .i64 (l : Int)) (Or.inl rfl)).alloc (.cells #[.int .i64 (f : Int), .int .i64 (l : Int)] 69)).drew).drew
    exact ⟨rfl, ((((HR.out.setF (nw % 64) hlt f).setL (nw % 64) hlt l).alloc _).drew).drew, ⟨s, HM.out.block (hO.block mb HM.out.lt (fun e => hbm e.symm) (fun e => hgm e.symm))⟩, Fr.of_only hO (.inl rfl) (.inr (.inl rfl))⟩
end
end Go.Proofs.Ytjmbadadelelfaa
