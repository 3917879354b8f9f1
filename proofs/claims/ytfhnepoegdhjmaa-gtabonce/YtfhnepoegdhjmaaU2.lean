/-
  The walk of GtabOnce.
-/
import Derived.Test.YtfhnepoegdhjmaaU1
namespace Go.Proofs.Ytfhnepoegdhjmaa
open Go.RowKit Go.Lib
set_option linter.unusedVariables false
attribute [local go_sem ↓] Go.wp_at_zero Go.wp_at_succ

def pairCells (A : List (Nat × Nat)) : List Value := A.flatMap (fun x => [Value.int .i64 (x.1 : Int), .int .u32 (x.2 : Int)])
theorem pairCells_len : ∀ A : List (Nat × Nat), (pairCells A).length = A.length * 2
  | [] => rfl
  | x :: A => by
    have := pairCells_len A
    unfold pairCells at this ⊢
    simp only [List.flatMap_cons, List.length_append, List.length_cons, List.length_nil, this]
    omega
theorem pairCells_snoc (A : List (Nat × Nat)) (x : Nat × Nat) : pairCells (A ++ [x]) = pairCells A ++ [.int .i64 (x.1 : Int), .int .u32 (x.2 : Int)] := by unfold pairCells; simp
theorem pairCells_at : ∀ (A : List (Nat × Nat)) (i : Nat) (hi : i < A.length), (pairCells A)[i * 2]? = some (.int .i64 ((A[i]).1 : Int)) ∧ (pairCells A)[i * 2 + 1]? = some (.int .u32 ((A[i]).2 : Int))
  | [], i, hi => by simp at hi
  | y :: A, 0, _ => ⟨rfl, rfl⟩
  | y :: A, i + 1, hi => by
    have := pairCells_at A i (by simpa using hi)
    have e : pairCells (y :: A) = .int .i64 (y.1 : Int) :: .int .u32 (y.2 : Int) :: pairCells A := rfl
    rw [e, show (i + 1) * 2 = i * 2 + 2 by omega]
    exact this

/-- Between two rounds: the table, and the ids that were ever given out. -/
structure Ever (w : World) (b g n base j : Nat) (v : Value) (G S : Nat → Nat) (A : List (Nat × Nat)) (wr : World) : Prop where
  p : Rep wr b g n G S
  o : wr.ownsRow base 28 2 v A.length (pairCells A)
  m : ∀ x ∈ A, x.1 < n ∧ x.2 ≤ G x.1
  g : ∀ k, k < n → G k ≤ j
  c : A.length ≤ j
  l : Below w.heap.size w wr
theorem own_fr {w w' : World} {base : Nat} {e : TypeId} {size : Nat} {v : Value} {n : Nat} {xs : List Value} {X : Nat → Prop} (h : w.ownsRow base e size v n xs) (hf : Fr X w w') (hn : ∀ k, base ≤ k → ¬ X k) : w'.ownsRow base e size v n xs := by
  refine ⟨h.1, ?_⟩
  rcases h.2 with hn' | ⟨g, cap, cur, rfl, hb, hgg, rest⟩
  · exact .inl hn'
  · refine .inr ⟨g, cap, cur, rfl, hb, ?_, rest⟩
    rw [hf.block g (Array.getElem?_eq_some_iff.1 hgg).1 (hn g hb)]
    exact hgg
theorem Ever.below {w wr w' : World} {b g n base j : Nat} {v : Value} {G S : Nat → Nat} {A : List (Nat × Nat)} (h : Ever w b g n base j v G S A wr) (hb : Below wr.heap.size wr w') : Ever w b g n base j v G S A w' :=
  ⟨h.p.below hb, own_fr (X := fun _ => False) h.o (Fr.of_below' hb) (fun _ _ => id), h.m, h.g, h.c, h.l.trans (hb.mono h.l.size)⟩
theorem Ever.more {w wr : World} {b g n base j : Nat} {v : Value} {G S : Nat → Nat} {A : List (Nat × Nat)} (h : Ever w b g n base j v G S A wr) : Ever w b g n base (j + 1) v G S A wr :=
  ⟨h.p, h.o, h.m, fun k hk => by have := h.g k hk; omega, by have := h.c; omega, h.l⟩
theorem release_any {w wr : World} {b g n base j : Nat} {v : Value} {G S : Nat → Nat} {A : List (Nat × Nat)} (h : Ever w b g n base j v G S A wr) (hg : g < base) (hgw : w.heap.size ≤ g) (p : Int) (q : Nat) :
    Calls Try.prog 5 #[.pointer (some ⟨b, 0, none⟩), .agg #[.int .i64 p, .int .u32 (q : Int)]] wr fun e w' => (∃ r : Int, e = .returned (.int .i64 r)) ∧ wr.heap.size ≤ w'.heap.size ∧ ∃ S', Ever w b g n base j v G S' A w' := by
  by_cases hh : hasB n G S p q = true
  · obtain ⟨x, rfl, hx, hs, hgq⟩ := hasB_some hh
    refine (release_some h.p x q hx hs hgq).mono ?_
    rintro e w' ⟨he, hr, hf⟩
    exact ⟨⟨_, he⟩, hf.size, _, hr, own_fr h.o hf (fun k hk e => by omega), h.m, h.g, h.c, h.l.trans (hf.below h.l.size (fun k e => by omega))⟩
  · refine (release_none h.p p q (by simpa using hh)).mono ?_
    rintro e w' ⟨he, hb⟩
    exact ⟨⟨_, he⟩, hb.size, S, h.below hb⟩

theorem pl_full {S : Nat → Nat} {n : Nat} : ∀ k, k ≤ n → (∀ j, j < k → S j ≠ 0) → (pl S false n k).length = k
  | 0, _, _ => rfl
  | k + 1, hk, h => by
    rw [pl_yes (by omega) (by simpa using h k (by omega)), List.length_append, pl_full k (by omega) (fun j hj => h j (by omega))]
    rfl
theorem state_new {w : World} {b g n x : Nat} {G S : Nat → Nat} (h : Rep w b g n (upd G x (G x + 1)) (upd S x 1)) (hx : x < n) :
    Calls Try.prog 8 #[.pointer (some ⟨b, 0, none⟩), .agg #[.int .i64 (x : Int), .int .u32 ((G x : Int) + 1)]] w fun e w' => e = .returned (.tuple #[.int .i64 1, .bool true]) ∧ Below w.heap.size w w' := by
  have := state_some h x (G x + 1) hx (by rw [upd_same]; decide) (upd_same _ _ _)
  rw [upd_same, show ((G x + 1 : Nat) : Int) = (G x : Int) + 1 by omega] at this
  exact this
set_option maxRecDepth 100000 in
set_option maxHeartbeats 16000000 in
theorem once_way (m : Nat) (hm : m < 256) (a : Option Addr) (len cap : Nat) (K P : Nat → Int) (Q : Nat → Nat) (T : Nat → Int) (w : World) (hlen : len < 9223372036854775808) (hd : Deeds w a len K P Q T) :
    Calls Try.prog 3 #[.int .u8 m, .slice a len cap] w fun e w' => e = .returned (.bool true) ∧ Below w.heap.size w w' := by
  have hr : Int.tmod (m : Int) 6 = ((m % 6 : Nat) : Int) := by
    rw [Int.tmod_eq_emod_of_nonneg (by omega)]
    omega
  obtain ⟨i0, hi, hz0, hz1, hz2⟩ := info_parts infoId
  have HU := veil Try.underlying25
  have HN := veil (new_ok (m % 6 + 1) w (by omega) (by omega))
  have hN6 : m % 6 < 6 := Nat.mod_lt _ (by decide)
  have HD := veil hd
  clear hd
  generalize m % 6 = N at *
  go_enter Try.func3, Try.ntmps3
  go_wp2_with (go_at_call 4; refine (HN.out).mono ?_; rintro e w1 ⟨rfl, hq, hb⟩; have HE := veil (show Ever w (w.heap.size + 1) w.heap.size (N + 1) w1.heap.size 0 (.slice none 0 0) (fun _ => 0) (fun _ => 0) [] w1 from ⟨hq, World.ownsRow_nil _ _ _ _, fun x hx => by simp at hx, fun _ _ => by simp, by simp, hb⟩); have hlt := hq.lt_b; clear hq hb)
  go_loopw [6, 7] (fun v i wr => ∃ (j : Nat) (G S : Nat → Nat) (A : List (Nat × Nat)), j ≤ len ∧ j ≤ 60 ∧ w1.heap.size ≤ wr.heap.size ∧ i = .int .i64 j ∧ Ever w (w.heap.size + 1) w.heap.size (N + 1) w1.heap.size j v G S A wr) (fun _ i _ => len - (intOf i).toNat)
  case atStart => exact ⟨0, _, _, [], by omega, by omega, Nat.le_refl _, rfl, HE.out⟩
  case round =>
    obtain ⟨j, G, S, A, hj, hj1, hwz, rfl, hE⟩ := hrel
    obtain ⟨a0, c0, rfl⟩ := owns_slice hE.o
    have HV := veil hE
    clear hE
    by_cases hjl : j < len
    · have hjl' : (j : Int) < (len : Int) := by omega
      by_cases hj2 : j < 60
      · rcases HD.out with h0 | ⟨lb, off, rfl, hlb, hc⟩
        · omega
        · obtain ⟨z1, _, _, _⟩ := hc j hjl
          have y1 := (HV.out.l.cell (p := ⟨lb, off + j * 4, none⟩) hlb).trans z1
          clear z1
          by_cases hk0 : K j = 0
          · rw [hk0] at y1
            clear hk0 hc
            rcases free_or S (N + 1) with ⟨x, hx, hs, hf⟩ | hf
            · have hgx := HV.out.g x hx
              have HA := veil (alloc_some HV.out.p (fun k hk => by have := HV.out.g k hk; omega) x hx hs hf)
              have HV2 : Hid (∀ w2, Rep w2 (w.heap.size + 1) w.heap.size (N + 1) (upd G x (G x + 1)) (upd S x 1) → Fr (fun k => k = w.heap.size) wr w2 → Ever w (w.heap.size + 1) w.heap.size (N + 1) w1.heap.size (j + 1) (.slice a0 A.length c0) (upd G x (G x + 1)) (upd S x 1) A w2) := by
                intro w2 hr2 hf2
                refine ⟨hr2, own_fr HV.out.o hf2 (fun k hk e => by omega), fun y hy => ⟨(HV.out.m y hy).1, ?_⟩, fun k hk => ?_, by have := HV.out.c; omega, HV.out.l.trans (hf2.below HV.out.l.size (fun k e => by omega))⟩
                · have := (HV.out.m y hy).2
                  by_cases e : y.1 = x
                  · rw [e, upd_same]; rw [e] at this; omega
                  · rw [upd_other _ _ _ _ e]; exact this
                · by_cases e : k = x
                  · subst e; rw [upd_same]; omega
                  · rw [upd_other _ _ _ _ e]; have := HV.out.g k hk; omega
              have HOld : Hid (∀ y ∈ A, y.1 = x → y.2 ≤ G x) := fun y hy e => by have := (HV.out.m y hy).2; rw [e] at this; exact this
              have hAc := HV.out.c
              clear hs hf HV
              go_wp2_with (first
                | (go_at_call 6; refine (HA.out).mono ?_; rintro e w2 ⟨rfl, hr2, hf2⟩; have HE2 := veil ((HV2.out w2 hr2 hf2).below (show Below w2.heap.size w2 (w2.alloc (.cells #[.int .i64 (x : Int), .int .u32 ((G x : Int) + 1)] 28)) from (Below.refl _ _).alloc (Nat.le_refl _) _)); have hws2 : w1.heap.size ≤ (w2.alloc (.cells #[.int .i64 (x : Int), .int .u32 ((G x : Int) + 1)] 28)).heap.size := (by have := hf2.size; simp; omega); have hlt2 : w2.heap.size < (w2.alloc (.cells #[.int .i64 (x : Int), .int .u32 ((G x : Int) + 1)] 28)).heap.size := (by simp); have b0 := cell_new w2 #[.int .i64 (x : Int), .int .u32 ((G x : Int) + 1)] 28 0; have b1 := cell_new w2 #[.int .i64 (x : Int), .int .u32 ((G x : Int) + 1)] 28 1; clear hr2 hf2 HA HV2)
                | (go_at_call 8; refine (state_new HE2.out.p hx).mono ?_; rintro e w3 ⟨rfl, hb3⟩; have HE3 := veil (HE2.out.below hb3); have hws3 : w1.heap.size ≤ w3.heap.size := Nat.le_trans hws2 hb3.size; have d0 := (hb3.cell (p := ⟨w2.heap.size, 0, none⟩) hlt2).trans b0; have d1 := (hb3.cell (p := ⟨w2.heap.size, 1, none⟩) hlt2).trans b1; clear hb3 b0 b1))
              go_loopw [12] (fun k wz => ∃ kk q : Nat, kk ≤ A.length ∧ k = .int .i64 kk ∧ wz = w3.drewN q) (fun k _ => A.length - (intOf k).toNat)
              case atStart => exact ⟨0, 0, by omega, rfl, rfl⟩
              case round =>
                obtain ⟨kk, q, hkk, rfl, rfl⟩ := hrel
                have hws : w1.heap.size ≤ w3.heap.size := hws3
                by_cases hkA : kk < A.length
                · obtain ⟨ab, rfl, hcell⟩ : ∃ ab, a0 = some ⟨ab, 0, none⟩ ∧ ∀ k, k < A.length * 2 → w3.cell? ⟨ab, k, none⟩ = (pairCells A)[k]? := by
                    have ho := HE3.out.o
                    rcases ho.2 with ⟨_, e0⟩ | ⟨g', cap', cur, e, _⟩
                    · omega
                    · simp only [Value.slice.injEq] at e
                      obtain ⟨rfl, _, rfl⟩ := e
                      exact ⟨g', rfl, fun k hk => ho.cellAt k hk⟩
                  have x0 := (hcell (kk * 2) (by omega)).trans (pairCells_at A kk hkA).1
                  have x1 := (hcell (kk * 2 + 1) (by omega)).trans (pairCells_at A kk hkA).2
                  have hold := HOld.out _ (List.getElem_mem hkA)
                  generalize (A[kk]).1 = p1 at *
                  generalize (A[kk]).2 = q1 at *
                  clear hcell
                  by_cases hp1 : p1 = x
                  · subst hp1
                    have hq1 : ¬ (q1 : Int) = (G p1 : Int) + 1 := by have := hold rfl; omega
                    clear hold
                    go_wp2
                    go_quiet (fail)
                    go_wp2
                    go_roundw
                    case rel => exact ⟨kk + 1, _, by omega, by go_num, rfl⟩
                    case measure => simp [intOf]; omega
                  · have hp2 : ¬ (p1 : Int) = (x : Int) := by omega
                    clear hold
                    go_wp2
                    go_quiet (fail)
                    go_wp2
                    go_roundw
                    case rel => exact ⟨kk + 1, _, by omega, by go_num, rfl⟩
                    case measure => simp [intOf]; omega
                · have HLo : Hid (((w3.drewN q).alloc (.cells #[.int .i64 (x : Int), .int .u32 ((G x : Int) + 1)] 28)).ownsRow w1.heap.size 28 2 (.slice a0 A.length c0) A.length (pairCells A)) := HE3.out.o.alloc (.cells #[.int .i64 (x : Int), .int .u32 ((G x : Int) + 1)] 28)
                  have HNc : Hid (∀ jj u, [Value.int .i64 (x : Int), .int .u32 ((G x : Int) + 1)][jj]? = some u → ((w3.drewN q).alloc (.cells #[.int .i64 (x : Int), .int .u32 ((G x : Int) + 1)] 28)).cell? ((⟨w3.heap.size, 0, none⟩ : Addr).add jj) = some u) := by
                    intro jj u hu
                    have hadd : (⟨w3.heap.size, 0, none⟩ : Addr).add jj = ⟨w3.heap.size, jj, none⟩ := by unfold Addr.add; split <;> simp_all
                    have := cell_new (w3.drewN q) #[.int .i64 (x : Int), .int .u32 ((G x : Int) + 1)] 28 jj
                    rw [show (w3.drewN q).heap.size = w3.heap.size from rfl] at this
                    rw [hadd, this]
                    simpa using hu
                  have HK : Hid (∀ w4 v', w4.ownsRow w1.heap.size 28 2 v' (A.length + 1) (pairCells A ++ [.int .i64 (x : Int), .int .u32 ((G x : Int) + 1)]) → ((w3.drewN q).alloc (.cells #[.int .i64 (x : Int), .int .u32 ((G x : Int) + 1)] 28)).grownBy w4 (Value.ownBlock (.slice a0 A.length c0)) →
                      Ever w (w.heap.size + 1) w.heap.size (N + 1) w1.heap.size (j + 1) v' (upd G x (G x + 1)) (upd S x 1) (A ++ [(x, G x + 1)]) w4) := by
                    intro w4 v' ho hg
                    have hfr : Fr (fun k => w1.heap.size ≤ k) w3 w4 := by
                      refine ⟨hg.os, hg.tape, hg.output, Nat.le_trans (by simp [World.drewN]) hg.size, fun k hk hn => ?_⟩
                      rw [hg.block k (Nat.lt_of_lt_of_le hk (by simp [World.drewN])) (fun e => hn (HLo.out.lt k e.symm).1)]
                      exact Below.heap_alloc (w3.drewN q) _ k hk
                    refine ⟨HE3.out.p.frame hfr (by omega) (by omega), ?_, fun y hy => ?_, HE3.out.g, by simp; omega, HE3.out.l.trans (hfr.below HE3.out.l.size (fun k e => by omega))⟩
                    · rw [pairCells_snoc, List.length_append]
                      simpa using ho
                    · rcases List.mem_append.1 hy with h | h
                      · exact HE3.out.m y h
                      · simp at h
                        subst h
                        exact ⟨hx, by rw [upd_same]; exact Nat.le_refl _⟩
                  have hsz3 : w1.heap.size ≤ w3.heap.size := by
                    rcases HE3.out.o.2 with _ | _
                    · exact hws
                    · exact hws
                  go_wp2_with (at_builtin; refine wpList_append_own _ rfl _ _ 25 rfl w1.heap.size 28 i0 (.agg #[.int .i64 0, .int .u32 0]) 2 16 HU.out hi hz0 hz1 hz2 rfl (by omega) _ _ _ rfl (by exact HLo.out) ⟨w3.heap.size, 0, none⟩ 1 1 [.int .i64 (x : Int), .int .u32 ((G x : Int) + 1)] rfl rfl (by exact HNc.out) (by simp [Value.oneCell']) (by unfold maxLen; omega) (by omega) (by simp [World.drewN]; omega) ?_; intro v4 w4 ho4 hg4 _; have HX := veil (HK.out _ _ ho4 hg4); have hsz4 : w3.heap.size ≤ w4.heap.size := Nat.le_trans (by simp [World.drewN]) hg4.size; clear ho4 hg4)
                  go_roundw
                  case rel => exact ⟨j + 1, _, _, _, by omega, by omega, Nat.le_trans hws hsz4, by go_num, HX.out⟩
                  case measure => simp [intOf]; omega
            · have hall := pl_full (S := S) (n := N + 1) (N + 1) (Nat.le_refl _) hf
              have hall2 : (((pl S false (N + 1) (N + 1)).length : Nat) : Int) = (N : Int) + 1 := by omega
              have HA := veil (alloc_full HV.out.p (fun k hk => by have := HV.out.g k hk; omega) hf)
              clear hf
              go_wp2_with (first
                | (go_at_call 6; refine (HA.out).mono ?_; rintro e w2 ⟨rfl, hb2⟩; have HE2 := veil ((HV.out.below hb2).below (show Below w2.heap.size w2 (w2.alloc (.cells #[.int .i64 0, .int .u32 0] 28)) from (Below.refl _ _).alloc (Nat.le_refl _) _)); have hsz2 := hb2.size; clear hb2)
                | (go_at_call 7; refine (len_ok HE2.out.p).mono ?_; rintro e w3 ⟨rfl, hb3⟩; have HE3 := veil (HE2.out.below hb3); have hszf : wr.heap.size ≤ w3.heap.size := (by have := hb3.size; simp at this; omega); clear hb3))
              go_roundw
              case rel => exact ⟨j + 1, G, S, A, by omega, by omega, Nat.le_trans hwz hszf, by go_num, HE3.out.more⟩
              case measure => simp [intOf]; omega
          · by_cases hk1 : K j = 1
            · rw [hk1] at y1
              clear hk1 hk0 hc
              by_cases hA0 : A.length = 0
              · have hA0' : ((A.length : Nat) : Int) = 0 := by omega
                go_wp2
                go_roundw
                case rel => exact ⟨j + 1, G, S, A, by omega, by omega, hwz, by go_num, HV.out.more⟩
                case measure => simp [intOf]; omega
              · obtain ⟨ab, rfl, hcell⟩ : ∃ ab, a0 = some ⟨ab, 0, none⟩ ∧ ∀ k, k < A.length * 2 → wr.cell? ⟨ab, k, none⟩ = (pairCells A)[k]? := by
                  have ho := HV.out.o
                  rcases ho.2 with ⟨_, e0⟩ | ⟨g', cap', cur, e, _⟩
                  · omega
                  · simp only [Value.slice.injEq] at e
                    obtain ⟨rfl, _, rfl⟩ := e
                    exact ⟨g', rfl, fun k hk => ho.cellAt k hk⟩
                obtain ⟨B, hB⟩ : ∃ B, A.length = B + 1 := ⟨A.length - 1, by omega⟩
                have x0 := (hcell (B * 2) (by omega)).trans (pairCells_at A B (by omega)).1
                have x1 := (hcell (B * 2 + 1) (by omega)).trans (pairCells_at A B (by omega)).2
                have HRel := veil (fun p q => release_any HV.out (by omega) (Nat.le_refl _) p q)
                have hBc := HV.out.c
                generalize (A[B]'(by omega)).1 = p1 at *
                generalize (A[B]'(by omega)).2 = q1 at *
                have HBB := veil hB
                clear hcell
                rw [hB] at *
                have hnz : ¬ ((B : Int) + 1) ≤ 0 := by omega
                go_wp2_with (go_at_call 5; refine (HRel.out _ _).mono ?_; rintro e w2 ⟨⟨r2, rfl⟩, hs2, S2, hE2⟩; have HE2 := veil hE2; clear hE2)
                go_roundw
                case rel => exact ⟨j + 1, G, S2, A, by omega, by omega, Nat.le_trans hwz hs2, by go_num, HE2.out.more⟩
                case measure => simp [intOf]; omega
            · by_cases hA0 : A.length = 0
              · have hA0' : ((A.length : Nat) : Int) = 0 := by omega
                go_wp2
                go_roundw
                case rel => exact ⟨j + 1, G, S, A, by omega, by omega, hwz, by go_num, HV.out.more⟩
                case measure => simp [intOf]; omega
              · have hA0' : (0 : Int) < ((A.length : Nat) : Int) := by omega
                go_wp2
                go_roundw
                case rel => exact ⟨j + 1, G, S, A, by omega, by omega, hwz, by go_num, HV.out.more⟩
                case measure => simp [intOf]; omega
      · go_wp2_with (go_at_call 9; refine (live_law _).mono ?_; rintro e w5 ⟨rfl, hb5⟩; have HL := veil (HV.out.l.trans (hb5.mono HV.out.l.size)); clear hb5)
        go_ret
        exact ⟨rfl, HL.out⟩
    · have hjl' : ¬ (j : Int) < (len : Int) := by omega
      go_wp2_with (go_at_call 9; refine (live_law _).mono ?_; rintro e w5 ⟨rfl, hb5⟩; have HL := veil (HV.out.l.trans (hb5.mono HV.out.l.size)); clear hb5)
      go_ret
      exact ⟨rfl, HL.out⟩
end Go.Proofs.Ytfhnepoegdhjmaa
