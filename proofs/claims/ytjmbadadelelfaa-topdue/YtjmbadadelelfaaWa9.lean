/- The walk of sweep. -/
import Derived.Test.YtjmbadadelelfaaWa8
namespace Go.Proofs.Ytjmbadadelelfaa
open Go.RowKit
set_option linter.unusedVariables false
set_option linter.unusedSimpArgs false
attribute [local go_sem ↓] Go.wp_at_zero Go.wp_at_succ
theorem zero_row (m : Nat) : (Builtin.zeroCells (Value.agg #[.int .i64 0, .int .i64 0]).cells m).toList = List.replicate (m * 2) (Value.int .i64 0) := by
  unfold Builtin.zeroCells
  apply List.ext_getElem?
  intro i
  have e : (Value.agg #[.int .i64 0, .int .i64 0]).cells = #[Value.int .i64 0, .int .i64 0] := rfl
  rw [e]
  by_cases hi : i < m * 2
  · have h2 : i % 2 = 0 ∨ i % 2 = 1 := by omega
    rcases h2 with h2 | h2 <;> simp [hi, h2, List.getElem?_replicate]
  · rw [List.getElem?_eq_none (by simp; omega), List.getElem?_eq_none (by simp; omega)]
def cut0 (m : Nat) (F : Nat → Nat) : Nat → Nat := fun s => if s < m then 0 else F s
section
variable {w : World} {b g n nw ct mb s : Nat} {fm : Value} {F L A B E : Nat → Nat} {T : Nat → Bool} {fr : Int → Option (Nat × Nat)} {S : List It}
/-- The first lists made empty. -/
theorem clear_rep (h : Rep w b g n nw ct fm F L A B E T) (m : Nat) (h1 : 0 < m) (hm : m ≤ 64) : ∃ W1, (∀ ty, (Builtin.clear_ #[101] ty #[.slice (some ⟨b, 1, none⟩) m 64]).run Try.prog w = .ok (.tuple #[]) W1) ∧ Rep W1 b g n nw ct fm (cut0 m F) (cut0 m L) A B E T ∧ Only b g w W1 ∧ W1.heap.size = w.heap.size := by
  have hlen : (List.replicate (m * 2) (Value.int .i64 0)).length = m * 2 := by simp
  have hsome : ∀ j, j < m * 2 → (w.cell? ⟨b, 1 + j, none⟩).isSome = true := fun j hj => by
    by_cases e : j % 2 = 0
    · rw [show 1 + j = 1 + j / 2 * 2 by omega, h.sf (j / 2) (by omega)]; rfl
    · rw [show 1 + j = 1 + j / 2 * 2 + 1 by omega, h.sl (j / 2) (by omega)]; rfl
  have hin : ∀ j, j < m * 2 → (w.setCells b 1 (List.replicate (m * 2) (.int .i64 0))).cell? ⟨b, 1 + j, none⟩ = some (.int .i64 0) := fun j hj => by
    have := World.cell?_setCells_in b (List.replicate (m * 2) (Value.int .i64 0)) 1 w (fun j hj => hsome j (by simpa using hj)) j (by simpa using hj)
    rw [this]
    simp
  have hout : ∀ o, (o < 1 ∨ 1 + m * 2 ≤ o) → (w.setCells b 1 (List.replicate (m * 2) (.int .i64 0))).cell? ⟨b, o, none⟩ = w.cell? ⟨b, o, none⟩ := fun o ho => World.cell?_setCells_out b _ 1 w ⟨b, o, none⟩ (fun _ _ => by simpa using ho)
  have hoth : ∀ o, (w.setCells b 1 (List.replicate (m * 2) (.int .i64 0))).cell? ⟨g, o, none⟩ = w.cell? ⟨g, o, none⟩ := fun o => World.cell?_setCells_out b _ 1 w ⟨g, o, none⟩ (fun e _ => absurd e.symm h.bg)
  have hfz : ∀ x, (w.setCells b 1 (List.replicate (m * 2) (.int .i64 0))).frozen? x = w.frozen? x := fun x => World.frozen?_setCells b _ 1 w x
  have hsz : ∀ (vs : List Value) (o : Nat) (w : World), (w.setCells b o vs).heap.size = w.heap.size := by
    intro vs
    induction vs with
    | nil => intro o w; rfl
    | cons v r ih => intro o w; show ((w.setCell ⟨b, o, none⟩ v).setCells b (o + 1) r).heap.size = _; rw [ih]; simp
  have hon : ∀ (vs : List Value) (o : Nat) (w' : World), Only b g w w' → Only b g w (w'.setCells b o vs) := by
    intro vs
    induction vs with
    | nil => intro o w' q; exact q
    | cons v r ih => intro o w' q; exact ih (o + 1) _ (q.set _ _ (Or.inl rfl))
  refine ⟨w.setCells b 1 (List.replicate (m * 2) (.int .i64 0)), fun ty => ?_, ?_, hon _ _ _ (Only.refl b g w), hsz _ _ _⟩
  · have hst := run_storeCells_cells (P := Try.prog) b 1 (List.replicate (m * 2) (.int .i64 0)) 0 w (fun j hj => hsome j (by simpa using hj)) (fun j _ => h.fb _) (fun v hv => by rw [List.eq_of_mem_replicate hv]; rfl)
    have hz : ∀ w, (zeroValue 69).run Try.prog w = .ok (.agg #[.int .i64 0, .int .i64 0]) w := fun w => by kernel_rfl
    have hc := zero_row m
    have hst' : (storeCells ⟨b, 1, none⟩ (List.replicate (m * 2) (.int .i64 0))).run Try.prog w = .ok () (w.setCells b 1 (List.replicate (m * 2) (.int .i64 0))) := hst
    clear hst hin hout hoth hfz hsome hlen hsz hon
    generalize w.setCells b 1 (List.replicate (m * 2) (.int .i64 0)) = W1 at *
    generalize List.replicate (m * 2) (Value.int .i64 0) = R at *
    obtain ⟨m, rfl⟩ : ∃ k, m = k + 1 := ⟨m - 1, by omega⟩
    simp [Builtin.clear_, run_underlying Try.underlying101, hz, hc, hst']
  · refine ⟨h.bg, ?_, ?_, ?_, ?_, fun x hx => ?_, fun x hx => ?_, fun x hx => ?_, fun x hx => ?_, fun x hx => ?_, fun x hx => ?_, fun o => ?_, fun o => ?_⟩
    · obtain ⟨cp, q⟩ := h.en
      exact ⟨cp, by rw [hout 130 (by omega)]; exact q⟩
    · rw [hout 0 (by omega)]; exact h.tn
    · rw [hout 129 (by omega)]; exact h.tm
    · rw [hout 131 (by omega)]; exact h.tc
    · unfold cut0
      by_cases e : x < m
      · rw [if_pos e, hin (x * 2) (by omega)]; rfl
      · rw [if_neg e, hout (1 + x * 2) (by omega)]; exact h.sf x hx
    · unfold cut0
      by_cases e : x < m
      · rw [if_pos e, show 1 + x * 2 + 1 = 1 + (x * 2 + 1) by omega, hin (x * 2 + 1) (by omega)]; rfl
      · rw [if_neg e, hout (1 + x * 2 + 1) (by omega)]; exact h.sl x hx
    · rw [hoth]; exact h.ea x hx
    · rw [hoth]; exact h.eb x hx
    · rw [hoth]; exact h.ee x hx
    · rw [hoth]; exact h.et x hx
    · rw [hfz]; exact h.fb o
    · rw [hfz]; exact h.fg o
theorem upTo_sub (h : Srt S) (lo m : Nat) : ∀ x ∈ upTo nw S lo m, x ∈ S := fun x hx => by
  rw [upTo_eq h] at hx
  exact (List.mem_filter.1 hx).1
theorem upTo_len (h : Srt S) (lo m : Nat) : (upTo nw S lo m).length ≤ S.length := by
  rw [upTo_eq h]
  exact List.length_filter_le _ _
theorem iv_len (xs : List Nat) : (iv xs).length = xs.length := by simp [iv]
set_option maxRecDepth 100000 in
set_option maxHeartbeats 4000000 in
theorem sweep_ok (h : Rep w b g n nw ct fm F L A B E T) (hi : Inv n nw ct F L fr A B E T S) (hn : n ≤ 1024) (to m : Nat) (ht : to < 18446744073709551616) (hm : m = if to / 64 = nw / 64 then to % 64 + 1 else 64) :
    Calls Try.prog 40 #[.pointer (some ⟨b, 0, none⟩), .int .u64 (to : Int)] w fun e w' => (∃ v, e = .returned v ∧ w'.ownsRow w.heap.size 3 1 v (upTo nw S (nw / 64 * 64) m).length (iv (spots (upTo nw S (nw / 64 * 64) m)))) ∧ Rep w' b g n nw ct fm (cut0 m F) (cut0 m L) A B E T ∧ Only b g w w' := by
  have e0 := h.tn
  have hbb := h.lt_b
  have hgl := h.lt_g
  have hm64 : m ≤ 64 := by rw [hm]; split <;> omega
  have hm1 : 0 < m := by rw [hm]; split <;> omega
  have HT1 := veil (turn_ok to ht)
  have HT2 := veil (turn_ok nw hi.hw)
  have HB : Hid (∀ w1, Below w.heap.size w w1 → Rep w1 b g n nw ct fm F L A B E T) := fun w1 hb => h.below hb
  have HLen := veil hi.len_le
  have HU := veil (fun j => upTo_len (nw := nw) hi.srt (nw / 64 * 64) j)
  have HId : Hid (∀ j, j < 64 → ∀ W, Rep W b g n nw ct fm F L A B E T → Calls Try.prog 57 #[.pointer (some ⟨b, 0, none⟩), .agg #[.int .i64 (F j : Int), .int .i64 (L j : Int)]] W fun e w' => (∃ v, e = .returned v ∧ w'.ownsRow W.heap.size 3 1 v (grp nw S (nw / 64 * 64 + j)).length (iv (spots (grp nw S (nw / 64 * 64 + j))))) ∧ Below W.heap.size W w') := fun j hj W hW => by
    have hl := hi.slot j hj
    have hlt : (grp nw S (nw / 64 * 64 + j)).length ≤ S.length := List.length_filter_le _ _
    have := hi.len_le
    have q := ids_ok hW hl (fun p hp => by
      obtain ⟨y, hy, rfl⟩ := mem_spots.1 hp
      have := hi.lt y (mem_grp.1 hy).1
      omega) (spots_nd (nd_sub hi.nd)) hn (by rw [spots_len]; omega)
    rwa [spots_len] at q
  have HEnd : Hid (∀ W v, Below w.heap.size w W → W.ownsRow w.heap.size 3 1 v (upTo nw S (nw / 64 * 64) m).length (iv (spots (upTo nw S (nw / 64 * 64) m))) → ∃ W1, (∀ ty, (Builtin.clear_ #[101] ty #[.slice (some ⟨b, 1, none⟩) m 64]).run Try.prog W = .ok (.tuple #[]) W1) ∧ Hid (W1.ownsRow w.heap.size 3 1 v (upTo nw S (nw / 64 * 64) m).length (iv (spots (upTo nw S (nw / 64 * 64) m))) ∧ Rep W1 b g n nw ct fm (cut0 m F) (cut0 m L) A B E T ∧ Only b g w W1)) := fun W v hb ho => by
    obtain ⟨W1, hcl, hr1, ho1, _⟩ := clear_rep (h.below hb) m hm1 hm64
    refine ⟨W1, hcl, own_kept ho (fun k hk => ho1.block k (own_ge ho hk).2 (by have := (own_ge ho hk).1; omega) (by have := (own_ge ho hk).1; omega)), hr1, (Only.of_below hb).trans ho1⟩
  by_cases htn : to / 64 = nw / 64
  · rw [if_pos htn] at hm
    have hq : ((nw / 64 : Nat) : Int) = ((to / 64 : Nat) : Int) := by omega
    rw [hq] at HT2
    obtain ⟨r, hr⟩ : ∃ r : Nat, to % 64 = r := ⟨_, rfl⟩
    rw [hr] at hm
    have hr64 : r < 64 := by omega
    have hmr : (m : Int) = (r : Int) + 1 := by omega
    have hto : (to : Int) % 64 = (r : Int) := by omega
    have hto2 : IntKind.u64.wrap ((to : Int) % 64) = (r : Int) := by rw [hto]; simp [IntKind.wrap, IntKind.bits, IntKind.signed]; omega
    have hto3 : IntKind.u64.wrap ((r : Int) + 1) = (m : Int) := by rw [hmr]; simp [IntKind.wrap, IntKind.bits, IntKind.signed]; omega
    have hm0 : (m : Int) ≤ 64 := by omega
    clear h hi htn hq hm hmr
    generalize ((to / 64 : Nat) : Int) = q1 at *
    go_enter Try.func40, Try.ntmps40
    go_wp2
    go_region_held3 (fun w' => w'.cell? ⟨b, 0, none⟩ = some (.int .u64 (nw : Int))) (go_keep)
      (first
        | (go_at_call 41; first
            | (refine (HT1.out _).mono ?_; rintro e w1 ⟨rfl, hw⟩; subst hw)
            | (refine (HT2.out _).mono ?_; rintro e w1 ⟨rfl, hw⟩; subst hw)))
    go_wp2
    clear hto hto2 hto3
    go_loopw [6, 30] (fun o i wr => ∃ j : Nat, j ≤ m ∧ i = .int .i64 j ∧ Below w.heap.size w wr ∧ wr.ownsRow w.heap.size 3 1 o (upTo nw S (nw / 64 * 64) j).length (iv (spots (upTo nw S (nw / 64 * 64) j)))) (fun _ i _ => m - (intOf i).toNat)
    case atStart => exact ⟨0, by omega, rfl, (Below.refl _ _).drew, World.ownsRow_nil _ _ _ _⟩
    case round =>
      obtain ⟨j, hj, rfl, hbel, hown⟩ := hrel
      obtain ⟨av, cv, rfl⟩ := own_slice hown
      have HBE := veil hbel
      have HO := veil hown
      have hsz := hbel.size
      by_cases hj5 : j < m
      · have hr := HB.out _ hbel
        have e1 := hr.sf j (by omega)
        have e2 := hr.sl j (by omega)
        have hbb2 := hr.lt_b
        have y1 : ¬ b = wr.heap.size := by omega
        have HR := veil hr
        have HI := veil (HId.out j (by omega))
        have HL1 := HLen.out
        have HL2 := HU.out j
        have HL3 : (grp nw S (nw / 64 * 64 + j)).length ≤ S.length := List.length_filter_le _ _
        have HEQ : Hid (upTo nw S (nw / 64 * 64) (j + 1) = upTo nw S (nw / 64 * 64) j ++ grp nw S (nw / 64 * 64 + j)) := rfl
        generalize upTo nw S (nw / 64 * 64) j = U at *
        generalize grp nw S (nw / 64 * 64 + j) = G at *
        have hjb : (j : Int) < (m : Int) := by omega
        generalize F j = fj at *
        generalize L j = lj at *
        clear hr hbel hown HId HU HEnd HB HT1 HT2
        go_wp2_with (first
          | (go_at_call 57; refine (HI.out _ (by exact HR.out.alloc _)).mono ?_; rintro e w5 ⟨⟨v5, rfl, ho5⟩, hb5⟩; obtain ⟨a5, c5, rfl⟩ := own_slice ho5; have HO5 := veil ho5; have HV5 := veil (own_below (HO.out.alloc _) hb5); have HB5 := veil ((HBE.out.alloc HBE.out.size _).trans (hb5.mono (by simp; omega))); clear ho5 hb5)
          | (at_builtin; refine wpList_append_rows _ rfl _ _ rfl w.heap.size _ _ _ _ _ _ _ rfl HV5.out rfl HO5.out (iv_one _) (by omega) HB5.out.size ?_; intro v' w6 hown' hgrow; obtain ⟨a6, c6, rfl⟩ := own_slice hown'; have HO6 := veil hown'; have HB6 := veil (HB5.out.grown hgrow HB5.out.size (fun k hk => (own_ge HO.out hk).1)); clear hown' hgrow))
        go_roundw
        case rel => exact ⟨j + 1, by omega, by go_num, HB6.out, by rw [HEQ.out, spots_append, iv_append, List.length_append]; exact HO6.out⟩
        case measure => simp [intOf]; omega
      · obtain rfl : m = j := by omega
        obtain ⟨W1, hcl, HX⟩ := HEnd.out wr _ hbel hown
        clear hbel hown HB HId HU HO HEnd HT1 HT2
        go_wp2
        go_ret
        exact ⟨⟨_, rfl, HX.out.1⟩, HX.out.2⟩
  · rw [if_neg htn] at hm
    subst hm
    have hne : ¬ ((to / 64 : Nat) : Int) = ((nw / 64 : Nat) : Int) := by omega
    have hneb : (((to / 64 : Nat) : Int) == ((nw / 64 : Nat) : Int)) = false := by simp; omega
    generalize ((to / 64 : Nat) : Int) = q1 at *
    generalize ((nw / 64 : Nat) : Int) = q2 at *
    clear h hi htn
    go_enter Try.func40, Try.ntmps40
    go_wp2
    go_region_held3 (fun w' => w'.cell? ⟨b, 0, none⟩ = some (.int .u64 (nw : Int))) (go_keep)
      (first
        | (go_at_call 41; first
            | (refine (HT1.out _).mono ?_; rintro e w1 ⟨rfl, hw⟩; subst hw)
            | (refine (HT2.out _).mono ?_; rintro e w1 ⟨rfl, hw⟩; subst hw)))
    go_wp2
    go_loopw [6, 30] (fun o i wr => ∃ j : Nat, j ≤ 64 ∧ i = .int .i64 j ∧ Below w.heap.size w wr ∧ wr.ownsRow w.heap.size 3 1 o (upTo nw S (nw / 64 * 64) j).length (iv (spots (upTo nw S (nw / 64 * 64) j)))) (fun _ i _ => 64 - (intOf i).toNat)
    case atStart => exact ⟨0, by omega, rfl, (Below.refl _ _).drew, World.ownsRow_nil _ _ _ _⟩
    case round =>
      obtain ⟨j, hj, rfl, hbel, hown⟩ := hrel
      obtain ⟨av, cv, rfl⟩ := own_slice hown
      have HBE := veil hbel
      have HO := veil hown
      have hsz := hbel.size
      by_cases hj5 : j < 64
      · have hr := HB.out _ hbel
        have e1 := hr.sf j (by omega)
        have e2 := hr.sl j (by omega)
        have hbb2 := hr.lt_b
        have y1 : ¬ b = wr.heap.size := by omega
        have HR := veil hr
        have HI := veil (HId.out j (by omega))
        have HL1 := HLen.out
        have HL2 := HU.out j
        have HL3 : (grp nw S (nw / 64 * 64 + j)).length ≤ S.length := List.length_filter_le _ _
        have HEQ : Hid (upTo nw S (nw / 64 * 64) (j + 1) = upTo nw S (nw / 64 * 64) j ++ grp nw S (nw / 64 * 64 + j)) := rfl
        generalize upTo nw S (nw / 64 * 64) j = U at *
        generalize grp nw S (nw / 64 * 64 + j) = G at *
        have hjb : (j : Int) < 64 := by omega
        generalize F j = fj at *
        generalize L j = lj at *
        clear hr hbel hown HId HU HEnd HB HT1 HT2
        go_wp2_with (first
          | (go_at_call 57; refine (HI.out _ (by exact HR.out.alloc _)).mono ?_; rintro e w5 ⟨⟨v5, rfl, ho5⟩, hb5⟩; obtain ⟨a5, c5, rfl⟩ := own_slice ho5; have HO5 := veil ho5; have HV5 := veil (own_below (HO.out.alloc _) hb5); have HB5 := veil ((HBE.out.alloc HBE.out.size _).trans (hb5.mono (by simp; omega))); clear ho5 hb5)
          | (at_builtin; refine wpList_append_rows _ rfl _ _ rfl w.heap.size _ _ _ _ _ _ _ rfl HV5.out rfl HO5.out (iv_one _) (by omega) HB5.out.size ?_; intro v' w6 hown' hgrow; obtain ⟨a6, c6, rfl⟩ := own_slice hown'; have HO6 := veil hown'; have HB6 := veil (HB5.out.grown hgrow HB5.out.size (fun k hk => (own_ge HO.out hk).1)); clear hown' hgrow))
        go_roundw
        case rel => exact ⟨j + 1, by omega, by go_num, HB6.out, by rw [HEQ.out, spots_append, iv_append, List.length_append]; exact HO6.out⟩
        case measure => simp [intOf]; omega
      · obtain rfl : j = 64 := by omega
        obtain ⟨W1, hcl, HX⟩ := HEnd.out wr _ hbel hown
        clear hbel hown HB HId HU HO HEnd HT1 HT2
        go_wp2
        go_ret
        exact ⟨⟨_, rfl, HX.out.1⟩, HX.out.2⟩
end
end Go.Proofs.Ytjmbadadelelfaa
