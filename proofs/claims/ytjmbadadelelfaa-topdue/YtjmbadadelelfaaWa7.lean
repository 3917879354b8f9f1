/- A wheel that holds some items: Set, Cancel, At, Now, Len. -/
import Derived.Test.YtjmbadadelelfaaWa6
namespace Go.Proofs.Ytjmbadadelelfaa
open Go.RowKit
set_option linter.unusedVariables false
set_option linter.unusedSimpArgs false
attribute [local go_sem ↓] Go.wp_at_zero Go.wp_at_succ
/-- The wheel at b, its entries at g, its map at mb: it holds S at the time nw. -/
def IsW (w : World) (b g mb n nw : Nat) (S : List It) : Prop :=
  ∃ (ct : Nat) (F L : Nat → Nat) (fr : Int → Option (Nat × Nat)) (A B E : Nat → Nat) (T : Nat → Bool) (s : Nat), Rep w b g n nw ct (.map (some mb)) F L A B E T ∧ IsM w mb fr s ∧ Inv n nw ct F L fr A B E T S ∧ b ≠ mb ∧ g ≠ mb ∧ n ≤ 1024
section
variable {w w' : World} {b g mb n nw ct s : Nat} {F L A B E : Nat → Nat} {T : Nat → Bool} {fr : Int → Option (Nat × Nat)} {S : List It}
theorem Inv.len_le (h : Inv n nw ct F L fr A B E T S) : S.length ≤ n := by
  have := len_le_of_sub (l := S.map (fun x => (x.i : Int))) (m := (List.range n).map (fun (k : Nat) => (k : Int))) (by
    have hn := h.nd
    rw [List.Nodup, List.pairwise_map] at hn ⊢
    exact hn.imp (fun {a c} hne e => hne (by omega))) (fun x hx => by
      obtain ⟨y, hy, rfl⟩ := List.mem_map.1 hx
      exact List.mem_map.2 ⟨y.i, List.mem_range.2 (h.lt y hy), rfl⟩)
  simpa using this
theorem Inv.map_le (h : Inv n nw ct F L fr A B E T S) (hm : IsM w mb fr s) : s ≤ S.length := by
  have := hm.size_le (S.map (fun x => (ky nw x : Int))) (fun i hi => by
    obtain ⟨k, rfl, hk⟩ := h.out i hi
    rcases h.far k hk with ⟨e, _⟩ | ⟨f, l, _, e, _⟩
    · rw [e] at hi; cases hi
    · obtain ⟨x, hx⟩ := List.exists_mem_of_ne_nil _ e
      obtain ⟨h1, h2⟩ := mem_grp.1 hx
      exact List.mem_map.2 ⟨x, h1, by rw [h2]⟩)
  simpa using this
theorem IsW.frame {Z : Nat → Prop} (h : IsW w b g mb n nw S) (hf : Fr Z w w') (h1 : ∀ k, O3 b g mb k → ¬ Z k) : IsW w' b g mb n nw S := by
  obtain ⟨ct, F, L, fr, A, B, E, T, s, hr, hm, hi, r⟩ := h
  exact ⟨ct, F, L, fr, A, B, E, T, s, hr.kept (hf.block b hr.lt_b (h1 b (.inl rfl))) (hf.block g hr.lt_g (h1 g (.inr (.inl rfl)))), hm.block (hf.block mb hm.lt (h1 mb (.inr (.inr rfl)))), hi, r⟩
theorem IsW.below (h : IsW w b g mb n nw S) (hf : Below w.heap.size w w') : IsW w' b g mb n nw S := h.frame (Fr.of_below' (S := fun _ => False) hf) (fun _ _ => id)
theorem IsW.blocks (h : IsW w b g mb n nw S) : ∀ k, O3 b g mb k → k < w.heap.size := by
  obtain ⟨ct, F, L, fr, A, B, E, T, s, hr, hm, hi, r⟩ := h
  rintro k (rfl | rfl | rfl)
  · exact hr.lt_b
  · exact hr.lt_g
  · exact hm.lt
theorem IsW.facts (h : IsW w b g mb n nw S) : Srt S ∧ (S.map (·.i)).Nodup ∧ (∀ x ∈ S, x.i < n) ∧ (∀ x ∈ S, x.t < 18446744073709551616) ∧ nw < 18446744073709551616 ∧ S.length ≤ n ∧ n ≤ 1024 := by
  obtain ⟨ct, F, L, fr, A, B, E, T, s, hr, hm, hi, _, _, hn⟩ := h
  exact ⟨hi.srt, hi.nd, hi.lt, hi.tm, hi.hw, hi.len_le, hn⟩
/-- The time of an id. -/
def tmOf (S : List It) (id : Int) : Option Nat := (S.find? (fun x => (x.i : Int) == id)).map (·.t)
def setC (n : Nat) (S : List It) (id : Int) : Int := if id < 0 ∨ (n : Int) ≤ id then 2 else if (tmOf S id).isSome then 5 else 0
def setS (n : Nat) (S : List It) (id : Int) (t : Nat) : List It := if setC n S id = 0 then ins ⟨id.toNat, t⟩ S else S
def canC (n : Nat) (S : List It) (id : Int) : Int := if id < 0 ∨ (n : Int) ≤ id then 2 else if (tmOf S id).isSome then 0 else 6
def canS (n : Nat) (S : List It) (id : Int) : List It := if canC n S id = 0 then rem id.toNat S else S
theorem tmOf_some {id t : Nat} (hn : (S.map (·.i)).Nodup) : tmOf S (id : Int) = some t ↔ (⟨id, t⟩ : It) ∈ S := by
  unfold tmOf
  rw [Option.map_eq_some_iff]
  constructor
  · rintro ⟨x, hx, rfl⟩
    have h1 := List.mem_of_find?_eq_some hx
    have h2 := List.find?_some hx
    simp at h2
    have h3 : x.i = id := by omega
    rw [← h3]
    exact h1
  · intro h
    cases hf : S.find? (fun x => (x.i : Int) == (id : Int)) with
    | none =>
      have := List.find?_eq_none.1 hf ⟨id, t⟩ h
      simp at this
    | some y =>
      have h1 := List.mem_of_find?_eq_some hf
      have h2 := List.find?_some hf
      simp at h2
      have := nd_eq hn h1 h (show y.i = id by omega)
      exact ⟨y, rfl, by rw [this]⟩
theorem tmOf_none {id : Nat} : tmOf S (id : Int) = none ↔ ∀ x ∈ S, x.i ≠ id := by
  unfold tmOf
  rw [Option.map_eq_none_iff, List.find?_eq_none]
  simp
  exact ⟨fun h x hx e => h x hx (by omega), fun h x hx e => h x hx (by omega)⟩
theorem Inv.there (h : Inv n nw ct F L fr A B E T S) (id : Nat) (hid : id < n) : T (id + 1) = (tmOf S (id : Int)).isSome ∧ E (id + 1) = (tmOf S (id : Int)).getD 0 := by
  cases hx : tmOf S (id : Int) with
  | none =>
    have := h.zer (id + 1) (by omega) (fun x hx' e => tmOf_none.1 hx x hx' (by omega))
    exact this
  | some t =>
    have := h.ent _ ((tmOf_some h.nd).1 hx)
    exact this
theorem may_ok (h : Rep w b g n nw ct (.map (some mb)) F L A B E T) (id : Int) (hn : n ≤ 1024) :
    Calls Try.prog 43 #[.pointer (some ⟨b, 0, none⟩), .int .i64 id] w fun e w' => e = .returned (.bool (decide (0 ≤ id) && decide (id < (n : Int)))) ∧ w' = w := by
  obtain ⟨cp, e0⟩ := h.en
  clear h
  by_cases h1 : 0 ≤ id
  · by_cases h2 : id < (n : Int)
    · go_enter Try.func43, Try.ntmps43
      go_wp2
      go_ret
      exact ⟨by simp [h1, h2], rfl⟩
    · go_enter Try.func43, Try.ntmps43
      go_wp2
      go_ret
      exact ⟨by simp [h1, h2], rfl⟩
  · have h3 : id < 0 := by omega
    go_enter Try.func43, Try.ntmps43
    go_wp2
    go_ret
    exact ⟨by simp; omega, rfl⟩
set_option maxRecDepth 100000 in
set_option maxHeartbeats 2000000 in
theorem set_ok (h : IsW w b g mb n nw S) (id : Int) (t : Nat) (ht : t < 18446744073709551616) :
    Calls Try.prog 21 #[.pointer (some ⟨b, 0, none⟩), .int .i64 id, .int .u64 (t : Int)] w fun e w' => e = .returned (.int .i64 (setC n S id)) ∧ IsW w' b g mb n nw (setS n S id t) ∧ Fr (O3 b g mb) w w' := by
  have hW := h
  obtain ⟨ct, F, L, fr, A, B, E, T, s, hr, hm, hi, hbm, hgm, hn⟩ := h
  have hmay := may_ok hr id hn
  by_cases hb : id < 0 ∨ (n : Int) ≤ id
  · have hc : setC n S id = 2 := if_pos hb
    have hs : setS n S id t = S := if_neg (by rw [hc]; decide)
    rw [hc, hs]
    rw [show (decide (0 ≤ id) && decide (id < (n : Int))) = false by rcases hb with q | q <;> simp <;> omega] at hmay
    have HM := veil hmay
    have HW := veil hW
    clear hmay hW hr hm hi hc hs hb
    go_enter Try.func21, Try.ntmps21
    go_wp2_with (first
      | (go_at_call 43; refine (HM.out).mono ?_; rintro e w1 ⟨rfl, hw⟩; replace hw := hw.symm; subst hw))
    go_ret
    exact ⟨rfl, HW.out, Fr.refl _ _⟩
  · obtain ⟨i, rfl⟩ := Int.eq_ofNat_of_zero_le (show 0 ≤ id by omega)
    have hin : i < n := by omega
    rw [show (decide (0 ≤ (i : Int)) && decide ((i : Int) < (n : Int))) = true by simp; omega] at hmay
    obtain ⟨hth, _⟩ := hi.there i hin
    have e1 := hr.et (i + 1) (by omega)
    rw [hth] at e1
    obtain ⟨cp, e0⟩ := hr.en
    cases hx : tmOf S (i : Int) with
    | some t0 =>
      have hc : setC n S (i : Int) = 5 := by unfold setC; rw [if_neg hb, hx]; rfl
      have hs : setS n S (i : Int) t = S := if_neg (by rw [hc]; decide)
      rw [hc, hs]
      rw [hx] at e1
      have e1' : w.cell? ⟨g, (i + 1) * 4 + 3, none⟩ = some (.bool true) := e1
      have HM := veil hmay
      have HW := veil hW
      clear hmay hW hr hm hi hc hs hb hth e1 hx
      go_enter Try.func21, Try.ntmps21
      go_wp2_with (first
        | (go_at_call 43; refine (HM.out).mono ?_; rintro e w1 ⟨rfl, hw⟩; replace hw := hw.symm; subst hw))
      go_ret
      exact ⟨rfl, HW.out, Fr.refl _ _⟩
    | none =>
      have hc : setC n S (i : Int) = 0 := by unfold setC; rw [if_neg hb, hx]; rfl
      have hs : setS n S (i : Int) t = ins ⟨i, t⟩ S := by unfold setS; rw [if_pos hc]; rfl
      rw [hc, hs]
      rw [hx] at e1 hth
      have e1' : w.cell? ⟨g, (i + 1) * 4 + 3, none⟩ = some (.bool false) := e1
      have hI := hi.set i t hin hth ht
      have hspl := hi.halves t
      have hlst := hi.list (max t nw) (Nat.le_max_right _ _)
      have hlen := hi.len_le
      have hsz := hi.map_le hm
      have hct := hi.hc
      rw [hspl] at hlst
      have hmem : ∀ p ∈ pre nw S t ++ suf nw S t, ∃ y ∈ S, y.i + 1 = p := fun p hp => by
        rw [← hspl] at hp
        obtain ⟨y, hy, rfl⟩ := mem_spots.1 hp
        exact ⟨y, (mem_grp.1 hy).1, rfl⟩
      have hP : ∀ p ∈ pre nw S t, E p ≤ t := fun p hp => by
        unfold pre at hp
        obtain ⟨y, hy, rfl⟩ := mem_spots.1 hp
        obtain ⟨h1, h2⟩ := List.mem_filter.1 hy
        rw [(hi.ent y (mem_grp.1 h1).1).2]
        simpa using h2
      have hQ : ∀ p ∈ suf nw S t, t < E p := fun p hp => by
        unfold suf at hp
        obtain ⟨y, hy, rfl⟩ := mem_spots.1 hp
        obtain ⟨h1, h2⟩ := List.mem_filter.1 hy
        rw [(hi.ent y (mem_grp.1 h1).1).2]
        simpa using h2
      have h0 : ∀ p ∈ pre nw S t ++ suf nw S t, p ≠ 0 ∧ p ≤ n := fun p hp => by
        obtain ⟨y, hy, rfl⟩ := hmem p hp
        have := hi.lt y hy
        omega
      have hnd : (pre nw S t ++ suf nw S t).Nodup := by rw [← hspl]; exact spots_nd (nd_sub hi.nd)
      have hxm : i + 1 ∉ pre nw S t ++ suf nw S t := fun q => by
        obtain ⟨y, hy, e⟩ := hmem _ q
        exact tmOf_none.1 hx y hy (by omega)
      obtain ⟨f', hf'⟩ : ∃ f', f' = if (pre nw S t).getLastD 0 = 0 then i + 1 else (lst nw F L fr (max t nw)).1 := ⟨_, rfl⟩
      obtain ⟨l', hl'⟩ : ∃ l', l' = if (suf nw S t).headD 0 = 0 then i + 1 else (lst nw F L fr (max t nw)).2 := ⟨_, rfl⟩
      obtain ⟨A', hA'⟩ : ∃ A', A' = updz (upd A (i + 1) ((pre nw S t).getLastD 0)) ((suf nw S t).headD 0) (i + 1) := ⟨_, rfl⟩
      obtain ⟨B', hB'⟩ : ∃ B', B' = updz (upd B (i + 1) ((suf nw S t).headD 0)) ((pre nw S t).getLastD 0) (i + 1) := ⟨_, rfl⟩
      have hTie := fun W (hb : Below w.heap.size w W) => tie_core (x := i + 1) (t := t) (hr.below hb) hlst hP hQ h0 hnd (by omega) hxm (f' := f') (l' := l') (A' := A') (B' := B') hf' hl' hA' hB'
      rw [← hf', ← hl', ← hA', ← hB'] at hI
      have hLi := list_ok hr hm t ht hi.hw
      obtain ⟨f0, hf0⟩ : ∃ f0, (lst nw F L fr (max t nw)).1 = f0 := ⟨_, rfl⟩
      obtain ⟨l0, hl0⟩ : ∃ l0, (lst nw F L fr (max t nw)).2 = l0 := ⟨_, rfl⟩
      rw [hf0, hl0] at hLi hTie
      have hcast : ((i + 1 : Nat) : Int) = (i : Int) + 1 := by omega
      rw [hcast] at hTie
      have HTie := veil hTie
      have HLi := veil hLi
      have HKe : Hid (∀ W, Rep W b g n nw ct (.map (some mb)) F L A' B' (upd E (i + 1) t) (upd T (i + 1) true) → IsM W mb fr s → Calls Try.prog 44 #[.pointer (some ⟨b, 0, none⟩), .int .u64 (t : Int), .agg #[.int .i64 (f' : Int), .int .i64 (l' : Int)]] W fun e w' => e = .returned (.tuple #[]) ∧ Rep w' b g n nw ct (.map (some mb)) (keepN nw F (max t nw) f') (keepN nw L (max t nw) l') A' B' (upd E (i + 1) t) (upd T (i + 1) true) ∧ (∃ s', IsM w' mb (keepM nw fr (max t nw) f' l') s') ∧ Fr (O3 b g mb) W w') :=
        fun W h1 h2 => keep_ok h1 h2 hbm hgm (by unfold maxLen; omega) t f' l' ht hi.hw
      have HM := veil hmay
      have HI := veil hI
      have HIM := veil hm
      have hcb : ct ≤ 1024 := by omega
      have hwc : IntKind.i64.wrap ((ct : Int) + 1) = (ct : Int) + 1 := by simp [IntKind.wrap, IntKind.bits, IntKind.signed]; omega
      clear hmay hW hr hm hi hc hs hb hth e1 hx hI hspl hlst hlen hsz hct hmem hP hQ h0 hnd hxm hf' hl' hA' hB' hTie hLi hf0 hl0 hcast
      go_enter Try.func21, Try.ntmps21
      go_wp2_with (first
        | (go_at_call 43; refine (HM.out).mono ?_; rintro e w1 ⟨rfl, hw⟩; replace hw := hw.symm; subst hw)
        | (go_at_call 46; refine (HLi.out).mono ?_; rintro e w1 ⟨rfl, hb⟩; have HB := veil hb; clear hb)
        | (go_at_call 45; refine (HTie.out _ HB.out).mono ?_; rintro e w2 ⟨rfl, hr, ho⟩; have HR2 := veil hr; have HM2 := veil ((HIM.out.block (HB.out.block mb HIM.out.lt)).block (ho.block mb (Nat.lt_of_lt_of_le HIM.out.lt HB.out.size) (fun e => hbm e.symm) (fun e => hgm e.symm))); have HO2 := veil ((Fr.of_below' HB.out).trans (Fr.of_only (S := O3 b g mb) ho (.inl rfl) (.inr (.inl rfl)))); clear hr ho)
        | (go_at_call 44; refine (HKe.out _ HR2.out HM2.out).mono ?_; rintro e w3 ⟨rfl, hr, hm3, ho⟩; have r2 := hr.tc; have r3 := hr.fb; have HR3 := veil hr; have HM3 := veil hm3; have HO3 := veil (HO2.out.trans ho); clear hr ho hm3))
      go_ret
      obtain ⟨s3, hm3⟩ := HM3.out
      refine ⟨rfl, ⟨ct + 1, _, _, _, _, _, _, _, s3, HR3.out.setN (ct + 1), hm3.block ?_, HI.out, hbm, hgm, hn⟩, HO3.out.setCell (.inl rfl) _⟩
      exact Below.heap_setCell _ _ _ _ hbm.symm
set_option maxRecDepth 100000 in
set_option maxHeartbeats 2000000 in
theorem cancel_ok (h : IsW w b g mb n nw S) (id : Int) :
    Calls Try.prog 22 #[.pointer (some ⟨b, 0, none⟩), .int .i64 id] w fun e w' => e = .returned (.int .i64 (canC n S id)) ∧ IsW w' b g mb n nw (canS n S id) ∧ Fr (O3 b g mb) w w' := by
  have hW := h
  obtain ⟨ct, F, L, fr, A, B, E, T, s, hr, hm, hi, hbm, hgm, hn⟩ := h
  have hmay := may_ok hr id hn
  by_cases hb : id < 0 ∨ (n : Int) ≤ id
  · have hc : canC n S id = 2 := if_pos hb
    have hs : canS n S id = S := if_neg (by rw [hc]; decide)
    rw [hc, hs]
    rw [show (decide (0 ≤ id) && decide (id < (n : Int))) = false by rcases hb with q | q <;> simp <;> omega] at hmay
    have HM := veil hmay
    have HW := veil hW
    clear hmay hW hr hm hi hc hs hb
    go_enter Try.func22, Try.ntmps22
    go_wp2_with (first
      | (go_at_call 43; refine (HM.out).mono ?_; rintro e w1 ⟨rfl, hw⟩; replace hw := hw.symm; subst hw))
    go_ret
    exact ⟨rfl, HW.out, Fr.refl _ _⟩
  · obtain ⟨i, rfl⟩ := Int.eq_ofNat_of_zero_le (show 0 ≤ id by omega)
    have hin : i < n := by omega
    rw [show (decide (0 ≤ (i : Int)) && decide ((i : Int) < (n : Int))) = true by simp; omega] at hmay
    obtain ⟨hth, hte⟩ := hi.there i hin
    have e1 := hr.et (i + 1) (by omega)
    have e2 := hr.ee (i + 1) (by omega)
    rw [hth] at e1
    rw [hte] at e2
    obtain ⟨cp, e0⟩ := hr.en
    cases hx : tmOf S (i : Int) with
    | none =>
      have hc : canC n S (i : Int) = 6 := by unfold canC; rw [if_neg hb, hx]; rfl
      have hs : canS n S (i : Int) = S := if_neg (by rw [hc]; decide)
      rw [hc, hs]
      rw [hx] at e1
      have e1' : w.cell? ⟨g, (i + 1) * 4 + 3, none⟩ = some (.bool false) := e1
      have HM := veil hmay
      have HW := veil hW
      clear hmay hW hr hm hi hc hs hb hth hte e1 e2 hx
      go_enter Try.func22, Try.ntmps22
      go_wp2_with (first
        | (go_at_call 43; refine (HM.out).mono ?_; rintro e w1 ⟨rfl, hw⟩; replace hw := hw.symm; subst hw))
      go_ret
      exact ⟨rfl, HW.out, Fr.refl _ _⟩
    | some t =>
      have hc : canC n S (i : Int) = 0 := by unfold canC; rw [if_neg hb, hx]; rfl
      have hs : canS n S (i : Int) = rem i S := by unfold canS; rw [if_pos hc]; rfl
      rw [hc, hs]
      rw [hx] at e1 e2
      have e1' : w.cell? ⟨g, (i + 1) * 4 + 3, none⟩ = some (.bool true) := e1
      have e2' : w.cell? ⟨g, (i + 1) * 4 + 2, none⟩ = some (.int .u64 (t : Int)) := e2
      have hxm := (tmOf_some hi.nd).1 hx
      have ht := hi.tm _ hxm
      obtain ⟨P, Q, hA, hB, hPn, hQn, hPx, hQx, hI⟩ := hi.cancel ⟨i, t⟩ hxm
      have hI := hI 0 0
      have hlen := hi.len_le
      have hsz := hi.map_le hm
      have hct := hi.hc
      have hpos : 0 < S.length := List.length_pos_of_mem hxm
      have hLi := list_ok hr hm t ht hi.hw
      have hPz : P.getLastD 0 ≤ n := by
        by_cases hz : P.getLastD 0 = 0
        · omega
        · exact hPn _ (last_mem hz)
      have hQz : Q.headD 0 ≤ n := by
        by_cases hz : Q.headD 0 = 0
        · omega
        · exact hQn _ (head_mem hz)
      obtain ⟨ah, hah⟩ : ∃ ah, P.getLastD 0 = ah := ⟨_, rfl⟩
      obtain ⟨be, hbe⟩ : ∃ be, Q.headD 0 = be := ⟨_, rfl⟩
      rw [hah] at hA hPz hPx hI
      rw [hbe] at hB hQz hQx hI
      obtain ⟨f0, hf0⟩ : ∃ f0, (lst nw F L fr (max t nw)).1 = f0 := ⟨_, rfl⟩
      obtain ⟨l0, hl0⟩ : ∃ l0, (lst nw F L fr (max t nw)).2 = l0 := ⟨_, rfl⟩
      have hI' : Inv n nw (ct - 1) (keepN nw F (max t nw) (if ah = 0 then be else (lst nw F L fr (max t nw)).1)) (keepN nw L (max t nw) (if be = 0 then ah else (lst nw F L fr (max t nw)).2)) (keepM nw fr (max t nw) (if ah = 0 then be else (lst nw F L fr (max t nw)).1) (if be = 0 then ah else (lst nw F L fr (max t nw)).2)) (upd (updz A be ah) (i + 1) 0) (upd (updz B ah be) (i + 1) 0) (upd E (i + 1) 0) (upd T (i + 1) false) (rem i S) := hI
      rw [hf0, hl0] at hLi hI'
      have hUn := fun W (hb : Below w.heap.size w W) => untie_ok (f := f0) (l := l0) (hr.below hb) (show i + 1 ≤ n by omega) hA hB hPz hQz hPx hQx
      obtain ⟨f', hf'⟩ : ∃ f', (if ah = 0 then be else f0) = f' := ⟨_, rfl⟩
      obtain ⟨l', hl'⟩ : ∃ l', (if be = 0 then ah else l0) = l' := ⟨_, rfl⟩
      rw [hf', hl'] at hI' hUn
      have hcast : ((i + 1 : Nat) : Int) = (i : Int) + 1 := by omega
      rw [hcast] at hUn
      generalize upd (updz A be ah) (i + 1) 0 = A' at hI' hUn
      generalize upd (updz B ah be) (i + 1) 0 = B' at hI' hUn
      have HUn := veil hUn
      have HLi := veil hLi
      have HKe : Hid (∀ W, Rep W b g n nw ct (.map (some mb)) F L A' B' (upd E (i + 1) 0) (upd T (i + 1) false) → IsM W mb fr s → Calls Try.prog 44 #[.pointer (some ⟨b, 0, none⟩), .int .u64 (t : Int), .agg #[.int .i64 (f' : Int), .int .i64 (l' : Int)]] W fun e w' => e = .returned (.tuple #[]) ∧ Rep w' b g n nw ct (.map (some mb)) (keepN nw F (max t nw) f') (keepN nw L (max t nw) l') A' B' (upd E (i + 1) 0) (upd T (i + 1) false) ∧ (∃ s', IsM w' mb (keepM nw fr (max t nw) f' l') s') ∧ Fr (O3 b g mb) W w') :=
        fun W h1 h2 => keep_ok h1 h2 hbm hgm (by unfold maxLen; omega) t f' l' ht hi.hw
      have HM := veil hmay
      have HI := veil hI'
      have HIM := veil hm
      obtain ⟨c, rfl⟩ : ∃ c, ct = c + 1 := ⟨ct - 1, by omega⟩
      have hcb : c ≤ 1024 := by omega
      have hwc : IntKind.i64.wrap (((c + 1 : Nat) : Int) - 1) = (c : Int) := by simp [IntKind.wrap, IntKind.bits, IntKind.signed]; omega
      clear hmay hW hr hm hi hc hs hb hth hte e1 e2 hx hI hI' hxm hlen hsz hct hpos hA hB hPn hQn hPx hQx hPz hQz hUn hLi hf0 hl0 hf' hl' hcast hah hbe
      go_enter Try.func22, Try.ntmps22
      go_wp2_with (first
        | (go_at_call 43; refine (HM.out).mono ?_; rintro e w1 ⟨rfl, hw⟩; replace hw := hw.symm; subst hw)
        | (go_at_call 46; refine (HLi.out).mono ?_; rintro e w1 ⟨rfl, hb⟩; have HB := veil hb; clear hb)
        | (go_at_call 47; refine (HUn.out _ HB.out).mono ?_; rintro e w2 ⟨rfl, hr, ho⟩; have HR2 := veil hr; have HM2 := veil ((HIM.out.block (HB.out.block mb HIM.out.lt)).block (ho.block mb (Nat.lt_of_lt_of_le HIM.out.lt HB.out.size) (fun e => hbm e.symm) (fun e => hgm e.symm))); have HO2 := veil ((Fr.of_below' HB.out).trans (Fr.of_only (S := O3 b g mb) ho (.inl rfl) (.inr (.inl rfl)))); clear hr ho)
        | (go_at_call 44; refine (HKe.out _ HR2.out HM2.out).mono ?_; rintro e w3 ⟨rfl, hr, hm3, ho⟩; have r2 := hr.tc; have r3 := hr.fb; have HR3 := veil hr; have HM3 := veil hm3; have HO3 := veil (HO2.out.trans ho); clear hr ho hm3))
      go_ret
      obtain ⟨s3, hm3⟩ := HM3.out
      refine ⟨rfl, ⟨c, _, _, _, _, _, _, _, s3, ?_, hm3.block ?_, HI.out, hbm, hgm, hn⟩, HO3.out.setCell (.inl rfl) _⟩
      · exact HR3.out.setN c
      · exact Below.heap_setCell _ _ _ _ hbm.symm
theorem now_ok (h : IsW w b g mb n nw S) :
    Calls Try.prog 18 #[.pointer (some ⟨b, 0, none⟩)] w fun e w' => e = .returned (.int .u64 (nw : Int)) ∧ w' = w := by
  obtain ⟨ct, F, L, fr, A, B, E, T, s, hr, hm, hi, hbm, hgm, hn⟩ := h
  exact now_walk hr
theorem len_ok (h : IsW w b g mb n nw S) :
    Calls Try.prog 15 #[.pointer (some ⟨b, 0, none⟩)] w fun e w' => e = .returned (.int .i64 (S.length : Int)) ∧ w' = w := by
  obtain ⟨ct, F, L, fr, A, B, E, T, s, hr, hm, hi, hbm, hgm, hn⟩ := h
  have := len_walk hr
  rw [hi.hc] at this
  exact this
def atT (n : Nat) (S : List It) (id : Int) : Nat := if 0 ≤ id ∧ id < (n : Int) then (tmOf S id).getD 0 else 0
def atB (n : Nat) (S : List It) (id : Int) : Bool := if 0 ≤ id ∧ id < (n : Int) then (tmOf S id).isSome else false
set_option maxRecDepth 100000 in
set_option maxHeartbeats 2000000 in
theorem at_ok (h : IsW w b g mb n nw S) (id : Int) :
    Calls Try.prog 17 #[.pointer (some ⟨b, 0, none⟩), .int .i64 id] w fun e w' => e = .returned (.tuple #[.int .u64 (atT n S id : Int), .bool (atB n S id)]) ∧ Below w.heap.size w w' := by
  obtain ⟨ct, F, L, fr, A, B, E, T, s, hr, hm, hi, hbm, hgm, hn⟩ := h
  have hmay := may_ok hr id hn
  by_cases hb : 0 ≤ id ∧ id < (n : Int)
  · obtain ⟨i, rfl⟩ := Int.eq_ofNat_of_zero_le hb.1
    have hin : i < n := by omega
    rw [show (decide (0 ≤ (i : Int)) && decide ((i : Int) < (n : Int))) = true by simp; omega] at hmay
    obtain ⟨hth, hte⟩ := hi.there i hin
    unfold atT atB
    rw [if_pos hb, if_pos hb, ← hth, ← hte]
    have e1 := hr.et (i + 1) (by omega)
    have e2 := hr.ee (i + 1) (by omega)
    have e3 := hr.ea (i + 1) (by omega)
    have e4 := hr.eb (i + 1) (by omega)
    obtain ⟨cp, e0⟩ := hr.en
    generalize T (i + 1) = tb at *
    generalize E (i + 1) = te at *
    have HM := veil hmay
    clear hmay hr hm hi hb hth hte
    go_enter Try.func17, Try.ntmps17
    go_wp2_with (first
      | (go_at_call 43; refine (HM.out).mono ?_; rintro e w1 ⟨rfl, hw⟩; replace hw := hw.symm; subst hw))
    go_region
    go_wp2
    go_ret2
    exact ⟨rfl, ((Below.refl _ _).alloc (Nat.le_refl _) _).drew⟩
  · unfold atT atB
    rw [if_neg hb, if_neg hb]
    rw [show (decide (0 ≤ id) && decide (id < (n : Int))) = false by simp; omega] at hmay
    have HM := veil hmay
    clear hmay hr hm hi hb
    go_enter Try.func17, Try.ntmps17
    go_wp2_with (first
      | (go_at_call 43; refine (HM.out).mono ?_; rintro e w1 ⟨rfl, hw⟩; replace hw := hw.symm; subst hw))
    go_ret2
    exact ⟨rfl, Below.refl _ _⟩
end
end Go.Proofs.Ytjmbadadelelfaa
