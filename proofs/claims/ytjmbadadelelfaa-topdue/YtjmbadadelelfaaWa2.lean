/- What a wheel's lists, map and entries are, said by its items; what Set, Cancel, Advance make of that. -/
import Derived.Test.YtjmbadadelelfaaWa0
namespace Go.Proofs.Ytjmbadadelelfaa
set_option linter.unusedVariables false
set_option linter.unusedSimpArgs false
structure Inv (n nw ct : Nat) (F L : Nat → Nat) (fr : Int → Option (Nat × Nat)) (A B E : Nat → Nat) (T : Nat → Bool) (S : List It) : Prop where
  srt : Srt S
  nd : (S.map (·.i)).Nodup
  lt : ∀ x ∈ S, x.i < n
  tm : ∀ x ∈ S, x.t < 18446744073709551616
  hw : nw < 18446744073709551616
  hc : ct = S.length
  slot : ∀ s, s < 64 → Lst A B (F s) (L s) (spots (grp nw S (nw / 64 * 64 + s)))
  far : ∀ k : Nat, nw / 64 < k / 64 → (fr (k : Int) = none ∧ grp nw S k = []) ∨ (∃ f l : Nat, fr (k : Int) = some (f, l) ∧ grp nw S k ≠ [] ∧ Lst A B f l (spots (grp nw S k)))
  out : ∀ i : Int, (fr i).isSome = true → ∃ k : Nat, i = (k : Int) ∧ nw / 64 < k / 64
  ent : ∀ x ∈ S, T (x.i + 1) = true ∧ E (x.i + 1) = x.t
  zer : ∀ p, p ≤ n → (∀ x ∈ S, x.i + 1 ≠ p) → T p = false ∧ E p = 0
/-- The ends of the list of a time. -/
def lst (nw : Nat) (F L : Nat → Nat) (fr : Int → Option (Nat × Nat)) (k : Nat) : Nat × Nat := if k / 64 = nw / 64 then (F (k % 64), L (k % 64)) else (fr (k : Int)).getD (0, 0)
def keepN (nw : Nat) (F : Nat → Nat) (k f : Nat) : Nat → Nat := if k / 64 = nw / 64 then upd F (k % 64) f else F
def keepM (nw : Nat) (fr : Int → Option (Nat × Nat)) (k f l : Nat) : Int → Option (Nat × Nat) := if k / 64 = nw / 64 then fr else setF fr k (if f = 0 then none else some (f, l))
section
variable {n nw ct : Nat} {F L : Nat → Nat} {fr : Int → Option (Nat × Nat)} {A B E A' B' E' : Nat → Nat} {T T' : Nat → Bool} {S S' : List It}
theorem Inv.list (h : Inv n nw ct F L fr A B E T S) (k : Nat) (hk : nw ≤ k) : Lst A B (lst nw F L fr k).1 (lst nw F L fr k).2 (spots (grp nw S k)) := by
  unfold lst
  by_cases e : k / 64 = nw / 64
  · rw [if_pos e]
    have := h.slot (k % 64) (Nat.mod_lt _ (by decide))
    rwa [show nw / 64 * 64 + k % 64 = k by omega] at this
  · rw [if_neg e]
    rcases h.far k (by omega) with ⟨e1, e2⟩ | ⟨f, l, e1, _, e2⟩
    · rw [e1, e2]; exact Lst.nil
    · rw [e1]; exact e2
theorem nd_eq (h : (S.map (·.i)).Nodup) {x y : It} (hx : x ∈ S) (hy : y ∈ S) (e : x.i = y.i) : x = y := by
  induction S with
  | nil => cases hx
  | cons a S ih =>
    obtain ⟨h1, h2⟩ := List.nodup_cons.1 h
    rcases List.mem_cons.1 hx with rfl | hx' <;> rcases List.mem_cons.1 hy with rfl | hy'
    · rfl
    · exact absurd (List.mem_map.2 ⟨y, hy', e.symm⟩) h1
    · exact absurd (List.mem_map.2 ⟨x, hx', e⟩) h1
    · exact ih h2 hx' hy'
theorem mem_grp {k : Nat} {x : It} : x ∈ grp nw S k ↔ x ∈ S ∧ ky nw x = k := by
  unfold grp
  rw [List.mem_filter]
  simp
theorem spots_nd (h : (S.map (·.i)).Nodup) : (spots S).Nodup := by
  unfold spots
  induction S with
  | nil => exact List.nodup_nil
  | cons a S ih =>
    obtain ⟨h1, h2⟩ := List.nodup_cons.1 h
    rw [List.map_cons, List.nodup_cons]
    refine ⟨fun q => h1 ?_, ih h2⟩
    obtain ⟨y, hy, e⟩ := List.mem_map.1 q
    exact List.mem_map.2 ⟨y, hy, by show y.i = a.i; omega⟩
theorem nd_sub {q : It → Bool} (h : (S.map (·.i)).Nodup) : ((S.filter q).map (·.i)).Nodup := h.sublist (List.Sublist.map _ List.filter_sublist)
/-- One list has turned: all others are as they were. -/
theorem Inv.keep (h : Inv n nw ct F L fr A B E T S) (k f l : Nat) (hk : nw ≤ k) (hg : ∀ j, j ≠ k → grp nw S' j = grp nw S j)
    (hAB : ∀ y ∈ S, ky nw y ≠ k → A' (y.i + 1) = A (y.i + 1) ∧ B' (y.i + 1) = B (y.i + 1)) (hl : Lst A' B' f l (spots (grp nw S' k))) :
    (∀ s, s < 64 → Lst A' B' (keepN nw F k f s) (keepN nw L k l s) (spots (grp nw S' (nw / 64 * 64 + s)))) ∧
    (∀ j : Nat, nw / 64 < j / 64 → (keepM nw fr k f l (j : Int) = none ∧ grp nw S' j = []) ∨ (∃ f' l' : Nat, keepM nw fr k f l (j : Int) = some (f', l') ∧ grp nw S' j ≠ [] ∧ Lst A' B' f' l' (spots (grp nw S' j)))) ∧
    (∀ i : Int, (keepM nw fr k f l i).isSome = true → ∃ k : Nat, i = (k : Int) ∧ nw / 64 < k / 64) := by
  have hoth : ∀ j, j ≠ k → ∀ f l, Lst A B f l (spots (grp nw S j)) → Lst A' B' f l (spots (grp nw S' j)) := fun j hj f l hh => by
    rw [hg j hj]
    refine hh.congr (fun p hp => ?_)
    obtain ⟨y, hy, rfl⟩ := mem_spots.1 hp
    obtain ⟨hy1, hy2⟩ := mem_grp.1 hy
    exact hAB y hy1 (by omega)
  refine ⟨fun s hs => ?_, fun j hj => ?_, fun i hi => ?_⟩
  · unfold keepN
    by_cases e : k / 64 = nw / 64
    · rw [if_pos e, if_pos e]
      by_cases e2 : s = k % 64
      · subst e2
        rw [upd_same, upd_same, show nw / 64 * 64 + k % 64 = k by omega]
        exact hl
      · rw [upd_other _ _ _ _ e2, upd_other _ _ _ _ e2]
        exact hoth _ (by omega) _ _ (h.slot s hs)
    · rw [if_neg e, if_neg e]
      exact hoth _ (by omega) _ _ (h.slot s hs)
  · unfold keepM
    by_cases e : k / 64 = nw / 64
    · rw [if_pos e]
      rcases h.far j hj with ⟨e1, e2⟩ | ⟨f', l', e1, e2, e3⟩
      · exact .inl ⟨e1, by rw [hg j (by omega)]; exact e2⟩
      · exact .inr ⟨f', l', e1, by rw [hg j (by omega)]; exact e2, hoth j (by omega) _ _ e3⟩
    · rw [if_neg e]
      by_cases e4 : j = k
      · subst e4
        unfold setF
        rw [if_pos rfl]
        by_cases e5 : f = 0
        · rw [if_pos e5]
          have e6 := head_zero (xs := spots (grp nw S' j)) spots_ne0 (hl.f.symm.trans e5)
          exact .inl ⟨rfl, by simpa [spots] using e6⟩
        · rw [if_neg e5]
          refine .inr ⟨f, l, rfl, fun e6 => e5 ?_, hl⟩
          rw [hl.f, e6]; rfl
      · unfold setF
        rw [if_neg (by omega)]
        rcases h.far j hj with ⟨e1, e2⟩ | ⟨f', l', e1, e2, e3⟩
        · exact .inl ⟨e1, by rw [hg j e4]; exact e2⟩
        · exact .inr ⟨f', l', e1, by rw [hg j e4]; exact e2, hoth j e4 _ _ e3⟩
  · unfold keepM at hi
    by_cases e : k / 64 = nw / 64
    · rw [if_pos e] at hi; exact h.out i hi
    · rw [if_neg e] at hi
      unfold setF at hi
      by_cases e4 : i = k
      · exact ⟨k, e4, by omega⟩
      · rw [if_neg e4] at hi; exact h.out i hi
/-- Those of a list that stand ahead of a new one, and behind it. -/
def pre (nw : Nat) (S : List It) (t : Nat) : List Nat := spots ((grp nw S (max t nw)).filter (fun y => decide (y.t ≤ t)))
def suf (nw : Nat) (S : List It) (t : Nat) : List Nat := spots ((grp nw S (max t nw)).filter (fun y => !decide (y.t ≤ t)))
theorem Inv.halves (h : Inv n nw ct F L fr A B E T S) (t : Nat) : spots (grp nw S (max t nw)) = pre nw S t ++ suf nw S t := by
  unfold pre suf
  rw [← spots_append, split_at (S := grp nw S (max t nw)) (h.srt.filter _)]
theorem Inv.set (h : Inv n nw ct F L fr A B E T S) (id t : Nat) (hid : id < n) (hT : T (id + 1) = false) (ht : t < 18446744073709551616) :
    Inv n nw (ct + 1) (keepN nw F (max t nw) (if (pre nw S t).getLastD 0 = 0 then id + 1 else (lst nw F L fr (max t nw)).1)) (keepN nw L (max t nw) (if (suf nw S t).headD 0 = 0 then id + 1 else (lst nw F L fr (max t nw)).2))
      (keepM nw fr (max t nw) (if (pre nw S t).getLastD 0 = 0 then id + 1 else (lst nw F L fr (max t nw)).1) (if (suf nw S t).headD 0 = 0 then id + 1 else (lst nw F L fr (max t nw)).2))
      (updz (upd A (id + 1) ((pre nw S t).getLastD 0)) ((suf nw S t).headD 0) (id + 1)) (updz (upd B (id + 1) ((suf nw S t).headD 0)) ((pre nw S t).getLastD 0) (id + 1)) (upd E (id + 1) t) (upd T (id + 1) true) (ins ⟨id, t⟩ S) := by
  have hno : ∀ y ∈ S, y.i ≠ id := fun y hy e => by
    have := (h.ent y hy).1
    rw [e, hT] at this
    cases this
  have hspl := h.halves t
  have hlst := h.list (max t nw) (Nat.le_max_right _ _)
  rw [hspl] at hlst
  have hsub : ∀ p ∈ pre nw S t ++ suf nw S t, ∃ y ∈ S, ky nw y = max t nw ∧ y.i + 1 = p := fun p hp => by
    rw [← hspl] at hp
    obtain ⟨y, hy, rfl⟩ := mem_spots.1 hp
    exact ⟨y, (mem_grp.1 hy).1, (mem_grp.1 hy).2, rfl⟩
  have hnew : id + 1 ∉ pre nw S t ++ suf nw S t := fun q => by
    obtain ⟨y, hy, _, e⟩ := hsub _ q
    exact hno y hy (by omega)
  have hnd : (pre nw S t ++ suf nw S t).Nodup := by rw [← hspl]; exact spots_nd (nd_sub h.nd)
  have h0 : ∀ y ∈ pre nw S t ++ suf nw S t, y ≠ 0 := fun y hy => by obtain ⟨z, _, _, rfl⟩ := hsub y hy; omega
  have hL := hlst.tie (x := id + 1) hnd h0 hnew (by omega)
  have hg : grp nw (ins ⟨id, t⟩ S) (max t nw) = ins ⟨id, t⟩ (grp nw S (max t nw)) := by
    rw [grp_ins h.srt]
    exact if_pos rfl
  have hgl : spots (grp nw (ins ⟨id, t⟩ S) (max t nw)) = pre nw S t ++ (id + 1) :: suf nw S t := by
    rw [hg]
    unfold ins pre suf
    rw [spots_append]
    rfl
  rw [← hgl] at hL
  have hout : ∀ y ∈ S, ky nw y ≠ max t nw → y.i + 1 ∉ pre nw S t ++ suf nw S t := fun y hy hk q => by
    obtain ⟨z, hz, hzk, e⟩ := hsub _ q
    have : z = y := nd_eq h.nd hz hy (by omega)
    exact hk (by rw [← this]; exact hzk)
  have K := h.keep (S' := ins ⟨id, t⟩ S) (max t nw) _ _ (Nat.le_max_right _ _) (fun j hj => by
    rw [grp_ins h.srt]
    exact if_neg (fun e => hj e.symm)) (fun y hy hk => by
      have h1 := hout y hy hk
      have h2 := hno y hy
      have h3 : y.i + 1 ≠ (suf nw S t).headD 0 := fun e => by
        by_cases hz : (suf nw S t).headD 0 = 0
        · omega
        · exact h1 (by rw [e]; exact List.mem_append_right _ (head_mem hz))
      have h4 : y.i + 1 ≠ (pre nw S t).getLastD 0 := fun e => by
        by_cases hz : (pre nw S t).getLastD 0 = 0
        · omega
        · exact h1 (by rw [e]; exact List.mem_append_left _ (last_mem hz))
      rw [updz_other _ _ _ _ h3, updz_other _ _ _ _ h4, upd_other _ _ _ _ (by omega), upd_other _ _ _ _ (by omega)]
      exact ⟨rfl, rfl⟩) hL
  refine ⟨h.srt.ins _, ?_, ?_, ?_, h.hw, ?_, K.1, K.2.1, K.2.2, ?_, ?_⟩
  · refine ((ins_perm (x := ⟨id, t⟩) h.srt).map (·.i)).nodup_iff.2 ?_
    rw [List.map_cons, List.nodup_cons]
    refine ⟨fun q => ?_, h.nd⟩
    obtain ⟨y, hy, e⟩ := List.mem_map.1 q
    exact hno y hy e
  · intro x hx
    rcases mem_ins.1 hx with rfl | hx
    · exact hid
    · exact h.lt x hx
  · intro x hx
    rcases mem_ins.1 hx with rfl | hx
    · exact ht
    · exact h.tm x hx
  · rw [ins_length h.srt, h.hc]
  · intro x hx
    rcases mem_ins.1 hx with rfl | hx
    · exact ⟨upd_same _ _ _, upd_same _ _ _⟩
    · have := hno x hx
      rw [upd_other _ _ _ _ (by omega), upd_other _ _ _ _ (by omega)]
      exact h.ent x hx
  · intro p hp hq
    have h1 := hq ⟨id, t⟩ (mem_ins.2 (.inl rfl))
    have h2 : p ≠ id + 1 := fun e => h1 e.symm
    rw [upd_other _ _ _ _ h2, upd_other _ _ _ _ h2]
    exact h.zer p hp (fun x hx => hq x (mem_ins.2 (.inr hx)))
/-- A list at the place of one. -/
theorem rem_split (hn : (S.map (·.i)).Nodup) {x : It} (hx : x ∈ S) : ∃ P Q, S = P ++ x :: Q ∧ rem x.i S = P ++ Q := by
  obtain ⟨P, Q, rfl⟩ := List.append_of_mem hx
  refine ⟨P, Q, rfl, ?_⟩
  rw [List.map_append, List.map_cons, List.nodup_append] at hn
  obtain ⟨_, h2, h3⟩ := hn
  obtain ⟨h4, _⟩ := List.nodup_cons.1 h2
  unfold rem
  rw [List.filter_append, List.filter_cons]
  have e1 : P.filter (fun y => !(y.i == x.i)) = P := List.filter_eq_self.2 (fun y hy => by
    have := h3 y.i (List.mem_map.2 ⟨y, hy, rfl⟩) x.i (by simp)
    simp [this])
  have e2 : Q.filter (fun y => !(y.i == x.i)) = Q := List.filter_eq_self.2 (fun y hy => by
    have : y.i ≠ x.i := fun e => h4 (List.mem_map.2 ⟨y, hy, e⟩)
    simp [this])
  rw [e1, e2]
  simp
theorem mem_rem {i : Nat} {x : It} : x ∈ rem i S ↔ x ∈ S ∧ x.i ≠ i := by
  unfold rem
  rw [List.mem_filter]
  simp
theorem rem_length (hn : (S.map (·.i)).Nodup) {x : It} (hx : x ∈ S) : (rem x.i S).length + 1 = S.length := by
  obtain ⟨P, Q, e1, e2⟩ := rem_split hn hx
  rw [e2, e1]
  simp
  omega
theorem rem_none {i : Nat} (h : ∀ x ∈ S, x.i ≠ i) : rem i S = S := List.filter_eq_self.2 (fun y hy => by have := h y hy; simp [this])
/-- What an entry says of its neighbours; and all that Cancel makes of it. -/
theorem Inv.cancel (h : Inv n nw ct F L fr A B E T S) (x : It) (hx : x ∈ S) :
    ∃ P Q : List Nat, A (x.i + 1) = P.getLastD 0 ∧ B (x.i + 1) = Q.headD 0 ∧ (∀ p ∈ P, p ≤ n) ∧ (∀ p ∈ Q, p ≤ n) ∧ P.getLastD 0 ≠ x.i + 1 ∧ Q.headD 0 ≠ x.i + 1 ∧
    ∀ u v, Inv n nw (ct - 1) (keepN nw F (max x.t nw) (if P.getLastD 0 = 0 then Q.headD 0 else (lst nw F L fr (max x.t nw)).1)) (keepN nw L (max x.t nw) (if Q.headD 0 = 0 then P.getLastD 0 else (lst nw F L fr (max x.t nw)).2))
      (keepM nw fr (max x.t nw) (if P.getLastD 0 = 0 then Q.headD 0 else (lst nw F L fr (max x.t nw)).1) (if Q.headD 0 = 0 then P.getLastD 0 else (lst nw F L fr (max x.t nw)).2))
      (upd (updz A (Q.headD 0) (P.getLastD 0)) (x.i + 1) u) (upd (updz B (P.getLastD 0) (Q.headD 0)) (x.i + 1) v) (upd E (x.i + 1) 0) (upd T (x.i + 1) false) (rem x.i S) := by
  have hxg : x ∈ grp nw S (max x.t nw) := mem_grp.2 ⟨hx, rfl⟩
  obtain ⟨P, Q, e1, e2⟩ := rem_split (nd_sub h.nd) hxg
  have hlst := h.list (max x.t nw) (Nat.le_max_right _ _)
  have hsp : spots (grp nw S (max x.t nw)) = spots P ++ (x.i + 1) :: spots Q := by
    have e0 : grp nw S (max x.t nw) = P ++ x :: Q := e1
    rw [e0, spots_append]; rfl
  have hnd : (spots P ++ (x.i + 1) :: spots Q).Nodup := by rw [← hsp]; exact spots_nd (nd_sub h.nd)
  rw [hsp] at hlst
  have h0 : ∀ y ∈ spots P ++ (x.i + 1) :: spots Q, y ≠ 0 := by rw [← hsp]; exact spots_ne0
  have hsub : ∀ p ∈ spots P ++ (x.i + 1) :: spots Q, ∃ y ∈ S, ky nw y = max x.t nw ∧ y.i + 1 = p := fun p hp => by
    rw [← hsp] at hp
    obtain ⟨y, hy, rfl⟩ := mem_spots.1 hp
    exact ⟨y, (mem_grp.1 hy).1, (mem_grp.1 hy).2, rfl⟩
  have hle : ∀ p ∈ spots P ++ (x.i + 1) :: spots Q, p ≤ n := fun p hp => by
    obtain ⟨y, hy, _, rfl⟩ := hsub p hp
    have := h.lt y hy
    omega
  obtain ⟨_, hnd2, hnd3⟩ := List.nodup_append.1 hnd
  have hp1 : (spots P).getLastD 0 ≠ x.i + 1 := fun e => hnd3 _ (last_mem (by omega)) (x.i + 1) (by simp) e
  have hq1 : (spots Q).headD 0 ≠ x.i + 1 := fun e => (List.nodup_cons.1 hnd2).1 (by rw [← e]; exact head_mem (by omega))
  refine ⟨spots P, spots Q, hlst.mid.1, hlst.mid.2, fun p hp => hle p (by simp [hp]), fun p hp => hle p (by simp [hp]), hp1, hq1, fun u v => ?_⟩
  have hL := hlst.untie hnd h0 u v
  have hgr : spots (grp nw (rem x.i S) (max x.t nw)) = spots P ++ spots Q := by
    rw [grp_rem, show rem x.i (grp nw S (max x.t nw)) = P ++ Q from e2, spots_append]
  rw [← hgr] at hL
  have K := h.keep (S' := rem x.i S) (max x.t nw) _ _ (Nat.le_max_right _ _) (fun j hj => by
    rw [grp_rem]
    refine rem_none (fun y hy e => hj ?_)
    obtain ⟨hy1, hy2⟩ := mem_grp.1 hy
    rw [nd_eq h.nd hy1 hx e] at hy2
    exact hy2.symm) (fun y hy hk => by
      have hyx : y.i + 1 ≠ x.i + 1 := fun e => hk (by rw [nd_eq h.nd hy hx (by omega)]; rfl)
      have hno : y.i + 1 ∉ spots P ++ (x.i + 1) :: spots Q := fun q => by
        obtain ⟨z, hz, hzk, e⟩ := hsub _ q
        exact hk (by rw [← nd_eq h.nd hz hy (by omega)]; exact hzk)
      have h3 : y.i + 1 ≠ (spots Q).headD 0 := fun e => by
        by_cases hz : (spots Q).headD 0 = 0
        · omega
        · exact hno (by rw [e]; exact List.mem_append_right _ (List.mem_cons_of_mem _ (head_mem hz)))
      have h4 : y.i + 1 ≠ (spots P).getLastD 0 := fun e => by
        by_cases hz : (spots P).getLastD 0 = 0
        · omega
        · exact hno (by rw [e]; exact List.mem_append_left _ (last_mem hz))
      rw [upd_other _ _ _ _ hyx, upd_other _ _ _ _ hyx, updz_other _ _ _ _ h3, updz_other _ _ _ _ h4]
      exact ⟨rfl, rfl⟩) hL
  have hlen := rem_length h.nd hx
  refine ⟨h.srt.filter _, nd_sub h.nd, fun y hy => h.lt y (mem_rem.1 hy).1, fun y hy => h.tm y (mem_rem.1 hy).1, h.hw, ?_, K.1, K.2.1, K.2.2, ?_, ?_⟩
  · rw [h.hc]; omega
  · intro y hy
    obtain ⟨hy1, hy2⟩ := mem_rem.1 hy
    rw [upd_other _ _ _ _ (by omega), upd_other _ _ _ _ (by omega)]
    exact h.ent y hy1
  · intro p hp hq
    by_cases e : p = x.i + 1
    · subst e
      rw [upd_same, upd_same]
      exact ⟨rfl, rfl⟩
    · rw [upd_other _ _ _ _ e, upd_other _ _ _ _ e]
      refine h.zer p hp (fun y hy e' => ?_)
      by_cases e2 : y.i = x.i
      · omega
      · exact hq y (mem_rem.2 ⟨hy, e2⟩) e'
theorem mem_late {to : Nat} {x : It} : x ∈ late to S ↔ x ∈ S ∧ to < x.t := by
  unfold late
  rw [List.mem_filter]
  simp
theorem mem_due {to : Nat} {x : It} : x ∈ due to S ↔ x ∈ S ∧ x.t ≤ to := by
  unfold due
  rw [List.mem_filter]
  simp
theorem grp_late {to : Nat} (h : nw ≤ to) (j : Nat) : grp to (late to S) j = if j ≤ to then [] else grp nw S j := by
  unfold grp late
  rw [List.filter_filter]
  by_cases hj : j ≤ to
  · rw [if_pos hj, List.filter_eq_nil_iff]
    intro a ha
    simp [ky]
    omega
  · rw [if_neg hj]
    congr 1
    funext y
    rw [Bool.eq_iff_iff]
    simp [ky]
    omega
/-- Time has gone on. -/
theorem Inv.adv (h : Inv n nw ct F L fr A B E T S) {F' L' : Nat → Nat} {fr' : Int → Option (Nat × Nat)} (to : Nat) (hto : nw ≤ to) (ht : to < 18446744073709551616)
    (hs : ∀ s, s < 64 → if to / 64 * 64 + s ≤ to then F' s = 0 ∧ L' s = 0 else F' s = (lst nw F L fr (to / 64 * 64 + s)).1 ∧ L' s = (lst nw F L fr (to / 64 * 64 + s)).2)
    (hf : ∀ k : Nat, to / 64 < k / 64 → fr' (k : Int) = fr (k : Int)) (ho : ∀ i : Int, (fr' i).isSome = true → ∃ k : Nat, i = (k : Int) ∧ to / 64 < k / 64)
    (hAB : ∀ y ∈ S, to < y.t → A' (y.i + 1) = A (y.i + 1) ∧ B' (y.i + 1) = B (y.i + 1) ∧ E' (y.i + 1) = E (y.i + 1) ∧ T' (y.i + 1) = T (y.i + 1))
    (hz : ∀ p, p ≤ n → (∀ y ∈ S, to < y.t → y.i + 1 ≠ p) → T' p = false ∧ E' p = 0) :
    Inv n to (late to S).length F' L' fr' A' B' E' T' (late to S) := by
  have hc : ∀ j f l, to < j → Lst A B f l (spots (grp nw S j)) → Lst A' B' f l (spots (grp to (late to S) j)) := fun j f l hj hl => by
    rw [grp_late hto, if_neg (by omega)]
    refine hl.congr (fun p hp => ?_)
    obtain ⟨y, hy, rfl⟩ := mem_spots.1 hp
    obtain ⟨h1, h2⟩ := mem_grp.1 hy
    have := hAB y h1 (by unfold ky at h2; omega)
    exact ⟨this.1, this.2.1⟩
  refine ⟨h.srt.filter _, nd_sub h.nd, fun x hx => h.lt x (mem_late.1 hx).1, fun x hx => h.tm x (mem_late.1 hx).1, ht, rfl, fun s hs' => ?_, fun k hk => ?_, ho, fun x hx => ?_, fun p hp hq => ?_⟩
  · have := hs s hs'
    by_cases e : to / 64 * 64 + s ≤ to
    · rw [if_pos e] at this
      rw [this.1, this.2, grp_late hto, if_pos e]
      exact Lst.nil
    · rw [if_neg e] at this
      rw [this.1, this.2]
      exact hc _ _ _ (by omega) (h.list _ (by omega))
  · rw [hf k hk, grp_late hto, if_neg (by omega)]
    rcases h.far k (by omega) with ⟨e1, e2⟩ | ⟨f, l, e1, e2, e3⟩
    · exact .inl ⟨e1, e2⟩
    · refine .inr ⟨f, l, e1, e2, ?_⟩
      have := hc k f l (by omega) e3
      rwa [grp_late hto, if_neg (by omega)] at this
  · obtain ⟨h1, h2⟩ := mem_late.1 hx
    have := hAB x h1 h2
    rw [this.2.2.2, this.2.2.1]
    exact h.ent x h1
  · exact hz p hp (fun y hy hy2 => hq y (mem_late.2 ⟨hy, hy2⟩))
end
end Go.Proofs.Ytjmbadadelelfaa
