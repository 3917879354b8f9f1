/-
  What a heap holds as a list of items (id, deadline, number), each ahead of all that are behind it.
-/
import Derived.Test.YtbefehoegmmgpaaP25
namespace Go.Proofs.Ytbefehoegmmgpaa.Ph
open Go.RowKit

abbrev Item := Nat × Nat × Nat
def ah (a b : Item) : Prop := a.2.1 < b.2.1 ∨ (a.2.1 = b.2.1 ∧ (a.2.2 < b.2.2 ∨ (a.2.2 = b.2.2 ∧ a.1 < b.1)))
instance (a b : Item) : Decidable (ah a b) := by unfold ah; exact inferInstance
theorem ah_trans {a b c : Item} (h : ah a b) (k : ah b c) : ah a c := by unfold ah at *; omega
theorem ah_irr {a : Item} : ¬ ah a a := by unfold ah; omega
theorem ah_tot {a b : Item} (h : a.1 ≠ b.1) (k : ¬ ah a b) : ah b a := by unfold ah at *; omega
/-- An item put ahead of the first one that it is ahead of. -/
def ins (x : Item) : List Item → List Item
  | [] => [x]
  | y :: L => if ah x y then x :: y :: L else y :: ins x L
def out (id : Nat) (L : List Item) : List Item := L.filter (fun it => it.1 != id)
def Srt (L : List Item) : Prop := L.Pairwise ah
theorem mem_ins {x y : Item} : ∀ {L : List Item}, y ∈ ins x L ↔ y = x ∨ y ∈ L
  | [] => by simp [ins]
  | z :: L => by
    rw [ins]
    split
    · simp
    · rw [List.mem_cons, mem_ins (L := L), List.mem_cons]
      constructor
      · rintro (h | h | h)
        · exact .inr (.inl h)
        · exact .inl h
        · exact .inr (.inr h)
      · rintro (h | h | h)
        · exact .inr (.inl h)
        · exact .inl h
        · exact .inr (.inr h)
theorem len_ins {x : Item} : ∀ {L : List Item}, (ins x L).length = L.length + 1
  | [] => rfl
  | z :: L => by
    rw [ins]
    split
    · simp
    · simp [len_ins (L := L)]
theorem srt_ins {x : Item} : ∀ {L : List Item}, Srt L → (∀ y ∈ L, y.1 ≠ x.1) → Srt (ins x L)
  | [], _, _ => by simp [Srt, ins]
  | z :: L, h, hx => by
    unfold Srt at h ⊢
    rw [List.pairwise_cons] at h
    rw [ins]
    split
    · rename_i hz
      rw [List.pairwise_cons, List.pairwise_cons]
      refine ⟨fun y hy => ?_, h⟩
      rcases List.mem_cons.1 hy with rfl | hy
      · exact hz
      · exact ah_trans hz (h.1 y hy)
    · rename_i hz
      rw [List.pairwise_cons]
      refine ⟨fun y hy => ?_, srt_ins h.2 (fun y hy => hx y (List.mem_cons_of_mem _ hy))⟩
      rcases mem_ins.1 hy with rfl | hy
      · exact ah_tot (fun e => hx z (by simp) e.symm) hz
      · exact h.1 y hy
theorem mem_out {id : Nat} {y : Item} {L : List Item} : y ∈ out id L ↔ y ∈ L ∧ y.1 ≠ id := by simp [out]
theorem srt_out {id : Nat} {L : List Item} (h : Srt L) : Srt (out id L) := List.Pairwise.filter _ h
theorem srt_uniq : ∀ {L M : List Item}, Srt L → Srt M → (∀ x, x ∈ L ↔ x ∈ M) → L = M
  | [], [], _, _, _ => rfl
  | [], y :: M, _, _, h => by have := (h y).2 (by simp); simp at this
  | x :: L, [], _, _, h => by have := (h x).1 (by simp); simp at this
  | x :: L, y :: M, hl, hm, h => by
    unfold Srt at hl hm
    rw [List.pairwise_cons] at hl hm
    have hxy : x = y := by
      have h1 := (h x).1 (by simp)
      have h2 := (h y).2 (by simp)
      rcases List.mem_cons.1 h1 with e | e
      · exact e
      · rcases List.mem_cons.1 h2 with e' | e'
        · exact e'.symm
        · exact absurd (ah_trans (hl.1 y e') (hm.1 x e)) ah_irr
    subst hxy
    have hx1 : x ∉ L := fun q => ah_irr (hl.1 x q)
    have hx2 : x ∉ M := fun q => ah_irr (hm.1 x q)
    rw [srt_uniq hl.2 hm.2 (fun z => by
      have := h z
      rw [List.mem_cons, List.mem_cons] at this
      constructor
      · intro q
        rcases this.1 (.inr q) with e | e
        · exact absurd (e ▸ q) hx1
        · exact e
      · intro q
        rcases this.2 (.inr q) with e | e
        · exact absurd (e ▸ q) hx2
        · exact e)]

/-- A right list of items with ids below n. -/
structure Good (n : Nat) (L : List Item) : Prop where
  srt : Srt L
  ids : (L.map (·.1)).Nodup
  rng : ∀ it ∈ L, it.1 < n
theorem Good.nil (n : Nat) : Good n [] := ⟨by simp [Srt], by simp, by simp⟩
theorem nodup_ins {x : Item} : ∀ {L : List Item}, (L.map (·.1)).Nodup → (∀ y ∈ L, y.1 ≠ x.1) → ((ins x L).map (·.1)).Nodup
  | [], _, _ => by simp [ins]
  | z :: L, h, hx => by
    rw [ins]
    rw [List.map_cons, List.nodup_cons] at h
    split
    · rw [List.map_cons, List.map_cons, List.nodup_cons, List.nodup_cons]
      refine ⟨fun q => ?_, h⟩
      rw [← List.map_cons (f := fun (a : Item) => a.1) (a := z) (l := L)] at q
      obtain ⟨y, hy, e⟩ := List.mem_map.1 q
      exact hx y hy e
    · rw [List.map_cons, List.nodup_cons]
      refine ⟨fun q => ?_, nodup_ins h.2 (fun y hy => hx y (List.mem_cons_of_mem _ hy))⟩
      obtain ⟨y, hy, e⟩ := List.mem_map.1 q
      rcases mem_ins.1 hy with rfl | hy
      · exact hx z (by simp) e.symm
      · exact h.1 (List.mem_map.2 ⟨y, hy, e⟩)
theorem Good.ins {n : Nat} {L : List Item} (h : Good n L) {x : Item} (hx : x.1 < n) (hid : ∀ y ∈ L, y.1 ≠ x.1) : Good n (ins x L) :=
  ⟨srt_ins h.srt hid, nodup_ins h.ids hid, fun it hit => by
    rcases mem_ins.1 hit with rfl | q
    · exact hx
    · exact h.rng it q⟩
theorem Good.out {n : Nat} {L : List Item} (h : Good n L) (id : Nat) : Good n (out id L) :=
  ⟨srt_out h.srt, (List.Sublist.map _ List.filter_sublist).nodup h.ids, fun it hit => h.rng it (mem_out.1 hit).1⟩
theorem Good.tail {n : Nat} {x : Item} {L : List Item} (h : Good n (x :: L)) : Good n L :=
  ⟨(List.pairwise_cons.1 h.srt).2, (List.nodup_cons.1 h.ids).2, fun it hit => h.rng it (List.mem_cons_of_mem _ hit)⟩
theorem out_head {n : Nat} {x : Item} {L : List Item} (h : Good n (x :: L)) : out x.1 (x :: L) = L := by
  have hn := (List.nodup_cons.1 h.ids).1
  unfold out
  rw [List.filter_cons_of_neg (by simp), List.filter_eq_self]
  intro y hy
  simp only [bne_iff_ne, ne_eq]
  intro e
  exact hn (List.mem_map.2 ⟨y, hy, e⟩)
theorem out_miss {id : Nat} {L : List Item} (h : ∀ y ∈ L, y.1 ≠ id) : out id L = L := by
  unfold out
  rw [List.filter_eq_self]
  intro y hy
  simpa using h y hy
theorem out_split {n : Nat} {L1 L2 : List Item} {x : Item} (h : Good n (L1 ++ x :: L2)) : out x.1 (L1 ++ x :: L2) = L1 ++ L2 := by
  have hn := h.ids
  rw [List.map_append, List.nodup_append] at hn
  simp only [List.map_cons, List.nodup_cons] at hn
  unfold out
  rw [List.filter_append, List.filter_cons_of_neg (by simp)]
  congr 1
  · rw [List.filter_eq_self]
    intro y hy
    simp only [bne_iff_ne, ne_eq]
    exact hn.2.2 _ (List.mem_map_of_mem (f := fun (a : Item) => a.1) hy) _ (by simp)
  · rw [List.filter_eq_self]
    intro y hy
    simp only [bne_iff_ne, ne_eq]
    intro e
    exact hn.2.1.1 (List.mem_map.2 ⟨y, hy, e⟩)
theorem Good.uniq {n : Nat} {L : List Item} (h : Good n L) {x y : Item} (hx : x ∈ L) (hy : y ∈ L) (e : x.1 = y.1) : x = y := by
  by_cases c1 : ah x y
  · obtain ⟨s, t, rfl⟩ := List.append_of_mem hx
    have hn := h.ids
    rw [List.map_append, List.nodup_append] at hn
    simp only [List.map_cons, List.nodup_cons] at hn
    rcases List.mem_append.1 hy with q | q
    · exact absurd e.symm (hn.2.2 _ (List.mem_map_of_mem (f := fun (a : Item) => a.1) q) _ (by simp))
    · rcases List.mem_cons.1 q with q | q
      · exact q.symm
      · exact absurd (List.mem_map.2 ⟨y, q, e.symm⟩) hn.2.1.1
  · obtain ⟨s, t, rfl⟩ := List.append_of_mem hx
    have hn := h.ids
    rw [List.map_append, List.nodup_append] at hn
    simp only [List.map_cons, List.nodup_cons] at hn
    rcases List.mem_append.1 hy with q | q
    · exact absurd e.symm (hn.2.2 _ (List.mem_map_of_mem (f := fun (a : Item) => a.1) q) _ (by simp))
    · rcases List.mem_cons.1 q with q | q
      · exact q.symm
      · exact absurd (List.mem_map.2 ⟨y, q, e.symm⟩) hn.2.1.1
theorem Good.len {n : Nat} {L : List Item} (h : Good n L) : L.length ≤ n := by
  have hs : Spots n (L.map (fun it => it.1 + 1)) := by
    refine ⟨?_, fun y hy => ?_⟩
    · have h0 := h.ids
      unfold List.Nodup at h0 ⊢
      rw [List.pairwise_map] at h0 ⊢
      exact h0.imp (fun q e => q (by omega))
    · obtain ⟨it, hit, rfl⟩ := List.mem_map.1 hy
      have := h.rng it hit
      omega
  have := spots_len hs
  simpa using this

/-- The program's heap holds L. -/
def IsH (w : World) (b g n : Nat) (L : List Item) : Prop :=
  Good n L ∧ ∃ m t, Holds w b g n m t ∧ L.length = t.spots.length ∧ ∀ id d s, id < n → (m id = some (d, s) ↔ (id, d, s) ∈ L)
section
variable {w : World} {b g n : Nat} {L : List Item} {m : Nat → Option (Nat × Nat)} {t : BT}
theorem IsH.good (h : IsH w b g n L) : Good n L := h.1
theorem IsH.nle (h : IsH w b g n L) : n ≤ 1024 := by
  obtain ⟨_, m, t, ⟨_, _, _, _, _, hn, _⟩, _⟩ := h
  exact hn
theorem m_none {id : Nat} (hm : ∀ id d s, id < n → (m id = some (d, s) ↔ (id, d, s) ∈ L)) (hi : id < n) (hid : ∀ it ∈ L, it.1 ≠ id) : (m id).isSome = false := by
  cases h : m id with
  | none => rfl
  | some x =>
    obtain ⟨d, s⟩ := x
    exact absurd rfl (hid _ ((hm id d s hi).1 h))
theorem m_some {id d s : Nat} (hm : ∀ id d s, id < n → (m id = some (d, s) ↔ (id, d, s) ∈ L)) (hi : id < n) (hid : (id, d, s) ∈ L) : (m id).isSome = true := by
  rw [(hm id d s hi).2 hid]; rfl
theorem m_ins {id d s : Nat} (hm : ∀ id d s, id < n → (m id = some (d, s) ↔ (id, d, s) ∈ L)) (hid : ∀ it ∈ L, it.1 ≠ id) : ∀ i d' s', i < n → (upd m id (some (d, s)) i = some (d', s') ↔ (i, d', s') ∈ ins (id, d, s) L) := by
  intro i d' s' hi
  rw [mem_ins]
  by_cases e : i = id
  · subst e
    rw [upd_same]
    constructor
    · intro q
      injection q with q
      injection q with q1 q2
      exact .inl (by rw [q1, q2])
    · rintro (q | q)
      · injection q with _ q
        injection q with q1 q2
        rw [q1, q2]
      · exact absurd rfl (hid _ q)
  · rw [upd_other _ _ _ _ e, hm i d' s' hi]
    constructor
    · exact .inr
    · rintro (q | q)
      · injection q with q _
        exact absurd q e
      · exact q
theorem m_out {id : Nat} (hm : ∀ id d s, id < n → (m id = some (d, s) ↔ (id, d, s) ∈ L)) : ∀ i d' s', i < n → (upd m id none i = some (d', s') ↔ (i, d', s') ∈ out id L) := by
  intro i d' s' hi
  rw [mem_out]
  by_cases e : i = id
  · subst e
    rw [upd_same]
    constructor
    · intro q; cases q
    · intro q; exact absurd rfl q.2
  · rw [upd_other _ _ _ _ e, hm i d' s' hi]
    exact ⟨fun q => ⟨q, e⟩, fun q => q.1⟩
theorem len_out {id d s : Nat} {L : List Item} (h : Good n L) (hid : (id, d, s) ∈ L) : (out id L).length + 1 = L.length := by
  obtain ⟨L1, L2, rfl⟩ := List.append_of_mem hid
  rw [show out id (L1 ++ (id, d, s) :: L2) = L1 ++ L2 from out_split (x := (id, d, s)) h]
  simp only [List.length_append, List.length_cons]
  omega
theorem hinsert_ok (h : IsH w b g n L) (id d s : Nat) (hid : id < n) (hno : ∀ it ∈ L, it.1 ≠ id) :
    Calls Try.prog 73 #[.pointer (some ⟨b, 0, none⟩), .int .i64 (id : Int), .int .u64 (d : Int), .int .u64 (s : Int)] w fun e w' => e = .returned (.int .i64 0) ∧ IsH w' b g n (ins (id, d, s) L) ∧ Only b g w w' := by
  obtain ⟨h0, m, t, h1, h2, h3⟩ := h
  refine (insert_ok h1 id d s hid (m_none h3 hid hno)).mono ?_
  rintro e w' ⟨he, t', p, hh, o⟩
  refine ⟨he, ⟨h0.ins (x := (id, d, s)) hid hno, _, t', hh, ?_, m_ins h3 hno⟩, o⟩
  have := p.length_eq
  rw [len_ins, this, List.length_cons, h2]
theorem hdelete_ok (h : IsH w b g n L) (id d s : Nat) (hid : (id, d, s) ∈ L) :
    Calls Try.prog 51 #[.pointer (some ⟨b, 0, none⟩), .int .i64 (id : Int)] w fun e w' => e = .returned (.int .i64 0) ∧ IsH w' b g n (out id L) ∧ Only b g w w' := by
  obtain ⟨h0, m, t, h1, h2, h3⟩ := h
  have hi := h0.rng _ hid
  refine (delete_ok h1 id hi (m_some h3 hi hid)).mono ?_
  rintro e w' ⟨he, t', p, hh, o⟩
  refine ⟨he, ⟨h0.out id, _, t', hh, ?_, m_out h3⟩, o⟩
  have := p.length_eq
  rw [List.length_cons] at this
  have := len_out h0 hid
  omega
theorem first_head {x : Item} {id : Nat} (h0 : Good n (x :: L)) (hm : ∀ id d s, id < n → (m id = some (d, s) ↔ (id, d, s) ∈ x :: L)) (hf : First n m id) : id = x.1 := by
  obtain ⟨hi, d, s, hd, hle⟩ := hf
  have h1 := (hm id d s hi).1 hd
  rcases List.mem_cons.1 h1 with e | e
  · rw [← e]
  · have h2 := (List.pairwise_cons.1 h0.srt).1 _ e
    have h3 := hle x.1 x.2.1 x.2.2 (h0.rng x (by simp)) ((hm x.1 x.2.1 x.2.2 (h0.rng x (by simp))).2 (by simp))
    unfold ah at h2
    simp only at h2
    omega
theorem htake_ok {x : Item} (h : IsH w b g n (x :: L)) :
    Calls Try.prog 55 #[.pointer (some ⟨b, 0, none⟩)] w fun e w' => e = .returned (.tuple #[.int .i64 (x.1 : Int), .bool true]) ∧ IsH w' b g n L ∧ Only b g w w' := by
  obtain ⟨h0, m, t, h1, h2, h3⟩ := h
  refine (take_ok h1 (by intro e; rw [e] at h2; simp at h2)).mono ?_
  rintro e w' ⟨id, hf, he, t', p, hh, o⟩
  have hx := first_head h0 h3 hf
  subst hx
  refine ⟨he, ⟨h0.tail, _, t', hh, ?_, fun i d s hi => by rw [m_out h3 i d s hi, out_head h0]⟩, o⟩
  have := p.length_eq
  simp only [List.length_cons] at this h2
  omega
theorem hmin_ok {x : Item} (h : IsH w b g n (x :: L)) :
    Calls Try.prog 66 #[.pointer (some ⟨b, 0, none⟩)] w fun e w' => e = .returned (.tuple #[.int .i64 (x.1 : Int), .bool true]) ∧ ∃ q, w' = w.drewN q := by
  obtain ⟨h0, m, t, h1, h2, h3⟩ := h
  refine (min_ok h1 (by intro e; rw [e] at h2; simp at h2)).mono ?_
  rintro e w' ⟨id, hf, he, hq⟩
  have hx := first_head h0 h3 hf
  subst hx
  exact ⟨he, hq⟩
/-- The heap's cells, as far as its shape matters not. -/
theorem IsH.rep (h : IsH w b g n L) : ∃ t D S I C A B T, Rep w b g n (BT.root t) L.length D S I C A B T ∧ (L = [] → t = BT.nil) ∧ n ≤ 1024 ∧ Wiped n D S T ∧ (∀ id, id < n → (T (id + 1) = true ↔ ∃ it ∈ L, it.1 = id)) ∧ ∀ id, id < n → T (id + 1) = true → (id, D (id + 1), S (id + 1)) ∈ L := by
  obtain ⟨h0, m, t, ⟨D, S, I, T, h1, hn, h4, h5⟩, h2, h3⟩ := h
  obtain ⟨C, A, B, hR, _⟩ := h1.lk
  refine ⟨t, D, S, I, C, A, B, T, h2 ▸ hR, fun e => ?_, hn, h5, fun id hi => ?_, fun id hi hT => ?_⟩
  · subst e
    cases t with
    | nil => rfl
    | node _ _ _ => simp [BT.spots] at h2
  · constructor
    · intro hT
      have := h4 id hi
      rw [hT, if_pos rfl] at this
      exact ⟨_, (h3 id _ _ hi).1 this, rfl⟩
    · rintro ⟨⟨i, d, s⟩, hm, rfl⟩
      have h6 := (h3 i d s hi).2 hm
      rw [h4 i hi] at h6
      cases hT : T (i + 1) with
      | true => rfl
      | false =>
        rw [hT] at h6
        cases h6
  · have := h4 id hi
    rw [hT, if_pos rfl] at this
    exact (h3 id _ _ hi).1 this
theorem IsH.kept {w' : World} (h : IsH w b g n L) (hb : w'.heap[b]? = w.heap[b]?) (hg : w'.heap[g]? = w.heap[g]?) : IsH w' b g n L := by
  obtain ⟨h0, m, t, ⟨D, S, I, T, h1, hn, h4, h5⟩, h2, h3⟩ := h
  obtain ⟨C, A, B, hR, hrow, hB⟩ := h1.lk
  exact ⟨h0, m, t, ⟨D, S, I, T, ⟨⟨C, A, B, hR.kept hb hg, hrow, hB⟩, h1.wd, h1.od, h1.sp, h1.th, h1.id⟩, hn, h4, h5⟩, h2, h3⟩
theorem IsH.blocks (h : IsH w b g n L) : b < w.heap.size ∧ g < w.heap.size ∧ b ≠ g := by
  obtain ⟨t, D, S, I, C, A, B, T, hR, _⟩ := h.rep
  exact ⟨hR.lt_b, hR.lt_g, hR.bg⟩
theorem IsH.like {w' : World} (h : IsH w b g n L) (a : w'.heap = w.heap) : IsH w' b g n L := h.kept (by rw [a]) (by rw [a])
theorem IsH.below {w' : World} (h : IsH w b g n L) (hb : Below w.heap.size w w') : IsH w' b g n L := h.kept (hb.block b h.blocks.1) (hb.block g h.blocks.2.1)
theorem IsH.drewN (h : IsH w b g n L) (q : Nat) : IsH (w.drewN q) b g n L := h.like rfl
end
end Go.Proofs.Ytbefehoegmmgpaa.Ph
