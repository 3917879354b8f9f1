/-
  A set that holds a list: its parts tell each id's key, Top, Take, Remove, Put of one that is new.
-/
import Derived.Test.YtlfejgjhamcahaaY9
namespace Go.Proofs.Ytlfejgjhamcahaa
open Go.RowKit
set_option linter.unusedVariables false
attribute [local go_sem ↓] Go.wp_at_zero Go.wp_at_succ

/-- What a set's parts and its list keep. -/
structure InvS (n most turn : Nat) (R : List (Nat × Nat)) (L : List Ph.Item) (M : List En) : Prop where
  eq : all R L = M
  nd : (M.map (·.1)).Nodup
  len : R.length + L.length = M.length
  lt : ∀ y ∈ L, y.2.2 < turn
  fits : M.length ≤ most
  mn : most ≤ n
  rl : ∀ it ∈ R, it.2 < 256
/-- The set at sb with its parts holds M. -/
def IsS (w : World) (sb qb gq hb gh n most turn : Nat) (M : List En) : Prop := ∃ R L, St w sb qb gq hb gh n most turn R L ∧ InvS n most turn R L M
def OwnS (sb qb gq hb gh : Nat) (k : Nat) : Prop := k = sb ∨ Own qb gq hb gh k

section
variable {w w' : World} {sb qb gq hb gh n most turn : Nat} {R R' : List (Nat × Nat)} {L L' : List Ph.Item} {M : List En}
theorem IsS.below (h : IsS w sb qb gq hb gh n most turn M) (hw : Below w.heap.size w w') : IsS w' sb qb gq hb gh n most turn M := by
  obtain ⟨R, L, h1, h2⟩ := h
  exact ⟨R, L, h1.below hw, h2⟩
theorem IsS.frame {S : Nat → Prop} (h : IsS w sb qb gq hb gh n most turn M) (hf : Fr S w w') (hn : ∀ k, OwnS sb qb gq hb gh k → ¬ S k) : IsS w' sb qb gq hb gh n most turn M := by
  obtain ⟨R, L, h1, h2⟩ := h
  exact ⟨R, L, h1.frame hf (hn _ (.inl rfl)) (hn _ (.inr (.inl (.inl rfl)))) (hn _ (.inr (.inl (.inr rfl)))) (hn _ (.inr (.inr (.inl rfl)))) (hn _ (.inr (.inr (.inr rfl)))), h2⟩
theorem IsS.blocks (h : IsS w sb qb gq hb gh n most turn M) : ∀ k, OwnS sb qb gq hb gh k → k < w.heap.size := by
  obtain ⟨R, L, h1, _⟩ := h
  have a := h1.lt
  have b := h1.q.blocks
  have c := h1.h.blocks
  intro k hk
  unfold OwnS Own at hk
  omega
theorem IsS.n_le (h : IsS w sb qb gq hb gh n most turn M) : n ≤ 1024 := by
  obtain ⟨R, L, h1, _⟩ := h
  exact h1.h.nle
theorem InvS.memR (h : InvS n most turn R L M) {id lv : Nat} (hm : (id, lv) ∈ R) : (id, Ke.fixK lv) ∈ M := by
  rw [← h.eq]
  exact mem_all.2 (.inr ⟨lv, h.rl _ hm, hm, rfl⟩)
theorem InvS.memL (h : InvS n most turn R L M) {x : Ph.Item} (hm : x ∈ L) : (x.1, Ke.deadK x.2.1) ∈ M := by
  rw [← h.eq]
  exact mem_all.2 (.inl ⟨x.2.1, x.2.2, hm, rfl⟩)
theorem InvS.missR (h : InvS n most turn R L M) {id : Nat} (hm : ∀ y ∈ M, y.1 ≠ id) : ∀ it ∈ R, it.1 ≠ id := fun it hit e => hm _ (h.memR (id := it.1) (lv := it.2) hit) e
theorem InvS.missL (h : InvS n most turn R L M) {id : Nat} (hm : ∀ y ∈ M, y.1 ≠ id) : ∀ it ∈ L, it.1 ≠ id := fun it hit e => hm _ (h.memL hit) e
/-- One of the heap is not in the queue. -/
theorem InvS.apart (h : InvS n most turn R L M) {x : Ph.Item} (hm : x ∈ L) : ∀ it ∈ R, it.1 ≠ x.1 := fun it hit e => by
  have := nd_uniq h.nd (h.memR (id := it.1) (lv := it.2) hit) (h.memL hm) e
  have := congrArg (fun y => y.2.e) this
  simp [Ke.fixK, Ke.deadK] at this

theorem lev_nil : ∀ k, lev [] k = []
  | 0 => rfl
  | k + 1 => by rw [lev, lev_nil k]; rfl
/-- The value of a key that may be missing. -/
def kz (o : Option Ke.K) : Ke.K := o.getD ⟨false, 0, 0⟩
theorem pkey_ok (hS : St w sb qb gq hb gh n most turn R L) (hI : InvS n most turn R L M) (id : Nat) (hi : id < n) :
    Calls Try.prog 68 #[.agg #[.pointer (some ⟨qb, 0, none⟩), .pointer (some ⟨hb, 0, none⟩)], .int .i64 (id : Int)] w fun e w' => e = .returned (.tuple #[.agg #[.bool (kz (keyOf M id)).e, .int .u64 (kz (keyOf M id)).d, .int .u8 (kz (keyOf M id)).l], .bool (keyOf M id).isSome]) ∧ Below w.heap.size w w' := by
  cases hk : keyOf M id with
  | none =>
    have hm := keyOf_none.1 hk
    exact pkey_none hS id hi (hI.missR hm) (hI.missL hm)
  | some k =>
    have hm := (keyOf_some hI.nd).1 hk
    rw [← hI.eq] at hm
    rcases mem_all.1 hm with ⟨d, s, h1, h2⟩ | ⟨lv, _, h1, h2⟩
    · have := pkey_dead hS id hi (hI.apart h1) d s h1
      simp only at h2
      rw [h2]
      exact this
    · obtain ⟨R1, R2, rfl⟩ := List.append_of_mem h1
      simp only at h2
      rw [h2]
      exact pkey_level hS

/-- What comes first. -/
theorem first_of (hS : St w sb qb gq hb gh n most turn R L) (hI : InvS n most turn R L M) {y : En} {M' : List En} (he : M = y :: M') :
    Calls Try.prog 67 #[.agg #[.pointer (some ⟨qb, 0, none⟩), .pointer (some ⟨hb, 0, none⟩)]] w fun e w' => e = .returned (.tuple #[.int .i64 (y.1 : Int), .bool true]) ∧ Below w.heap.size w w' := by
  have heq := hI.eq
  rw [he] at heq
  cases L with
  | cons x L =>
    unfold all at heq
    have : y = (x.1, Ke.deadK x.2.1) := by
      simp only [dl, List.map_cons, List.cons_append] at heq
      injection heq with h1 _
      exact h1.symm
    rw [this]
    exact pfirst_heap hS
  | nil =>
    have h1 : lev R 256 = y :: M' := heq
    obtain ⟨lv, h2, ⟨rest, h3⟩, h4⟩ := lev_first R 256 h1
    have e1 : Bq.QL R lv = (lvs R lv).map (fun y => y.1 + 1) := by
      unfold Bq.QL lvs
      rw [List.map_map]
      rfl
    have e2 : ∀ j, lvs R j = [] → Bq.QL R j = [] := fun j hj => by
      have : Bq.QL R j = (lvs R j).map (fun y => y.1 + 1) := by
        unfold Bq.QL lvs
        rw [List.map_map]
        rfl
      rw [this, hj]
      rfl
    rw [h3] at e1
    exact pfirst_queue hS ⟨h2, by rw [e1]; simp, fun j a b => e2 j (h4 j b a)⟩ e1
theorem head_key {y : En} {M' : List En} (h : ((y :: M').map (·.1)).Nodup) : keyOf (y :: M') y.1 = some y.2 := (keyOf_some h).2 (by simp)
theorem InvS.rng (hS : St w sb qb gq hb gh n most turn R L) (hI : InvS n most turn R L M) : ∀ y ∈ M, y.1 < n := fun y hy => by
  rw [← hI.eq] at hy
  rcases mem_all.1 hy with ⟨d, s, h1, _⟩ | ⟨lv, _, h1, _⟩
  · exact hS.h.good.rng _ h1
  · exact (hS.q.rng _ h1).1
theorem top_of (hS : St w sb qb gq hb gh n most turn R L) (hI : InvS n most turn R L M) {y : En} {M' : List En} (he : M = y :: M') :
    Calls Try.prog 43 #[.pointer (some ⟨sb, 0, none⟩)] w fun e w' => e = .returned (.tuple #[.int .i64 (y.1 : Int), .agg #[.bool y.2.e, .int .u64 y.2.d, .int .u8 y.2.l], .bool true]) ∧ Below w.heap.size w w' := by
  refine stop_any hS y.1 y.2 (fun W hW => first_of hW hI he) (fun W hW => ?_)
  have := pkey_ok hW hI y.1 (InvS.rng hW hI y (by rw [he]; simp))
  have e : keyOf M y.1 = some y.2 := by rw [he]; exact head_key (by rw [← he]; exact hI.nd)
  rw [e] at this
  exact this

/-- One that is there, taken out: the parts behind it. -/
theorem rem_of (hS : St w sb qb gq hb gh n most turn R L) (hI : InvS n most turn R L M) {id : Nat} {k : Ke.K} (hk : (id, k) ∈ M) :
    ∃ R' L', InvS n most turn R' L' (cut id M) ∧ ∀ W, St W sb qb gq hb gh n most turn R L → Calls Try.prog 59 #[.pointer (some ⟨sb, 0, none⟩), .int .i64 (id : Int)] W fun e w' => e = .returned (.int .i64 0) ∧ St w' sb qb gq hb gh n most turn R' L' ∧ Fr (Own qb gq hb gh) W w' := by
  have hlc := len_cut hI.nd hk
  have hlen := hI.len
  have hmo := hI.fits
  have hm := hk
  rw [← hI.eq] at hm
  rcases mem_all.1 hm with ⟨d, s, h1, h2⟩ | ⟨lv, _, h1, h2⟩
  · have hap := hI.apart h1
    have hlo := Ph.len_out hS.h.good h1
    refine ⟨R, Ph.out id L, ⟨?_, nd_cut hI.nd, by simp only at hlo; omega, fun y hy => hI.lt y (Ph.mem_out.1 hy).1, by omega, hI.mn, hI.rl⟩, fun W hW => ?_⟩
    · rw [← hI.eq, cut_all, filter_miss hap]
    · refine (sremove_heap hW id d s hap h1).mono ?_
      rintro e w' ⟨rfl, a, b⟩
      exact ⟨rfl, a, b.wide (fun k _ q => .inr q)⟩
  · obtain ⟨R1, R2, rfl⟩ := List.append_of_mem h1
    have hmiss : ∀ y ∈ L, y.1 ≠ id := fun y hy e => hI.apart hy (id, lv) (by simp) e.symm
    refine ⟨R1 ++ R2, L, ⟨?_, nd_cut hI.nd, ?_, hI.lt, by omega, hI.mn, fun it hit => hI.rl it ?_⟩, fun W hW => ?_⟩
    · rw [← hI.eq, cut_all, filter_split hS.q.ids, Ph.out_miss hmiss]
    · simp at hlen ⊢
      omega
    · rcases List.mem_append.1 hit with q | q
      · exact List.mem_append_left _ q
      · exact List.mem_append_right _ (List.mem_cons_of_mem _ q)
    · refine (sremove_queue hW).mono ?_
      rintro e w' ⟨rfl, a, b⟩
      exact ⟨rfl, a, b.wide (fun k _ q => .inl q)⟩
theorem remove_ok (h : IsS w sb qb gq hb gh n most turn M) {id : Nat} {k : Ke.K} (hk : (id, k) ∈ M) :
    Calls Try.prog 59 #[.pointer (some ⟨sb, 0, none⟩), .int .i64 (id : Int)] w fun e w' => e = .returned (.int .i64 0) ∧ IsS w' sb qb gq hb gh n most turn (cut id M) ∧ Fr (Own qb gq hb gh) w w' := by
  obtain ⟨R, L, hS, hI⟩ := h
  obtain ⟨R', L', h1, h2⟩ := rem_of hS hI hk
  refine (h2 _ hS).mono ?_
  rintro e w' ⟨rfl, a, b⟩
  exact ⟨rfl, ⟨R', L', a, h1⟩, b⟩
theorem IsS.nil_parts (h : IsS w sb qb gq hb gh n most turn []) : St w sb qb gq hb gh n most turn [] [] := by
  obtain ⟨R, L, hS, hI⟩ := h
  have := hI.len
  simp at this
  obtain ⟨rfl, rfl⟩ := this
  exact hS
theorem top_ok {y : En} (h : IsS w sb qb gq hb gh n most turn (y :: M)) :
    Calls Try.prog 43 #[.pointer (some ⟨sb, 0, none⟩)] w fun e w' => e = .returned (.tuple #[.int .i64 (y.1 : Int), .agg #[.bool y.2.e, .int .u64 y.2.d, .int .u8 y.2.l], .bool true]) ∧ Below w.heap.size w w' := by
  obtain ⟨R, L, hS, hI⟩ := h
  exact top_of hS hI rfl
theorem right_cases {k : Ke.K} (hr : Ke.rightK k = true) (hk : k.ok) : (∃ d : Nat, k = Ke.deadK d) ∨ ∃ lv : Nat, lv < 256 ∧ k = Ke.fixK lv := by
  obtain ⟨e, d, l⟩ := k
  obtain ⟨⟨h1, h2⟩, h3, h4⟩ := hk
  simp only at h1 h2 h3 h4
  cases e
  · right
    simp [Ke.rightK] at hr
    refine ⟨l.toNat, by omega, ?_⟩
    simp [Ke.fixK, hr]
    omega
  · left
    simp [Ke.rightK] at hr
    refine ⟨d.toNat, ?_⟩
    simp [Ke.deadK, hr]
    omega
theorem put_new (h : IsS w sb qb gq hb gh n most turn M) (ht : turn ≤ 1000) (id : Nat) (k : Ke.K) (hi : id < n) (hr : Ke.rightK k = true) (hk : k.ok) (hno : keyOf M id = none) (hlen : M.length < most) :
    Calls Try.prog 50 #[.pointer (some ⟨sb, 0, none⟩), .int .i64 (id : Int), .agg #[.bool k.e, .int .u64 k.d, .int .u8 k.l]] w fun e w' => e = .returned (.int .i64 0) ∧ IsS w' sb qb gq hb gh n most (turn + 1) (put (id, k) M) ∧ Fr (OwnS sb qb gq hb gh) w w' := by
  have hn := h.n_le
  obtain ⟨R, L, hS, hI⟩ := h
  have hm := keyOf_none.1 hno
  have hl := hI.len
  have hmn := hI.mn
  have e1 := len_put (x := (id, k)) (M := M)
  rcases right_cases hr hk with ⟨d, rfl⟩ | ⟨lv, hlv, rfl⟩
  · refine (sPut_dead hS ht id d hi (hI.missR hm) (hI.missL hm) (by omega) (by omega)).mono ?_
    rintro e w' ⟨rfl, a, b⟩
    refine ⟨rfl, ⟨R, _, a, ?_, nd_put hI.nd hm, by rw [Ph.len_ins]; omega, fun y hy => ?_, by omega, hI.mn, hI.rl⟩, b.wide (fun k _ q => ?_)⟩
    · rw [← hI.eq, put_dead R L id d turn hI.lt]
    · rcases Ph.mem_ins.1 hy with rfl | q
      · exact Nat.lt_succ_self _
      · exact Nat.lt_succ_of_lt (hI.lt y q)
    · unfold OwnS Own; omega
  · refine (sPut_level hS ht id lv hi hlv (hI.missR hm) (hI.missL hm) (by omega) (by omega)).mono ?_
    rintro e w' ⟨rfl, a, b⟩
    refine ⟨rfl, ⟨_, L, a, ?_, nd_put hI.nd hm, by simp; omega, fun y hy => Nat.lt_succ_of_lt (hI.lt y hy), by omega, hI.mn, fun it hit => ?_⟩, b.wide (fun k _ q => ?_)⟩
    · rw [← hI.eq, put_level R L id lv hlv]
    · rcases List.mem_append.1 hit with q | q
      · exact hI.rl it q
      · simp at q; rw [q]; exact hlv
    · unfold OwnS Own; omega
theorem new_isS (n most : Nat) (w : World) (h1 : 1 ≤ n) (h2 : n ≤ 1024) (h3 : 1 ≤ most) (h4 : most ≤ n) :
    Calls Try.prog 60 #[.int .i64 n, .int .i64 most] w fun e w' => ∃ sb qb gq hb gh, e = .returned (.pointer (some ⟨sb, 0, none⟩)) ∧ (∀ k, OwnS sb qb gq hb gh k → w.heap.size ≤ k) ∧ IsS w' sb qb gq hb gh n most 0 [] ∧ Below w.heap.size w w' := by
  refine (snew_ok n most w h1 h2 h3 h4).mono ?_
  rintro e w' ⟨sb, qb, gq, hb, gh, rfl, a, b, c, d, f, hS, hB⟩
  refine ⟨sb, qb, gq, hb, gh, rfl, fun k hk => ?_, ⟨[], [], hS, by simp [all, dl]; exact lev_nil 256, by simp, rfl, by simp, by simp, h4, by simp⟩, hB⟩
  unfold OwnS Own at hk
  omega
end
end Go.Proofs.Ytlfejgjhamcahaa
