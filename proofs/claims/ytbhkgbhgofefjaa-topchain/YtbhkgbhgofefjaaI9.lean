/- Held: the locks of a thread. -/
import Derived.Test.YtbhkgbhgofefjaaI8
namespace Go.Proofs.Ytbhkgbhgofefjaa
open Go.RowKit Go.Shelf
set_option linter.unusedVariables false
attribute [local go_sem] Oper.semAt_some
theorem ownsRow_lift {w : World} {base base' : Nat} {e : TypeId} {size : Nat} {v : Value} {n : Nat} {xs : List Value} (h : w.ownsRow base e size v n xs) (hb : ∀ k, v.ownBlock = some k → base' ≤ k) : w.ownsRow base' e size v n xs := by
  refine ⟨h.1, ?_⟩
  rcases h.2 with q | ⟨g, cap, cur, e1, h0, rest⟩
  · exact .inl q
  · exact .inr ⟨g, cap, cur, e1, hb g (by rw [e1]; rfl), rest⟩
theorem heldOf_len (L : List Lk) (t : Int) : (heldOf L t).length ≤ L.length := by
  unfold heldOf heldTo
  rw [List.length_map]
  exact Nat.le_trans (List.length_filter_le _ _) (by simp)
section
variable {w : World} {base s : Nat} {vt vl : Value} {V : List Value} {T : List Th} {L : List Lk}
set_option maxRecDepth 100000 in
set_option maxHeartbeats 2000000 in
theorem Held_in (h : IsG w base s vt vl V T L) (t : Int) (ht : inT T t = true) :
    CallsIn Fence.wide 4 Try.prog 17 #[.pointer (some ⟨s, 0, none⟩), .int .i64 t] w fun e W' => ∃ v, e = .returned v ∧ W'.ownsRow w.heap.size 3 1 v (heldOf L t).length ((heldOf L t).map (Value.int .i64)) ∧ Below w.heap.size w W' := by
  have HT := veil (hasT_ok h t)
  rw [ht] at HT
  have HQ := veil h
  have hL := h.f.l2
  clear h ht
  obtain ⟨i0, hi, hz0, hz1, hz2⟩ := info_parts infoInt
  refine callsIn_of_wp_marks Try.func17 rfl trivial ?_ rfl
  simp only [Try.ntmps17, List.size_toArray, List.length_cons, List.length_nil, Nat.reduceAdd, Nat.reduceSub, Array.replicate_succ, Array.replicate_zero, List.push_toArray, List.append_toArray, List.nil_append, List.cons_append]
  gi_wp2_with (first
    | (refine ⟨trivial, ?_⟩; gi_at_call 41; refine (callsIn_wide.2 HT.out).mono ?_; rintro e w' ⟨rfl, hw⟩; replace hw := hw.symm; subst hw)
    | (refine ⟨trivial, ?_⟩; gi_at_call 42; refine (held_in _ s t _).mono ?_; rintro e w' ⟨rfl, rfl⟩))
  have hlen : (heldOf L t).length ≤ 32 := Nat.le_trans (heldOf_len L t) hL
  obtain ⟨a, cap, hvl, hrd⟩ := HQ.out.rdL
  have hsn := HQ.out.lt
  have hgn : ∀ g, a = some ⟨g, 0, none⟩ → g < w.heap.size := fun g e => (ownsRow_blk HQ.out.lko (k := g) (by rw [hvl, e]; rfl)).2.1
  have bO := Boxed.new w 31 (.slice none 0 0)
  have b1 := Boxed.new (w.alloc (.cells #[.slice none 0 0] 31)) 23 (.pointer (some ⟨s, 0, none⟩))
  have b2 := Boxed.new ((w.alloc (.cells #[.slice none 0 0] 31)).alloc (.cells #[.pointer (some ⟨s, 0, none⟩)] 23)) 3 (.int .i64 t)
  have hB0 : Below w.heap.size w (((w.alloc (.cells #[.slice none 0 0] 31)).alloc (.cells #[.pointer (some ⟨s, 0, none⟩)] 23)).alloc (.cells #[.int .i64 t] 3)) := (((Below.refl _ w).alloc (Nat.le_refl _) _).alloc (by simp) _).alloc (by simp; omega) _
  simp only [World.size_alloc] at b1 b2 ⊢
  refine wpIn_rangeFunc_ownG rfl (by decide) (gf := 58) (lb := #[.pointer (some ⟨w.heap.size + 1, 0, none⟩), .pointer (some ⟨w.heap.size + 1 + 1, 0, none⟩)]) rfl trivial (enters_of Try.func58 (by kernel_rfl) rfl)
    (held_stops 3 (by decide) (w.heap.size + 1) (w.heap.size + 1 + 1) w.heap.size s a cap L t _ (b1.alloc _) b2 (hrd.below hB0 hsn hgn) hL hsn hgn hB0.size) kh_trans (kh_put hB0.size) (Below.refl _ _) (fun _ => rfl)
    (fun (pre : List Int) W => (∃ v, Boxed W w.heap.size 31 v ∧ W.ownsRow w.heap.size 3 1 v pre.length (pre.map (Value.int .i64)) ∧ (∀ k, v.ownBlock = some k → w.heap.size + 1 + 1 + 1 ≤ k)) ∧ Below w.heap.size w W ∧ w.heap.size + 1 + 1 + 1 ≤ W.heap.size)
    (fun _ _ _ => False)
    (OwnFrom.and (Own.from (holdsRow_own w.heap.size w.heap.size 31 3 1 (fun pre : List Int => pre.length) (fun pre : List Int => pre.map (Value.int .i64)) (fun _ v => ∀ k, v.ownBlock = some k → w.heap.size + 1 + 1 + 1 ≤ k)) _) (OwnFrom.and (ownFrom_below (Nat.le_refl _) hB0.size) ?big))
    (fun _ _ _ _ _ hs _ _ => hs)
    ⟨⟨_, (bO.alloc _).alloc _, World.ownsRow_nil _ _ _ _, by simp [Value.ownBlock]⟩, hB0, by simp⟩
    (fun x => { tmps := #[.pointer (some ⟨s, 0, none⟩), .int .i64 t, undef, undef, .slice none 0 0, .pointer (some ⟨w.heap.size, 0, none⟩), .int .i64 x, .pointer (some ⟨s, 0, none⟩), .bool false, .bool false, .pointer (some ⟨s, 0, none⟩), .int .i64 t, .bool true, .bool false, .bool false, .pointer (some ⟨s, 0, none⟩), .int .i64 t, .func (.func 58) #[] #[.pointer (some ⟨w.heap.size + 1, 0, none⟩), .pointer (some ⟨w.heap.size + 1 + 1, 0, none⟩)], .int .i64 x, undef, undef, undef, undef, undef], defers := [] }) ?assign ?body ?done ?stop
  case big =>
    intro _ X Y row hs hg _
    exact Nat.le_trans hs hg.size
  case assign =>
    intro l x W K hK
    gi_wp2
    exact hK
  case body =>
    rintro l pre x W ⟨⟨v, hv, hrow, hvk⟩, hB, hbig⟩ hlt
    have hc := hv.cell
    have hsz := hB.size
    have hrow3 := ownsRow_lift hrow hvk
    gi_wp2_with (gi_at_builtin; refine wpListIn_append_own _ rfl _ _ 31 rfl (w.heap.size + 1 + 1 + 1) 3 i0 (.int .i64 0) 1 8 Try.underlying31 hi hz0 hz1 hz2 rfl (by decide) _ _ _ rfl (hrow3.alloc _) ⟨W.heap.size, 0, none⟩ 1 1 [.int .i64 x] rfl rfl (cell_one_new _ _ _) (by simp [Value.oneCell']) (by unfold maxLen; omega) (by omega) (by simp; omega) ?_; intro v' w1 hown3 hgrow _; have hvk' : ∀ k, v'.ownBlock = some k → w.heap.size + 1 + 1 + 1 ≤ k := (fun k hk => (ownsRow_blk hown3 hk).1); have hown' := ownsRow_lift (base' := w.heap.size) hown3 (fun k hk => by have := hvk' k hk; omega); obtain ⟨g', cap', rfl⟩ := ownsRow_succ hown'; obtain ⟨hv1, hv2, hr2, hk2, hb2⟩ := hv.appended (by decide) hrow hB.size (Nat.le_refl _) hown' hgrow; have hkp := kh_append (B2 := w.heap.size + 1 + 1) (t := t) hv hrow hB.size (Nat.le_refl _) (by omega) (fun _ e => by have := hvk _ e; omega) hown' hgrow; have hc1 := hv1.cell; have hf1 := hv1.frozen)
    exact ⟨hk2.from _, hkp, ⟨_, hv2, by simpa using hr2, hvk'⟩, hB.trans hb2, by have := hb2.size; omega⟩
  case done =>
    rintro D ys W hD rfl ⟨⟨v, hv, hrow, _⟩, hB, _⟩ hK
    have hc := hv.cell
    gi_wp2
    refine ⟨by simp, .inl ⟨_, _, rfl, run_takeDeferred hK, ?_⟩⟩
    exact ⟨_, results_tmp rfl _ _ _, v, rfl, ownsRow_putObj hrow _ hK rfl, hB.trans (belowK_b (w := w) (Nat.le_refl _) W D _ _ (by simp at hD; omega) hK rfl rfl)⟩
  case stop =>
    rintro D c pre W _ _ h _
    exact h.elim
end
end Go.Proofs.Ytbhkgbhgofefjaa
