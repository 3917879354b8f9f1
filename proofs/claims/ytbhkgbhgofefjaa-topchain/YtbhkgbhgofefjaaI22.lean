/- Key: the closure that asks all the way back. -/
import Derived.Test.YtbhkgbhgofefjaaI21
import Derived.OrdersHeld
import Derived.OrdersIn
namespace Go.Proofs.Ytbhkgbhgofefjaa
open Go.RowKit Go.Shelf
set_option linter.unusedVariables false
theorem below5 (w : World) (o1 o2 o3 o4 o5 : Obj) : Below w.heap.size w (((((w.alloc o1).alloc o2).alloc o3).alloc o4).alloc o5) :=
  ((((((Below.refl _ _).alloc (Nat.le_refl _) _).alloc (by simp) _).alloc (by simp; omega) _).alloc (by simp; omega) _).alloc (by simp; omega) _)
theorem max_mk (w : World) (a b : K) : Calls Try.prog 33 #[.agg #[.bool a.e, .int .u64 a.d, .int .u8 a.l], .agg #[.bool b.e, .int .u64 b.d, .int .u8 b.l]] w fun e w' => e = .returned (.agg #[.bool (maxK a b).e, .int .u64 (maxK a b).d, .int .u8 (maxK a b).l]) ∧ ∃ c1 c2 c3 c4 c5, w' = (((((w.alloc (.cells c1 36)).alloc (.cells c2 36)).alloc (.cells c3 36)).alloc (.cells c4 36)).alloc (.cells c5 36)) := by
  have HA := veil (fun w => above_mk w b a)
  unfold maxK
  cases hu : up b a <;> rw [hu] at HA <;>
  (go_enter Try.func33, Try.ntmps33
   go_wp2_with (go_at_call 57; refine (HA.out _).mono ?_; rintro e w1 ⟨rfl, c1, c2, rfl⟩)
   simp [bodyPost, results, Try.results33, go_sem]
   exact ⟨_, _, _, _, _, rfl⟩)
theorem max_ok (w : World) (a b : K) : Calls Try.prog 33 #[.agg #[.bool a.e, .int .u64 a.d, .int .u8 a.l], .agg #[.bool b.e, .int .u64 b.d, .int .u8 b.l]] w fun e w' => e = .returned (.agg #[.bool (maxK a b).e, .int .u64 (maxK a b).d, .int .u8 (maxK a b).l]) ∧ Below w.heap.size w w' :=
  (max_mk w a b).mono fun e w' ⟨h, c1, c2, c3, c4, c5, hw⟩ => ⟨h, by rw [hw]; exact below5 _ _ _ _ _ _⟩
theorem rmax_mk (w : World) (a b : K) : Calls Try.prog 23 #[.agg #[.bool a.e, .int .u64 a.d, .int .u8 a.l], .agg #[.bool b.e, .int .u64 b.d, .int .u8 b.l]] w fun e w' => e = .returned (.agg #[.bool (maxK a b).e, .int .u64 (maxK a b).d, .int .u8 (maxK a b).l]) ∧ ∃ c1 c2 c3 c4 c5, w' = (((((w.alloc (.cells c1 36)).alloc (.cells c2 36)).alloc (.cells c3 36)).alloc (.cells c4 36)).alloc (.cells c5 36)) := by
  have HA := veil (fun w => rabove_mk w b a)
  unfold maxK
  cases hu : up b a <;> rw [hu] at HA <;>
  (go_enter Try.func23, Try.ntmps23
   go_wp2_with (go_at_call 25; refine (HA.out _).mono ?_; rintro e w1 ⟨rfl, c1, c2, rfl⟩)
   simp [bodyPost, results, Try.results23, go_sem]
   exact ⟨_, _, _, _, _, rfl⟩)
theorem rmax_ok (w : World) (a b : K) : Calls Try.prog 23 #[.agg #[.bool a.e, .int .u64 a.d, .int .u8 a.l], .agg #[.bool b.e, .int .u64 b.d, .int .u8 b.l]] w fun e w' => e = .returned (.agg #[.bool (maxK a b).e, .int .u64 (maxK a b).d, .int .u8 (maxK a b).l]) ∧ Below w.heap.size w w' :=
  (rmax_mk w a b).mono fun e w' ⟨h, c1, c2, c3, c4, c5, hw⟩ => ⟨h, by rw [hw]; exact below5 _ _ _ _ _ _⟩

/-- What a key hangs on. -/
structure Vf (T : List Th) (L : List Lk) : Prop where
  ac : Acyc L
  lt : ∀ y ∈ L, ∀ t ∈ y.l, t < T.length
  l2 : L.length ≤ 32
  t2 : T.length ≤ 1024
theorem Fine.vf {T : List Th} {L : List Lk} (f : Fine T L) : Vf T L := ⟨f.ac, fun y hy => (f.lk y hy).2.2.1, f.l2, f.t2⟩
/-- The key when n of those behind have been asked. -/
noncomputable def keyTo (T : List Th) (L : List Lk) (t n : Nat) : K := ((behind L t).take n).foldl (fun k x => maxK k (keyOf T L x)) (ownK T t)
theorem keyTo_end {T : List Th} {L : List Lk} (h : Acyc L) (t : Nat) : keyTo T L t (behind L t).length = keyOf T L t := by unfold keyTo; rw [List.take_length, keyOf_eq h]
theorem keyTo_next {T : List Th} {L : List Lk} {t n x : Nat} (hx : (behind L t)[n]? = some x) : keyTo T L t (n + 1) = maxK (keyTo T L t n) (keyOf T L x) := by
  unfold keyTo
  rw [take_snoc hx, List.foldl_append]
  rfl
/-- A block that holds a key. -/
def KBox (V : World) (b : Nat) (k : K) : Prop := V.heap[b]? = some (.cells #[.bool k.e, .int .u64 k.d, .int .u8 k.l] 36 (0, 0))
theorem KBox.lt {V : World} {b : Nat} {k : K} (h : KBox V b k) : b < V.heap.size := (Array.getElem?_eq_some_iff.1 h).1
theorem KBox.alloc {V : World} {b : Nat} {k : K} (h : KBox V b k) (o : Obj) : KBox (V.alloc o) b k := (Below.heap_alloc _ _ _ h.lt).trans h
theorem KBox.below {V V' : World} {b : Nat} {k : K} (h : KBox V b k) (hb : Below V.heap.size V V') : KBox V' b k := (hb.block b h.lt).trans h
theorem KBox.put {V : World} {b l : Nat} {k : K} {o o' : Obj} (h : KBox V b k) (ho : V.heap[l]? = some o) (hc : o.isCells = false) : KBox (V.putObj l o') b k := by
  refine (World.putObj_heap_other (fun e => ?_)).trans h
  subst e
  rw [show V.heap[b]? = _ from h] at ho
  obtain rfl := Option.some.inj ho
  cases hc
theorem KBox.at {V : World} {b : Nat} {k : K} (h : KBox V b k) : At V b k := by
  refine ⟨?_, ?_, ?_⟩ <;> (unfold World.cell?; rw [show V.heap[b]? = _ from h]; rfl)
theorem KBox.frozen {V : World} {b : Nat} {k : K} (h : KBox V b k) (o : Nat) : V.frozen? ⟨b, o, none⟩ = false := by unfold World.frozen?; simp [show V.heap[b]? = _ from h]
theorem KBox.set {V : World} {b : Nat} {k : K} (h : KBox V b k) (k' : K) : KBox (((V.setCell ⟨b, 0, none⟩ (.bool k'.e)).setCell ⟨b, 1, none⟩ (.int .u64 k'.d)).setCell ⟨b, 2, none⟩ (.int .u8 k'.l)) b k' := by
  have h1 := Go.Joins.block_setCell h (i := 0) (.bool k'.e)
  have h2 := Go.Joins.block_setCell h1 (i := 1) (.int .u64 k'.d)
  have h3 := Go.Joins.block_setCell h2 (i := 2) (.int .u8 k'.l)
  exact h3
attribute [local go_sem] Oper.semAt_some
/-! A region that draws its order, within a round: whatever is shown of it outside serves, if it defers nothing. -/
def noDefer (ops : Array Oper) : Bool := ops.all fun o => match o.op with
  | .defer _ => false
  | _ => true
theorem noDefer_at {ops : Array Oper} (h : noDefer ops = true) {i : Nat} {o : Oper} (ho : ops[i]? = some o) : ∀ c, o.op ≠ .defer c := by
  intro c e
  unfold noDefer at h
  rw [Array.all_eq_true'] at h
  have := h o (Array.mem_of_getElem? ho)
  rw [e] at this
  exact absurd this (by simp)
theorem oper_round {P : Program} {o : Oper} {a : Act} {w : World} {K : Act → World → Prop} {Q : Exit → Act → World → Prop} {l n : Nat} (hd : ∀ c, o.op ≠ .defer c) (h : o.wp P a w K Q) : o.wpIn (Fence.wide.inRound l) n P a w K Q := by
  refine ⟨fun _ _ => trivial, ?_⟩
  rw [Oper.semAt_eq _ _ _ hd]
  unfold Oper.wp at h
  revert h
  generalize (execOp a.eval o).run P w = r
  intro h
  match r, h with
  | .ok (.value _) _, h => exact h
  | .ok .skip _, h => exact h
  | .ok (.defer _) _, h => exact h
  | .ok (.enter f args) w', h => exact ⟨fun q => absurd q (by simp [Fence.inRound, Fence.wide]), CallsIn.inRound l (callsIn_wide.2 h)⟩
  | .ok (.row row args) w', h =>
    refine ⟨fun q => absurd q (by simp [Fence.inRound, Fence.wide]), fun c cs _ => ?_⟩
    obtain ⟨v, w'', r1, s⟩ := h c cs
    exact ⟨v, w'', r1, stepsIn_wide.2 s⟩
  | .halt (.panic _) _, h => exact h
theorem any_round {P : Program} {md : Region.Mode} {ops : Array Oper} {Q : Exit → Act → World → Prop} {l n : Nat} (hd : noDefer ops = true) (hlo : ¬ LetsOut Q) : ∀ (fuel : Nat) (listed : Array Bool) (a : Act) (w : World), wpAny P md ops Q fuel listed a w → wpAnyIn (Fence.wide.inRound l) n P md ops Q fuel listed a w
  | 0, _, _, _, h => h
  | fuel + 1, _, a, w, h => ⟨h.1, fun i hi => by
    have h2 := h.2 i hi
    unfold wpOp at h2
    unfold wpOpIn
    cases ho : ops[i]? with
    | none => rw [ho] at h2; exact any_round hd hlo fuel _ _ _ h2
    | some o =>
      rw [ho] at h2
      dsimp only at h2 ⊢
      by_cases hw : Region.wanted o (yielded ops a.tmps) = true
      · rw [if_pos hw] at h2 ⊢
        rcases h2 with h2 | h2
        · exact oper_round (noDefer_at hd ho) (Oper.wp_mono (fun a w q => any_round hd hlo fuel _ a w q) h2)
        · exact absurd h2.2 hlo
      · rw [if_neg hw] at h2 ⊢
        exact ⟨fun _ _ => trivial, any_round hd hlo fuel _ _ _ h2⟩⟩
theorem region_round {P : Program} {id : Nat} {ops : Array Oper} {Q : Exit → Act → World → Prop} {l n : Nat} {a : Act} {w : World} (S : World → Prop) (hm : P.follows .mixedOrders = true) (hd : noDefer ops = true) (hlo : ¬ LetsOut Q) (hS : S w.drew)
    (h : S w.drew → wpAnyH P .any ops Q S ops.size (Array.replicate ops.size false) a w.drew) : (Code.region id ops true).wpIn (Fence.wide.inRound l) n P Q a w :=
  wpIn_region_any hm (any_round hd hlo _ _ _ _ (wpAny_of_held _ _ _ _ (h hS)))

set_option maxRecDepth 100000 in
set_option maxHeartbeats 2000000 in
theorem most_in (s gt ct : Nat) (a : Option Addr) (cap : Nat) (ln : Nat → Option Addr × Nat) (T : List Th) (L : List Lk) (f : Vf T L) (r : Nat → Nat) (hr : ∀ t s, Edge L t s → r t < r s) : ∀ (m t : Nat), r t < m → t < T.length → ∀ (n0 B1 B2 : Nat) (W : World), n0 ≤ W.heap.size → Vw n0 W s gt ct a cap ln T L →
    Boxed W B1 23 (.pointer (some ⟨s, 0, none⟩)) → Boxed W B2 42 (.func (.func 47) #[] #[.pointer (some ⟨B1, 0, none⟩), .pointer (some ⟨B2, 0, none⟩)]) →
    CallsIn Fence.wide 10 Try.prog 47 #[.int .i64 (t : Int), .pointer (some ⟨B1, 0, none⟩), .pointer (some ⟨B2, 0, none⟩)] W fun e W' => e = .returned (.agg #[.bool (keyOf T L t).e, .int .u64 (keyOf T L t).d, .int .u8 (keyOf T L t).l]) ∧ Below W.heap.size W W' := by
  intro m
  induction m with
  | zero =>
    intro t hm
    omega
  | succ m ih =>
    intro t hm ht n0 B1 B2 W hn0 hv hb1 hb2
    have ht' : (t : Int) < (T.length : Int) := by omega
    obtain ⟨x, hx⟩ : ∃ x, T[t]? = some x := ⟨_, List.getElem?_eq_getElem ht⟩
    have b1 := hb1.cell
    have l1 := hb1.lt
    have l2 := hb2.lt
    have c0 := hv.t.c0
    have le := hv.t.le
    obtain ⟨x0, x1, x2, x3⟩ := hv.t.ce t x hx
    have lg : gt < W.heap.size := by have := hv.tl; omega
    have ls : s < W.heap.size := by have := hv.sl; omega
    have n1 : ¬ B1 = W.heap.size := by omega
    have HV := veil hv
    have HB1 := veil hb1
    have HB2 := veil hb2
    have HIH := veil ih
    have HX := veil hx
    clear hv hb1 hb2 ih hx
    refine callsIn_of_wp_marks Try.func47 rfl trivial ?_ rfl
    simp only [Try.ntmps47, List.size_toArray, List.length_cons, List.length_nil, Nat.reduceAdd, Nat.reduceSub, Array.replicate_succ, Array.replicate_zero, List.push_toArray, List.append_toArray, List.nil_append, List.cons_append]
    gi_wp2_with (refine ⟨trivial, ?_⟩; gi_at_call 48; refine (behind_in _ s (t : Int) _).mono ?_; rintro e w' ⟨rfl, rfl⟩)
    have eown : ownK T t = x.k := by unfold ownK; rw [HX.out]; rfl
    have bR := (((KBox.alloc (V := W.alloc (.cells #[.bool false, .int .u64 0, .int .u8 0] 36)) (b := W.heap.size) (k := fixK 0) (World.alloc_heap_new W _) (.cells #[.bool x.k.e, .int .u64 x.k.d, .int .u8 x.k.l] 36))).alloc (.cells #[.pointer (some ⟨s, 0, none⟩)] 23)).alloc (.cells #[.int .i64 (t : Int)] 3)
    have bK : KBox ((((W.alloc (.cells #[.bool false, .int .u64 0, .int .u8 0] 36)).alloc (.cells #[.bool x.k.e, .int .u64 x.k.d, .int .u8 x.k.l] 36)).alloc (.cells #[.pointer (some ⟨s, 0, none⟩)] 23)).alloc (.cells #[.int .i64 (t : Int)] 3)) (W.heap.size + 1) x.k := by
      refine KBox.alloc (KBox.alloc ?_ _) _
      have := World.alloc_heap_new (W.alloc (.cells #[.bool false, .int .u64 0, .int .u8 0] 36)) (.cells #[.bool x.k.e, .int .u64 x.k.d, .int .u8 x.k.l] 36)
      rw [World.size_alloc] at this
      exact this
    have bG := (Boxed.new ((W.alloc (.cells #[.bool false, .int .u64 0, .int .u8 0] 36)).alloc (.cells #[.bool x.k.e, .int .u64 x.k.d, .int .u8 x.k.l] 36)) 23 (.pointer (some ⟨s, 0, none⟩))).alloc (.cells #[.int .i64 (t : Int)] 3)
    have bT := Boxed.new (((W.alloc (.cells #[.bool false, .int .u64 0, .int .u8 0] 36)).alloc (.cells #[.bool x.k.e, .int .u64 x.k.d, .int .u8 x.k.l] 36)).alloc (.cells #[.pointer (some ⟨s, 0, none⟩)] 23)) 3 (.int .i64 (t : Int))
    have hbe : Below W.heap.size W ((((W.alloc (.cells #[.bool false, .int .u64 0, .int .u8 0] 36)).alloc (.cells #[.bool x.k.e, .int .u64 x.k.d, .int .u8 x.k.l] 36)).alloc (.cells #[.pointer (some ⟨s, 0, none⟩)] 23)).alloc (.cells #[.int .i64 (t : Int)] 3)) := ((((Below.refl _ W).alloc (Nat.le_refl _) _).alloc (by simp) _).alloc (by simp; omega) _).alloc (by simp; omega) _
    have hsz : ((((W.alloc (.cells #[.bool false, .int .u64 0, .int .u8 0] 36)).alloc (.cells #[.bool x.k.e, .int .u64 x.k.d, .int .u8 x.k.l] 36)).alloc (.cells #[.pointer (some ⟨s, 0, none⟩)] 23)).alloc (.cells #[.int .i64 (t : Int)] 3)).heap.size = W.heap.size + 4 := by simp
    simp only [World.size_alloc] at bG bT ⊢
    generalize ((((W.alloc (.cells #[.bool false, .int .u64 0, .int .u8 0] 36)).alloc (.cells #[.bool x.k.e, .int .u64 x.k.d, .int .u8 x.k.l] 36)).alloc (.cells #[.pointer (some ⟨s, 0, none⟩)] 23)).alloc (.cells #[.int .i64 (t : Int)] 3)) = W0 at hsz bR bK bG bT hbe ⊢
    have hA : Abd W0.heap.size (fun n V => KBox V W.heap.size (fixK 0) ∧ KBox V (W.heap.size + 1) (keyTo T L t n) ∧ Boxed V (W.heap.size + 1 + 1) 23 (.pointer (some ⟨s, 0, none⟩)) ∧ Boxed V (W.heap.size + 1 + 1 + 1) 3 (.int .i64 (t : Int)) ∧ Below W.heap.size W V) := by
      refine ⟨fun k V o h => ⟨h.1.alloc _, h.2.1.alloc _, h.2.2.1.alloc _, h.2.2.2.1.alloc _, h.2.2.2.2.alloc h.2.2.2.2.size _⟩, fun k V q o o' hq ho hc h => ⟨h.1.put ho hc, h.2.1.put ho hc, box_put h.2.2.1 ho hc, box_put h.2.2.2.1 ho hc, ?_⟩⟩
      have hz := h.2.2.2.2
      exact ⟨hz.os, hz.tape, hz.output, by have := hz.size; simpa [World.putObj] using this, fun b hb => (World.putObj_heap_other (by omega)).trans (hz.block b hb)⟩
    refine rangeP (gf := 60) (lb := #[.pointer (some ⟨W.heap.size + 1 + 1, 0, none⟩), .pointer (some ⟨W.heap.size + 1 + 1 + 1, 0, none⟩)]) rfl (enters_of Try.func60 (by kernel_rfl) rfl)
      (fun n V => KBox V W.heap.size (fixK 0) ∧ KBox V (W.heap.size + 1) (keyTo T L t n) ∧ Boxed V (W.heap.size + 1 + 1) 23 (.pointer (some ⟨s, 0, none⟩)) ∧ Boxed V (W.heap.size + 1 + 1 + 1) 3 (.int .i64 (t : Int)) ∧ Below W.heap.size W V)
      (fun _ => False) (fun n => n < (behind L t).length) (fun n => .int .i64 (((behind L t)[n]?.getD 0 : Nat) : Int)) (behind L t).length
      (fun n => { tmps := #[.int .i64 (t : Int), .pointer (some ⟨B1, 0, none⟩), .pointer (some ⟨B2, 0, none⟩), undef, .pointer (some ⟨W.heap.size, 0, none⟩), .pointer (some ⟨W.heap.size + 1, 0, none⟩), .int .i64 (((behind L t)[n]?.getD 0 : Nat) : Int), .pointer (some ⟨s, 0, none⟩), .pointer (some ⟨s, 0, none⟩), .pointer (some ⟨s, 0, none⟩), .slice (some ⟨gt, 0, none⟩) T.length ct, .int .i64 (t : Int), .pointer (some ⟨gt, t * 4, none⟩), .pointer (some ⟨gt, t * 4, none⟩), .agg #[.bool x.k.e, .int .u64 x.k.d, .int .u8 x.k.l], .pointer (some ⟨s, 0, none⟩), .int .i64 (t : Int), .func (.func 60) #[] #[.pointer (some ⟨W.heap.size + 1 + 1, 0, none⟩), .pointer (some ⟨W.heap.size + 1 + 1 + 1, 0, none⟩)], .int .i64 (((behind L t)[n]?.getD 0 : Nat) : Int), undef, undef, undef, undef, undef, undef], defers := [] })
      (fun b => b = W.heap.size + 1) hA (fun _ _ h => h.elim) ⟨bR, by unfold keyTo; simpa [eown] using bK, bG, bT, hbe⟩ ?hit ?assign ?body ?done
    case hit =>
      intro l' J' W1 h1 h2 h3 h4 h5 h6
      exact behind_places l' _ _ s gt ct a cap ln n0 T L t W1.heap.size J' (fun b => b = W.heap.size + 1) f.l2 (fun b hb => by omega) (fun k V h => ⟨(h1 k V h).2.2.1, (h1 k V h).2.2.2.1, HV.out.below ((h1 k V h).2.2.2.2.mono hn0)⟩) h2 (fun k V hk h => h4 k V hk h) W1 (Nat.le_refl _) h5
    case assign =>
      intro l' k V K hK
      gi_wp2
      exact hK
    case body =>
      rintro l' n V hn ⟨hR, hK, hG, hT, hB⟩
      obtain ⟨y, hy⟩ : ∃ y, (behind L t)[n]? = some y := ⟨_, List.getElem?_eq_getElem hn⟩
      rw [hy, Option.getD_some]
      have hed : Edge L y t := mem_behind.1 (List.mem_of_getElem? hy)
      have hyl : y < T.length := by obtain ⟨z, hz, hzl, _⟩ := hed; exact f.lt z hz y hzl
      have hry : r y < m := by have := hr y t hed; omega
      have k0 := hK.at.1
      have k1 := hK.at.2.1
      have k2 := hK.at.2.2
      have HW : Hid (∀ V', Below V.heap.size V V' → Calls Try.prog 47 #[.int .i64 (y : Int), .pointer (some ⟨B1, 0, none⟩), .pointer (some ⟨B2, 0, none⟩)] V' fun e W' => e = .returned (.agg #[.bool (keyOf T L y).e, .int .u64 (keyOf T L y).d, .int .u8 (keyOf T L y).l]) ∧ Below V'.heap.size V' W') := by
        intro V' hV'
        have hb' : Below W.heap.size W V' := hB.trans (hV'.mono hB.size)
        exact (callsIn_wide.1 (HIH.out y hry hyl n0 B1 B2 V' (Nat.le_trans hn0 hb'.size) (HV.out.below (hb'.mono hn0)) ((hb'.block B1 l1).trans HB1.out) ((hb'.block B2 l2).trans HB2.out)))
      have hb2V : Boxed V B2 42 (.func (.func 47) #[] #[.pointer (some ⟨B1, 0, none⟩), .pointer (some ⟨B2, 0, none⟩)]) := (hB.block B2 l2).trans HB2.out
      have b2 := hb2V.cell
      have HMx : Hid (∀ V', Calls Try.prog 33 #[.agg #[.bool (keyTo T L t n).e, .int .u64 (keyTo T L t n).d, .int .u8 (keyTo T L t n).l], .agg #[.bool (keyOf T L y).e, .int .u64 (keyOf T L y).d, .int .u8 (keyOf T L y).l]] V' fun e W' => e = .returned (.agg #[.bool (maxK (keyTo T L t n) (keyOf T L y)).e, .int .u64 (maxK (keyTo T L t n) (keyOf T L y)).d, .int .u8 (maxK (keyTo T L t n) (keyOf T L y)).l]) ∧ Below V'.heap.size V' W') := fun V' => max_ok V' _ _
      have HN := veil (keyTo_next (T := T) hy)
      generalize keyTo T L t n = kn at HMx HN hK k0 k1 k2
      generalize keyOf T L y = ky at HW HMx HN
      have fz := hK.frozen
      have HR := veil hR
      have HK := veil hK
      have HG := veil hG
      have HT := veil hT
      have HB := veil hB
      clear hR hK hG hT hB hb2V
      have lB2 : B2 < V.heap.size := by have := HB.out.size; omega
      have hB2n : B2 ≠ W.heap.size + 1 := by omega
      have HFin : Hid (∀ V2, Below V.heap.size V V2 → (fun V3 => KBox V3 W.heap.size (fixK 0) ∧ KBox V3 (W.heap.size + 1) (keyTo T L t (n + 1)) ∧ Boxed V3 (W.heap.size + 1 + 1) 23 (.pointer (some ⟨s, 0, none⟩)) ∧ Boxed V3 (W.heap.size + 1 + 1 + 1) 3 (.int .i64 (t : Int)) ∧ Below W.heap.size W V3)
          (((V2.setCell ⟨W.heap.size + 1, 0, none⟩ (.bool (maxK kn ky).e)).setCell ⟨W.heap.size + 1, 1, none⟩ (.int .u64 (maxK kn ky).d)).setCell ⟨W.heap.size + 1, 2, none⟩ (.int .u8 (maxK kn ky).l))) := by
        intro V2 hb2
        have e : ∀ b, b ≠ W.heap.size + 1 → (((V2.setCell ⟨W.heap.size + 1, 0, none⟩ (.bool (maxK kn ky).e)).setCell ⟨W.heap.size + 1, 1, none⟩ (.int .u64 (maxK kn ky).d)).setCell ⟨W.heap.size + 1, 2, none⟩ (.int .u8 (maxK kn ky).l)).heap[b]? = V2.heap[b]? := fun b hb => by
          rw [Below.heap_setCell _ _ _ _ hb, Below.heap_setCell _ _ _ _ hb, Below.heap_setCell _ _ _ _ hb]
        refine ⟨(e _ (by omega)).trans (HR.out.below hb2), ?_, (e _ (by omega)).trans ((hb2.block _ HG.out.lt).trans HG.out), (e _ (by omega)).trans ((hb2.block _ HT.out.lt).trans HT.out), ?_⟩
        · rw [HN.out]
          exact (HK.out.below hb2).set _
        · exact (((HB.out.trans (hb2.mono HB.out.size)).setCell (p := ⟨W.heap.size + 1, 0, none⟩) (by simp) _).setCell (p := ⟨W.heap.size + 1, 1, none⟩) (by simp) _).setCell (p := ⟨W.heap.size + 1, 2, none⟩) (by simp) _
      gi_wp2
      refine region_round (fun w' => w'.cell? ⟨B2, 0, none⟩ = some (.func (.func 47) #[] #[.pointer (some ⟨B1, 0, none⟩), .pointer (some ⟨B2, 0, none⟩)])) (by kernel_rfl) (by kernel_rfl) (by rintro ⟨a, w, h⟩; exact absurd (show Exit.outgrown = Exit.normal from h.1) (by simp)) b2 (fun hHeld => ?_)
      refine wpAnyH_take (i := 1) (v := ?_) rfl (by kernel_rfl) (by kernel_rfl) (by kernel_rfl) (fun _ _ _ h => h) (Or.inl ⟨by rfl, ?v1⟩) (by assumption) ?_
      case v1 => (intro w hSw; (try dsimp only at hSw); go_simp; try with_reducible rfl)
      try simp only [Act.put, List.setIfInBounds_toArray, List.set_cons_zero, List.set_cons_succ, List.getElem_toArray, List.getElem_cons_succ, List.getElem_cons_zero]
      refine wpAnyH_take (i := 2) (v := ?_) rfl (by kernel_rfl) (by kernel_rfl) (by kernel_rfl) (fun _ _ _ h => h) (Or.inl ⟨by rfl, ?v2⟩) (by assumption) ?_
      case v2 => (intro w hSw; (try dsimp only at hSw); go_simp; try with_reducible rfl)
      try simp only [Act.put, List.setIfInBounds_toArray, List.set_cons_zero, List.set_cons_succ, List.getElem_toArray, List.getElem_cons_succ, List.getElem_cons_zero]
      refine wpAnyH_ready (rs := [0, 3]) (by kernel_rfl) (by simp) ?_
      refine AllReadyH.cons rfl (fun K hK => ?_) (AllReadyH.cons rfl (fun K hK => ?_) AllReadyH.nil)
      · skip
        go_simp
        refine hK.out _ _ ?_ (fun hHeld => ?_)
        · exact hHeld
        clear hK K
        try simp only [Act.put, List.setIfInBounds_toArray, List.set_cons_zero, List.set_cons_succ, List.getElem_toArray, List.getElem_cons_succ, List.getElem_cons_zero]
        refine wpAnyH_ready (rs := [3]) (by kernel_rfl) (by simp) ?_
        refine AllReadyH.cons rfl (fun K hK => ?_) AllReadyH.nil
        go_simp
        go_at_call 47
        refine (HW.out _ ((Below.refl _ V).drew)).mono ?_
        rintro e V1 ⟨rfl, hb⟩
        have hb1 : Below V.heap.size V V1 := ((Below.refl _ V).drew).trans hb
        clear hb
        have HB1V := veil hb1
        have j0 := (HK.out.below hb1).at.1
        have j1 := (HK.out.below hb1).at.2.1
        have j2 := (HK.out.below hb1).at.2.2
        have q1 := (hb1.cell (p := ⟨B2, 0, none⟩) lB2).trans b2
        clear hb1
        refine hK.out _ _ ?_ (fun hHeld => ?_)
        · exact q1
        clear hK K
        try simp only [Act.put, List.setIfInBounds_toArray, List.set_cons_zero, List.set_cons_succ, List.getElem_toArray, List.getElem_cons_succ, List.getElem_cons_zero]
        refine wpAnyH_ready (rs := [4]) (by kernel_rfl) (by simp) ?_
        refine AllReadyH.cons rfl (fun K hK => ?_) AllReadyH.nil
        go_simp
        go_at_call 33
        refine (HMx.out _).mono ?_
        rintro e V2 ⟨rfl, hb⟩
        have hb2 : Below V.heap.size V V2 := HB1V.out.trans (hb.mono HB1V.out.size)
        clear hb
        have HB2V := veil hb2
        have hK2 := HK.out.below hb2
        have i0 := hK2.at.1
        have i1 := hK2.at.2.1
        have i2 := hK2.at.2.2
        have fz2 := hK2.frozen
        have q2 := (hb2.cell (p := ⟨B2, 0, none⟩) lB2).trans b2
        have HK2 := veil hK2
        clear hb2 hK2
        refine hK.out _ _ ?_ (fun hHeld => ?_)
        · exact q2
        clear hK K
        try simp only [Act.put, List.setIfInBounds_toArray, List.set_cons_zero, List.set_cons_succ, List.getElem_toArray, List.getElem_cons_succ, List.getElem_cons_zero]
        refine wpAnyH_ready (rs := [5]) (by kernel_rfl) (by simp) ?_
        refine AllReadyH.cons rfl (fun K hK => ?_) AllReadyH.nil
        go_simp
        refine hK.out _ _ ?_ (fun hHeld => ?_)
        · exact (World.cell?_of_block (by rw [Below.heap_setCell _ _ _ _ hB2n, Below.heap_setCell _ _ _ _ hB2n, Below.heap_setCell _ _ _ _ hB2n])).trans q2
        clear hK K
        try simp only [Act.put, List.setIfInBounds_toArray, List.set_cons_zero, List.set_cons_succ, List.getElem_toArray, List.getElem_cons_succ, List.getElem_cons_zero]
        refine wpAnyH_done (by kernel_rfl) ?_ _
        exact ⟨rfl, (((Kk.below (S := fun b => b = W.heap.size + 1) HB2V.out).setCell (a := ⟨W.heap.size + 1, 0, none⟩) rfl _).setCell (a := ⟨W.heap.size + 1, 1, none⟩) rfl _).setCell (a := ⟨W.heap.size + 1, 2, none⟩) rfl _, HFin.out V2 HB2V.out⟩
      · skip
        go_simp
        go_at_call 47
        refine (HW.out _ ((Below.refl _ V).drew)).mono ?_
        rintro e V1 ⟨rfl, hb⟩
        have hb1 : Below V.heap.size V V1 := ((Below.refl _ V).drew).trans hb
        clear hb
        have HB1V := veil hb1
        have j0 := (HK.out.below hb1).at.1
        have j1 := (HK.out.below hb1).at.2.1
        have j2 := (HK.out.below hb1).at.2.2
        have q1 := (hb1.cell (p := ⟨B2, 0, none⟩) lB2).trans b2
        clear hb1
        refine hK.out _ _ ?_ (fun hHeld => ?_)
        · exact q1
        clear hK K
        try simp only [Act.put, List.setIfInBounds_toArray, List.set_cons_zero, List.set_cons_succ, List.getElem_toArray, List.getElem_cons_succ, List.getElem_cons_zero]
        refine wpAnyH_ready (rs := [0]) (by kernel_rfl) (by simp) ?_
        refine AllReadyH.cons rfl (fun K hK => ?_) AllReadyH.nil
        go_simp
        refine hK.out _ _ ?_ (fun hHeld => ?_)
        · exact hHeld
        clear hK K
        try simp only [Act.put, List.setIfInBounds_toArray, List.set_cons_zero, List.set_cons_succ, List.getElem_toArray, List.getElem_cons_succ, List.getElem_cons_zero]
        refine wpAnyH_ready (rs := [4]) (by kernel_rfl) (by simp) ?_
        refine AllReadyH.cons rfl (fun K hK => ?_) AllReadyH.nil
        go_simp
        go_at_call 33
        refine (HMx.out _).mono ?_
        rintro e V2 ⟨rfl, hb⟩
        have hb2 : Below V.heap.size V V2 := HB1V.out.trans (hb.mono HB1V.out.size)
        clear hb
        have HB2V := veil hb2
        have hK2 := HK.out.below hb2
        have i0 := hK2.at.1
        have i1 := hK2.at.2.1
        have i2 := hK2.at.2.2
        have fz2 := hK2.frozen
        have q2 := (hb2.cell (p := ⟨B2, 0, none⟩) lB2).trans b2
        have HK2 := veil hK2
        clear hb2 hK2
        refine hK.out _ _ ?_ (fun hHeld => ?_)
        · exact q2
        clear hK K
        try simp only [Act.put, List.setIfInBounds_toArray, List.set_cons_zero, List.set_cons_succ, List.getElem_toArray, List.getElem_cons_succ, List.getElem_cons_zero]
        refine wpAnyH_ready (rs := [5]) (by kernel_rfl) (by simp) ?_
        refine AllReadyH.cons rfl (fun K hK => ?_) AllReadyH.nil
        go_simp
        refine hK.out _ _ ?_ (fun hHeld => ?_)
        · exact (World.cell?_of_block (by rw [Below.heap_setCell _ _ _ _ hB2n, Below.heap_setCell _ _ _ _ hB2n, Below.heap_setCell _ _ _ _ hB2n])).trans q2
        clear hK K
        try simp only [Act.put, List.setIfInBounds_toArray, List.set_cons_zero, List.set_cons_succ, List.getElem_toArray, List.getElem_cons_succ, List.getElem_cons_zero]
        refine wpAnyH_done (by kernel_rfl) ?_ _
        exact ⟨rfl, (((Kk.below (S := fun b => b = W.heap.size + 1) HB2V.out).setCell (a := ⟨W.heap.size + 1, 0, none⟩) rfl _).setCell (a := ⟨W.heap.size + 1, 1, none⟩) rfl _).setCell (a := ⟨W.heap.size + 1, 2, none⟩) rfl _, HFin.out V2 HB2V.out⟩
    case done =>
      rintro D V hD ⟨hR, hK, hG, hT, hB⟩ hD2
      rw [keyTo_end f.ac] at hK
      have k0 := hK.at.1
      have k1 := hK.at.2.1
      have k2 := hK.at.2.2
      have fz := hR.frozen
      have r0 := hR.at.1
      have r1 := hR.at.2.1
      have r2 := hR.at.2.2
      have HR := veil hR
      have HB := veil hB
      clear hR hK hG hT hB
      gi_wp2
      have hR3 := HR.out.set (keyOf T L t)
      have hD3 : ∀ b, b ≠ W.heap.size → (((V.setCell ⟨W.heap.size, 0, none⟩ (.bool (keyOf T L t).e)).setCell ⟨W.heap.size, 1, none⟩ (.int .u64 (keyOf T L t).d)).setCell ⟨W.heap.size, 2, none⟩ (.int .u8 (keyOf T L t).l)).heap[b]? = V.heap[b]? := fun b hb => by
        rw [Below.heap_setCell _ _ _ _ hb, Below.heap_setCell _ _ _ _ hb, Below.heap_setCell _ _ _ _ hb]
      have hK1 := (hD3 D (by omega)).trans hD2
      refine ⟨by simp, .inl ⟨_, _, rfl, run_takeDeferred hK1, ?_⟩⟩
      have hA5 := hR3.put (o' := .deferred none) hK1 rfl
      have d0 := hA5.at.1
      have d1 := hA5.at.2.1
      have d2 := hA5.at.2.2
      refine ⟨.agg #[.bool (keyOf T L t).e, .int .u64 (keyOf T L t).d, .int .u8 (keyOf T L t).l], ?_, rfl, ?_⟩
      · simp [results, Try.f47, go_sem, d0, d1, d2]
      · refine (((HB.out.setCell (p := ⟨W.heap.size, 0, none⟩) (by simp) (.bool (keyOf T L t).e)).setCell (p := ⟨W.heap.size, 1, none⟩) (by simp) (.int .u64 (keyOf T L t).d)).setCell (p := ⟨W.heap.size, 2, none⟩) (by simp) (.int .u8 (keyOf T L t).l)).trans ?_
        exact belowK_b (w := W) (Nat.le_refl _) _ D _ _ (by omega) hK1 rfl rfl
end Go.Proofs.Ytbhkgbhgofefjaa
